/- The document's own Mul. -/
import Derived.Test.YtdklchejnpaenaaDoorRfC
import Derived.Test.YtdklchejnpaenaaDoorNatMul
namespace Go.Proofs.YtdklchejnpaenaaDoor
open Go Go.RowKit
namespace Nt
open Wd Sti
set_option linter.unusedVariables false

theorem add_cm (a b : Int) (c : Bool) : Wd.add a b c = Wd.add b a c := by unfold Wd.add; rw [Int.add_comm a b]
theorem addO_cm (a b : Int) (c : Bool) : addO a b c = addO b a c := by unfold addO; rw [Int.add_comm a b]

set_option maxRecDepth 100000 in
set_option maxHeartbeats 4000000 in
theorem mul_r (A B : Option Addr) (na ca nb cb : Nat) (xs ys : List Int) (w : World) (ha : At w A na xs) (hb : At w B nb ys) (la : na ≤ ca ∧ na ≤ 262144) (la' : ca ≤ 9223372036854775807) (lb : nb ≤ cb ∧ nb ≤ 262144) (lb' : cb ≤ 9223372036854775807) :
    Calls Tryd.prog 34 #[.slice A na ca, .slice B nb cb] w fun e w' => ∃ v, e = .returned v ∧ NewR w w' v (V xs * V ys) (na + nb) := by
  obtain ⟨la, lan⟩ := la
  obtain ⟨lb, lbn⟩ := lb
  have HT1 := Lib.hid (trim_r A na ca xs w ha la (by omega) (by omega))
  have HB0 := Lib.hid hb
  have hla : (trim xs).length ≤ na := by have := trim_le xs; have := ha.len; omega
  have hlb : (trim ys).length ≤ nb := by have := trim_le ys; have := hb.len; omega
  rw [← V_trim xs, ← V_trim ys]
  clear ha hb
  go_enter Tryd.func34, Tryd.ntmps34
  try simp only [List.append]
  go_wp2_with fail
  go_at_call 31
  refine HT1.out.mono ?_
  rintro e w1 ⟨v, rfl, hO, hB⟩
  obtain ⟨A1, c1, rfl, hza, h2, h3⟩ := hO.slice
  have HT2 := Lib.hid (trim_r B nb cb ys w1 ((HB0.out.below hB).more hB.size) lb (by omega) (by omega))
  have HBa := Lib.hid hB
  have HZA := Lib.hid hza
  clear hO hB HT1 hza
  go_wp2_with fail
  go_at_call 31
  refine HT2.out.mono ?_
  rintro e w2 ⟨v, rfl, hO, hB⟩
  obtain ⟨B1, d1, rfl, hzb, g2, g3⟩ := hO.slice
  have HZB := Lib.hid hzb
  replace HZA := At.step HZA hB
  have HBb := Lib.hid (HBa.out.trans (hB.mono HBa.out.size))
  clear hO hB HT2 hzb HBa HB0
  obtain ⟨za, hzaE⟩ : ∃ za, trim xs = za := ⟨_, rfl⟩
  obtain ⟨zb, hzbE⟩ : ∃ zb, trim ys = zb := ⟨_, rfl⟩
  simp only [hzaE] at HZA hla h2 h3 ⊢
  simp only [hzbE] at HZB hlb g2 g3 ⊢
  have HZAE := Lib.hid hzaE
  have HZBE := Lib.hid hzbE
  clear hzaE hzbE
  obtain ⟨p, hp⟩ : ∃ p, za.length = p := ⟨_, rfl⟩
  obtain ⟨q, hq⟩ : ∃ q, zb.length = q := ⟨_, rfl⟩
  simp only [hp] at HZA hla h2 h3 ⊢
  simp only [hq] at HZB hlb g2 g3 ⊢
  have HP := Lib.hid hp
  have HQ := Lib.hid hq
  clear hp hq
  have hmk := fun W => make_nat (p + q) (by omega) W
  simp only [Int.natCast_add] at hmk
  go_wp2_with fail
  go_loopw [6] (fun v W => ∃ (i : Nat) (os : List Int), i ≤ p ∧ v = .int .i64 (i : Int) ∧ Hid (Bk W w2.heap.size 28 (us os) ∧ os.length = p + q ∧ Ws os ∧ V os = lo za i * V zb ∧ (∀ j, i + q ≤ j → Nt.at_ os j = 0) ∧ Below w2.heap.size w2 W)) (fun v _ => p - (intOf v).toNat)
  case atStart =>
    refine ⟨0, List.replicate (p + q) 0, Nat.zero_le _, rfl, Lib.hid ⟨Bk.new _ _ _, by simp, Ws.zeros _, ?_, fun j _ => ?_, (Below.refl _ w2).alloc (Nat.le_refl _) _⟩⟩
    · rw [V_zeros, lo_zero, Int.zero_mul]
    · unfold Nt.at_
      rw [List.getElem?_replicate]
      split <;> rfl
  case round =>
    obtain ⟨i, os, hi, rfl, H⟩ := hrel
    by_cases hlt : i < p
    · have HX : ∃ x, x = Nt.at_ za i ∧ Wd.W x := ⟨_, rfl, HZA.out.ws.at_ i⟩
      obtain ⟨x, hx, hxw⟩ := HX
      have HXE := Lib.hid hx
      have HXW := Lib.hid hxw
      clear hx hxw
      obtain ⟨ad, rfl, -, -⟩ := HZA.out.at_ hlt
      have hki0 : (i : Int) < (p : Int) := by omega
      go_wp2_with fail
      go_loopw [7, 8] (fun m v W => ∃ (k : Nat) (c : Int) (os' : List Int), k ≤ q ∧ m = .int .u64 c ∧ v = .int .i64 (k : Int) ∧ Hid (Bk W w2.heap.size 28 (us os') ∧ os'.length = p + q ∧ Ws os' ∧ Wd.W c ∧ V os' + P (i + k) * c = V os + P i * (x * lo zb k) ∧ (∀ j, i + k ≤ j → Nt.at_ os' j = Nt.at_ os j) ∧ Below w2.heap.size w2 W)) (fun _ v _ => q - (intOf v).toNat)
      case atStart => exact ⟨0, 0, os, Nat.zero_le _, rfl, rfl, Lib.hid ⟨H.out.1, H.out.2.1, H.out.2.2.1, W_zero, by rw [lo_zero, Int.mul_zero, Int.mul_zero, Int.mul_zero], fun j _ => rfl, H.out.2.2.2.2.2⟩⟩
      case round =>
        obtain ⟨k, c, os', hk, rfl, rfl, H'⟩ := hrel
        by_cases hlt2 : k < q
        · obtain ⟨ad2, rfl, -, -⟩ := HZB.out.at_ hlt2
          obtain ⟨G1, G2, G3, G4, G5, G6, G7⟩ := H'.out
          have hka : i + k < os'.length := by omega
          have e7 := G6 _ (Nat.le_refl (i + k))
          have hst := mul_step hka e7 G5
          have hcx : wr.cell? (ad.add i) = some (.int .u64 x) := by
            obtain ⟨ad', e, _, hc⟩ := (HZA.out.below G7).at_ hlt
            cases e; rw [HXE.out]; exact hc
          have hcy : wr.cell? (ad2.add k) = some (.int .u64 (Nt.at_ zb k)) := by
            obtain ⟨ad', e, _, hc⟩ := (HZB.out.below G7).at_ hlt2
            cases e; exact hc
          have hcu : wr.cell? ⟨w2.heap.size, i + k, none⟩ = some (.int .u64 (Nt.at_ os (i + k))) := by rw [← e7]; exact (G1.cell _).trans (us_get hka)
          have hfu : wr.frozen? ⟨w2.heap.size, i + k, none⟩ = false := G1.frozen _
          have hyw := HZB.out.ws.at_ k
          have huw := H.out.2.2.1.at_ (i + k)
          have hxw := HXW.out
          have HG4 := Lib.hid G4
          obtain ⟨M1, M2⟩ := ma_parts hxw hyw huw G4
          have htw := maL_W x (Nt.at_ zb k) (Nt.at_ os (i + k)) c
          have hmw := maH_W hxw hyw huw G4
          have HN : ∀ n, Hid (Bk ((wr.drewN n).setCell ⟨w2.heap.size, i + k, none⟩ (.int .u64 (maL x (Nt.at_ zb k) (Nt.at_ os (i + k)) c))) w2.heap.size 28 (us (os'.set (i + k) (maL x (Nt.at_ zb k) (Nt.at_ os (i + k)) c))) ∧ (os'.set (i + k) (maL x (Nt.at_ zb k) (Nt.at_ os (i + k)) c)).length = p + q ∧ Ws (os'.set (i + k) (maL x (Nt.at_ zb k) (Nt.at_ os (i + k)) c)) ∧ Wd.W (maH x (Nt.at_ zb k) (Nt.at_ os (i + k)) c) ∧ V (os'.set (i + k) (maL x (Nt.at_ zb k) (Nt.at_ os (i + k)) c)) + P (i + (k + 1)) * maH x (Nt.at_ zb k) (Nt.at_ os (i + k)) c = V os + P i * (x * lo zb (k + 1)) ∧ (∀ j, i + (k + 1) ≤ j → Nt.at_ (os'.set (i + k) (maL x (Nt.at_ zb k) (Nt.at_ os (i + k)) c)) j = Nt.at_ os j) ∧ Below w2.heap.size w2 ((wr.drewN n).setCell ⟨w2.heap.size, i + k, none⟩ (.int .u64 (maL x (Nt.at_ zb k) (Nt.at_ os (i + k)) c)))) := fun n => by
            refine Lib.hid ⟨?_, by simpa using G2, G3.set _ htw, hmw, hst, fun j hj => ?_, (below_drewN G7 n).setCell (Nat.le_refl _) _⟩
            · have := (G1.drewN n).set_ (i + k) (.int .u64 (maL x (Nt.at_ zb k) (Nt.at_ os (i + k)) c))
              rwa [us_set] at this
            · rw [at_set _ _ _ _ hka, if_neg (by omega)]; exact G6 j (by omega)
          clear H' G1 G2 G3 G5 G6 G7 hst e7 hmw htw
          generalize Nt.at_ zb k = y at *
          generalize Nt.at_ os (i + k) = u at *
          have C1 := fun w => Lib.hid (rmul_c x y w hxw hyw)
          have C2 := fun w => radd_c u (mulL x y) false w huw (W_mulL _ _)
          rw [add_cm u, addO_cm u] at C2
          replace C2 := fun w => Lib.hid (C2 w)
          have C3 := fun w => Lib.hid (radd_c (Wd.add (mulL x y) u false) c false w (W_add _ _ _) G4)
          have C4 := fun w => Lib.hid (radd_c (mulH x y) 0 (addO (mulL x y) u false) w (W_mulH hxw hyw) W_zero)
          have C5 := fun w => Lib.hid (radd_c (Wd.add (mulH x y) 0 (addO (mulL x y) u false)) 0 (addO (Wd.add (mulL x y) u false) c false) w (W_add _ _ _) W_zero)
          rw [M1] at C3
          rw [M2] at C5
          have hki2 : (k : Int) < (q : Int) := by omega
          clear M1 M2 G4 huw hyw hxw
          go_wp2_with fail
          go_quiet (exact Calls.quiet_of_same ((C1 _).out.mono fun e w' h => ⟨h.1, h.2.symm⟩))
          go_wp2_with fail
          go_at_call 62
          refine (C2 _).out.mono ?_
          rintro e w' ⟨rfl, rfl⟩
          go_wp2_with fail
          go_at_call 62
          refine (C3 _).out.mono ?_
          rintro e w' ⟨rfl, rfl⟩
          go_wp2_with fail
          go_at_call 62
          refine (C4 _).out.mono ?_
          rintro e w' ⟨rfl, rfl⟩
          go_wp2_with fail
          go_at_call 62
          refine (C5 _).out.mono ?_
          rintro e w' ⟨rfl, rfl⟩
          go_wp2_with fail
          go_roundw
          case rel => exact ⟨k + 1, _, _, by omega, rfl, by go_num, HN _⟩
          case measure => (simp [intOf] <;> omega)
        · obtain rfl : k = q := by omega
          obtain ⟨G1, G2, G3, G4, G5, G6, G7⟩ := H'.out
          obtain ⟨E1, E2, E3, E4, E5, E6⟩ := H.out
          have hko : i + k < os'.length := by omega
          have hcu : wr.cell? ⟨w2.heap.size, i + k, none⟩ = some (.int .u64 (Nt.at_ os' (i + k))) := (G1.cell _).trans (us_get hko)
          have hfu : wr.frozen? ⟨w2.heap.size, i + k, none⟩ = false := G1.frozen _
          have hv : V (os'.set (i + k) c) = lo za (i + 1) * V zb := by
            rw [V_set _ _ _ hko, G6 _ (Nat.le_refl _), E5 _ (Nat.le_refl _), Int.sub_zero, G5, lo_all (xs := zb) (by have := HQ.out; omega), E4, lo_succ, HXE.out, Int.add_mul, Int.mul_assoc]
          have HN : Hid (Bk (wr.setCell ⟨w2.heap.size, i + k, none⟩ (.int .u64 c)) w2.heap.size 28 (us (os'.set (i + k) c)) ∧ (os'.set (i + k) c).length = p + k ∧ Ws (os'.set (i + k) c) ∧ V (os'.set (i + k) c) = lo za (i + 1) * V zb ∧ (∀ j, i + 1 + k ≤ j → Nt.at_ (os'.set (i + k) c) j = 0) ∧ Below w2.heap.size w2 (wr.setCell ⟨w2.heap.size, i + k, none⟩ (.int .u64 c))) := by
            refine Lib.hid ⟨?_, by simpa using G2, G3.set _ G4, hv, fun j hj => ?_, G7.setCell (Nat.le_refl _) _⟩
            · have := G1.set_ (i + k) (.int .u64 c)
              rwa [us_set] at this
            · rw [at_set _ _ _ _ hko, if_neg (by omega), G6 j (by omega)]; exact E5 j (by omega)
          clear H' G1 G2 G3 G4 G5 G6 G7 E1 E2 E3 E4 E5 E6 H hv hko
          go_wp2_with fail
          go_roundw
          case rel => exact ⟨i + 1, _, by omega, by go_num, HN⟩
          case measure => (simp [intOf] <;> omega)
    · obtain rfl : i = p := by omega
      obtain ⟨E1, E2, E3, E4, E5, E6⟩ := H.out
      have hv : V os = V za * V zb := by rw [E4, lo_all (by have := HP.out; omega)]
      have HT := Lib.hid (trim_r (some ⟨w2.heap.size, 0, none⟩) (i + q) (i + q) os wr (E1.rd0 E1.lt E3 E2) (Nat.le_refl _) (by omega) (by omega))
      have HV := Lib.hid hv
      have HL := Lib.hid (show (trim os).length ≤ na + nb by have := trim_le os; omega)
      have HB2 := Lib.hid (HBb.out.trans (E6.mono HBb.out.size))
      clear H E1 E2 E3 E4 E5 E6 hv hmk
      go_wp2_with fail
      go_at_call 31
      refine HT.out.mono ?_
      rintro e w' ⟨v, rfl, hO, hB⟩
      have HO := Lib.hid hO
      have HB3 := Lib.hid hB
      clear hO hB
      go_wp2_with fail
      go_ret
      refine ⟨_, rfl, newR_of HO.out (trim_trim _) (by rw [V_trim, HZAE.out, HZBE.out]; exact HV.out) HL.out (HB2.out.trans (HB3.out.mono HB2.out.size)) HB2.out.size⟩
end Nt
end Go.Proofs.YtdklchejnpaenaaDoor
