/- The document's own Div: bit by bit, with the document's own Add, Sub, Compare. | The document's own Text. | The document's own Read. | The document's own Fit: noughts put behind what is one's own. -/
import Derived.Test.YtopajockmcgpmaaR1
import Derived.Test.YtopajockmcgpmaaB7
import Derived.Test.YtopajockmcgpmaaB6
import Derived.Test.YtopajockmcgpmaaB4
import Derived.Still
import Derived.StillTail
namespace Go.Proofs.Ytopajockmcgpmaa
open Go Go.RowKit
namespace Nt
open Wd Sti
set_option linter.unusedVariables false
theorem Is.len_le {zs : List Int} {N : Int} {n : Nat} (h : Is zs N) (hN : N < P n) : zs.length ≤ n := by
  rcases Nat.lt_or_ge n zs.length with hl | hl
  · exfalso
    have hne : zs ≠ [] := fun e => by rw [e] at hl; simp at hl
    have h1 := trim_last h.tr hne
    have h2 := h.ws.at_ (zs.length - 1)
    have h3 := V_split zs (zs.length - 1)
    have h4 := lo_nonneg h.ws (zs.length - 1)
    have h5 := P_mono (show n ≤ zs.length - 1 by omega)
    have h6 := P_pos (zs.length - 1)
    rw [hi_succ, hi_all (k := zs.length - 1 + 1) (by omega), h.v] at h3
    unfold Wd.W at h2
    have h7 : P (zs.length - 1) * 1 ≤ P (zs.length - 1) * (Nt.at_ zs (zs.length - 1) + 18446744073709551616 * 0) := Int.mul_le_mul_of_nonneg_left (by omega) (by omega)
    omega
  · exact hl
theorem q_dn (d : Int) (i : Nat) : 2 * d * 2 ^ i = d * 2 ^ (i + 1) := by rw [Int.pow_succ]; ac_rfl
theorem q_up (d : Int) (i : Nat) : (2 * d + 1) * 2 ^ i = d * 2 ^ (i + 1) + 2 ^ i := by rw [Int.add_mul, Int.one_mul, q_dn]
theorem cmp_ge {a b : Int} (h : b ≤ a) : 0 ≤ cmpN a b := by unfold cmpN; rw [if_neg (by omega)]; split <;> omega

theorem divE_r (A B : Option Addr) (na ca nb cb : Nat) (xs ys : List Int) (w : World) (hb : At w B nb ys) (lb : nb ≤ 262144) (h0 : V ys = 0) :
    Calls Try.prog 32 #[.slice A na ca, .slice B nb cb] w fun e w' => e = .returned (.tuple #[.slice none 0 0, .slice none 0 0, .int .i64 2]) ∧ w' = w := by
  have HC := Lib.hid (compare_r B none nb cb 0 0 _ w.heap.size ys [] w hb Rd.nil (by omega) (by omega))
  rw [show cmpN (V ys) (V []) = 0 by rw [h0]; rfl] at HC
  clear hb h0
  go_enter Try.func32, Try.ntmps32
  go_wp2_with fail
  go_at_call 34
  refine HC.out.mono ?_
  rintro e w' ⟨rfl, rfl⟩
  go_wp2_with fail
  go_ret3
  exact ⟨rfl, rfl⟩

/-- within the loop: the rest so far, and the quotient so far -/
structure DivR (w : World) (gq na nb : Nat) (x y : Int) (j : Nat) (A1 : Option Addr) (n1 c1 : Nat) (rs qs : List Int) (W : World) : Prop where
  is : Is rs (x / 2 ^ j % y)
  at_ : At W A1 n1 rs
  cap : n1 ≤ c1 ∧ c1 ≤ 9223372036854775807
  q : Bk W gq 29 (us qs)
  ql : qs.length = na
  qw : Ws qs
  qv : V qs = x / 2 ^ j / y * 2 ^ j
  be : Below w.heap.size w W

set_option maxRecDepth 100000 in
set_option maxHeartbeats 8000000 in
theorem div_r (A B : Option Addr) (na ca nb cb : Nat) (xs ys : List Int) (w : World) (ha : At w A na xs) (hb : At w B nb ys) (la : na ≤ ca ∧ na ≤ 131072) (la' : ca ≤ 9223372036854775807) (lb : nb ≤ cb ∧ nb ≤ 131072) (lb' : cb ≤ 9223372036854775807) (h0 : V ys ≠ 0) :
    Calls Try.prog 32 #[.slice A na ca, .slice B nb cb] w fun e w' => ∃ v1 v2, e = .returned (.tuple #[v1, v2, .int .i64 0]) ∧ NewR w w' v1 (V xs / V ys) na ∧ NewR w w' v2 (V xs % V ys) nb := by
  obtain ⟨la, lan⟩ := la
  obtain ⟨lb, lbn⟩ := lb
  have hx0 := V_nonneg ha.ws
  have hy0 := V_nonneg hb.ws
  have hyp : 0 < V ys := by omega
  have hyP : V ys < P nb := by have := V_lt hb.ws; rwa [hb.len] at this
  have HC := Lib.hid (compare_r B none nb cb 0 0 _ w.heap.size ys [] w hb Rd.nil (by omega) (by omega))
  rw [show cmpN (V ys) (V []) = 1 from cmp_gt' hyp] at HC
  have hba := nbits_R ha.ws.trim (trim_trim xs)
  rw [V_trim] at hba
  have hbal := nbits_le ha.ws.trim
  have hla := trim_le xs
  rw [ha.len] at hla
  have HA := Lib.hid ha
  have HB := Lib.hid hb
  have KB := fun w h => Lib.hid (bits_r A na ca xs w h la la' (by omega))
  generalize nbits (trim xs) = ba at *
  have hmk := fun W => make_nat na (by omega) W
  have HBA := Lib.hid hba
  have hbal2 : ba ≤ na * 64 := by omega
  have HX0 := Lib.hid hx0
  have HYP := Lib.hid hyp
  have HYPP := Lib.hid hyP
  clear ha hb hba hbal h0 hy0 hx0 hyp hyP
  go_enter Try.func32, Try.ntmps32
  try simp only [List.append]
  go_wp2_with fail
  go_at_call 34
  refine HC.out.mono ?_
  rintro e w' ⟨rfl, rfl⟩
  clear HC
  obtain ⟨w, rfl⟩ : ∃ w, w = w' := ⟨_, rfl⟩
  go_wp2_with fail
  go_at_call 53
  refine (KB _ (At.step (At.step HA (below_alloc _)) (below_alloc _)).out).out.mono ?_
  rintro e w2 ⟨rfl, hb2⟩
  have hsz : w.heap.size + 2 ≤ w2.heap.size := by have := hb2.size; simp at this; omega
  have hq0 : Bk w2 w.heap.size 29 (us (List.replicate na 0)) := ((Bk.new w _ _).alloc _).below hb2 (by simp; omega)
  have hbe : Below w.heap.size w w2 := ((below_alloc _).trans ((below_alloc _).mono (by simp))).trans (hb2.mono (by simp; omega))
  have hr0 : At w2 (some ⟨w.heap.size + 1, 0, none⟩) 0 [] := Rd.nil
  have S0 := Lib.hid (show Bk w2 w.heap.size 29 (us (List.replicate na 0)) ∧ Below w.heap.size w w2 from ⟨hq0, hbe⟩)
  clear hb2 hq0 hbe hmk KB hr0
  go_wp2_with fail
  go_loopw [8, 9] (fun v i W => ∃ (j : Nat) (A1 : Option Addr) (n1 c1 : Nat) (rs qs : List Int), j ≤ ba ∧ v = .slice A1 n1 c1 ∧ i = .int .i64 ((j : Int) - 1) ∧ Hid (DivR w w.heap.size na nb (V xs) (V ys) j A1 n1 c1 rs qs W)) (fun _ i _ => (intOf i + 1).toNat)
  case atStart =>
    have hz : V xs / 2 ^ ba = 0 := Int.ediv_eq_zero_of_lt HX0.out HBA.out.up
    refine ⟨ba, _, 0, 0, [], List.replicate na 0, Nat.le_refl _, rfl, rfl, Lib.hid ⟨?_, Rd.nil, ⟨Nat.le_refl _, by omega⟩, S0.out.1, by simp, Ws.zeros _, ?_, S0.out.2⟩⟩
    · rw [hz]; exact Is.nil
    · rw [hz, V_zeros, Int.zero_ediv, Int.zero_mul]
  case round =>
    obtain ⟨j, A1, n1, c1, rs, qs, hj, rfl, rfl, H⟩ := hrel
    obtain ⟨hcap1, hcap2⟩ := H.out.cap
    have hrl : V xs / 2 ^ j % V ys < V ys := Int.emod_lt_of_pos _ HYP.out
    have hn1 : n1 ≤ nb := by
      have := H.out.is.len_le (n := nb) (by have := HYPP.out; omega)
      rwa [H.out.at_.len] at this
    rcases Nat.eq_zero_or_pos j with rfl | hj0
    · have HT1 := Lib.hid (trim_r (some ⟨w.heap.size, 0, none⟩) na na qs wr (H.out.q.rd0 H.out.q.lt H.out.qw H.out.ql) (Nat.le_refl _) (by omega) (by omega))
      have hv1 := H.out.qv
      have hv2 := H.out.is.v
      rw [Int.pow_zero, Int.ediv_one] at hv1 hv2
      rw [Int.mul_one] at hv1
      have HV1 := Lib.hid hv1
      have HV2 := Lib.hid hv2
      have HL1 := Lib.hid (show (trim qs).length ≤ na by have := trim_le qs; have := H.out.ql; omega)
      have HL2 := Lib.hid (show (trim rs).length ≤ nb by have := trim_le rs; have := H.out.at_.len; omega)
      clear hv1 hv2 hrl
      go_wp2_with fail
      go_at_call 31
      refine HT1.out.mono ?_
      rintro e w3 ⟨v1, rfl, hO, hB⟩
      have HT2 := Lib.hid (trim_r A1 n1 c1 rs w3 (At.step (Lib.hid H.out.at_) hB).out hcap1 hcap2 (by omega))
      have HO1 := Lib.hid hO
      have HB1 := Lib.hid (H.out.be.trans (hB.mono H.out.be.size))
      clear hO hB HT1
      go_wp2_with fail
      go_at_call 31
      refine HT2.out.mono ?_
      rintro e w4 ⟨v2, rfl, hO, hB⟩
      have HO2 := Lib.hid hO
      have HB2 := Lib.hid (HB1.out.trans (hB.mono HB1.out.size))
      have N1 : Hid (NewR w w3 v1 (V xs / V ys) na) := Lib.hid (newR_of HO1.out (trim_trim _) (by rw [V_trim]; exact HV1.out) HL1.out HB1.out H.out.be.size)
      have N1' : Hid (NewR w w4 v1 (V xs / V ys) na) := by
        obtain ⟨A, n, c, zs, e1, e2, e3, e4, e5, e6, e7, e8⟩ := N1.out
        exact Lib.hid ⟨A, n, c, zs, e1, e2, At.step e3 hB, e4, e5, e6, HB2.out, e8⟩
      clear hO hB HT2 H
      go_wp2_with fail
      go_ret3
      exact ⟨_, _, rfl, N1'.out, newR_of HO2.out (trim_trim _) (by rw [V_trim]; exact HV2.out) HL2.out HB2.out HB1.out.size⟩
    · obtain ⟨i, rfl⟩ : ∃ i, j = i + 1 := ⟨j - 1, by omega⟩
      have hi : ((i + 1 : Nat) : Int) - 1 = (i : Int) := by omega
      rw [hi]
      clear hi
      have K1 := Lib.hid (add_r A1 A1 n1 c1 n1 c1 rs rs wr H.out.at_ H.out.at_ (by omega) (by omega))
      have hrv := H.out.is.v
      have hbit := bitAt_nat (V xs) i HX0.out
      have hbb := b1_01 (bitAt (V xs) (i : Int))
      have hhalf := half_bit (V xs) i
      rw [← hbit] at hhalf
      have KBit := fun W h => Lib.hid (bit_r A na ca w.heap.size i xs W h (WalkArith.wf_i64 (by omega)))
      generalize hbe : bitAt (V xs) (i : Int) = b at *
      have HHALF := Lib.hid hhalf
      have HRV := Lib.hid hrv
      have hqv := H.out.qv
      have hsb := set_bit (i := i) H.out.qw H.out.ql (show i / 64 < na by omega) (by rw [hqv]; exact Int.mul_emod_left _ _)
      have HSB := Lib.hid hsb
      clear hbit hhalf hrv hbe hqv hsb hrl
      have c5 : ∀ W, Below wr.heap.size wr W → W.cell? ⟨w.heap.size, i / 64, none⟩ = some (.int .u64 (Nt.at_ qs (i / 64))) := fun W hb => ((H.out.q.below hb H.out.q.lt).cell _).trans (us_get (by rw [H.out.ql]; omega))
      have f5 : ∀ W, Below wr.heap.size wr W → W.frozen? ⟨w.heap.size, i / 64, none⟩ = false := fun W hb => (H.out.q.below hb H.out.q.lt).frozen _
      have hi64 : i / 64 < na := by omega
      have hi64' : (i : Int) / 64 < (na : Int) := by omega
      have hr64 : i % 64 < 64 := Nat.mod_lt _ (by omega)
      have hp2 := pow2_lt64 hr64
      have hp1 := pow_pos2 (i % 64)
      have hii : (i : Int) ≤ 8388608 := by omega
      -- the new rest, either way
      have UP : ∀ z, z = 2 * (V xs / 2 ^ (i + 1) % V ys) + b1 b → V ys ≤ z → Hid (V xs / 2 ^ i % V ys = z - V ys ∧ V xs / 2 ^ i / V ys = 2 * (V xs / 2 ^ (i + 1) / V ys) + 1) := fun z hz h => by
        have := div_up (b := b1 b) HYP.out HHALF.out hbb.1 hbb.2 (by omega)
        rw [hz]; exact Lib.hid this
      have DN : ∀ z, z = 2 * (V xs / 2 ^ (i + 1) % V ys) + b1 b → z < V ys → Hid (V xs / 2 ^ i % V ys = z ∧ V xs / 2 ^ i / V ys = 2 * (V xs / 2 ^ (i + 1) / V ys)) := fun z hz h => by
        have := div_dn (b := b1 b) HYP.out HHALF.out hbb.1 (by omega)
        rw [hz]; exact Lib.hid this
      clear HHALF hbb
      go_wp2_with fail
      go_at_call 33
      refine K1.out.mono ?_
      rintro e w3 ⟨v, rfl, ⟨A2, n2, c2, r2, rfl, i2, t2, l2, m2, k2, hb3, -⟩⟩
      have hv2 : V r2 = 2 * (V xs / 2 ^ (i + 1) % V ys) := by rw [i2.out.v, HRV.out]; omega
      have HV2 := Lib.hid hv2
      have HB3 := Lib.hid hb3
      have RA : ∀ W, Below wr.heap.size wr W → Rd W w.heap.size A na xs := fun W hb => (HA.out.below H.out.be).below (hb.mono H.out.be.size)
      have RB : ∀ W, Below wr.heap.size wr W → At W B nb ys := fun W hb => (At.step (At.step HB H.out.be) hb).out
      clear K1 hb3 hv2
      rcases b with _ | _
      ·
        go_wp2_with fail
        go_at_call 54
        refine (KBit _ (RA _ HB3.out)).out.mono ?_
        rintro e w4 ⟨rfl, he4⟩
        have HE4 := Lib.hid he4
        clear he4
        have hz : V r2 = 2 * (V xs / 2 ^ (i + 1) % V ys) + b1 false := by rw [HV2.out, b1_f]; omega
        have HZ := Lib.hid hz
        clear hz
        rw [HE4.out]
        obtain ⟨A3, n3, c3, r3, e3, i3, t3, l3, m3, k3⟩ : ∃ A3 n3 c3 r3, (A3 = A2 ∧ n3 = n2 ∧ c3 = c2) ∧ Hid (Is r3 (V r2)) ∧ Hid (At w3 A3 n3 r3) ∧ n3 ≤ c3 ∧ c3 ≤ 9223372036854775807 ∧ n3 ≤ nb + 2 := ⟨A2, n2, c2, r2, ⟨rfl, rfl, rfl⟩, Lib.hid ⟨i2.out.ws, i2.out.tr, rfl⟩, t2, l2, m2, by omega⟩
        obtain ⟨rfl, rfl, rfl⟩ := e3
        obtain ⟨zz, hzz⟩ : ∃ zz, zz = V r2 := ⟨_, rfl⟩
        rw [← hzz] at i3 HZ
        clear hzz i2 t2 HV2
        have hzv : V r3 = zz := i3.out.v
        have K4 := Lib.hid (compare_r A3 B n3 c3 nb cb _ _ r3 ys w3 t3.out (RB _ HB3.out) (by omega) (by omega))
        rw [hzv] at K4
        have HZV := Lib.hid hzv
        clear hzv
        by_cases hge : V ys ≤ zz
        · have hcn := cmp_ge hge
          generalize cmpN zz (V ys) = cn at *
          have U := UP zz HZ.out hge
          have K5 := Lib.hid (sub_r A3 B n3 c3 nb cb r3 ys w3 t3.out (RB _ HB3.out) (by omega) (by omega) (by rw [HZV.out]; exact hge))
          rw [HZV.out] at K5
          clear UP DN HZ HZV i3 t3 hge KBit
          go_wp2_with fail
          go_at_call 34
          refine K4.out.mono ?_
          rintro e w6 ⟨rfl, he6⟩
          have HE6 := Lib.hid he6
          clear he6 K4
          go_wp2_with fail
          go_at_call 52
          rw [HE6.out]
          refine K5.out.mono ?_
          rintro e w7 ⟨v, rfl, ⟨A6, n6, c6, r6, rfl, i6, t6, l6, m6, k6, hb7, fr6⟩⟩
          have HB7 := Lib.hid (HB3.out.trans (hb7.mono HB3.out.size))
          have d5 := c5 _ HB7.out
          have g5 := f5 _ HB7.out
          obtain ⟨q1, q4, q5⟩ := HSB.out
          have HN : Hid (DivR w w.heap.size na nb (V xs) (V ys) i A6 n6 c6 r6 (qs.set (i / 64) (Nt.at_ qs (i / 64) + 2 ^ (i % 64))) (w7.setCell ⟨w.heap.size, i / 64, none⟩ (.int .u64 (Nt.at_ qs (i / 64) + 2 ^ (i % 64))))) := by
            have gq := H.out.q.below HB7.out H.out.q.lt
            have t6' : At (w7.setCell ⟨w.heap.size, i / 64, none⟩ (.int .u64 (Nt.at_ qs (i / 64) + 2 ^ (i % 64)))) A6 n6 r6 := by
              have := t6.out.setCell_far ⟨w.heap.size, i / 64, none⟩ (.int .u64 (Nt.at_ qs (i / 64) + 2 ^ (i % 64))) (fun ad e => by have h1 := fr6.out ad e; have h2 := H.out.q.lt; have h3 := HB3.out.size; show ad.block ≠ w.heap.size; omega)
              unfold At; simpa using this
            refine Lib.hid ⟨by rw [U.out.1]; exact i6.out, t6', ⟨l6, m6⟩, ?_, by rw [List.length_set]; exact H.out.ql, H.out.qw.set _ q4, ?_, (H.out.be.trans (HB7.out.mono H.out.be.size)).setCell (Nat.le_refl _) _⟩
            · have := gq.set_ (i / 64) (.int .u64 (Nt.at_ qs (i / 64) + 2 ^ (i % 64)))
              rwa [us_set] at this
            · rw [q5, H.out.qv, U.out.2, q_up]
          clear K5 HSB c5 f5 H RA RB U hb7 q5
          go_wp2_with fail
          go_roundw
          case rel => exact ⟨i, _, _, _, _, _, by omega, rfl, rfl, HN⟩
          case measure => (simp [intOf] <;> omega)
        · have hcn : cmpN zz (V ys) = -1 := cmp_lt' (by omega)
          rw [hcn] at K4
          have U := DN zz HZ.out (by omega)
          have HN : Hid (DivR w w.heap.size na nb (V xs) (V ys) i A3 n3 c3 r3 qs w3) := by
            have gq := H.out.q.below HB3.out H.out.q.lt
            refine Lib.hid ⟨by rw [U.out.1]; exact i3.out, t3.out, ⟨l3, m3⟩, gq, H.out.ql, H.out.qw, ?_, H.out.be.trans (HB3.out.mono H.out.be.size)⟩
            rw [H.out.qv, U.out.2, q_dn]
          clear UP DN HZ HZV i3 t3 hge HSB c5 f5 H RA RB hcn KBit U
          go_wp2_with fail
          go_at_call 34
          refine K4.out.mono ?_
          rintro e w6 ⟨rfl, he6⟩
          have HE6 := Lib.hid he6
          clear he6 K4
          go_wp2_with fail
          rw [HE6.out]
          go_roundw
          case rel => exact ⟨i, _, _, _, _, _, by omega, rfl, rfl, HN⟩
          case measure => (simp [intOf] <;> omega)
      ·
        go_wp2_with fail
        go_at_call 54
        refine (KBit _ (RA _ HB3.out)).out.mono ?_
        rintro e w4 ⟨rfl, he4⟩
        have HE4 := Lib.hid he4
        clear he4
        rw [HE4.out]
        have hone : At (w3.alloc (.cells (us [1]) 29)) (some ⟨w3.heap.size, 0, none⟩) 1 [1] := (Bk.new w3 _ _).rd0 (Bk.new w3 _ _).lt (fun x hx => by simp at hx; subst hx; unfold Wd.W; omega) rfl
        have K2 := Lib.hid (add_r A2 (some ⟨w3.heap.size, 0, none⟩) n2 c2 1 1 r2 [1] (w3.alloc (.cells (us [1]) 29)) (At.step t2 (below_alloc _)).out hone (by omega) (by omega))
        have K2' : Calls Try.prog 33 #[.slice A2 n2 c2, .slice (some ⟨w3.heap.size, 0, none⟩) 1 1] (w3.alloc (.cells #[.int .u64 1] 29)) fun e w' => ∃ v, e = .returned v ∧ NewR (w3.alloc (.cells (us [1]) 29)) w' v (V r2 + V [1]) (max n2 1 + 1) := K2.out
        have K2 := Lib.hid K2'
        clear hone K2'
        go_wp2_with fail
        go_at_call 33
        refine K2.out.mono ?_
        rintro e w5 ⟨v, rfl, ⟨A3, n3, c3, r3, rfl, i3, t3, l3, m3, k3, hb5, -⟩⟩
        have HB3' := HB3
        replace HB3 := Lib.hid (HB3'.out.trans (((below_alloc _).trans (hb5.mono (by simp))).mono HB3'.out.size))
        obtain ⟨zz, hzz⟩ : ∃ zz, zz = V r2 + V [1] := ⟨_, rfl⟩
        have HZ : Hid (zz = 2 * (V xs / 2 ^ (i + 1) % V ys) + b1 true) := Lib.hid (by rw [hzz, HV2.out, b1_t]; rfl)
        rw [← hzz] at i3
        replace k3 : n3 ≤ nb + 3 := by omega
        clear hzz i2 t2 HV2 K2 hb5 HB3' HE4
        obtain ⟨w3, rfl⟩ : ∃ w3, w3 = w5 := ⟨_, rfl⟩
        have hzv : V r3 = zz := i3.out.v
        have K4 := Lib.hid (compare_r A3 B n3 c3 nb cb _ _ r3 ys w3 t3.out (RB _ HB3.out) (by omega) (by omega))
        rw [hzv] at K4
        have HZV := Lib.hid hzv
        clear hzv
        by_cases hge : V ys ≤ zz
        · have hcn := cmp_ge hge
          generalize cmpN zz (V ys) = cn at *
          have U := UP zz HZ.out hge
          have K5 := Lib.hid (sub_r A3 B n3 c3 nb cb r3 ys w3 t3.out (RB _ HB3.out) (by omega) (by omega) (by rw [HZV.out]; exact hge))
          rw [HZV.out] at K5
          clear UP DN HZ HZV i3 t3 hge KBit
          go_wp2_with fail
          go_at_call 34
          refine K4.out.mono ?_
          rintro e w6 ⟨rfl, he6⟩
          have HE6 := Lib.hid he6
          clear he6 K4
          go_wp2_with fail
          go_at_call 52
          rw [HE6.out]
          refine K5.out.mono ?_
          rintro e w7 ⟨v, rfl, ⟨A6, n6, c6, r6, rfl, i6, t6, l6, m6, k6, hb7, fr6⟩⟩
          have HB7 := Lib.hid (HB3.out.trans (hb7.mono HB3.out.size))
          have d5 := c5 _ HB7.out
          have g5 := f5 _ HB7.out
          obtain ⟨q1, q4, q5⟩ := HSB.out
          have HN : Hid (DivR w w.heap.size na nb (V xs) (V ys) i A6 n6 c6 r6 (qs.set (i / 64) (Nt.at_ qs (i / 64) + 2 ^ (i % 64))) (w7.setCell ⟨w.heap.size, i / 64, none⟩ (.int .u64 (Nt.at_ qs (i / 64) + 2 ^ (i % 64))))) := by
            have gq := H.out.q.below HB7.out H.out.q.lt
            have t6' : At (w7.setCell ⟨w.heap.size, i / 64, none⟩ (.int .u64 (Nt.at_ qs (i / 64) + 2 ^ (i % 64)))) A6 n6 r6 := by
              have := t6.out.setCell_far ⟨w.heap.size, i / 64, none⟩ (.int .u64 (Nt.at_ qs (i / 64) + 2 ^ (i % 64))) (fun ad e => by have h1 := fr6.out ad e; have h2 := H.out.q.lt; have h3 := HB3.out.size; show ad.block ≠ w.heap.size; omega)
              unfold At; simpa using this
            refine Lib.hid ⟨by rw [U.out.1]; exact i6.out, t6', ⟨l6, m6⟩, ?_, by rw [List.length_set]; exact H.out.ql, H.out.qw.set _ q4, ?_, (H.out.be.trans (HB7.out.mono H.out.be.size)).setCell (Nat.le_refl _) _⟩
            · have := gq.set_ (i / 64) (.int .u64 (Nt.at_ qs (i / 64) + 2 ^ (i % 64)))
              rwa [us_set] at this
            · rw [q5, H.out.qv, U.out.2, q_up]
          clear K5 HSB c5 f5 H RA RB U hb7 q5
          go_wp2_with fail
          go_roundw
          case rel => exact ⟨i, _, _, _, _, _, by omega, rfl, rfl, HN⟩
          case measure => (simp [intOf] <;> omega)
        · have hcn : cmpN zz (V ys) = -1 := cmp_lt' (by omega)
          rw [hcn] at K4
          have U := DN zz HZ.out (by omega)
          have HN : Hid (DivR w w.heap.size na nb (V xs) (V ys) i A3 n3 c3 r3 qs w3) := by
            have gq := H.out.q.below HB3.out H.out.q.lt
            refine Lib.hid ⟨by rw [U.out.1]; exact i3.out, t3.out, ⟨l3, m3⟩, gq, H.out.ql, H.out.qw, ?_, H.out.be.trans (HB3.out.mono H.out.be.size)⟩
            rw [H.out.qv, U.out.2, q_dn]
          clear UP DN HZ HZV i3 t3 hge HSB c5 f5 H RA RB hcn KBit U
          go_wp2_with fail
          go_at_call 34
          refine K4.out.mono ?_
          rintro e w6 ⟨rfl, he6⟩
          have HE6 := Lib.hid he6
          clear he6 K4
          go_wp2_with fail
          rw [HE6.out]
          go_roundw
          case rel => exact ⟨i, _, _, _, _, _, by omega, rfl, rfl, HN⟩
          case measure => (simp [intOf] <;> omega)
end Nt
end Go.Proofs.Ytopajockmcgpmaa
namespace Go.Proofs.Ytopajockmcgpmaa
open Go Go.RowKit
namespace Nt
open Wd Sti
set_option linter.unusedVariables false
theorem hexes_take (v : Int) (N j : Nat) (h : j < N) : (hexes v N).take (N - j) = (hexes v N).take (N - (j + 1)) ++ [hexb (dig v j)] := by
  rw [show N - j = (N - (j + 1)) + 1 by omega, List.take_add_one, hexes_get v N (N - (j + 1)) (by omega), show N - 1 - (N - (j + 1)) = j by omega]
  rfl

theorem hex_sl : ∀ (d : Nat), d < 16 → ∀ w : World,
    (Instr.slice 9 (.string ⟨#[48, 49, 50, 51, 52, 53, 54, 55, 56, 57, 97, 98, 99, 100, 101, 102]⟩) (some (.int .u64 (d : Int))) (some (.int .u64 ((d : Int) + 1))) none).run Try.prog w = .ok (.string ⟨#[hexb d]⟩) w
  | 0, _, _ => by kernel_rfl
  | 1, _, _ => by kernel_rfl
  | 2, _, _ => by kernel_rfl
  | 3, _, _ => by kernel_rfl
  | 4, _, _ => by kernel_rfl
  | 5, _, _ => by kernel_rfl
  | 6, _, _ => by kernel_rfl
  | 7, _, _ => by kernel_rfl
  | 8, _, _ => by kernel_rfl
  | 9, _, _ => by kernel_rfl
  | 10, _, _ => by kernel_rfl
  | 11, _, _ => by kernel_rfl
  | 12, _, _ => by kernel_rfl
  | 13, _, _ => by kernel_rfl
  | 14, _, _ => by kernel_rfl
  | 15, _, _ => by kernel_rfl
  | d + 16, h, _ => absurd h (by omega)
end Nt
end Go.Proofs.Ytopajockmcgpmaa
namespace Go.Proofs.Ytopajockmcgpmaa
open Go Go.RowKit
namespace Nt
open Wd Sti
set_option linter.unusedVariables false
/-- the digit, or -1 -/
def dgi (c : Nat) : Int := if (hexd c).isSome = true then (dv_ c : Int) else -1
theorem at_low {zs : List Int} {m : Nat} (hz : Ws zs) (hv : V zs % 2 ^ (m + 1) = 0) : Nt.at_ zs (m / 64) % 2 ^ (m % 64 + 1) = 0 := by
  have hp := P_pos (m / 64)
  have hr : m % 64 < 64 := Nat.mod_lt _ (by omega)
  rw [V_at zs hz]
  obtain ⟨q, hq⟩ := Int.dvd_of_emod_eq_zero hv
  have e : (2 : Int) ^ (m + 1) = P (m / 64) * 2 ^ (m % 64 + 1) := by
    rw [← two_P, ← Int.pow_add]; congr 1; omega
  rw [hq, e, Int.mul_assoc, Int.mul_ediv_cancel_left _ (by omega)]
  have e2 : (18446744073709551616 : Int) = 2 ^ (m % 64 + 1) * 2 ^ (63 - m % 64) := by
    have : (2 : Int) ^ 64 = 2 ^ (m % 64 + 1) * 2 ^ (63 - m % 64) := by rw [← Int.pow_add]; congr 1; omega
    exact this
  rw [e2, Int.mul_emod_mul_of_pos _ _ (by have := pow_pos2 (m % 64 + 1); omega), Int.mul_emod_right]
/-- one digit more put into its limb, the highest digits first -/
theorem put_top {zs : List Int} {m k : Nat} {d : Int} (hz : Ws zs) (hl : zs.length = m) (hi : k / 16 < m) (hv : V zs % 16 ^ (k + 1) = 0) (hd0 : 0 ≤ d) (hd : d < 16) :
    bits .or .u64 (Nt.at_ zs (k / 16)) (d * 2 ^ (4 * (k % 16))) = Nt.at_ zs (k / 16) + d * 2 ^ (4 * (k % 16)) ∧ 0 ≤ d * 2 ^ (4 * (k % 16)) ∧ d * 2 ^ (4 * (k % 16)) ≤ 18446744073709551615 ∧
    W (Nt.at_ zs (k / 16) + d * 2 ^ (4 * (k % 16))) ∧ V (zs.set (k / 16) (Nt.at_ zs (k / 16) + d * 2 ^ (4 * (k % 16)))) = V zs + d * 16 ^ k := by
  have hr : k % 16 < 16 := Nat.mod_lt _ (by omega)
  have e16 : (16 : Int) ^ (k + 1) = 2 ^ ((4 * k + 3) + 1) := by rw [← pow16]; congr 1; omega
  rw [e16] at hv
  have hm := at_low hz hv
  rw [show (4 * k + 3) / 64 = k / 16 by omega, show (4 * k + 3) % 64 + 1 = 4 * (k % 16) + 4 by omega] at hm
  have hw := hz.at_ (k / 16)
  unfold Wd.W at hw
  have p1 := pow_pos2 (4 * (k % 16))
  have p2 : (2 : Int) ^ (4 * (k % 16) + 4) = 16 * 2 ^ (4 * (k % 16)) := by rw [Int.pow_add, Int.mul_comm]; rfl
  have hd1 : 0 ≤ d * 2 ^ (4 * (k % 16)) := Int.mul_nonneg hd0 (by omega)
  have hd2 : d * 2 ^ (4 * (k % 16)) ≤ 15 * 2 ^ (4 * (k % 16)) := Int.mul_le_mul_of_nonneg_right (by omega) (by omega)
  have e2 : (18446744073709551616 : Int) = 2 ^ (4 * (k % 16) + 4) * 2 ^ (60 - 4 * (k % 16)) := by
    have : (2 : Int) ^ 64 = 2 ^ (4 * (k % 16) + 4) * 2 ^ (60 - 4 * (k % 16)) := by rw [← Int.pow_add]; congr 1; omega
    exact this
  have p3 := pow_pos2 (60 - 4 * (k % 16))
  have hle : Nt.at_ zs (k / 16) + 2 ^ (4 * (k % 16) + 4) ≤ 18446744073709551616 := by
    obtain ⟨q, hq⟩ := Int.dvd_of_emod_eq_zero hm
    rw [hq] at hw ⊢
    have hq1 : q < 2 ^ (60 - 4 * (k % 16)) := by
      have h4 : 2 ^ (4 * (k % 16) + 4) * q < 2 ^ (4 * (k % 16) + 4) * 2 ^ (60 - 4 * (k % 16)) := by omega
      exact Int.lt_of_mul_lt_mul_left h4 (by omega)
    have h5 : 2 ^ (4 * (k % 16) + 4) * (q + 1) ≤ 2 ^ (4 * (k % 16) + 4) * 2 ^ (60 - 4 * (k % 16)) := Int.mul_le_mul_of_nonneg_left (by omega) (by omega)
    rw [Int.mul_add, Int.mul_one] at h5
    omega
  refine ⟨?_, hd1, by omega, by unfold Wd.W; omega, ?_⟩
  · exact or_add _ _ (4 * (k % 16) + 4) hw.1 hw.2 hm hd1 (by omega) (by omega)
  · rw [V_set _ _ _ (by omega), show Nt.at_ zs (k / 16) + d * 2 ^ (4 * (k % 16)) - Nt.at_ zs (k / 16) = d * 2 ^ (4 * (k % 16)) by omega]
    have e : (16 : Int) ^ k = P (k / 16) * 2 ^ (4 * (k % 16)) := by
      rw [← P16, Nat.mul_comm 4 (k % 16), pow16, ← Int.pow_add]; congr 1; omega
    rw [e, Int.mul_left_comm]
theorem hexV_take {l : List UInt8} {i : Nat} (h : i < l.length) : hexV (l.take (i + 1)) = hexV (l.take i) * 16 + (dv_ (l[i]'h).toNat : Int) := by
  induction l generalizing i with
  | nil => cases h
  | cons b l ih =>
    cases i with
    | zero => simp [hexV]
    | succ i =>
      have hi : i < l.length := by simpa using h
      simp only [List.take_succ_cons, List.getElem_cons_succ]
      simp only [hexV]
      rw [ih hi]
      have h1 : (l.take (i + 1)).length = (l.take i).length + 1 := by rw [List.length_take, List.length_take]; omega
      rw [h1, Int.pow_succ, Int.add_mul, ← Int.mul_assoc]
      omega
theorem dgi_nn {c : Nat} (h : (hexd c).isSome = true) : dgi c = (dv_ c : Int) := if_pos h
theorem dgi_neg {c : Nat} (h : (hexd c).isSome = false) : dgi c = -1 := if_neg (by rw [h]; simp)
/-- what is read of a text that is not empty -/
def ReadPostR (w : World) (l : List UInt8) (e : Ending) (w' : World) : Prop :=
  (¬ isHex l → e = .returned (.tuple #[.slice none 0 0, .int .i64 7]) ∧ w' = w) ∧
  (isHex l → 8192 < (Lib.trimLeftB l 48).length → e = .returned (.tuple #[.slice none 0 0, .int .i64 3]) ∧ w' = w) ∧
  (isHex l → (Lib.trimLeftB l 48).length ≤ 8192 → ∃ v, e = .returned (.tuple #[v, .int .i64 0]) ∧ NewR w w' v (hexV (Lib.trimLeftB l 48)) (((Lib.trimLeftB l 48).length + 15) / 16))
end Nt
end Go.Proofs.Ytopajockmcgpmaa
namespace Go.Proofs.Ytopajockmcgpmaa
open Go Go.RowKit
namespace Nt
open Wd Sti
set_option linter.unusedVariables false
theorem zeros_cells (j : Nat) : Builtin.zeroCells (Value.int .u64 0).cells j = us (List.replicate j 0) := by
  apply Array.ext <;> simp [Builtin.zeroCells, Value.cells, us, Nat.mod_one]
theorem zeros_list (j : Nat) : (us (List.replicate j 0)).toList = (List.replicate j 0).map (Value.int .u64) := by simp [us]

theorem wpList_append_zeros {P : Program} {w : World} {ops : Array Oper} {rest : List Oper} {o : Oper} {a : Act} {Q : Exit → Act → World → Prop} (hgd : o.guard = none) (s x : Operand) (t tx : TypeId)
    (ho : o.op = .call { callee := .builtin .append, args := #[s, x], argTypes := #[t, tx] }) (v sx : Value) (hs : a.eval s = v) (hx : a.eval x = sx) (v' : Value) (w' : World)
    (hrun : (Builtin.append_ #[t, tx] o.type #[v, sx]).run P w = .ok v' w') (h : wpList P ops Q rest (a.put o.dst v') w') : wpList P ops Q (o :: rest) a w :=
  wpList_plain hgd fun _ hK => by
    unfold Oper.wp execOp
    simp only [ho, resolve, invoke, builtin, Sem.run_bind, Sem.run_pure, Result.andThen_ok, List.map_toArray, List.map_cons, List.map_nil, hs, hx, hrun]
    exact hK _ _ h
theorem own_zeros {w : World} {B k : Nat} {v : Value} {xs : List Int} (ty : TypeId) (ho : Own B w v k xs) (j : Nat) (hk : k + j ≤ 1048576) (hB : B ≤ w.heap.size) :
    ∃ v' w', (Builtin.append_ #[24, 3] ty #[v, .int .i64 (j : Int)]).run Try.prog w = .ok v' w' ∧ Own B w' v' (k + j) (xs ++ List.replicate j 0) ∧ Below B w w' := by
  obtain ⟨i, hi, hz, h1, h2⟩ := info_parts info_u64
  have ht := Try.underlying24
  have hx : Try.prog.underlying 3 = some (.int .i64) := by kernel_rfl
  have hwr : IntKind.i64.wrap (j : Int) = (j : Int) := by rw [IntKind.wrap_i64]; omega
  have hw : Ws (xs ++ List.replicate j 0) := ho.ws.append (Ws.zeros _)
  have hnn : ¬ ((j : Int) < 0) := by omega
  have h8 : ¬ (281474976710656 < (j : Int) * 8) := by omega
  have hlen : xs.length = k := ho.len
  have hz8 : IntKind.i64.wrap 0 = 0 := rfl
  -- what a new row leaves
  have made : ∀ (c0 : Nat) (row : Option Nat), c0 < k + j →
      Own B (w.drew.alloc (.cells ((xs.map (Value.int .u64)).toArray ++ (us (List.replicate j 0) ++ Builtin.zeroCells (Value.int .u64 0).cells (grownCap w (k + j) c0 29 - (k + j)))) 29)) (.slice (some ⟨w.heap.size, 0, none⟩) (k + j) (grownCap w (k + j) c0 29)) (k + j) (xs ++ List.replicate j 0) ∧
      Below B w (w.drew.alloc (.cells ((xs.map (Value.int .u64)).toArray ++ (us (List.replicate j 0) ++ Builtin.zeroCells (Value.int .u64 0).cells (grownCap w (k + j) c0 29 - (k + j)))) 29)) := by
    intro c0 row hc0
    have hge := grownCap_ge w (k + j) c0 29
    have hcm := grownCap_le_maxLen w (k + j) c0 29 (by simp only [maxLen]; omega)
    refine ⟨⟨⟨by simp [hlen], .inr ⟨w.heap.size, _, _, rfl, hB, heap_alloc_new w.drew _, hge, hcm, ?_, ?_⟩⟩, hw⟩, (below_drewN (Below.refl B w) 1).alloc (by simpa using hB) _⟩
    · simp only [Array.size_append, List.size_toArray, List.length_map, hlen, us_size, List.length_replicate, size_zeroCells, Value.cells]
      simp
      omega
    · simp only [Array.toList_append, zeros_list, Nat.mul_one, List.map_append]
      rw [← List.append_assoc, List.take_append_of_le_length (by simp [hlen]), List.take_of_length_le (by simp [hlen])]
  rcases ho.own.2 with ⟨rfl, rfl⟩ | ⟨g, cap, cur, rfl, hbg, hg, hnc, hcm, hcs, htake⟩
  · obtain rfl : xs = [] := List.eq_nil_of_length_eq_zero hlen
    rcases Nat.eq_zero_or_pos j with rfl | hj
    · refine ⟨.slice none 0 0, w, ?_, Own.nil _ _, Below.refl _ _⟩
      simp [Builtin.append_, run_underlying ht, run_underlying hx, sizeOf, typeInfo, hi, h2, asInt, asIntOf, hz8]
    · obtain ⟨m1, m2⟩ := made 0 none (by omega)
      have hn : j ≠ 0 := by omega
      have h63 : ¬ (9223372036854775807 < (j : Int)) := by omega
      have h48 : ¬ (281474976710656 < Builtin.nextslicecap j 0 * 8) := by rw [nextslicecap_zero hj]; omega
      simp only [Nat.zero_add, List.map_nil, List.nil_append] at m1 m2 ⊢
      refine ⟨_, _, ?_, m1, m2⟩
      simp [Builtin.append_, run_underlying ht, run_underlying hx, sizeOf, typeInfo, zeroValue, hi, hz, h1, h2, asInt, asIntOf, hwr, hnn, h8, hn, h63, h48, Question.forced, run_firstCells_none, newRow, grownCap, zeros_cells]
  · have hcells : ∀ q u, (xs.map (Value.int .u64))[q]? = some u → w.cell? ((⟨g, 0, none⟩ : Addr).add q) = some u := World.ownsRow.cells ho.own rfl
    by_cases hroom : k + j ≤ cap
    · rcases Nat.eq_zero_or_pos j with rfl | hj
      · refine ⟨.slice (some ⟨g, 0, none⟩) k cap, w, ?_, by simpa using ho, Below.refl _ _⟩
        simp [Builtin.append_, run_underlying ht, run_underlying hx, sizeOf, typeInfo, hi, h2, asInt, asIntOf, hz8, hnc, storeCells]
      · have hst := run_storeCells_at Try.prog g k 29 ((List.replicate j 0).map (Value.int .u64)) 0 cur w hg (by simp; omega) (fun u hu => by obtain ⟨x, _, rfl⟩ := List.mem_map.1 hu; simp [Value.oneCell'])
        simp only [Nat.add_zero, ← zeros_list] at hst
        have hn : j ≠ 0 := by omega
        have hgr : w.grownBy (w.setRow g (cur.toList.take k ++ (us (List.replicate j 0)).toList ++ cur.toList.drop (k + (us (List.replicate j 0)).toList.length)).toArray) (some g) := ⟨rfl, rfl, rfl, by simp, fun q _ hq => setRow_other w g q _ (fun e => hq (by rw [e]))⟩
        refine ⟨.slice (some ⟨g, 0, none⟩) (k + j) cap, w.setRow g (cur.toList.take k ++ (us (List.replicate j 0)).toList ++ cur.toList.drop (k + (us (List.replicate j 0)).toList.length)).toArray, ?_, ⟨⟨by simp [hlen], .inr ⟨g, cap, _, rfl, hbg, setRow_heap w g cur _ 29 _ hg, hroom, hcm, ?_, ?_⟩⟩, hw⟩, (Below.refl B w).grown hgr hB (fun q e => by cases e; exact hbg)⟩
        · simp [Builtin.append_, run_underlying ht, run_underlying hx, sizeOf, typeInfo, zeroValue, hi, hz, h1, h2, asInt, asIntOf, hwr, hnn, h8, hn, hroom, zeros_cells, Addr.add_lit, hst]
        · simp only [List.size_toArray, List.length_append, List.length_take, List.length_drop, Array.length_toList, us_size, List.length_replicate]
          omega
        · rw [Nat.mul_one] at htake
          simp only [Nat.mul_one, List.map_append, zeros_list]
          rw [htake, List.take_append_of_le_length (by simp [hlen]), List.take_of_length_le (by simp [hlen])]
    · obtain ⟨m1, m2⟩ := made cap none (by omega)
      have hn : ¬ (k + j ≤ cap) := by omega
      have hj : j ≠ 0 := by omega
      have h63 : ¬ (9223372036854775807 < ((k : Int) + (j : Int))) := by omega
      have h48 := growslice_fits (need := k + j) (old := cap) (bytes := 8) (by omega) (by omega)
      have h48' : ¬ (281474976710656 < Builtin.nextslicecap (k + j) cap * 8) := by omega
      have hfo := run_firstCells_some (P := Try.prog) w.drew 1 k ⟨g, 0, none⟩ k cap (xs.map (Value.int .u64)) (by simp [hlen]) (by simpa using hcells)
      refine ⟨_, _, ?_, m1, m2⟩
      simp [Builtin.append_, run_underlying ht, run_underlying hx, sizeOf, typeInfo, zeroValue, hi, hz, h1, h2, asInt, asIntOf, hwr, hnn, h8, hn, hj, h63, h48', Question.forced, hfo, newRow, grownCap, zeros_cells]

end Nt
end Go.Proofs.Ytopajockmcgpmaa
