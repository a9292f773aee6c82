/- The document's own Add and Sub: limbs put behind limbs. -/
import Derived.Test.YtdklchejnpaenaaDoorRfB
import Derived.Deep.QuietTactic
import Derived.BigQuiet
namespace Go.Proofs.YtdklchejnpaenaaDoor
open Go Go.RowKit
namespace Nt
open Wd Sti
set_option linter.unusedVariables false

theorem radd_step {os xs ys : List Int} {k : Nat} {c : Bool} (hk : os.length = k) (hx : Ws xs) (hy : Ws ys) (h : V os + P k * b1 c = lo xs k + lo ys k) :
    V (os ++ [Wd.add (Nt.at_ xs k) (Nt.at_ ys k) c]) + P (k + 1) * b1 (addO (Nt.at_ xs k) (Nt.at_ ys k) c) = lo xs (k + 1) + lo ys (k + 1) := by
  have e := add_eq (hx.at_ k) (hy.at_ k) c
  rw [V_append, lo_succ, lo_succ, P_succ, hk]
  generalize Wd.add (Nt.at_ xs k) (Nt.at_ ys k) c = s at *
  generalize addO (Nt.at_ xs k) (Nt.at_ ys k) c = d at *
  have e2 : P k * V [s] + 18446744073709551616 * P k * b1 d = P k * (s + 18446744073709551616 * b1 d) := by
    simp only [V, Int.mul_zero, Int.add_zero]
    rw [Int.mul_add (P k) s (18446744073709551616 * b1 d), Int.mul_comm 18446744073709551616 (P k), Int.mul_assoc]
  rw [Int.add_assoc, e2, e, Int.mul_add, Int.mul_add]
  omega
theorem rsub_step {os xs ys : List Int} {k : Nat} {c : Bool} (hk : os.length = k) (hx : Ws xs) (hy : Ws ys) (h : V os - P k * b1 c = lo xs k - lo ys k) :
    V (os ++ [Wd.sub (Nt.at_ xs k) (Nt.at_ ys k) c]) - P (k + 1) * b1 (subO (Nt.at_ xs k) (Nt.at_ ys k) c) = lo xs (k + 1) - lo ys (k + 1) := by
  have e := sub_eq (hx.at_ k) (hy.at_ k) c
  rw [V_append, lo_succ, lo_succ, P_succ, hk]
  generalize Wd.sub (Nt.at_ xs k) (Nt.at_ ys k) c = s at *
  generalize subO (Nt.at_ xs k) (Nt.at_ ys k) c = d at *
  have e2 : P k * V [s] - 18446744073709551616 * P k * b1 d = P k * (s - 18446744073709551616 * b1 d) := by
    simp only [V, Int.mul_zero, Int.add_zero]
    rw [Int.mul_sub (P k) s (18446744073709551616 * b1 d), Int.mul_comm 18446744073709551616 (P k), Int.mul_assoc]
  rw [Int.add_sub_assoc, e2, e, Int.mul_sub, Int.mul_sub]
  omega
/-- one limb more, off a row that is built for it -/
theorem own_one {w : World} {B k : Nat} {v : Value} {os : List Int} {s : Int} (ty : TypeId) (ho : Own B w v k os) (hs : Wd.W s) (hk : k + 1 ≤ 1048576) (hB : B ≤ w.heap.size) :
    ∃ v' w', (Builtin.append_ #[24, 24] ty #[v, .slice (some ⟨w.heap.size, 0, none⟩) 1 1]).run Tryd.prog (w.alloc (.cells #[.int .u64 s] 28)) = .ok v' w' ∧ Hid (Own B w' v' (k + 1) (os ++ [s]) ∧ Below B w w') := by
  have hw : Ws [s] := fun x hx => by simp at hx; subst hx; exact hs
  have h1 : Bk (w.alloc (.cells (us [s]) 28)) w.heap.size 28 (us [s]) := Bk.new _ _ _
  have ho' : Own B (w.alloc (.cells (us [s]) 28)) v k os := ⟨ho.own.alloc _, ho.ws⟩
  obtain ⟨v', w', g1, g2, g3⟩ := own_append (c := 1) ty ho' (h1.rd0 h1.lt hw rfl) hk (by simp; omega)
  exact ⟨v', w', g1, Lib.hid ⟨g2, ((Below.refl _ w).alloc hB _).trans g3⟩⟩

set_option maxRecDepth 100000 in
set_option maxHeartbeats 2000000 in
theorem add_r (A B : Option Addr) (na ca nb cb : Nat) (xs ys : List Int) (w : World) (ha : At w A na xs) (hb : At w B nb ys) (la : na ≤ 524288) (lb : nb ≤ 524288) :
    Calls Tryd.prog 33 #[.slice A na ca, .slice B nb cb] w fun e w' => ∃ v, e = .returned v ∧ NewR w w' v (V xs + V ys) (max na nb + 1) := by
  have HA := Lib.hid ha
  have HB := Lib.hid hb
  clear ha hb
  go_enter Tryd.func33, Tryd.ntmps33
  go_wp2_with fail
  go_loopw [5, 6, 7] (fun v b i wr => ∃ (k : Nat) (c : Bool) (os : List Int), k ≤ max na nb + 1 ∧ b = .bool c ∧ i = .int .i64 (k : Int) ∧ Hid (Own w.heap.size wr v k os ∧ V os + P k * b1 c = lo xs k + lo ys k ∧ Below w.heap.size w wr)) (fun _ _ i _ => (max na nb + 1) - (intOf i).toNat)
  case atStart => exact ⟨0, false, [], by omega, rfl, rfl, Lib.hid ⟨Own.nil _ _, by rw [lo_zero, lo_zero, b1_f]; rfl, Below.refl _ _⟩⟩
  case round =>
    obtain ⟨k, c, os, hk, rfl, rfl, H⟩ := hrel
    by_cases hlt : k ≤ max na nb
    · have HX := Lib.hid (limb_r A na ca k w.heap.size xs wr (HA.out.below H.out.2.2) (by omega))
      have HY := Lib.hid (limb_r B nb cb k w.heap.size ys wr (HB.out.below H.out.2.2) (by omega))
      have hwx := HA.out.ws.at_ k
      have hwy := HB.out.ws.at_ k
      have HC := fun w' => Lib.hid (radd_c (Nt.at_ xs k) (Nt.at_ ys k) c w' hwx hwy)
      have hst := radd_step H.out.1.len HA.out.ws HB.out.ws H.out.2.1
      obtain ⟨v', w', hap, H'⟩ := own_one (s := Wd.add (Nt.at_ xs k) (Nt.at_ ys k) c) 24 H.out.1 (W_add _ _ _) (by omega) H.out.2.2.size
      have HS := Lib.hid hst
      have HN : Hid (Own w.heap.size w' v' (k + 1) (os ++ [Wd.add (Nt.at_ xs k) (Nt.at_ ys k) c]) ∧ V (os ++ [Wd.add (Nt.at_ xs k) (Nt.at_ ys k) c]) + P (k + 1) * b1 (addO (Nt.at_ xs k) (Nt.at_ ys k) c) = lo xs (k + 1) + lo ys (k + 1) ∧ Below w.heap.size w w') :=
        Lib.hid ⟨H'.out.1, HS.out, H.out.2.2.trans H'.out.2⟩
      clear H H' HS hst hwx hwy
      have hki : (k : Int) ≤ max (na : Int) (nb : Int) := by omega
      go_wp2_with fail
      go_at_call 60
      refine HX.out.mono ?_
      rintro e w' ⟨rfl, rfl⟩
      go_wp2_with fail
      go_at_call 60
      refine HY.out.mono ?_
      rintro e w' ⟨rfl, rfl⟩
      go_wp2_with fail
      go_at_call 62
      refine (HC _).out.mono ?_
      rintro e w' ⟨rfl, rfl⟩
      go_wp2_with (at_builtin; refine wpList_append_eq rfl (.tmp 29) (.tmp 31) 24 rfl _ _ rfl rfl _ _ hap ?_)
      go_roundw
      case rel => exact ⟨k + 1, _, _, by omega, rfl, by go_num, HN⟩
      case measure => (simp [intOf] <;> omega)
    · have hk' : k = max na nb + 1 := by omega
      obtain ⟨A1, c1, rfl, h1, h2, h3⟩ := H.out.1.slice
      have HT := Lib.hid (trim_r A1 k c1 os wr h1 h2 h3 (by omega))
      have hv : V os = V xs + V ys := by
        have e := H.out.2.1
        rw [lo_all (xs := xs) (by have := HA.out.len; omega), lo_all (xs := ys) (by have := HB.out.len; omega)] at e
        have x1 := V_lt HA.out.ws
        have x2 := V_lt HB.out.ws
        have x3 := V_nonneg H.out.1.ws
        have x4 := P_mono (show xs.length ≤ max na nb by have := HA.out.len; omega)
        have x5 := P_mono (show ys.length ≤ max na nb by have := HB.out.len; omega)
        have x6 := P_pos (max na nb)
        have x7 : P k = 18446744073709551616 * P (max na nb) := by rw [hk', P_succ]
        cases c with
        | false => rw [b1_f, Int.mul_zero] at e; omega
        | true => rw [b1_t, Int.mul_one] at e; omega
      have HV := Lib.hid hv
      have hl : (trim os).length ≤ max na nb + 1 := by have := trim_le os; have := H.out.1.len; omega
      have HL := Lib.hid hl
      have HB2 := Lib.hid H.out.2.2
      have hki : max (na : Int) (nb : Int) < (k : Int) := by omega
      clear H h1 hv hl hk'
      go_wp2_with fail
      go_at_call 31
      refine HT.out.mono ?_
      rintro e w' ⟨v, rfl, hO, hB⟩
      have HO := Lib.hid hO
      have HB3 := Lib.hid hB
      clear hO hB
      go_wp2_with fail
      go_ret
      refine ⟨_, rfl, newR_of HO.out (trim_trim _) (by rw [V_trim]; exact HV.out) HL.out (HB2.out.trans (HB3.out.mono HB2.out.size)) HB2.out.size⟩

set_option maxRecDepth 100000 in
set_option maxHeartbeats 2000000 in
theorem subE_r (A B : Option Addr) (na ca nb cb : Nat) (xs ys : List Int) (w : World) (ha : At w A na xs) (hb : At w B nb ys) (la : na ≤ 524288) (lb : nb ≤ 524288) (hv : V xs < V ys) :
    Calls Tryd.prog 27 #[.slice A na ca, .slice B nb cb] w fun e w' => e = .returned (.tuple #[.slice none 0 0, .int .i64 2]) ∧ w' = w := by
  have HC := Lib.hid (compare_r A B na ca nb cb _ _ xs ys w ha hb (by omega) (by omega))
  rw [cmp_lt' hv] at HC
  clear ha hb hv
  go_enter Tryd.func27, Tryd.ntmps27
  go_wp2_with fail
  go_at_call 32
  refine HC.out.mono ?_
  rintro e w' ⟨rfl, rfl⟩
  go_wp2_with fail
  go_ret2
  exact ⟨rfl, rfl⟩
set_option maxRecDepth 100000 in
set_option maxHeartbeats 2000000 in
theorem sub_r (A B : Option Addr) (na ca nb cb : Nat) (xs ys : List Int) (w : World) (ha : At w A na xs) (hb : At w B nb ys) (la : na ≤ 524288) (lb : nb ≤ 524288) (hv : V ys ≤ V xs) :
    Calls Tryd.prog 27 #[.slice A na ca, .slice B nb cb] w fun e w' => ∃ v, e = .returned (.tuple #[v, .int .i64 0]) ∧ NewR w w' v (V xs - V ys) (max na nb) := by
  have HC := Lib.hid (compare_r A B na ca nb cb _ _ xs ys w ha hb (by omega) (by omega))
  have hcn : ∃ z : Int, cmpN (V xs) (V ys) = z ∧ 0 ≤ z := ⟨_, rfl, by unfold cmpN; rw [if_neg (by omega)]; split <;> omega⟩
  obtain ⟨z, hz, hz0⟩ := hcn
  rw [hz] at HC
  have HA := Lib.hid ha
  have HB := Lib.hid hb
  have HVV := Lib.hid hv
  clear ha hb hz hv
  go_enter Tryd.func27, Tryd.ntmps27
  go_wp2_with fail
  go_at_call 32
  refine HC.out.mono ?_
  rintro e w' ⟨rfl, rfl⟩
  clear HC
  obtain ⟨w, rfl⟩ : ∃ w, w = w' := ⟨_, rfl⟩
  go_wp2_with fail
  go_loopw [6, 7, 8] (fun v b i wr => ∃ (k : Nat) (c : Bool) (os : List Int), k ≤ max na nb ∧ b = .bool c ∧ i = .int .i64 (k : Int) ∧ Hid (Own w.heap.size wr v k os ∧ V os - P k * b1 c = lo xs k - lo ys k ∧ Below w.heap.size w wr)) (fun _ _ i _ => (max na nb) - (intOf i).toNat)
  case atStart => exact ⟨0, false, [], by omega, rfl, rfl, Lib.hid ⟨Own.nil _ _, by rw [lo_zero, lo_zero, b1_f]; rfl, Below.refl _ _⟩⟩
  case round =>
    obtain ⟨k, c, os, hk, rfl, rfl, H⟩ := hrel
    by_cases hlt : k < max na nb
    · have HX := Lib.hid (limb_r A na ca k w.heap.size xs wr (HA.out.below H.out.2.2) (by omega))
      have HY := Lib.hid (limb_r B nb cb k w.heap.size ys wr (HB.out.below H.out.2.2) (by omega))
      have hwx := HA.out.ws.at_ k
      have hwy := HB.out.ws.at_ k
      have HC := fun w' => Lib.hid (rsub_c (Nt.at_ xs k) (Nt.at_ ys k) c w' hwx hwy)
      have hst := rsub_step H.out.1.len HA.out.ws HB.out.ws H.out.2.1
      obtain ⟨v', w', hap, H'⟩ := own_one (s := Wd.sub (Nt.at_ xs k) (Nt.at_ ys k) c) 24 H.out.1 (W_sub _ _ _) (by omega) H.out.2.2.size
      have HS := Lib.hid hst
      have HN : Hid (Own w.heap.size w' v' (k + 1) (os ++ [Wd.sub (Nt.at_ xs k) (Nt.at_ ys k) c]) ∧ V (os ++ [Wd.sub (Nt.at_ xs k) (Nt.at_ ys k) c]) - P (k + 1) * b1 (subO (Nt.at_ xs k) (Nt.at_ ys k) c) = lo xs (k + 1) - lo ys (k + 1) ∧ Below w.heap.size w w') :=
        Lib.hid ⟨H'.out.1, HS.out, H.out.2.2.trans H'.out.2⟩
      clear H H' HS hst hwx hwy
      have hki : (k : Int) < max (na : Int) (nb : Int) := by omega
      go_wp2_with fail
      go_at_call 60
      refine HX.out.mono ?_
      rintro e w' ⟨rfl, rfl⟩
      go_wp2_with fail
      go_at_call 60
      refine HY.out.mono ?_
      rintro e w' ⟨rfl, rfl⟩
      go_wp2_with fail
      go_at_call 59
      refine (HC _).out.mono ?_
      rintro e w' ⟨rfl, rfl⟩
      go_wp2_with (at_builtin; refine wpList_append_eq rfl (.tmp 34) (.tmp 36) 24 rfl _ _ rfl rfl _ _ hap ?_)
      go_roundw
      case rel => exact ⟨k + 1, _, _, by omega, rfl, by go_num, HN⟩
      case measure => (simp [intOf] <;> omega)
    · have hk' : k = max na nb := by omega
      obtain ⟨A1, c1, rfl, h1, h2, h3⟩ := H.out.1.slice
      have HT := Lib.hid (trim_r A1 k c1 os wr h1 h2 h3 (by omega))
      have hv : V os = V xs - V ys := by
        have e := H.out.2.1
        rw [lo_all (xs := xs) (by have := HA.out.len; omega), lo_all (xs := ys) (by have := HB.out.len; omega)] at e
        have x1 := V_lt H.out.1.ws
        rw [H.out.1.len] at x1
        have x2 := HVV.out
        cases c with
        | false => rw [b1_f, Int.mul_zero] at e; omega
        | true => rw [b1_t, Int.mul_one] at e; omega
      have HV := Lib.hid hv
      have hl : (trim os).length ≤ max na nb := by have := trim_le os; have := H.out.1.len; omega
      have HL := Lib.hid hl
      have HB2 := Lib.hid H.out.2.2
      have hki : max (na : Int) (nb : Int) ≤ (k : Int) := by omega
      clear H h1 hv hl hk'
      go_wp2_with fail
      go_at_call 31
      refine HT.out.mono ?_
      rintro e w' ⟨v, rfl, hO, hB⟩
      have HO := Lib.hid hO
      have HB3 := Lib.hid hB
      clear hO hB
      go_wp2_with fail
      go_ret2
      refine ⟨_, rfl, newR_of HO.out (trim_trim _) (by rw [V_trim]; exact HV.out) HL.out (HB2.out.trans (HB3.out.mono HB2.out.size)) HB2.out.size⟩
end Nt
end Go.Proofs.YtdklchejnpaenaaDoor
