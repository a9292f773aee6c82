/- The parts of Div: limbsOf, a row doubled, a row shifted down, a bit set. -/
import Derived.Test.YtdklchejnpaenaaDoorNatR
import Derived.RegionTactic
import Derived.BigRegion
import Derived.Deep.RegionWith
namespace Go.Proofs.YtdklchejnpaenaaDoor
open Go Go.RowKit
namespace Nt
open Wd Sti
set_option linter.unusedVariables false

theorem limbsOf_c (b : Nat) (w : World) (h : b ≤ 1099511627776) : Calls Tryd.prog 45 #[.int .i64 (b : Int)] w fun e w' => e = .returned (.int .i64 (((b + 63) / 64 : Nat) : Int)) ∧ w' = w := by
  go_enter Tryd.func45, Tryd.ntmps45
  go_wp2_with fail
  go_ret
  exact ⟨ret_i (show ((b : Int) + 64 - 1) / 64 = _ by omega), rfl⟩

/-! ### set -/
theorem pow2_lt64 {r : Nat} (h : r < 64) : (2 : Int) ^ r ≤ 9223372036854775808 := by
  have := pow_le (show r ≤ 63 by omega)
  have e : (2 : Int) ^ 63 = 9223372036854775808 := rfl
  omega
theorem set_bit {zs : List Int} {m i : Nat} (hz : Ws zs) (hl : zs.length = m) (hi : i / 64 < m) (hv : V zs % 2 ^ (i + 1) = 0) :
    bits .or .u64 (Nt.at_ zs (i / 64)) (2 ^ (i % 64)) = Nt.at_ zs (i / 64) + 2 ^ (i % 64) ∧ W (Nt.at_ zs (i / 64) + 2 ^ (i % 64)) ∧ V (zs.set (i / 64) (Nt.at_ zs (i / 64) + 2 ^ (i % 64))) = V zs + 2 ^ i := by
  have hr : i % 64 < 64 := Nat.mod_lt _ (by omega)
  have hp := P_pos (i / 64)
  have h2 := pow2_lt64 hr
  have h1 := pow_pos2 (i % 64)
  have hw := hz.at_ (i / 64)
  have hm : Nt.at_ zs (i / 64) % 2 ^ (i % 64 + 1) = 0 := by
    rw [V_at zs hz]
    obtain ⟨q, hq⟩ := Int.dvd_of_emod_eq_zero hv
    have e : (2 : Int) ^ (i + 1) = P (i / 64) * 2 ^ (i % 64 + 1) := by
      rw [← two_P, ← Int.pow_add]; congr 1; omega
    rw [hq, e, Int.mul_assoc, Int.mul_ediv_cancel_left _ (by omega)]
    have e2 : (18446744073709551616 : Int) = 2 ^ (i % 64 + 1) * 2 ^ (63 - i % 64) := by
      have : (2 : Int) ^ 64 = 2 ^ (i % 64 + 1) * 2 ^ (63 - i % 64) := by rw [← Int.pow_add]; congr 1; omega
      exact this
    rw [e2, Int.mul_emod_mul_of_pos _ _ (by have := pow_pos2 (i % 64 + 1); omega), Int.mul_emod_right]
  have hle : Nt.at_ zs (i / 64) + 2 ^ (i % 64) ≤ 18446744073709551615 := by
    -- a multiple of 2^(r+1) below 2^64, and 2^r
    obtain ⟨q, hq⟩ := Int.dvd_of_emod_eq_zero hm
    have e2 : (18446744073709551616 : Int) = 2 ^ (i % 64 + 1) * 2 ^ (63 - i % 64) := by
      have : (2 : Int) ^ 64 = 2 ^ (i % 64 + 1) * 2 ^ (63 - i % 64) := by rw [← Int.pow_add]; congr 1; omega
      exact this
    have hw' := hw
    unfold Wd.W at hw'
    have h3 := pow_pos2 (63 - i % 64)
    have e3 : (2 : Int) ^ (i % 64 + 1) = 2 * 2 ^ (i % 64) := by rw [Int.pow_succ]; omega
    rw [hq] at hw' ⊢
    have hq1 : q < 2 ^ (63 - i % 64) := by
      have h4 : 2 ^ (i % 64 + 1) * q < 2 ^ (i % 64 + 1) * 2 ^ (63 - i % 64) := by omega
      exact Int.lt_of_mul_lt_mul_left h4 (by omega)
    have h5 : 2 ^ (i % 64 + 1) * (q + 1) ≤ 2 ^ (i % 64 + 1) * 2 ^ (63 - i % 64) := Int.mul_le_mul_of_nonneg_left (by omega) (by omega)
    rw [Int.mul_add, Int.mul_one] at h5
    omega
  refine ⟨?_, by unfold Wd.W at hw ⊢; omega, ?_⟩
  · unfold Wd.W at hw
    have hm' : Nt.at_ zs (i / 64) % 2 ^ (i % 64 + 1) = 0 := hm
    exact or_add _ _ (i % 64 + 1) hw.1 hw.2 hm' (by omega) (by rw [Int.pow_succ]; omega) (by omega)
  · rw [V_set _ _ _ (by omega), show Nt.at_ zs (i / 64) + 2 ^ (i % 64) - Nt.at_ zs (i / 64) = 2 ^ (i % 64) by omega]
    have e : (2 : Int) ^ i = P (i / 64) * 2 ^ (i % 64) := by
      rw [← two_P, ← Int.pow_add]; congr 1; omega
    rw [e]
set_option maxRecDepth 100000 in
set_option maxHeartbeats 1000000 in
theorem set_n (g n c i : Nat) (zs : List Int) (w : World) (hr : Bk w g 28 (us zs)) (hz : Ws zs) (hl : zs.length = n) (hi : i / 64 < n) (hn : n ≤ 1073741824) (hv : V zs % 2 ^ (i + 1) = 0) :
    Calls Tryd.prog 48 #[.slice (some ⟨g, 0, none⟩) n c, .int .i64 (i : Int)] w fun e w' => (∃ v, e = .returned v) ∧ ∃ zs', Bk w' g 28 (us zs') ∧ zs'.length = n ∧ Ws zs' ∧ V zs' = V zs + 2 ^ i ∧ w.grownBy w' (some g) := by
  obtain ⟨q1, q4, q5⟩ := set_bit hz hl hi hv
  have hiz : i / 64 < zs.length := by omega
  have c5 : w.cell? ⟨g, i / 64, none⟩ = some (.int .u64 (Nt.at_ zs (i / 64))) := (hr.cell _).trans (us_get hiz)
  have f5 : w.frozen? ⟨g, i / 64, none⟩ = false := hr.frozen _
  have hkM : (i : Int) / 64 < (n : Int) := by omega
  have hr64 : i % 64 < 64 := Nat.mod_lt _ (by omega)
  have hp2 := pow2_lt64 hr64
  have hp1 := pow_pos2 (i % 64)
  have hii : (i : Int) ≤ 68719476736 := by omega
  have Q5 := Lib.hid q5
  have HL := Lib.hid hl
  clear q5 hl hv
  go_enter Tryd.func48, Tryd.ntmps48
  go_wp2_with fail
  go_region
  go_wp2_with fail
  go_end0
  refine ⟨⟨_, rfl⟩, zs.set (i / 64) (Nt.at_ zs (i / 64) + 2 ^ (i % 64)), ?_, by rw [List.length_set]; exact HL.out, hz.set _ q4, Q5.out, ?_⟩
  · have := hr.set_ (i / 64) (.int .u64 (Nt.at_ zs (i / 64) + 2 ^ (i % 64)))
    rw [us_set] at this
    exact this.drew
  · exact grownBy_trans (only_setCell _ _ _ _) (only_drew _ none) (fun j e => by cases e)

/-! ### double -/
theorem dbl_parts {x i : Int} (hx : W x) (hi : 0 ≤ i) (hi' : i ≤ 1) :
    bits .or .u64 (x * 2 % 18446744073709551616) i = x * 2 % 18446744073709551616 + i ∧ W (x * 2 % 18446744073709551616 + i) ∧ x * 2 % 18446744073709551616 + i + 18446744073709551616 * (x / 9223372036854775808) = 2 * x + i ∧ 0 ≤ x / 9223372036854775808 ∧ x / 9223372036854775808 ≤ 1 := by
  unfold Wd.W at *
  refine ⟨or_add _ _ 1 (by omega) (by omega) (by omega) hi (by omega) (by omega), by omega, by omega, by omega, by omega⟩
theorem dbl_step {zs zs' : List Int} {k : Nat} {i b : Int} (hk : k < zs'.length) (hz : Ws zs) (hi : 0 ≤ i) (hi' : i ≤ 1) (h : lo zs' k + P k * i = 2 * lo zs k + b) :
    lo (zs'.set k (Nt.at_ zs k * 2 % 18446744073709551616 + i)) (k + 1) + P (k + 1) * (Nt.at_ zs k / 9223372036854775808) = 2 * lo zs (k + 1) + b := by
  have e := (dbl_parts (hz.at_ k) hi hi').2.2.1
  rw [lo_succ, lo_succ, lo_set_ge _ _ _ _ (Nat.le_refl _), at_set _ _ _ _ hk, if_pos rfl, P_succ]
  generalize Nt.at_ zs k * 2 % 18446744073709551616 = r at *
  generalize Nt.at_ zs k / 9223372036854775808 = d at *
  generalize Nt.at_ zs k = x at *
  have e2 : P k * (r + i) + 18446744073709551616 * P k * d = P k * (r + i + 18446744073709551616 * d) := by
    rw [Int.mul_add (P k) (r + i), Int.mul_comm 18446744073709551616 (P k), Int.mul_assoc]
  rw [Int.add_assoc, e2, e, Int.mul_add, show P k * (2 * x) = 2 * (P k * x) by rw [Int.mul_left_comm], Int.mul_add]
  omega
set_option maxRecDepth 100000 in
set_option maxHeartbeats 2000000 in
theorem double_n (g n c : Nat) (one : Bool) (zs : List Int) (w : World) (hr : Bk w g 28 (us zs)) (hz : Ws zs) (hl : zs.length = n) (hn : n ≤ 1073741824) (hfit : 2 * V zs + b1 one < P n) :
    Calls Tryd.prog 47 #[.slice (some ⟨g, 0, none⟩) n c, .bool one] w fun e w' => (∃ v, e = .returned v) ∧ ∃ zs', Bk w' g 28 (us zs') ∧ zs'.length = n ∧ Ws zs' ∧ V zs' = 2 * V zs + b1 one ∧ w.grownBy w' (some g) := by
  have HM := fun w => Lib.hid (mask_c one w)
  have hb1 := b1_01 one
  have hand : bits .and .u64 (if one = true then 18446744073709551615 else 0) 1 = b1 one := by
    cases one
    · rw [if_neg (by decide), Wd.and_one 0 (by omega) (by omega)]; rfl
    · rw [if_pos rfl, Wd.and_one _ (by omega) (by omega)]; rfl
  have HF := Lib.hid hfit
  have HAND := Lib.hid hand
  clear hfit hand
  generalize hbv : b1 one = b at *
  clear hbv
  generalize (if one = true then (18446744073709551615 : Int) else 0) = mk at *
  have hand := HAND.out
  go_enter Tryd.func47, Tryd.ntmps47
  go_wp2_with fail
  go_at_call 65
  refine (HM _).out.mono ?_; rintro e w' ⟨rfl, rfl⟩
  go_wp2_with fail
  clear HM hand HAND
  obtain ⟨w, rfl⟩ : ∃ w', w' = w := ⟨_, rfl⟩
  go_loopw [4, 12] (fun i4 i12 W => ∃ (k : Nat) (zs' : List Int) (d : Int), k ≤ n ∧ i12 = .int .i64 k ∧ i4 = .int .u64 d ∧ 0 ≤ d ∧ d ≤ 1 ∧ Bk W g 28 (us zs') ∧ zs'.length = n ∧ Ws zs' ∧ lo zs' k + P k * d = 2 * lo zs k + b ∧ (∀ j, k ≤ j → Nt.at_ zs' j = Nt.at_ zs j) ∧ w.grownBy W (some g)) (fun _ i12 _ => n - (intOf i12).toNat)
  case atStart => exact ⟨0, zs, b, Nat.zero_le _, rfl, rfl, hb1.1, hb1.2, hr, hl, hz, by rw [lo_zero, P_zero]; omega, fun j _ => rfl, World.grownBy.refl w _⟩
  case round =>
    obtain ⟨k, zs', d, hk, rfl, rfl, hd0, hd1, g1, g2, g3, g4, g5, g6⟩ := hrel
    by_cases hlt : k < n
    · have hko : k < zs'.length := by omega
      have c5 : wr.cell? ⟨g, k, none⟩ = some (.int .u64 (Nt.at_ zs k)) := by rw [← g5 k (Nat.le_refl _)]; exact (g1.cell _).trans (us_get hko)
      have f5 : wr.frozen? ⟨g, k, none⟩ = false := g1.frozen _
      have hst := dbl_step hko hz hd0 hd1 g4
      obtain ⟨q1, q2, _, q4, q5⟩ := dbl_parts (hz.at_ k) hd0 hd1
      have hki : (k : Int) < (n : Int) := by omega
      have HST := Lib.hid hst
      have hw := hz.at_ k
      clear hst
      generalize Nt.at_ zs k = x at *
      unfold Wd.W at hw
      have hwr : IntKind.u64.wrap (x * 2) = x * 2 % 18446744073709551616 := by rw [IntKind.wrap_u64]
      have Q2 := Lib.hid q2
      clear q2
      go_wp2_with fail
      go_roundw
      case rel =>
        refine ⟨k + 1, zs'.set k (x * 2 % 18446744073709551616 + d), x / 9223372036854775808, by omega, by go_num, rfl, q4, q5, ?_, by rw [List.length_set]; exact g2, g3.set _ Q2.out, HST.out, fun j hj => ?_, grownBy_trans g6 (only_setCell _ _ _ _) (fun j e => .inl e)⟩
        · have := g1.set_ k (.int .u64 (x * 2 % 18446744073709551616 + d))
          rwa [us_set] at this
        · rw [at_set _ _ _ _ hko, if_neg (by omega)]; exact g5 j (by omega)
      case measure => (simp [intOf] <;> omega)
    · obtain rfl : k = n := by omega
      have hv : V zs' + P k * d = 2 * V zs + b := by
        rw [lo_all (by omega), lo_all (by omega)] at g4; exact g4
      have hd : d = 0 := by
        rcases (show d = 0 ∨ d = 1 by omega) with h | h
        · exact h
        · subst h
          have := V_nonneg g3
          have := HF.out
          omega
      have HV : Hid (V zs' = 2 * V zs + b) := Lib.hid (by rw [hd, Int.mul_zero, Int.add_zero] at hv; exact hv)
      have G1 := Lib.hid g1
      have G6 := Lib.hid g6
      clear g1 g4 g5 g6 hv
      go_wp2_with fail
      go_end0
      exact ⟨⟨_, rfl⟩, zs', G1.out, g2, g3, HV.out, G6.out⟩

/-! ### down -/
theorem down_limb {V0 : Int} {s p i : Nat} (h0 : 0 ≤ V0) (hp : p < 64) :
    V0 / P (s + i) % 18446744073709551616 / 2 ^ p + V0 / P (s + i + 1) % 18446744073709551616 * 2 ^ (64 - p) % 18446744073709551616 = V0 / 2 ^ (64 * s + p) / P i % 18446744073709551616 ∧
    0 ≤ V0 / P (s + i) % 18446744073709551616 / 2 ^ p ∧ V0 / P (s + i) % 18446744073709551616 / 2 ^ p < 2 ^ (64 - p) ∧ (V0 / P (s + i + 1) % 18446744073709551616 * 2 ^ (64 - p) % 18446744073709551616) % 2 ^ (64 - p) = 0 := by
  have hp1 := P_pos (s + i)
  have hp2 := P_pos i
  have a1 := pow_pos2 p
  have a2 := pow_pos2 (64 - p)
  have e1 : V0 / P (s + i + 1) = V0 / P (s + i) / 18446744073709551616 := by
    rw [P_succ, Int.mul_comm, ← Int.ediv_ediv_of_nonneg (by omega)]
  have e2 : V0 / 2 ^ (64 * s + p) / P i = V0 / P (s + i) / 2 ^ p := by
    rw [Int.pow_add, two_P, Int.ediv_ediv_of_nonneg (by have := P_pos s; exact Int.le_of_lt (Int.mul_pos (by omega) (by omega))), Int.ediv_ediv_of_nonneg (by omega), P_add]
    congr 1
    rw [Int.mul_assoc, Int.mul_comm (2 ^ p) (P i), ← Int.mul_assoc]
  rw [e1, e2]
  have hX : 0 ≤ V0 / P (s + i) := Int.ediv_nonneg h0 (by omega)
  generalize V0 / P (s + i) = X at *
  have eB : (18446744073709551616 : Int) = 2 ^ p * 2 ^ (64 - p) := by
    have : (2 : Int) ^ 64 = 2 ^ p * 2 ^ (64 - p) := by rw [← Int.pow_add]; congr 1; omega
    exact this
  generalize hA : (2 : Int) ^ p = A at *
  generalize hC : (2 : Int) ^ (64 - p) = C at *
  have hd := Int.emod_add_mul_ediv X 18446744073709551616
  have hm0 := Int.emod_nonneg X (show (18446744073709551616 : Int) ≠ 0 by decide)
  have hm1 := Int.emod_lt_of_pos X (show (0 : Int) < 18446744073709551616 by decide)
  have hl0 : 0 ≤ X % 18446744073709551616 / A := Int.ediv_nonneg hm0 (by omega)
  have hl1 : X % 18446744073709551616 / A < C := Int.ediv_lt_of_lt_mul (by omega) (by rw [Int.mul_comm, ← eB]; exact hm1)
  have hq : X / A = X % 18446744073709551616 / A + C * (X / 18446744073709551616) := by
    conv => lhs; rw [← hd, eB]
    rw [Int.mul_assoc, Int.add_mul_ediv_left _ _ (by omega), ← eB]
  -- the upper part is a multiple of C, also modulo 2^64
  have hmul : ∀ Z : Int, Z * C % 18446744073709551616 = C * (Z % A) := by
    intro Z
    rw [eB, Int.mul_comm Z C, Int.mul_comm A C, Int.mul_emod_mul_of_pos _ _ (by omega)]
  refine ⟨?_, hl0, hl1, ?_⟩
  · rw [hmul, hq]
    generalize X / 18446744073709551616 = Y at *
    generalize X % 18446744073709551616 / A = L at *
    have hy := Int.emod_add_mul_ediv Y A
    have hAy : (Y % 18446744073709551616) % A = Y % A := by
      rw [eB]; exact Int.emod_emod_of_dvd Y ⟨C, rfl⟩
    rw [hAy]
    have hYA0 := Int.emod_nonneg Y (show A ≠ 0 by omega)
    have hYA1 := Int.emod_lt_of_pos Y (show 0 < A by omega)
    have hT : C * (Y % A) + C ≤ 18446744073709551616 := by
      have h1 : C * (Y % A + 1) ≤ C * A := Int.mul_le_mul_of_nonneg_left (by omega) (by omega)
      rw [Int.mul_add, Int.mul_one] at h1
      rw [eB, Int.mul_comm A C]; exact h1
    have hT0 : 0 ≤ C * (Y % A) := Int.mul_nonneg (by omega) hYA0
    have h10 : C * (Y % A + A * (Y / A)) = C * (Y % A) + (A * C) * (Y / A) := by rw [Int.mul_add, ← Int.mul_assoc C A, Int.mul_comm C A]
    rw [hy, ← eB] at h10
    have hs : L + C * Y = (L + C * (Y % A)) + 18446744073709551616 * (Y / A) := by omega
    rw [hs, Int.add_mul_emod_self_left, Int.emod_eq_of_lt (a := L + C * (Y % A)) (by omega) (by omega)]
  · rw [hmul, Int.mul_emod_right]
theorem down_step {zs : List Int} {q : Int} {k : Nat} {v : Int} (hk : k < zs.length) (h : lo zs k = q % P k) (hv : v = q / P k % 18446744073709551616) (hq : 0 ≤ q) : lo (zs.set k v) (k + 1) = q % P (k + 1) := by
  have hp := P_pos k
  rw [lo_succ, lo_set_ge _ _ _ _ (Nat.le_refl _), at_set _ _ _ _ hk, if_pos rfl, h, hv, P_succ]
  have h1 := Int.emod_add_mul_ediv q (P k)
  have h2 := Int.emod_add_mul_ediv (q / P k) 18446744073709551616
  have b1 := Int.emod_nonneg q (show P k ≠ 0 by omega)
  have b2 := Int.emod_lt_of_pos q (show 0 < P k by omega)
  have b3 := Int.emod_nonneg (q / P k) (show (18446744073709551616 : Int) ≠ 0 by decide)
  have b4 := Int.emod_lt_of_pos (q / P k) (show (0 : Int) < 18446744073709551616 by decide)
  generalize q / P k % 18446744073709551616 = r at *
  generalize q / P k / 18446744073709551616 = t at *
  generalize q % P k = s at *
  have e : q = (s + P k * r) + (18446744073709551616 * P k) * t := by
    rw [← h1, ← h2, Int.mul_add, Int.mul_comm 18446744073709551616 (P k), Int.mul_assoc]; omega
  have h3 : P k * r + P k ≤ 18446744073709551616 * P k := by
    have : P k * (r + 1) ≤ P k * 18446744073709551616 := Int.mul_le_mul_of_nonneg_left (by omega) (by omega)
    rw [Int.mul_add, Int.mul_one] at this
    omega
  have h4 : 0 ≤ P k * r := Int.mul_nonneg (by omega) b3
  rw [e, Int.add_mul_emod_self_left, Int.emod_eq_of_lt (by omega) (by omega)]
set_option maxRecDepth 100000 in
set_option maxHeartbeats 4000000 in
theorem down_n (A : Option Addr) (na ca g m c st Ba : Nat) (xs zs : List Int) (w : World) (ha : Rd w Ba A na xs) (hBa : Ba ≤ g) (hr : Bk w g 28 (us zs)) (hz : Ws zs) (hl : zs.length = m) (hm : m ≤ 1073741824) (hst : st ≤ 68719476736) :
    Calls Tryd.prog 46 #[.slice A na ca, .int .i64 (st : Int), .slice (some ⟨g, 0, none⟩) m c] w fun e w' => (∃ v, e = .returned v) ∧ ∃ zs', Bk w' g 28 (us zs') ∧ zs'.length = m ∧ Ws zs' ∧ V zs' = V xs / 2 ^ st % P m ∧ w.grownBy w' (some g) := by
  have hgw := hr.lt
  have hq0 : 0 ≤ V xs / 2 ^ st := Int.ediv_nonneg (V_nonneg ha.ws) (by have := pow_pos2 st; omega)
  obtain ⟨s, p, hsp, hp⟩ : ∃ s p : Nat, st = 64 * s + p ∧ p < 64 := ⟨st / 64, st % 64, by omega, by omega⟩
  have hd1 : (st : Int) / 64 = (s : Int) := by omega
  have hd2 : (st : Int) % 64 = (p : Int) := by omega
  have hsb : s ≤ 1073741824 := by omega
  have HSP := Lib.hid hsp
  clear hsp
  go_enter Tryd.func46, Tryd.ntmps46
  go_wp2_with fail
  try rw [hd1]
  try rw [hd2]
  clear hd1 hd2
  go_loopw [15] (fun i W => ∃ (k : Nat) (zs' : List Int), k ≤ m ∧ i = .int .i64 k ∧ Bk W g 28 (us zs') ∧ zs'.length = m ∧ Ws zs' ∧ lo zs' k = V xs / 2 ^ st % P k ∧ w.grownBy W (some g)) (fun i _ => m - (intOf i).toNat)
  case atStart => exact ⟨0, zs, Nat.zero_le _, rfl, hr, hl, hz, by rw [lo_zero, P_zero, Int.emod_one], World.grownBy.refl w _⟩
  case round =>
    obtain ⟨k, zs', hk, rfl, g1, g2, g3, g4, g5⟩ := hrel
    by_cases hlt : k < m
    · have hko : k < zs'.length := by omega
      have haW : Rd wr Ba A na xs := ha.grown g5 (by omega) (fun j e => by cases e; exact hBa)
      have haWd : Rd wr.drew Ba A na xs := haW.drew
      have HW := Lib.hid haW
      have HWd := Lib.hid haWd
      obtain ⟨q1, q2, q3, q4⟩ := down_limb (V0 := V xs) (s := s) (p := p) (i := k) (V_nonneg ha.ws) hp
      rw [← V_at xs ha.ws, ← V_at xs ha.ws] at q1
      rw [← V_at xs ha.ws] at q2 q3 q4
      have c5 : wr.cell? ⟨g, k, none⟩ = some (.int .u64 (Nt.at_ zs' k)) := (g1.cell _).trans (us_get hko)
      have f5 : wr.frozen? ⟨g, k, none⟩ = false := g1.frozen _
      have hw1 := ha.ws.at_ (s + k)
      have hw2 := ha.ws.at_ (s + k + 1)
      have Q1 := Lib.hid q1
      clear q1
      unfold Wd.W at hw1 hw2
      have hki : (k : Int) < (m : Int) := by omega
      have w1 : IntKind.i64.wrap ((s : Int) + (k : Int)) = (s : Int) + (k : Int) := by rw [IntKind.wrap_i64]; omega
      have w2 : IntKind.i64.wrap ((s : Int) + (k : Int) + 1) = (s : Int) + (k : Int) + 1 := by rw [IntKind.wrap_i64]; omega
      have w3 : IntKind.i64.wrap (64 - (p : Int)) = 64 - (p : Int) := by rw [IntKind.wrap_i64]; omega
      have hor : bits .or .u64 (Nt.at_ xs (s + k) / 2 ^ p) (IntKind.u64.wrap (Nt.at_ xs (s + k + 1) * 2 ^ (64 - p))) = V xs / 2 ^ st / P k % 18446744073709551616 := by
        rw [IntKind.wrap_u64, HSP.out, ← Q1.out]
        have h64 := pow_le (show 64 - p ≤ 64 by omega)
        have e64 : (2 : Int) ^ 64 = 18446744073709551616 := rfl
        have h1 := Int.emod_nonneg (Nt.at_ xs (s + k + 1) * 2 ^ (64 - p)) (show (18446744073709551616 : Int) ≠ 0 by decide)
        have h2 := Int.emod_lt_of_pos (Nt.at_ xs (s + k + 1) * 2 ^ (64 - p)) (show (0 : Int) < 18446744073709551616 by decide)
        exact or_up h1 (by omega) q4 q2 q3 (by omega)
      have HST := Lib.hid (down_step (zs := zs') (v := V xs / 2 ^ st / P k % 18446744073709551616) hko g4 rfl hq0)
      have hvw := W_mod (V xs / 2 ^ st / P k)
      generalize V xs / 2 ^ st / P k % 18446744073709551616 = vv at *
      have cL1 := limb_c A na ca (s + k) Ba xs wr.drew haWd (by omega)
      have cL2 := limb_c A na ca (s + k + 1) Ba xs wr.drew haWd (by omega)
      have c5d : wr.drew.cell? ⟨g, k, none⟩ = some (.int .u64 (Nt.at_ zs' k)) := c5
      clear haW haWd
      go_wp2_with fail
      refine wp_region_still_tail 20 (by kernel_rfl) (by kernel_rfl) ?_
      simp only [List.take_succ_cons, List.take_zero, List.drop_succ_cons, List.drop_zero]
      iterate 6 still_step
      still_call cL1
      iterate 7 still_step
      still_call cL2
      iterate 5 still_step
      refine wpStill_nil ?_
      have HG1 := Lib.hid g1
      have HG5 := Lib.hid g5
      clear cL1 cL2 c5d hor w1 w2 w3 q2 q3 q4 g1 g4 g5
      go_wp2_with fail
      go_roundw
      case rel =>
        refine ⟨k + 1, zs'.set k vv, by omega, by go_num, ?_, by rw [List.length_set]; exact g2, g3.set _ hvw, HST.out, grownBy_trans (grownBy_trans HG5.out (only_setCell _ _ _ _) (fun j e => .inl e)) (only_drew _ none) (fun j e => by cases e)⟩
        have := HG1.out.set_ k (.int .u64 vv)
        rw [us_set] at this
        exact this.drew
      case measure => (simp [intOf] <;> omega)
    · obtain rfl : k = m := by omega
      have hv : V zs' = V xs / 2 ^ st % P k := by rw [lo_all (by omega)] at g4; exact g4
      have HV := Lib.hid hv
      have G1 := Lib.hid g1
      have G5 := Lib.hid g5
      clear g1 g4 g5 hv
      go_wp2_with fail
      go_end0
      exact ⟨⟨_, rfl⟩, zs', G1.out, g2, g3, HV.out, G5.out⟩
end Nt
end Go.Proofs.YtdklchejnpaenaaDoor
