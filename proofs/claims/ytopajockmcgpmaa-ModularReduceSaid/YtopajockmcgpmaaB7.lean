/- The parts of Div: limbsOf, a row doubled, a row shifted down, a bit set. | Div: quotient and rest, bit by bit. | Div in one shape. -/
import Derived.Test.YtopajockmcgpmaaB4
import Derived.Test.YtopajockmcgpmaaB6
import Derived.RegionTactic
import Derived.BigRegion
import Derived.Deep.RegionWith
namespace Go.Proofs.Ytopajockmcgpmaa
open Go Go.RowKit
namespace Nt
open Wd Sti
set_option linter.unusedVariables false
theorem limbsOf_c (b : Nat) (w : World) (h : b ≤ 1099511627776) : Calls Try.prog 71 #[.int .i64 (b : Int)] w fun e w' => e = .returned (.int .i64 (((b + 63) / 64 : Nat) : Int)) ∧ w' = w := by
  go_enter Try.func71, Try.ntmps71
  go_wp2_with fail
  go_ret
  exact ⟨ret_i (show ((b : Int) + 64 - 1) / 64 = _ by omega), rfl⟩

/-! ### set -/
theorem pow2_lt64 {r : Nat} (h : r < 64) : (2 : Int) ^ r ≤ 9223372036854775808 := by
  have := pow_le (show r ≤ 63 by omega)
  have e : (2 : Int) ^ 63 = 9223372036854775808 := rfl
  omega
theorem set_bit {zs : List Int} {m i : Nat} (hz : Ws zs) (hl : zs.length = m) (hi : i / 64 < m) (hv : V zs % 2 ^ (i + 1) = 0) :
    bits .or .u64 (Nt.at_ zs (i / 64)) (2 ^ (i % 64)) = Nt.at_ zs (i / 64) + 2 ^ (i % 64) ∧ W (Nt.at_ zs (i / 64) + 2 ^ (i % 64)) ∧ V (zs.set (i / 64) (Nt.at_ zs (i / 64) + 2 ^ (i % 64))) = V zs + 2 ^ i := by
  have hr : i % 64 < 64 := Nat.mod_lt _ (by omega)
  have hp := P_pos (i / 64)
  have h2 := pow2_lt64 hr
  have h1 := pow_pos2 (i % 64)
  have hw := hz.at_ (i / 64)
  have hm : Nt.at_ zs (i / 64) % 2 ^ (i % 64 + 1) = 0 := by
    rw [V_at zs hz]
    obtain ⟨q, hq⟩ := Int.dvd_of_emod_eq_zero hv
    have e : (2 : Int) ^ (i + 1) = P (i / 64) * 2 ^ (i % 64 + 1) := by
      rw [← two_P, ← Int.pow_add]; congr 1; omega
    rw [hq, e, Int.mul_assoc, Int.mul_ediv_cancel_left _ (by omega)]
    have e2 : (18446744073709551616 : Int) = 2 ^ (i % 64 + 1) * 2 ^ (63 - i % 64) := by
      have : (2 : Int) ^ 64 = 2 ^ (i % 64 + 1) * 2 ^ (63 - i % 64) := by rw [← Int.pow_add]; congr 1; omega
      exact this
    rw [e2, Int.mul_emod_mul_of_pos _ _ (by have := pow_pos2 (i % 64 + 1); omega), Int.mul_emod_right]
  have hle : Nt.at_ zs (i / 64) + 2 ^ (i % 64) ≤ 18446744073709551615 := by
    -- a multiple of 2^(r+1) below 2^64, and 2^r
    obtain ⟨q, hq⟩ := Int.dvd_of_emod_eq_zero hm
    have e2 : (18446744073709551616 : Int) = 2 ^ (i % 64 + 1) * 2 ^ (63 - i % 64) := by
      have : (2 : Int) ^ 64 = 2 ^ (i % 64 + 1) * 2 ^ (63 - i % 64) := by rw [← Int.pow_add]; congr 1; omega
      exact this
    have hw' := hw
    unfold Wd.W at hw'
    have h3 := pow_pos2 (63 - i % 64)
    have e3 : (2 : Int) ^ (i % 64 + 1) = 2 * 2 ^ (i % 64) := by rw [Int.pow_succ]; omega
    rw [hq] at hw' ⊢
    have hq1 : q < 2 ^ (63 - i % 64) := by
      have h4 : 2 ^ (i % 64 + 1) * q < 2 ^ (i % 64 + 1) * 2 ^ (63 - i % 64) := by omega
      exact Int.lt_of_mul_lt_mul_left h4 (by omega)
    have h5 : 2 ^ (i % 64 + 1) * (q + 1) ≤ 2 ^ (i % 64 + 1) * 2 ^ (63 - i % 64) := Int.mul_le_mul_of_nonneg_left (by omega) (by omega)
    rw [Int.mul_add, Int.mul_one] at h5
    omega
  refine ⟨?_, by unfold Wd.W at hw ⊢; omega, ?_⟩
  · unfold Wd.W at hw
    have hm' : Nt.at_ zs (i / 64) % 2 ^ (i % 64 + 1) = 0 := hm
    exact or_add _ _ (i % 64 + 1) hw.1 hw.2 hm' (by omega) (by rw [Int.pow_succ]; omega) (by omega)
  · rw [V_set _ _ _ (by omega), show Nt.at_ zs (i / 64) + 2 ^ (i % 64) - Nt.at_ zs (i / 64) = 2 ^ (i % 64) by omega]
    have e : (2 : Int) ^ i = P (i / 64) * 2 ^ (i % 64) := by
      rw [← two_P, ← Int.pow_add]; congr 1; omega
    rw [e]
set_option maxRecDepth 100000 in
set_option maxHeartbeats 1000000 in
theorem set_n (g n c i : Nat) (zs : List Int) (w : World) (hr : Bk w g 29 (us zs)) (hz : Ws zs) (hl : zs.length = n) (hi : i / 64 < n) (hn : n ≤ 1073741824) (hv : V zs % 2 ^ (i + 1) = 0) :
    Calls Try.prog 74 #[.slice (some ⟨g, 0, none⟩) n c, .int .i64 (i : Int)] w fun e w' => (∃ v, e = .returned v) ∧ ∃ zs', Bk w' g 29 (us zs') ∧ zs'.length = n ∧ Ws zs' ∧ V zs' = V zs + 2 ^ i ∧ w.grownBy w' (some g) := by
  obtain ⟨q1, q4, q5⟩ := set_bit hz hl hi hv
  have hiz : i / 64 < zs.length := by omega
  have c5 : w.cell? ⟨g, i / 64, none⟩ = some (.int .u64 (Nt.at_ zs (i / 64))) := (hr.cell _).trans (us_get hiz)
  have f5 : w.frozen? ⟨g, i / 64, none⟩ = false := hr.frozen _
  have hkM : (i : Int) / 64 < (n : Int) := by omega
  have hr64 : i % 64 < 64 := Nat.mod_lt _ (by omega)
  have hp2 := pow2_lt64 hr64
  have hp1 := pow_pos2 (i % 64)
  have hii : (i : Int) ≤ 68719476736 := by omega
  have Q5 := Lib.hid q5
  have HL := Lib.hid hl
  clear q5 hl hv
  go_enter Try.func74, Try.ntmps74
  go_wp2_with fail
  go_region
  go_wp2_with fail
  go_end0
  refine ⟨⟨_, rfl⟩, zs.set (i / 64) (Nt.at_ zs (i / 64) + 2 ^ (i % 64)), ?_, by rw [List.length_set]; exact HL.out, hz.set _ q4, Q5.out, ?_⟩
  · have := hr.set_ (i / 64) (.int .u64 (Nt.at_ zs (i / 64) + 2 ^ (i % 64)))
    rw [us_set] at this
    exact this.drew
  · exact grownBy_trans (only_setCell _ _ _ _) (only_drew _ none) (fun j e => by cases e)

/-! ### double -/
theorem dbl_parts {x i : Int} (hx : W x) (hi : 0 ≤ i) (hi' : i ≤ 1) :
    bits .or .u64 (x * 2 % 18446744073709551616) i = x * 2 % 18446744073709551616 + i ∧ W (x * 2 % 18446744073709551616 + i) ∧ x * 2 % 18446744073709551616 + i + 18446744073709551616 * (x / 9223372036854775808) = 2 * x + i ∧ 0 ≤ x / 9223372036854775808 ∧ x / 9223372036854775808 ≤ 1 := by
  unfold Wd.W at *
  refine ⟨or_add _ _ 1 (by omega) (by omega) (by omega) hi (by omega) (by omega), by omega, by omega, by omega, by omega⟩
theorem dbl_step {zs zs' : List Int} {k : Nat} {i b : Int} (hk : k < zs'.length) (hz : Ws zs) (hi : 0 ≤ i) (hi' : i ≤ 1) (h : lo zs' k + P k * i = 2 * lo zs k + b) :
    lo (zs'.set k (Nt.at_ zs k * 2 % 18446744073709551616 + i)) (k + 1) + P (k + 1) * (Nt.at_ zs k / 9223372036854775808) = 2 * lo zs (k + 1) + b := by
  have e := (dbl_parts (hz.at_ k) hi hi').2.2.1
  rw [lo_succ, lo_succ, lo_set_ge _ _ _ _ (Nat.le_refl _), at_set _ _ _ _ hk, if_pos rfl, P_succ]
  generalize Nt.at_ zs k * 2 % 18446744073709551616 = r at *
  generalize Nt.at_ zs k / 9223372036854775808 = d at *
  generalize Nt.at_ zs k = x at *
  have e2 : P k * (r + i) + 18446744073709551616 * P k * d = P k * (r + i + 18446744073709551616 * d) := by
    rw [Int.mul_add (P k) (r + i), Int.mul_comm 18446744073709551616 (P k), Int.mul_assoc]
  rw [Int.add_assoc, e2, e, Int.mul_add, show P k * (2 * x) = 2 * (P k * x) by rw [Int.mul_left_comm], Int.mul_add]
  omega
set_option maxRecDepth 100000 in
set_option maxHeartbeats 2000000 in
theorem double_n (g n c : Nat) (one : Bool) (zs : List Int) (w : World) (hr : Bk w g 29 (us zs)) (hz : Ws zs) (hl : zs.length = n) (hn : n ≤ 1073741824) (hfit : 2 * V zs + b1 one < P n) :
    Calls Try.prog 73 #[.slice (some ⟨g, 0, none⟩) n c, .bool one] w fun e w' => (∃ v, e = .returned v) ∧ ∃ zs', Bk w' g 29 (us zs') ∧ zs'.length = n ∧ Ws zs' ∧ V zs' = 2 * V zs + b1 one ∧ w.grownBy w' (some g) := by
  have HM := fun w => Lib.hid (mask_c one w)
  have hb1 := b1_01 one
  have hand : bits .and .u64 (if one = true then 18446744073709551615 else 0) 1 = b1 one := by
    cases one
    · rw [if_neg (by decide), Wd.and_one 0 (by omega) (by omega)]; rfl
    · rw [if_pos rfl, Wd.and_one _ (by omega) (by omega)]; rfl
  have HF := Lib.hid hfit
  have HAND := Lib.hid hand
  clear hfit hand
  generalize hbv : b1 one = b at *
  clear hbv
  generalize (if one = true then (18446744073709551615 : Int) else 0) = mk at *
  have hand := HAND.out
  go_enter Try.func73, Try.ntmps73
  go_wp2_with fail
  go_at_call 84
  refine (HM _).out.mono ?_; rintro e w' ⟨rfl, rfl⟩
  go_wp2_with fail
  clear HM hand HAND
  obtain ⟨w, rfl⟩ : ∃ w', w' = w := ⟨_, rfl⟩
  go_loopw [4, 12] (fun i4 i12 W => ∃ (k : Nat) (zs' : List Int) (d : Int), k ≤ n ∧ i12 = .int .i64 k ∧ i4 = .int .u64 d ∧ 0 ≤ d ∧ d ≤ 1 ∧ Bk W g 29 (us zs') ∧ zs'.length = n ∧ Ws zs' ∧ lo zs' k + P k * d = 2 * lo zs k + b ∧ (∀ j, k ≤ j → Nt.at_ zs' j = Nt.at_ zs j) ∧ w.grownBy W (some g)) (fun _ i12 _ => n - (intOf i12).toNat)
  case atStart => exact ⟨0, zs, b, Nat.zero_le _, rfl, rfl, hb1.1, hb1.2, hr, hl, hz, by rw [lo_zero, P_zero]; omega, fun j _ => rfl, World.grownBy.refl w _⟩
  case round =>
    obtain ⟨k, zs', d, hk, rfl, rfl, hd0, hd1, g1, g2, g3, g4, g5, g6⟩ := hrel
    by_cases hlt : k < n
    · have hko : k < zs'.length := by omega
      have c5 : wr.cell? ⟨g, k, none⟩ = some (.int .u64 (Nt.at_ zs k)) := by rw [← g5 k (Nat.le_refl _)]; exact (g1.cell _).trans (us_get hko)
      have f5 : wr.frozen? ⟨g, k, none⟩ = false := g1.frozen _
      have hst := dbl_step hko hz hd0 hd1 g4
      obtain ⟨q1, q2, _, q4, q5⟩ := dbl_parts (hz.at_ k) hd0 hd1
      have hki : (k : Int) < (n : Int) := by omega
      have HST := Lib.hid hst
      have hw := hz.at_ k
      clear hst
      generalize Nt.at_ zs k = x at *
      unfold Wd.W at hw
      have hwr : IntKind.u64.wrap (x * 2) = x * 2 % 18446744073709551616 := by rw [IntKind.wrap_u64]
      have Q2 := Lib.hid q2
      clear q2
      go_wp2_with fail
      go_roundw
      case rel =>
        refine ⟨k + 1, zs'.set k (x * 2 % 18446744073709551616 + d), x / 9223372036854775808, by omega, by go_num, rfl, q4, q5, ?_, by rw [List.length_set]; exact g2, g3.set _ Q2.out, HST.out, fun j hj => ?_, grownBy_trans g6 (only_setCell _ _ _ _) (fun j e => .inl e)⟩
        · have := g1.set_ k (.int .u64 (x * 2 % 18446744073709551616 + d))
          rwa [us_set] at this
        · rw [at_set _ _ _ _ hko, if_neg (by omega)]; exact g5 j (by omega)
      case measure => (simp [intOf] <;> omega)
    · obtain rfl : k = n := by omega
      have hv : V zs' + P k * d = 2 * V zs + b := by
        rw [lo_all (by omega), lo_all (by omega)] at g4; exact g4
      have hd : d = 0 := by
        rcases (show d = 0 ∨ d = 1 by omega) with h | h
        · exact h
        · subst h
          have := V_nonneg g3
          have := HF.out
          omega
      have HV : Hid (V zs' = 2 * V zs + b) := Lib.hid (by rw [hd, Int.mul_zero, Int.add_zero] at hv; exact hv)
      have G1 := Lib.hid g1
      have G6 := Lib.hid g6
      clear g1 g4 g5 g6 hv
      go_wp2_with fail
      go_end0
      exact ⟨⟨_, rfl⟩, zs', G1.out, g2, g3, HV.out, G6.out⟩

/-! ### down -/
theorem down_limb {V0 : Int} {s p i : Nat} (h0 : 0 ≤ V0) (hp : p < 64) :
    V0 / P (s + i) % 18446744073709551616 / 2 ^ p + V0 / P (s + i + 1) % 18446744073709551616 * 2 ^ (64 - p) % 18446744073709551616 = V0 / 2 ^ (64 * s + p) / P i % 18446744073709551616 ∧
    0 ≤ V0 / P (s + i) % 18446744073709551616 / 2 ^ p ∧ V0 / P (s + i) % 18446744073709551616 / 2 ^ p < 2 ^ (64 - p) ∧ (V0 / P (s + i + 1) % 18446744073709551616 * 2 ^ (64 - p) % 18446744073709551616) % 2 ^ (64 - p) = 0 := by
  have hp1 := P_pos (s + i)
  have hp2 := P_pos i
  have a1 := pow_pos2 p
  have a2 := pow_pos2 (64 - p)
  have e1 : V0 / P (s + i + 1) = V0 / P (s + i) / 18446744073709551616 := by
    rw [P_succ, Int.mul_comm, ← Int.ediv_ediv_of_nonneg (by omega)]
  have e2 : V0 / 2 ^ (64 * s + p) / P i = V0 / P (s + i) / 2 ^ p := by
    rw [Int.pow_add, two_P, Int.ediv_ediv_of_nonneg (by have := P_pos s; exact Int.le_of_lt (Int.mul_pos (by omega) (by omega))), Int.ediv_ediv_of_nonneg (by omega), P_add]
    congr 1
    rw [Int.mul_assoc, Int.mul_comm (2 ^ p) (P i), ← Int.mul_assoc]
  rw [e1, e2]
  have hX : 0 ≤ V0 / P (s + i) := Int.ediv_nonneg h0 (by omega)
  generalize V0 / P (s + i) = X at *
  have eB : (18446744073709551616 : Int) = 2 ^ p * 2 ^ (64 - p) := by
    have : (2 : Int) ^ 64 = 2 ^ p * 2 ^ (64 - p) := by rw [← Int.pow_add]; congr 1; omega
    exact this
  generalize hA : (2 : Int) ^ p = A at *
  generalize hC : (2 : Int) ^ (64 - p) = C at *
  have hd := Int.emod_add_mul_ediv X 18446744073709551616
  have hm0 := Int.emod_nonneg X (show (18446744073709551616 : Int) ≠ 0 by decide)
  have hm1 := Int.emod_lt_of_pos X (show (0 : Int) < 18446744073709551616 by decide)
  have hl0 : 0 ≤ X % 18446744073709551616 / A := Int.ediv_nonneg hm0 (by omega)
  have hl1 : X % 18446744073709551616 / A < C := Int.ediv_lt_of_lt_mul (by omega) (by rw [Int.mul_comm, ← eB]; exact hm1)
  have hq : X / A = X % 18446744073709551616 / A + C * (X / 18446744073709551616) := by
    conv => lhs; rw [← hd, eB]
    rw [Int.mul_assoc, Int.add_mul_ediv_left _ _ (by omega), ← eB]
  -- the upper part is a multiple of C, also modulo 2^64
  have hmul : ∀ Z : Int, Z * C % 18446744073709551616 = C * (Z % A) := by
    intro Z
    rw [eB, Int.mul_comm Z C, Int.mul_comm A C, Int.mul_emod_mul_of_pos _ _ (by omega)]
  refine ⟨?_, hl0, hl1, ?_⟩
  · rw [hmul, hq]
    generalize X / 18446744073709551616 = Y at *
    generalize X % 18446744073709551616 / A = L at *
    have hy := Int.emod_add_mul_ediv Y A
    have hAy : (Y % 18446744073709551616) % A = Y % A := by
      rw [eB]; exact Int.emod_emod_of_dvd Y ⟨C, rfl⟩
    rw [hAy]
    have hYA0 := Int.emod_nonneg Y (show A ≠ 0 by omega)
    have hYA1 := Int.emod_lt_of_pos Y (show 0 < A by omega)
    have hT : C * (Y % A) + C ≤ 18446744073709551616 := by
      have h1 : C * (Y % A + 1) ≤ C * A := Int.mul_le_mul_of_nonneg_left (by omega) (by omega)
      rw [Int.mul_add, Int.mul_one] at h1
      rw [eB, Int.mul_comm A C]; exact h1
    have hT0 : 0 ≤ C * (Y % A) := Int.mul_nonneg (by omega) hYA0
    have h10 : C * (Y % A + A * (Y / A)) = C * (Y % A) + (A * C) * (Y / A) := by rw [Int.mul_add, ← Int.mul_assoc C A, Int.mul_comm C A]
    rw [hy, ← eB] at h10
    have hs : L + C * Y = (L + C * (Y % A)) + 18446744073709551616 * (Y / A) := by omega
    rw [hs, Int.add_mul_emod_self_left, Int.emod_eq_of_lt (a := L + C * (Y % A)) (by omega) (by omega)]
  · rw [hmul, Int.mul_emod_right]
theorem down_step {zs : List Int} {q : Int} {k : Nat} {v : Int} (hk : k < zs.length) (h : lo zs k = q % P k) (hv : v = q / P k % 18446744073709551616) (hq : 0 ≤ q) : lo (zs.set k v) (k + 1) = q % P (k + 1) := by
  have hp := P_pos k
  rw [lo_succ, lo_set_ge _ _ _ _ (Nat.le_refl _), at_set _ _ _ _ hk, if_pos rfl, h, hv, P_succ]
  have h1 := Int.emod_add_mul_ediv q (P k)
  have h2 := Int.emod_add_mul_ediv (q / P k) 18446744073709551616
  have b1 := Int.emod_nonneg q (show P k ≠ 0 by omega)
  have b2 := Int.emod_lt_of_pos q (show 0 < P k by omega)
  have b3 := Int.emod_nonneg (q / P k) (show (18446744073709551616 : Int) ≠ 0 by decide)
  have b4 := Int.emod_lt_of_pos (q / P k) (show (0 : Int) < 18446744073709551616 by decide)
  generalize q / P k % 18446744073709551616 = r at *
  generalize q / P k / 18446744073709551616 = t at *
  generalize q % P k = s at *
  have e : q = (s + P k * r) + (18446744073709551616 * P k) * t := by
    rw [← h1, ← h2, Int.mul_add, Int.mul_comm 18446744073709551616 (P k), Int.mul_assoc]; omega
  have h3 : P k * r + P k ≤ 18446744073709551616 * P k := by
    have : P k * (r + 1) ≤ P k * 18446744073709551616 := Int.mul_le_mul_of_nonneg_left (by omega) (by omega)
    rw [Int.mul_add, Int.mul_one] at this
    omega
  have h4 : 0 ≤ P k * r := Int.mul_nonneg (by omega) b3
  rw [e, Int.add_mul_emod_self_left, Int.emod_eq_of_lt (by omega) (by omega)]
set_option maxRecDepth 100000 in
set_option maxHeartbeats 4000000 in
theorem down_n (A : Option Addr) (na ca g m c st Ba : Nat) (xs zs : List Int) (w : World) (ha : Rd w Ba A na xs) (hBa : Ba ≤ g) (hr : Bk w g 29 (us zs)) (hz : Ws zs) (hl : zs.length = m) (hm : m ≤ 1073741824) (hst : st ≤ 68719476736) :
    Calls Try.prog 72 #[.slice A na ca, .int .i64 (st : Int), .slice (some ⟨g, 0, none⟩) m c] w fun e w' => (∃ v, e = .returned v) ∧ ∃ zs', Bk w' g 29 (us zs') ∧ zs'.length = m ∧ Ws zs' ∧ V zs' = V xs / 2 ^ st % P m ∧ w.grownBy w' (some g) := by
  have hgw := hr.lt
  have hq0 : 0 ≤ V xs / 2 ^ st := Int.ediv_nonneg (V_nonneg ha.ws) (by have := pow_pos2 st; omega)
  obtain ⟨s, p, hsp, hp⟩ : ∃ s p : Nat, st = 64 * s + p ∧ p < 64 := ⟨st / 64, st % 64, by omega, by omega⟩
  have hd1 : (st : Int) / 64 = (s : Int) := by omega
  have hd2 : (st : Int) % 64 = (p : Int) := by omega
  have hsb : s ≤ 1073741824 := by omega
  have HSP := Lib.hid hsp
  clear hsp
  go_enter Try.func72, Try.ntmps72
  go_wp2_with fail
  try rw [hd1]
  try rw [hd2]
  clear hd1 hd2
  go_loopw [15] (fun i W => ∃ (k : Nat) (zs' : List Int), k ≤ m ∧ i = .int .i64 k ∧ Bk W g 29 (us zs') ∧ zs'.length = m ∧ Ws zs' ∧ lo zs' k = V xs / 2 ^ st % P k ∧ w.grownBy W (some g)) (fun i _ => m - (intOf i).toNat)
  case atStart => exact ⟨0, zs, Nat.zero_le _, rfl, hr, hl, hz, by rw [lo_zero, P_zero, Int.emod_one], World.grownBy.refl w _⟩
  case round =>
    obtain ⟨k, zs', hk, rfl, g1, g2, g3, g4, g5⟩ := hrel
    by_cases hlt : k < m
    · have hko : k < zs'.length := by omega
      have haW : Rd wr Ba A na xs := ha.grown g5 (by omega) (fun j e => by cases e; exact hBa)
      have haWd : Rd wr.drew Ba A na xs := haW.drew
      have HW := Lib.hid haW
      have HWd := Lib.hid haWd
      obtain ⟨q1, q2, q3, q4⟩ := down_limb (V0 := V xs) (s := s) (p := p) (i := k) (V_nonneg ha.ws) hp
      rw [← V_at xs ha.ws, ← V_at xs ha.ws] at q1
      rw [← V_at xs ha.ws] at q2 q3 q4
      have c5 : wr.cell? ⟨g, k, none⟩ = some (.int .u64 (Nt.at_ zs' k)) := (g1.cell _).trans (us_get hko)
      have f5 : wr.frozen? ⟨g, k, none⟩ = false := g1.frozen _
      have hw1 := ha.ws.at_ (s + k)
      have hw2 := ha.ws.at_ (s + k + 1)
      have Q1 := Lib.hid q1
      clear q1
      unfold Wd.W at hw1 hw2
      have hki : (k : Int) < (m : Int) := by omega
      have w1 : IntKind.i64.wrap ((s : Int) + (k : Int)) = (s : Int) + (k : Int) := by rw [IntKind.wrap_i64]; omega
      have w2 : IntKind.i64.wrap ((s : Int) + (k : Int) + 1) = (s : Int) + (k : Int) + 1 := by rw [IntKind.wrap_i64]; omega
      have w3 : IntKind.i64.wrap (64 - (p : Int)) = 64 - (p : Int) := by rw [IntKind.wrap_i64]; omega
      have hor : bits .or .u64 (Nt.at_ xs (s + k) / 2 ^ p) (IntKind.u64.wrap (Nt.at_ xs (s + k + 1) * 2 ^ (64 - p))) = V xs / 2 ^ st / P k % 18446744073709551616 := by
        rw [IntKind.wrap_u64, HSP.out, ← Q1.out]
        have h64 := pow_le (show 64 - p ≤ 64 by omega)
        have e64 : (2 : Int) ^ 64 = 18446744073709551616 := rfl
        have h1 := Int.emod_nonneg (Nt.at_ xs (s + k + 1) * 2 ^ (64 - p)) (show (18446744073709551616 : Int) ≠ 0 by decide)
        have h2 := Int.emod_lt_of_pos (Nt.at_ xs (s + k + 1) * 2 ^ (64 - p)) (show (0 : Int) < 18446744073709551616 by decide)
        exact or_up h1 (by omega) q4 q2 q3 (by omega)
      have HST := Lib.hid (down_step (zs := zs') (v := V xs / 2 ^ st / P k % 18446744073709551616) hko g4 rfl hq0)
      have hvw := W_mod (V xs / 2 ^ st / P k)
      generalize V xs / 2 ^ st / P k % 18446744073709551616 = vv at *
      have cL1 := limb_c A na ca (s + k) Ba xs wr.drew haWd (by omega)
      have cL2 := limb_c A na ca (s + k + 1) Ba xs wr.drew haWd (by omega)
      have c5d : wr.drew.cell? ⟨g, k, none⟩ = some (.int .u64 (Nt.at_ zs' k)) := c5
      clear haW haWd
      go_wp2_with fail
      refine wp_region_still_tail 20 (by kernel_rfl) (by kernel_rfl) ?_
      simp only [List.take_succ_cons, List.take_zero, List.drop_succ_cons, List.drop_zero]
      iterate 6 still_step
      still_call cL1
      iterate 7 still_step
      still_call cL2
      iterate 5 still_step
      refine wpStill_nil ?_
      have HG1 := Lib.hid g1
      have HG5 := Lib.hid g5
      clear cL1 cL2 c5d hor w1 w2 w3 q2 q3 q4 g1 g4 g5
      go_wp2_with fail
      go_roundw
      case rel =>
        refine ⟨k + 1, zs'.set k vv, by omega, by go_num, ?_, by rw [List.length_set]; exact g2, g3.set _ hvw, HST.out, grownBy_trans (grownBy_trans HG5.out (only_setCell _ _ _ _) (fun j e => .inl e)) (only_drew _ none) (fun j e => by cases e)⟩
        have := HG1.out.set_ k (.int .u64 vv)
        rw [us_set] at this
        exact this.drew
      case measure => (simp [intOf] <;> omega)
    · obtain rfl : k = m := by omega
      have hv : V zs' = V xs / 2 ^ st % P k := by rw [lo_all (by omega)] at g4; exact g4
      have HV := Lib.hid hv
      have G1 := Lib.hid g1
      have G5 := Lib.hid g5
      clear g1 g4 g5 hv
      go_wp2_with fail
      go_end0
      exact ⟨⟨_, rfl⟩, zs', G1.out, g2, g3, HV.out, G5.out⟩
end Nt
end Go.Proofs.Ytopajockmcgpmaa
namespace Go.Proofs.Ytopajockmcgpmaa
open Go Go.RowKit
namespace Nt
open Wd Sti
set_option linter.unusedVariables false
theorem Bk.other {w w' : World} {g g' : Nat} {t : TypeId} {cs : Array Value} (h : Bk w g t cs) (hg : w.grownBy w' (some g')) (hne : g ≠ g') : Bk w' g t cs :=
  (hg.block g h.lt (fun e => hne (by injection e))).trans h
theorem half_bit (V0 : Int) (i : Nat) : V0 / 2 ^ i = 2 * (V0 / 2 ^ (i + 1)) + V0 / 2 ^ i % 2 := by
  have h := pow_pos2 i
  rw [Int.pow_succ, ← Int.ediv_ediv_of_nonneg (by omega)]
  omega
theorem div_up {D' D b y : Int} (hy : 0 < y) (hD : D = 2 * D' + b) (hb : 0 ≤ b) (hb' : b ≤ 1) (h : y ≤ 2 * (D' % y) + b) : D % y = 2 * (D' % y) + b - y ∧ D / y = 2 * (D' / y) + 1 := by
  have h1 := Int.emod_add_mul_ediv D' y
  have h2 := Int.emod_nonneg D' (show y ≠ 0 by omega)
  have h3 := Int.emod_lt_of_pos D' hy
  have e : D = (2 * (D' % y) + b - y) + y * (2 * (D' / y) + 1) := by
    rw [Int.mul_add, Int.mul_one, Int.mul_left_comm]; omega
  rw [e]
  exact ⟨by rw [Int.add_mul_emod_self_left, Int.emod_eq_of_lt (a := 2 * (D' % y) + b - y) (by omega) (by omega)], by rw [Int.add_mul_ediv_left _ _ (by omega), Int.ediv_eq_zero_of_lt (a := 2 * (D' % y) + b - y) (by omega) (by omega)]; omega⟩
theorem div_dn {D' D b y : Int} (hy : 0 < y) (hD : D = 2 * D' + b) (hb : 0 ≤ b) (h : 2 * (D' % y) + b < y) : D % y = 2 * (D' % y) + b ∧ D / y = 2 * (D' / y) := by
  have h1 := Int.emod_add_mul_ediv D' y
  have h2 := Int.emod_nonneg D' (show y ≠ 0 by omega)
  have e : D = (2 * (D' % y) + b) + y * (2 * (D' / y)) := by rw [Int.mul_left_comm]; omega
  rw [e]
  exact ⟨by rw [Int.add_mul_emod_self_left, Int.emod_eq_of_lt (a := 2 * (D' % y) + b) (by omega) (by omega)], by rw [Int.add_mul_ediv_left _ _ (by omega), Int.ediv_eq_zero_of_lt (a := 2 * (D' % y) + b) (by omega) (by omega)]; omega⟩
theorem bitAt_nat (v : Int) (i : Nat) (h : 0 ≤ v) : b1 (bitAt v (i : Int)) = v / 2 ^ i % 2 := by
  unfold bitAt
  rw [decide_eq_true (by omega), Bool.true_and, Int.toNat_natCast]
  have h1 : 0 ≤ v / 2 ^ i := Int.ediv_nonneg h (by have := pow_pos2 i; omega)
  generalize v / 2 ^ i = d at *
  by_cases h2 : d % 2 = 1
  · rw [decide_eq_true h2, h2]; rfl
  · rw [decide_eq_false h2, b1_f]; omega
theorem below_grown {B : Nat} {a w w' : World} {r : Nat} (h : Below B a w) (hg : w.grownBy w' (some r)) (hB : B ≤ a.heap.size) (hr : B ≤ r) : Below B a w' := h.grown hg (Nat.le_trans hB h.size) (fun j e => by cases e; exact hr)

theorem div_zero (A B : Option Addr) (na ca nb cb : Nat) (xs ys : List Int) (w : World) (hb : Rd w w.heap.size B nb ys) (lb : nb ≤ cb ∧ nb ≤ 1048576) (lb' : cb ≤ 9223372036854775807) (h0 : V ys = 0) :
    Calls Try.prog 49 #[.slice A na ca, .slice B nb cb] w fun e w' => e = .returned (.tuple #[.slice none 0 0, .slice none 0 0, .int .i64 2]) ∧ Below w.heap.size w w' := by
  have HB := Lib.hid (bitsv_u (Lib.hid (show At w B nb ys from hb)) lb.2 lb.1 lb' 0 (by
    obtain ⟨m, hm, _⟩ := bits_ex hb
    have := hm.zero h0
    rw [← this]; exact hm))
  clear hb lb
  go_enter Try.func49, Try.ntmps49
  go_wp2_with fail
  go_at_call 40
  refine HB.out.mono ?_
  rintro e w' ⟨rfl, hb⟩
  have HBB := Lib.hid hb
  clear hb HB
  go_wp2_with fail
  go_ret3
  exact ⟨rfl, HBB.out⟩

set_option maxRecDepth 100000 in
set_option maxHeartbeats 8000000 in
theorem div_n (A B : Option Addr) (na ca nb cb : Nat) (xs ys : List Int) (w : World) (ha : Rd w w.heap.size A na xs) (hb : Rd w w.heap.size B nb ys) (la : na ≤ ca ∧ na ≤ 1048576) (la' : ca ≤ 9223372036854775807) (lb : nb ≤ cb ∧ nb ≤ 1048576) (lb' : cb ≤ 9223372036854775807) (h0 : V ys ≠ 0) :
    Calls Try.prog 49 #[.slice A na ca, .slice B nb cb] w fun e w' => ∃ v1 v2, e = .returned (.tuple #[v1, v2, .int .i64 0]) ∧ Ans w w' v1 (V xs / V ys) (na + 2) ∧ Ans w w' v2 (V xs % V ys) (nb + 2) := by
  obtain ⟨la, lan⟩ := la
  obtain ⟨lb, lbn⟩ := lb
  have hx0 := V_nonneg ha.ws
  have hy0 := V_nonneg hb.ws
  have hHY : 0 < V ys := by omega
  have hwd0 := nbits_R hb.ws.trim (trim_trim ys)
  have hba0 := nbits_R ha.ws.trim (trim_trim xs)
  rw [V_trim] at hwd0 hba0
  have hlb := trim_le ys
  have hla := trim_le xs
  rw [hb.len] at hlb
  rw [ha.len] at hla
  have hwdl := nbits_le hb.ws.trim
  have hbal := nbits_le ha.ws.trim
  have hyl : (trim ys).length ≤ (nbits (trim ys) + 63) / 64 := by
    have htop := trim_last (trim_trim ys)
    unfold nbits
    split
    · omega
    · rename_i hne
      have hw := hb.ws.trim.at_ ((trim ys).length - 1)
      have h1 := htop (fun e => hne (by rw [e]; rfl))
      have h2 := (bl_spec (Nt.at_ (trim ys) ((trim ys).length - 1)).toNat (by unfold Wd.W at hw; omega)).2.1 (by unfold Wd.W at hw; omega)
      omega
  have HB1 := fun w (h : Rd w w.heap.size B nb ys) => Lib.hid (bits_n B nb cb w.heap.size ys w h ⟨lb, by omega⟩ lb')
  have HB2 := fun w (h : Rd w w.heap.size A na xs) => Lib.hid (bits_n A na ca w.heap.size xs w h ⟨la, by omega⟩ la')
  have K1 := HB1 w hb
  have K2 := HB2 w ha
  have hty := hb.trim
  have HTY := fun w (h : Rd w w.heap.size B nb ys) => Lib.hid (trimmed_c B nb cb w.heap.size ys w h lb lb')
  have hVt := V_trim ys
  generalize nbits (trim ys) = wd at *
  generalize nbits (trim xs) = ba at *
  obtain ⟨l1, l2⟩ := hwd0.lo h0
  obtain ⟨st, hst⟩ : ∃ st : Nat, st = ba + 1 - wd := ⟨_, rfl⟩
  have hmx : max 0 ((ba : Int) - (wd : Int) + 1) = (st : Int) := by omega
  obtain ⟨m, hm⟩ : ∃ m, m = (wd + 1 + 63) / 64 := ⟨_, rfl⟩
  obtain ⟨mq, hmq⟩ : ∃ mq, mq = (st + 63) / 64 := ⟨_, rfl⟩
  have hsmall : V xs / 2 ^ st < V ys := by
    have h1 : V xs < 2 ^ st * 2 ^ (wd - 1) := by
      rw [← Int.pow_add]
      have h2 := hba0.up
      have h3 := pow_le (show ba ≤ st + (wd - 1) by omega)
      omega
    have h2 : V xs / 2 ^ st < 2 ^ (wd - 1) := Int.ediv_lt_of_lt_mul (by have := pow_pos2 st; omega) (by rw [Int.mul_comm]; exact h1)
    omega
  have hPm : 2 ^ (wd + 1) ≤ P m := by rw [← two_P]; exact pow_le (by omega)
  have hyP : 2 * V ys ≤ P m := by have := hwd0.up; rw [Int.pow_succ] at hPm; omega
  have hQ0 : 0 ≤ V xs / 2 ^ st := Int.ediv_nonneg hx0 (by have := pow_pos2 st; omega)
  have L1 := fun w => Lib.hid (limbsOf_c (wd + 1) w (by omega))
  have L2 := fun w => Lib.hid (limbsOf_c st w (by omega))
  rw [show wd + 1 + 63 = wd + 1 + 63 from rfl, ← hm] at L1
  rw [← hmq] at L2
  have hmk1 := make_row m (by omega)
  have hmk2 := make_row mq (by omega)
  have hwe : ((wd : Int) == 0) = false := by simp; omega
  have HST := Lib.hid hst
  have HM := Lib.hid hm
  have HMQ := Lib.hid hmq
  have HSM := Lib.hid hsmall
  have HYP := Lib.hid hyP
  have HVT := Lib.hid hVt
  have hm1 : m ≤ nb + 2 := by omega
  have hmq1 : mq ≤ na + 2 := by omega
  have hyl' : (trim ys).length ≤ m := by omega
  have hstb : st ≤ 68719476736 := by omega
  have HTY0 := Lib.hid hty
  clear hst hm hmq hsmall hyP hVt hwd0 hba0 HB1 HB2 hPm hyl hty
  generalize trim ys = zy at *
  go_enter Try.func49, Try.ntmps49
  go_wp2_with fail
  go_at_call 40
  refine K1.out.mono ?_; rintro e w' ⟨rfl, rfl⟩
  go_wp2_with fail
  go_at_call 40
  refine K2.out.mono ?_; rintro e w' ⟨rfl, rfl⟩
  clear K1 K2
  go_wp2_with fail
  go_at_call 71
  refine (L1 _).out.mono ?_; rintro e w' ⟨rfl, rfl⟩
  clear L1
  go_wp2_with fail
  obtain ⟨w, rfl⟩ : ∃ w, w = w' := ⟨_, rfl⟩
  go_at_call 72
  have hd := down_n A na ca w.heap.size m m st w.heap.size xs (List.replicate m 0) (w.alloc (.cells (us (List.replicate m 0)) 29)) (ha.below (below_alloc _)) (Nat.le_refl _) (Bk.new _ _ _) (Ws.zeros _) (by simp) (by omega) hstb
  refine hd.mono ?_
  rintro e w2 ⟨⟨v, rfl⟩, rs, g1, g2, g3, g4, g5⟩
  clear hd hmk1 hmx
  have hb2 : Below w.heap.size w w2 := below_of_own g5
  have HB2 := Lib.hid hb2
  rw [Int.emod_eq_of_lt hQ0 (by have := HSM.out; have := HYP.out; omega)] at g4
  have G4 := Lib.hid g4
  have G1 := Lib.hid g1
  clear g1 g4 g5 hb2
  go_wp2_with fail
  go_at_call 71
  refine (L2 _).out.mono ?_; rintro e w' ⟨rfl, rfl⟩
  clear L2
  go_wp2_with fail
  obtain ⟨w2, rfl⟩ : ∃ w2, w2 = w' := ⟨_, rfl⟩
  have AB3 : At (w2.alloc (.cells (us (List.replicate mq 0)) 29)) B nb ys := (At.step (At.step (Lib.hid (show At w B nb ys from hb)) HB2.out) (below_alloc _)).out
  have K3 := HTY _ AB3
  obtain ⟨nz, hnz⟩ : ∃ nz, nz = zy.length := ⟨_, rfl⟩
  rw [← hnz] at K3 hyl' hlb HTY0
  clear hnz
  have hB3 : Below w.heap.size w (w2.alloc (.cells (us (List.replicate mq 0)) 29)) := HB2.out.alloc HB2.out.size _
  have gr0 : Bk (w2.alloc (.cells (us (List.replicate mq 0)) 29)) w.heap.size 29 (us rs) := G1.out.alloc _
  have gq0 : Bk (w2.alloc (.cells (us (List.replicate mq 0)) 29)) w2.heap.size 29 (us (List.replicate mq 0)) := Bk.new _ _ _
  have hgg : w.heap.size < w2.heap.size := G1.out.lt
  have HHB := Lib.hid hb
  have HHA := Lib.hid ha
  have HB3 := Lib.hid hB3
  have HGR := Lib.hid gr0
  have HGQ := Lib.hid gq0
  have HLY := Lib.hid HTY0.out
  clear AB3 hmk2 HTY hB3 gr0 gq0 hb ha G1
  go_at_call 64
  refine K3.out.mono ?_; rintro e w3 ⟨rfl, he3⟩
  have HE3 := Lib.hid he3
  clear he3 K3
  go_wp2_with fail
  rw [HE3.out]
  generalize hgq : w2.heap.size = gq at *
  go_loopw [11] (fun i W => ∃ (j : Nat) (rs qs : List Int), j ≤ st ∧ i = .int .i64 ((j : Int) - 1) ∧ Bk W w.heap.size 29 (us rs) ∧ rs.length = m ∧ Ws rs ∧ V rs = V xs / 2 ^ j % V ys ∧ Bk W gq 29 (us qs) ∧ qs.length = mq ∧ Ws qs ∧ V qs = V xs / 2 ^ j / V ys * 2 ^ j ∧ Below w.heap.size w W) (fun i _ => (intOf i + 1).toNat)
  case atStart =>
    refine ⟨st, rs, List.replicate mq 0, Nat.le_refl _, by go_num, HGR.out, g2, g3, ?_, HGQ.out, by simp, Ws.zeros _, ?_, HB3.out⟩
    · rw [G4.out, Int.emod_eq_of_lt hQ0 HSM.out]
    · rw [V_zeros, Int.ediv_eq_zero_of_lt hQ0 HSM.out, Int.zero_mul]
  case round =>
    obtain ⟨j, rs, qs, hj, rfl, p1, p2, p3, p4, p5, p6, p7, p8, p9⟩ := hrel
    rcases Nat.eq_zero_or_pos j with rfl | hj0
    · have HT1 := Lib.hid (trimmed_c (some ⟨gq, 0, none⟩) mq mq wr.heap.size qs wr (p5.rd0 p5.lt p7 p6) (Nat.le_refl _) (by omega))
      have HT2 := Lib.hid (trimmed_c (some ⟨w.heap.size, 0, none⟩) m m wr.heap.size rs wr (p1.rd0 p1.lt p3 p2) (Nat.le_refl _) (by omega))
      rw [Int.pow_zero, Int.ediv_one] at p4 p8
      rw [Int.mul_one] at p8
      have hA1 := ans_trim (w := w) (m := na + 2) p5 p7 p8 (by omega) p9
      have hA2 := ans_trim (w := w) (m := nb + 2) p1 p3 p4 (by omega) p9
      rw [p6] at hA1
      rw [p2] at hA2
      have HA1 := Lib.hid hA1
      have HA2 := Lib.hid hA2
      clear hA1 hA2 p1 p2 p3 p4 p5 p6 p7 p8 p9
      go_wp2_with fail
      go_at_call 64
      refine HT1.out.mono ?_; rintro e w4 ⟨rfl, he4⟩
      have HE4 := Lib.hid he4
      clear he4 HT1
      go_wp2_with fail
      go_at_call 64
      rw [HE4.out]
      refine HT2.out.mono ?_; rintro e w5 ⟨rfl, he5⟩
      have HE5 := Lib.hid he5
      clear he5 HT2
      go_wp2_with fail
      go_ret3
      refine ⟨_, _, rfl, ?_, ?_⟩
      · rw [HE5.out]; exact HA1.out
      · rw [HE5.out]; exact HA2.out
    · obtain ⟨i, rfl⟩ : ∃ i, j = i + 1 := ⟨j - 1, by omega⟩
      have hi : ((i + 1 : Nat) : Int) - 1 = (i : Int) := by omega
      rw [hi]
      clear hi
      have KB := Lib.hid (bit_n A na ca w.heap.size i xs wr (HHA.out.below p9) (WalkArith.wf_i64 (by omega)))
      have hbit := bitAt_nat (V xs) i hx0
      have hbb := b1_01 (bitAt (V xs) (i : Int))
      have hhalf := half_bit (V xs) i
      rw [← hbit] at hhalf
      generalize bitAt (V xs) (i : Int) = b at *
      have hrlt : V rs < V ys := by rw [p4]; exact Int.emod_lt_of_pos _ hHY
      have KD := Lib.hid (double_n w.heap.size m m b rs wr p1 p3 p2 (by omega) (by have := HYP.out; omega))
      have HHALF := Lib.hid hhalf
      have P4 := Lib.hid p4
      have P8 := Lib.hid p8
      have P5 := Lib.hid p5
      have P9 := Lib.hid p9
      clear hbit hhalf p4 p8 p1 p5 p9 hrlt
      go_wp2_with fail
      go_at_call 43
      refine KB.out.mono ?_; rintro e w4 ⟨rfl, he4⟩
      have HE4 := Lib.hid he4
      clear he4 KB
      go_wp2_with fail
      go_at_call 73
      rw [HE4.out]
      refine KD.out.mono ?_; rintro e w5 ⟨⟨v, rfl⟩, rs1, k1, k2, k3, k4, k5⟩
      have q9 := below_grown P9.out k5 (Nat.le_refl _) (Nat.le_refl _)
      have q5 := P5.out.other k5 (by omega)
      have hby : Rd w5 w.heap.size B nz zy := HLY.out.below q9
      have KC := Lib.hid (compare_n (some ⟨w.heap.size, 0, none⟩) B m m nz cb w5.heap.size w.heap.size rs1 zy w5 (k1.rd0 k1.lt k3 k2) (Nat.le_refl _) hby q9.size (by omega) (by omega))
      rw [HVT.out] at KC
      have K1 := Lib.hid k1
      have K4 := Lib.hid k4
      have Q5 := Lib.hid q5
      have Q9 := Lib.hid q9
      clear k1 k4 k5 q5 q9 hby KD
      rcases Int.lt_or_le (V rs1) (V ys) with hcm | hcm
      · have hlt0 : cmpN (V rs1) (V ys) < 0 := by unfold cmpN; rw [if_pos hcm]; omega
        have hres := div_dn (D' := V xs / 2 ^ (i + 1)) hHY HHALF.out hbb.1 (by rw [← P4.out, ← K4.out]; exact hcm)
        have HRES := Lib.hid hres
        clear hres
        generalize cmpN (V rs1) (V ys) = cv at *
        go_wp2_with fail
        go_at_call 42
        refine KC.out.mono ?_; rintro e w6 ⟨rfl, h6⟩
        have r1 := Lib.hid (K1.out.below h6 K1.out.lt)
        have r5 := Lib.hid (Q5.out.below h6 Q5.out.lt)
        have r9 := Lib.hid (Q9.out.trans (h6.mono Q9.out.size))
        clear h6 KC
        go_wp2_with fail
        go_roundw
        case rel =>
          refine ⟨i, rs1, qs, by omega, by go_num, r1.out, k2, k3, ?_, r5.out, p6, p7, ?_, r9.out⟩
          · rw [K4.out, P4.out, HRES.out.1]
          · rw [P8.out, HRES.out.2, Int.pow_succ, Int.mul_comm (2 ^ i) 2, ← Int.mul_assoc, Int.mul_comm _ 2]
        case measure => (simp [intOf] <;> omega)
      · have hge0 : 0 ≤ cmpN (V rs1) (V ys) := by unfold cmpN; rw [if_neg (by omega)]; split <;> omega
        have hres := div_up (D' := V xs / 2 ^ (i + 1)) hHY HHALF.out hbb.1 hbb.2 (by rw [← P4.out, ← K4.out]; exact hcm)
        have HRES := Lib.hid hres
        clear hres
        generalize cmpN (V rs1) (V ys) = cv at *
        go_wp2_with fail
        go_at_call 42
        refine KC.out.mono ?_; rintro e w6 ⟨rfl, h6⟩
        have r1 := K1.out.below h6 K1.out.lt
        have r5 := Q5.out.below h6 Q5.out.lt
        have r9 := Q9.out.trans (h6.mono Q9.out.size)
        have KT := Lib.hid (take_n w.heap.size m m B nz cb w.heap.size rs1 zy w6 r1 k3 k2 (HLY.out.below r9) (Nat.le_refl _) (by omega) (by omega))
        have R5 := Lib.hid r5
        have R9 := Lib.hid r9
        clear h6 KC r1 r5 r9
        go_wp2_with fail
        go_at_call 69
        refine KT.out.mono ?_; rintro e w7 ⟨os, bt, rfl, t1, t2, t3, t4, t5⟩
        have htb := take_below k3 t3 HLY.out.ws k2 t2 t4
        rw [HVT.out] at htb t4
        rw [decide_eq_false (by omega)] at htb
        rw [htb, b1_f, Int.mul_zero, Int.add_zero] at t4
        have s9 := below_grown R9.out t5 (Nat.le_refl _) (Nat.le_refl _)
        have s5 := R5.out.other t5 (by omega)
        have hdiv : V qs % 2 ^ (i + 1) = 0 := by rw [P8.out, Int.mul_emod_left]
        have KS := Lib.hid (set_n gq mq mq i qs w7 s5 p7 p6 (by have := HMQ.out; omega) (by omega) hdiv)
        have T1 := Lib.hid t1
        have T4 := Lib.hid t4
        have S9 := Lib.hid s9
        clear t1 t4 t5 s9 s5 hdiv KT htb
        go_wp2_with fail
        go_at_call 74
        refine KS.out.mono ?_; rintro e w8 ⟨⟨v, rfl⟩, qs', y1, y2, y3, y4, y5⟩
        have z9 := Lib.hid (below_grown S9.out y5 (Nat.le_refl _) (by omega))
        have z1 := Lib.hid (T1.out.other y5 (by omega))
        have Y1 := Lib.hid y1
        have Y4 := Lib.hid y4
        clear y1 y4 y5 KS
        go_wp2_with fail
        go_roundw
        case rel =>
          refine ⟨i, os, qs', by omega, by go_num, z1.out, t2, t3, ?_, Y1.out, y2, y3, ?_, z9.out⟩
          · rw [T4.out, K4.out, P4.out, HRES.out.1]
          · rw [Y4.out, P8.out, HRES.out.2, Int.pow_succ, Int.mul_comm (2 ^ i) 2, ← Int.mul_assoc, Int.mul_comm _ 2, Int.add_mul, Int.one_mul]
        case measure => (simp [intOf] <;> omega)
end Nt
end Go.Proofs.Ytopajockmcgpmaa
namespace Go.Proofs.Ytopajockmcgpmaa
open Go Go.RowKit
namespace Nt
open Wd Sti
set_option linter.unusedVariables false
section
variable {w : World} {A B : Option Addr} {na ca nb cb : Nat} {xs ys : List Int}
theorem div_u (K L : Nat) (ha : Hid (At w A na xs)) (hb : Hid (At w B nb ys)) (la : na ≤ 1048576) (lb : nb ≤ 1048576) (hA : na ≤ ca) (hB : nb ≤ cb) (hA' : ca ≤ 9223372036854775807) (hB' : cb ≤ 9223372036854775807) (hK : na + 2 ≤ K) (hL : nb + 2 ≤ L) (h0 : V ys ≠ 0) :
    Calls Try.prog 49 #[.slice A na ca, .slice B nb cb] w fun e w' => ∃ v1 v2, e = .returned (.tuple #[v1, v2, .int .i64 0]) ∧ New w w' v1 (V xs / V ys) K ∧ New w w' v2 (V xs % V ys) L :=
  (div_n A B na ca nb cb xs ys w ha.out hb.out ⟨hA, la⟩ hA' ⟨hB, lb⟩ hB' h0).mono fun e w' ⟨v1, v2, h, g1, g2⟩ => ⟨v1, v2, h, New.of g1 hK, New.of g2 hL⟩
theorem div0_u (hb : Hid (At w B nb ys)) (lb : nb ≤ 1048576) (hB : nb ≤ cb) (hB' : cb ≤ 9223372036854775807) (h0 : V ys = 0) :
    Calls Try.prog 49 #[.slice A na ca, .slice B nb cb] w fun e w' => e = .returned (.tuple #[.slice none 0 0, .slice none 0 0, .int .i64 2]) ∧ Below w.heap.size w w' :=
  div_zero A B na ca nb cb [] ys w hb.out ⟨hB, lb⟩ hB' h0
theorem len_zero {N : Int} {zs : List Int} {n : Nat} {w : World} {A : Option Addr} (h : Hid (At w A n zs)) (hi : Hid (Is zs N)) (h0 : N = 0) : n = 0 := by
  subst h0
  have := hi.out.uniq Is.nil
  rw [← h.out.len, this]; rfl
theorem len_pos {N : Int} {zs : List Int} {n : Nat} {w : World} {A : Option Addr} (h : Hid (At w A n zs)) (hi : Hid (Is zs N)) (h0 : N ≠ 0) : n ≠ 0 := by
  intro e
  have := h.out.len
  rw [e] at this
  have hz : zs = [] := List.eq_nil_of_length_eq_zero this
  apply h0
  rw [← hi.out.v, hz]; rfl
end
end Nt
end Go.Proofs.Ytopajockmcgpmaa
