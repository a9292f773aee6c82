/- Plain arithmetic of a quotient reckoned bit by bit, and of an inverse found bit by bit. -/
import Derived.Test.YtdklchejnpaenaaDoorDivM
namespace Go.Proofs.YtdklchejnpaenaaDoor
open Go.RowKit
namespace Wd
set_option linter.unusedVariables false

theorem pow_pos' (n : Nat) : (1 : Int) ≤ 2 ^ n := by have : (0 : Int) < 2 ^ n := Int.pow_pos (by decide); omega
theorem pow_up (n : Nat) : (2 : Int) ^ (n + 1) = 2 * 2 ^ n := by rw [Int.pow_succ]; omega
theorem pow_le {a b : Nat} (h : a ≤ b) : (2 : Int) ^ a ≤ 2 ^ b := by
  obtain ⟨d, rfl⟩ := Nat.exists_eq_add_of_le h
  rw [Int.pow_add]
  have := Int.mul_le_mul_of_nonneg_left (pow_pos' d) (show (0 : Int) ≤ 2 ^ a by have := pow_pos' a; omega)
  omega
theorem pow64 : (2 : Int) ^ 64 = 18446744073709551616 := by rfl
theorem or_add (a b : Int) (k : Nat) (h0 : 0 ≤ a) (h1 : a ≤ 18446744073709551615) (hm : a % 2 ^ k = 0) (h2 : 0 ≤ b) (h3 : b < 2 ^ k) (h4 : b ≤ 18446744073709551615) : bits .or .u64 a b = a + b := by
  obtain ⟨n, rfl⟩ := Int.eq_ofNat_of_zero_le h0
  obtain ⟨m, rfl⟩ := Int.eq_ofNat_of_zero_le h2
  have g2 : (2 : Int) ^ k = ((2 ^ k : Nat) : Int) := by simp
  rw [g2] at hm h3
  rw [u64_or_nat n m (by omega) (by omega), nat_join k n m (by omega) (by omega)]
  rfl

/-- the upper bits of a number of two words -/
def dv (h l : Int) (j : Nat) : Int := (h * 18446744073709551616 + l) / 2 ^ j
theorem dv_half (h l : Int) (j : Nat) : dv h l (j + 1) = dv h l j / 2 := by
  unfold dv
  rw [Int.pow_succ, Int.ediv_ediv_of_nonneg (by have := pow_pos' j; omega)]
theorem dv_bit (h l : Int) (j : Nat) (hj : j ≤ 63) : dv h l j % 2 = l / 2 ^ j % 2 := by
  have e : h * 18446744073709551616 + l = l + h * 2 * 2 ^ (63 - j) * 2 ^ j := by
    rw [Int.mul_assoc (h * 2), ← Int.pow_add, show 63 - j + j = 63 by omega, Int.mul_assoc]
    rw [show (2 : Int) * 2 ^ 63 = 18446744073709551616 by rfl]; omega
  unfold dv
  rw [e, Int.add_mul_ediv_right _ _ (by have := pow_pos' j; omega), Int.mul_right_comm, Int.add_mul_emod_self_right]
theorem dv_le (h l y : Int) (j : Nat) (hh : 0 ≤ h) (hl : 0 ≤ l) (hl' : l ≤ 18446744073709551615) (hy : h + 1 ≤ y) : 0 ≤ 2 ^ j * (dv h l j / y) ∧ 2 ^ j * (dv h l j / y) ≤ 18446744073709551615 := by
  have p := pow_pos' j
  have d0 : 0 ≤ dv h l j := Int.ediv_nonneg (by omega) (by omega)
  have q0 : 0 ≤ dv h l j / y := Int.ediv_nonneg d0 (by omega)
  refine ⟨Int.mul_nonneg (by omega) q0, ?_⟩
  have a1 : dv h l j / y * y ≤ dv h l j := Int.ediv_mul_le _ (by omega)
  have a2 : dv h l j * 2 ^ j ≤ h * 18446744073709551616 + l := Int.ediv_mul_le _ (by omega)
  have a3 := Int.mul_le_mul_of_nonneg_right a1 (show (0 : Int) ≤ 2 ^ j by omega)
  have a4 : (2 ^ j * (dv h l j / y)) * y < 18446744073709551616 * y := by
    rw [Int.mul_comm (2 ^ j), Int.mul_right_comm]; omega
  have := Int.lt_of_mul_lt_mul_right a4 (by omega)
  omega
theorem dv_top (h l : Int) (hl : 0 ≤ l) (hl' : l ≤ 18446744073709551615) : dv h l 64 = h := by
  unfold dv; rw [pow64]; omega
theorem dv_zero (h l : Int) : dv h l 0 = h * 18446744073709551616 + l := by unfold dv; simp

/-- one round of the quotient, bit by bit -/
theorem rdiv_round (h l y : Int) (k : Nat) (q r : Int) (hh : W h) (hl : W l) (hy : W y) (hlt : h + 1 ≤ y) (hk : k ≤ 63) (hq : q = 2 ^ (k + 1) * (dv h l (k + 1) / y)) (hr : r = dv h l (k + 1) % y) :
    0 ≤ r ∧ r + 1 ≤ y ∧ 0 ≤ q ∧ q ≤ 18446744073709551615 ∧ ∃ c q1 r1 : Int, bits .and .u64 (l / 2 ^ k) 1 = c ∧ 0 ≤ c ∧ c ≤ 1 ∧ Hid (q1 = 2 ^ k * (dv h l k / y)) ∧ Hid (r1 = dv h l k % y) ∧
      ((∃ z, r / 9223372036854775808 = 1 ∧ bits .or .u64 (IntKind.u64.wrap (r * 2)) c = z ∧ IntKind.u64.wrap (z - y) = r1 ∧ bits .or .u64 q (IntKind.u64.wrap (2 ^ k)) = q1) ∨
       (∃ z, r / 9223372036854775808 = 0 ∧ bits .or .u64 (r * 2) c = z ∧ y ≤ z ∧ z ≤ 18446744073709551615 ∧ z - y = r1 ∧ bits .or .u64 q (IntKind.u64.wrap (2 ^ k)) = q1) ∨
       (∃ z, r / 9223372036854775808 = 0 ∧ bits .or .u64 (r * 2) c = z ∧ z < y ∧ z = r1 ∧ q = q1)) := by
  obtain ⟨h0, h1⟩ := hh
  obtain ⟨l0, l1⟩ := hl
  obtain ⟨y0, y1⟩ := hy
  have b1 := dv_bit h l k hk
  have b2 := dv_half h l k
  have r0 : 0 ≤ r := by rw [hr]; exact Int.emod_nonneg _ (by omega)
  have r1 : r + 1 ≤ y := by rw [hr]; have := Int.emod_lt_of_pos (dv h l (k + 1)) (show 0 < y by omega); omega
  obtain ⟨q0, q1⟩ := dv_le h l y (k + 1) h0 l0 l1 hlt
  rw [← hq] at q0 q1
  have m := Int.mul_ediv_add_emod (dv h l (k + 1)) y
  rw [← hr] at m
  have e : dv h l k = 2 * dv h l (k + 1) + l / 2 ^ k % 2 := by omega
  have hp := pow_pos' k
  have hple : (2 : Int) ^ k ≤ 9223372036854775808 := by have := pow_le hk; rw [show (2 : Int) ^ 63 = 9223372036854775808 by rfl] at this; exact this
  have ec : bits .and .u64 (l / 2 ^ k) 1 = l / 2 ^ k % 2 := and_one _ (Int.ediv_nonneg l0 (by omega)) (by have := Int.ediv_le_self (2 ^ k) l0; omega)
  have hqm : q % 2 ^ (k + 1) = 0 := by rw [hq]; exact Int.mul_emod_right _ _
  have hu := pow_up k
  have eq1 : bits .or .u64 q (IntKind.u64.wrap (2 ^ k)) = q + 2 ^ k := by
    rw [IntKind.wrap_u64, Int.emod_eq_of_lt (by omega) (by omega)]
    exact or_add q (2 ^ k) (k + 1) q0 q1 hqm (by omega) (by omega) (by omega)
  refine ⟨r0, r1, q0, q1, l / 2 ^ k % 2, 2 ^ k * (dv h l k / y), dv h l k % y, ec, by omega, by omega, rfl, rfl, ?_⟩
  have hb : 0 ≤ l / 2 ^ k % 2 ∧ l / 2 ^ k % 2 ≤ 1 := by omega
  generalize l / 2 ^ k % 2 = c at *
  -- the new quotient and rest, either way
  have up : ∀ s : Int, s = 0 ∨ s = 1 → 0 ≤ 2 * r + c - s * y → 2 * r + c - s * y < y → dv h l k / y = 2 * (dv h l (k + 1) / y) + s ∧ dv h l k % y = 2 * r + c - s * y := by
    intro s hs s0 s1
    have : dv h l k = (2 * r + c - s * y) + (2 * (dv h l (k + 1) / y) + s) * y := by
      rw [e, Int.add_mul, Int.mul_assoc, Int.mul_comm (dv h l (k + 1) / y) y]
      omega
    rw [this, Int.add_mul_ediv_right _ _ (by omega), Int.add_mul_emod_self_right, Int.emod_eq_of_lt s0 s1, Int.ediv_eq_zero_of_lt s0 s1]
    exact ⟨by omega, rfl⟩
  have q2 : 2 ^ k * (2 * (dv h l (k + 1) / y)) = q := by rw [hq, hu, Int.mul_left_comm, Int.mul_assoc]
  have z1 : r ≤ 9223372036854775807 → bits .or .u64 (r * 2) c = r * 2 + c := fun hr => or_add (r * 2) c 1 (by omega) (by omega) (by omega) (by omega) (by omega) (by omega)
  by_cases hbig : 9223372036854775808 ≤ r
  · obtain ⟨u1, u2⟩ := up 1 (.inr rfl) (by omega) (by omega)
    refine .inl ⟨_, by omega, rfl, ?_, ?_⟩
    · rw [u2, IntKind.wrap_u64, IntKind.wrap_u64, or_add _ c 1 (by omega) (by omega) (by omega) (by omega) (by omega) (by omega)]
      omega
    · rw [eq1, u1, Int.mul_add, q2]; omega
  · by_cases hz : y ≤ r * 2 + c
    · obtain ⟨u1, u2⟩ := up 1 (.inr rfl) (by omega) (by omega)
      refine .inr (.inl ⟨_, by omega, z1 (by omega), hz, by omega, ?_, ?_⟩)
      · rw [u2]; omega
      · rw [eq1, u1, Int.mul_add, q2]; omega
    · obtain ⟨u1, u2⟩ := up 0 (.inl rfl) (by omega) (by omega)
      refine .inr (.inr ⟨_, by omega, z1 (by omega), by omega, ?_, ?_⟩)
      · rw [u2]; omega
      · rw [u1, Int.mul_add, q2]; omega
end Wd
end Go.Proofs.YtdklchejnpaenaaDoor
