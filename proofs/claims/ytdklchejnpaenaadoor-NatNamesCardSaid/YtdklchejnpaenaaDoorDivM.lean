/- Plain arithmetic of a quotient reckoned half by half: each guess is at least the quotient, and made less till it is. -/
import Derived.Test.YtdklchejnpaenaaDoorWordM
import Derived.Lib.Hide
import Derived.Lib.BitFns
namespace Go.Proofs.YtdklchejnpaenaaDoor
open Go.RowKit
namespace Wd
set_option linter.unusedVariables false

theorem kn_split (Y q a b : Int) (hY : Y = a * 4294967296 + b) : q * Y = q * a * 4294967296 + q * b := by
  rw [hY, Int.mul_add, Int.mul_assoc]
theorem kn_exit (Y U v q r a b : Int) (hY : Y = a * 4294967296 + b) (hp : 1 ≤ Y) (hr : q * a + r = U) (hq : (U * 4294967296 + v) / Y ≤ q) (hc : q * b ≤ 4294967296 * r + v) :
    q = (U * 4294967296 + v) / Y := by
  have e := kn_split Y q a b hY
  have : q ≤ (U * 4294967296 + v) / Y := by
    apply Int.le_ediv_of_mul_le (by omega)
    rw [e]; omega
  omega
theorem kn_step (Y U v q r a b : Int) (hY : Y = a * 4294967296 + b) (hp : 1 ≤ Y) (hU : U + 1 ≤ Y) (hv : v < 4294967296) (hr : q * a + r = U) (hq : (U * 4294967296 + v) / Y ≤ q) (hc : 4294967296 ≤ q ∨ 4294967296 * r + v < q * b) :
    (U * 4294967296 + v) / Y ≤ q - 1 := by
  have e := kn_split Y q a b hY
  rcases hc with hc | hc
  · have : (U * 4294967296 + v) / Y < 4294967296 := Int.ediv_lt_of_lt_mul (by omega) (by omega)
    omega
  · have : (U * 4294967296 + v) / Y < q := Int.ediv_lt_of_lt_mul (by omega) (by rw [e]; omega)
    omega
theorem kn_break (Y U v q r a b : Int) (hY : Y = a * 4294967296 + b) (hp : 1 ≤ Y) (hv : 0 ≤ v) (b0 : 0 ≤ b) (b1 : b < 4294967296) (q0 : 0 ≤ q) (q1 : q ≤ 4294967296) (hr : q * a + r = U) (hq : (U * 4294967296 + v) / Y ≤ q) (hc : 4294967296 ≤ r) :
    q = (U * 4294967296 + v) / Y := by
  refine kn_exit Y U v q r a b hY hp hr hq ?_
  have := Int.mul_le_mul q1 (show b ≤ 4294967296 by omega) b0 (by omega)
  omega
/-- the first guess -/
theorem kn_first (Y U v a b : Int) (hY : Y = a * 4294967296 + b) (ha : 2147483648 ≤ a) (b0 : 0 ≤ b) (b1 : b < 4294967296) (u0 : 0 ≤ U) (hU : U + 1 ≤ Y) (v0 : 0 ≤ v) (hv : v < 4294967296) :
    (U * 4294967296 + v) / Y ≤ U / a ∧ U / a ≤ 4294967297 ∧ 0 ≤ U / a ∧ U / a * a + U % a = U ∧ 0 ≤ U / a * a ∧ U / a * a ≤ U := by
  have m := Int.mul_ediv_add_emod U a
  rw [Int.mul_comm] at m
  have r0 := Int.emod_nonneg U (show a ≠ 0 by omega)
  have r1 := Int.emod_lt_of_pos U (show 0 < a by omega)
  have d0 := Int.ediv_nonneg u0 (show 0 ≤ a by omega)
  have p0 := Int.mul_nonneg d0 (show 0 ≤ a by omega)
  have e := kn_split Y (U / a + 1) a b hY
  have e1 : (U / a + 1) * a = U / a * a + a := by rw [Int.add_mul, Int.one_mul]
  have e2 : (U / a + 1) * b = U / a * b + b := by rw [Int.add_mul, Int.one_mul]
  refine ⟨?_, ?_, d0, m, p0, by omega⟩
  · have : (U * 4294967296 + v) / Y < U / a + 1 := by
      apply Int.ediv_lt_of_lt_mul (by omega)
      rw [e, e1, e2]
      have := Int.mul_nonneg d0 b0
      omega
    omega
  · have : U / a < 4294967298 := Int.ediv_lt_of_lt_mul (by omega) (by omega)
    omega
/-- what a round comes to: one guess less, or the quotient is there -/
theorem kn_round (Y U v a b A B : Int) (hY : Y = A * 4294967296 + B) (hA : 2147483648 ≤ A) (hA' : A < 4294967296) (hp : 1 ≤ Y) (hU : U + 1 ≤ Y) (u0 : 0 ≤ U) (v0 : 0 ≤ v) (hv : v < 4294967296) (B0 : 0 ≤ B) (B1 : B < 4294967296)
    (ha0 : 0 ≤ a) (ha1 : a ≤ 4294967297) (hb0 : 0 ≤ b) (hb1 : b < 4294967296) (R1 : a * A + b = U) (R2 : (U * 4294967296 + v) / Y ≤ a) :
    (4294967296 ≤ a ∧ b + A < 4294967296 ∧ 1 ≤ a ∧ Hid ((a - 1) * A + (b + A) = U) ∧ Hid ((U * 4294967296 + v) / Y ≤ a - 1)) ∨
    (a < 4294967296 ∧ 4294967296 * b + v < a * B ∧ b + A < 4294967296 ∧ 1 ≤ a ∧ (0 ≤ a * B ∧ a * B ≤ 18446744065119617025) ∧ Hid ((a - 1) * A + (b + A) = U) ∧ Hid ((U * 4294967296 + v) / Y ≤ a - 1)) ∨
    (4294967296 ≤ a ∧ 4294967296 ≤ b + A ∧ 1 ≤ a ∧ Hid (a - 1 = (U * 4294967296 + v) / Y)) ∨
    (a < 4294967296 ∧ 4294967296 * b + v < a * B ∧ 4294967296 ≤ b + A ∧ 1 ≤ a ∧ (0 ≤ a * B ∧ a * B ≤ 18446744065119617025) ∧ Hid (a - 1 = (U * 4294967296 + v) / Y)) ∨
    (a < 4294967296 ∧ a * B ≤ 4294967296 * b + v ∧ (0 ≤ a * B ∧ a * B ≤ 18446744065119617025) ∧ Hid (a = (U * 4294967296 + v) / Y)) := by
  have e8 : (a - 1) * A + (b + A) = U := by rw [Int.sub_mul]; omega
  by_cases hc : 4294967296 ≤ a
  · have st := kn_step Y U v a b A B hY hp hU hv R1 R2 (.inl hc)
    by_cases hb : b + A < 4294967296
    · exact .inl ⟨hc, hb, by omega, e8, st⟩
    · exact .inr (.inr (.inl ⟨hc, by omega, by omega, kn_break Y U v (a - 1) (b + A) A B hY hp v0 B0 B1 (by omega) (by omega) e8 st (by omega)⟩))
  · have pp := half_mul (x := a) (y := B) (by omega) (by omega) (by omega) (by omega)
    by_cases ht : 4294967296 * b + v < a * B
    · have st := kn_step Y U v a b A B hY hp hU hv R1 R2 (.inr ht)
      have ap : 1 ≤ a := by
        apply Classical.byContradiction
        intro hn
        have : a = 0 := by omega
        subst this
        omega
      by_cases hb : b + A < 4294967296
      · exact .inr (.inl ⟨by omega, ht, hb, ap, pp, e8, st⟩)
      · exact .inr (.inr (.inr (.inl ⟨by omega, ht, by omega, ap, pp, kn_break Y U v (a - 1) (b + A) A B hY hp v0 B0 B1 (by omega) (by omega) e8 st (by omega)⟩)))
    · exact .inr (.inr (.inr (.inr ⟨by omega, by omega, pp, kn_exit Y U v a b A B hY hp R1 R2 (by omega)⟩)))
/-- the whole: what two halves' quotients are together -/
theorem kn_both (N Y : Int) (hY : 1 ≤ Y) (A B : Int) (hN : N = A * 4294967296 + B) (b0 : 0 ≤ B) (b1 : B < 4294967296) :
    N / Y = A / Y * 4294967296 + (A % Y * 4294967296 + B) / Y ∧ N % Y = (A % Y * 4294967296 + B) % Y := by
  have m := Int.mul_ediv_add_emod A Y
  have e : N = (A % Y * 4294967296 + B) + A / Y * 4294967296 * Y := by
    rw [hN, show A / Y * 4294967296 * Y = Y * (A / Y) * 4294967296 by rw [Int.mul_right_comm, Int.mul_comm (A / Y) Y]]
    omega
  constructor
  · rw [e, Int.add_mul_ediv_right _ _ (by omega), Int.add_comm]
  · rw [e, Int.add_mul_emod_self_right]
/-! ### how many bits a word has -/
theorem bl_zero : Lib.bitLen 0 = 0 := by decide +kernel
theorem bl_spec (x : Nat) (h : x < 18446744073709551616) : x < 2 ^ Lib.bitLen x ∧ (x ≠ 0 → 1 ≤ Lib.bitLen x ∧ 2 ^ (Lib.bitLen x - 1) ≤ x) ∧ Lib.bitLen x ≤ 64 := by
  have key : ∀ (f x : Nat), x < 2 ^ f → f ≤ 64 → x < 2 ^ Lib.bitLen x ∧ (x ≠ 0 → 1 ≤ Lib.bitLen x ∧ 2 ^ (Lib.bitLen x - 1) ≤ x) ∧ Lib.bitLen x ≤ f := by
    intro f
    induction f with
    | zero =>
      intro x hx _
      have : x = 0 := by simp at hx; omega
      subst this
      rw [bl_zero]; simp
    | succ f ih =>
      intro x hx hf
      by_cases h0 : x = 0
      · subst h0
        rw [bl_zero]; simp
      · have hp : 2 ^ (f + 1) ≤ 2 ^ 64 := Nat.pow_le_pow_right (by omega) hf
        have hs : (2 : Nat) ^ (f + 1) = 2 * 2 ^ f := by rw [Nat.pow_succ]; omega
        have e := Lib.bitLen_half x h0 (by omega)
        obtain ⟨i1, i2, i3⟩ := ih (x / 2) (by omega) (by omega)
        rw [e, show 1 + Lib.bitLen (x / 2) = Lib.bitLen (x / 2) + 1 by omega, Nat.pow_succ]
        refine ⟨by omega, fun _ => ⟨by omega, ?_⟩, by omega⟩
        by_cases h1 : x / 2 = 0
        · rw [h1, bl_zero]; simp; omega
        · obtain ⟨j1, j2⟩ := i2 h1
          have : (2 : Nat) ^ (Lib.bitLen (x / 2) + 1 - 1) = 2 * 2 ^ (Lib.bitLen (x / 2) - 1) := by
            rw [show Lib.bitLen (x / 2) + 1 - 1 = (Lib.bitLen (x / 2) - 1) + 1 by omega, Nat.pow_succ]; omega
          omega
  exact key 64 x (by omega) (by omega)
/-- a word, moved up till its highest bit stands highest -/
theorem bl_up (y : Int) (h1 : 1 ≤ y) (h2 : y ≤ 18446744073709551615) :
    ∃ n : Nat, (64 : Int) - Lib.bitLen y.toNat = n ∧ n ≤ 63 ∧ 9223372036854775808 ≤ y * 2 ^ n ∧ y * 2 ^ n ≤ 18446744073709551615 := by
  obtain ⟨m, rfl⟩ := Int.eq_ofNat_of_zero_le (show 0 ≤ y by omega)
  obtain ⟨i1, i2, i3⟩ := bl_spec m (by omega)
  obtain ⟨j1, j2⟩ := i2 (by omega)
  rw [Int.toNat_natCast]
  generalize Lib.bitLen m = b at *
  refine ⟨64 - b, by omega, by omega, ?_, ?_⟩
  · have e : (9223372036854775808 : Nat) = 2 ^ (b - 1) * 2 ^ (64 - b) := by rw [← Nat.pow_add, show b - 1 + (64 - b) = 63 by omega]
    have := Nat.mul_le_mul_right (2 ^ (64 - b)) j2
    have g : ((m : Int) * 2 ^ (64 - b)) = ((m * 2 ^ (64 - b) : Nat) : Int) := by simp
    rw [g]; omega
  · have e : (18446744073709551616 : Nat) = 2 ^ b * 2 ^ (64 - b) := by rw [← Nat.pow_add, show b + (64 - b) = 64 by omega]
    have := Nat.mul_lt_mul_of_pos_right i1 (Nat.two_pow_pos (64 - b))
    have g : ((m : Int) * 2 ^ (64 - b)) = ((m * 2 ^ (64 - b) : Nat) : Int) := by simp
    rw [g]; omega
/-- what the dividend becomes, moved up as far -/
theorem up_parts (h l y : Int) (n : Nat) (hn : n ≤ 63) (hh : W h) (hl : W l) (hlt : h + 1 ≤ y) (y1 : y * 2 ^ n ≤ 18446744073709551615) :
    bits .or .u64 (IntKind.u64.wrap (h * 2 ^ n)) (l / 2 ^ (64 - n)) = (h * 18446744073709551616 + l) * 2 ^ n / 18446744073709551616 ∧
    IntKind.u64.wrap (l * 2 ^ n) = (h * 18446744073709551616 + l) * 2 ^ n % 18446744073709551616 ∧
    (h * 18446744073709551616 + l) * 2 ^ n / 18446744073709551616 + 1 ≤ y * 2 ^ n := by
  obtain ⟨h0, h1⟩ := hh
  obtain ⟨l0, l1⟩ := hl
  have hpq : (2 : Int) ^ n * 2 ^ (64 - n) = 18446744073709551616 := by rw [← Int.pow_add, show n + (64 - n) = 64 by omega]; rfl
  have hp : (1 : Int) ≤ 2 ^ n := by have : (0 : Int) < 2 ^ n := Int.pow_pos (by decide); omega
  have hq : (1 : Int) ≤ 2 ^ (64 - n) := by have : (0 : Int) < 2 ^ (64 - n) := Int.pow_pos (by decide); omega
  have hle : (h + 1) * 2 ^ n ≤ y * 2 ^ n := Int.mul_le_mul_of_nonneg_right hlt (by omega)
  rw [Int.add_mul, Int.one_mul] at hle
  have hp0 : 0 ≤ h * 2 ^ n := Int.mul_nonneg h0 (by omega)
  have hlq : l / 2 ^ (64 - n) < 2 ^ n := Int.ediv_lt_of_lt_mul (by omega) (by rw [hpq]; omega)
  have hlq0 : 0 ≤ l / 2 ^ (64 - n) := Int.ediv_nonneg l0 (by omega)
  have ell : l * 2 ^ n / 18446744073709551616 = l / 2 ^ (64 - n) := by
    rw [← hpq, Int.mul_comm l, Int.mul_ediv_mul_of_pos _ _ (by omega)]
  have eU : (h * 18446744073709551616 + l) * 2 ^ n / 18446744073709551616 = h * 2 ^ n + l / 2 ^ (64 - n) := by
    rw [← ell, Int.add_mul, Int.mul_right_comm]
    omega
  refine ⟨?_, ?_, ?_⟩
  · rw [eU, IntKind.wrap_u64, Int.emod_eq_of_lt hp0 (by omega)]
    obtain ⟨H, rfl⟩ := Int.eq_ofNat_of_zero_le h0
    obtain ⟨L, hL⟩ := Int.eq_ofNat_of_zero_le hlq0
    rw [hL] at hlq ⊢
    have g2 : (2 : Int) ^ n = ((2 ^ n : Nat) : Int) := by simp
    have hb : ((H * 2 ^ n : Nat) : Int) + ((2 ^ n : Nat) : Int) ≤ 18446744073709551615 := by rw [Int.natCast_mul, ← g2]; omega
    rw [g2] at hlq ⊢
    rw [← Int.natCast_mul, u64_or_nat _ _ (by omega) (by omega), nat_join n _ _ (Nat.mul_mod_left _ _) (by omega)]
    rfl
  · rw [IntKind.wrap_u64, Int.add_mul, Int.mul_right_comm]; omega
  · rw [eU]; omega
end Wd
end Go.Proofs.YtdklchejnpaenaaDoor
