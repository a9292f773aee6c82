/- Plain arithmetic of a quotient reckoned half by half: each guess is at least the quotient, and made less till it is. | The contract of math/bits.Div64: quotient and rest of two words by one that is above the higher one. | Contracts of package word that stand on math/bits: Div, Inverse, Bits. | The contract of word.Bits. | Plain arithmetic of a quotient reckoned bit by bit, and of an inverse found bit by bit. | Contracts of the document's own sums, differences, products and bits of words. | The statements' own Pick: n modulo m, from 0 on; 0 of m below 1. | Plain arithmetic of inverses round at 2^64: found by doubling, found bit by bit, and there is but one. | Contracts of the document's own answers for words. -/
import Derived.Test.YtopajockmcgpmaaB1
import Derived.Test.YtopajockmcgpmaaShelf
import Derived.Test.YtopajockmcgpmaaRows
import Derived.Lib.Hide
import Derived.Lib.BitFns
import Derived.Deep.QuietTactic
import Derived.BigQuiet
import Derived.WalkKit
import Derived.ProofKit
import Derived.OpenShut
namespace Go.Proofs.Ytopajockmcgpmaa
open Go.RowKit
namespace Wd
set_option linter.unusedVariables false
theorem kn_split (Y q a b : Int) (hY : Y = a * 4294967296 + b) : q * Y = q * a * 4294967296 + q * b := by
  rw [hY, Int.mul_add, Int.mul_assoc]
theorem kn_exit (Y U v q r a b : Int) (hY : Y = a * 4294967296 + b) (hp : 1 ≤ Y) (hr : q * a + r = U) (hq : (U * 4294967296 + v) / Y ≤ q) (hc : q * b ≤ 4294967296 * r + v) :
    q = (U * 4294967296 + v) / Y := by
  have e := kn_split Y q a b hY
  have : q ≤ (U * 4294967296 + v) / Y := by
    apply Int.le_ediv_of_mul_le (by omega)
    rw [e]; omega
  omega
theorem kn_step (Y U v q r a b : Int) (hY : Y = a * 4294967296 + b) (hp : 1 ≤ Y) (hU : U + 1 ≤ Y) (hv : v < 4294967296) (hr : q * a + r = U) (hq : (U * 4294967296 + v) / Y ≤ q) (hc : 4294967296 ≤ q ∨ 4294967296 * r + v < q * b) :
    (U * 4294967296 + v) / Y ≤ q - 1 := by
  have e := kn_split Y q a b hY
  rcases hc with hc | hc
  · have : (U * 4294967296 + v) / Y < 4294967296 := Int.ediv_lt_of_lt_mul (by omega) (by omega)
    omega
  · have : (U * 4294967296 + v) / Y < q := Int.ediv_lt_of_lt_mul (by omega) (by rw [e]; omega)
    omega
theorem kn_break (Y U v q r a b : Int) (hY : Y = a * 4294967296 + b) (hp : 1 ≤ Y) (hv : 0 ≤ v) (b0 : 0 ≤ b) (b1 : b < 4294967296) (q0 : 0 ≤ q) (q1 : q ≤ 4294967296) (hr : q * a + r = U) (hq : (U * 4294967296 + v) / Y ≤ q) (hc : 4294967296 ≤ r) :
    q = (U * 4294967296 + v) / Y := by
  refine kn_exit Y U v q r a b hY hp hr hq ?_
  have := Int.mul_le_mul q1 (show b ≤ 4294967296 by omega) b0 (by omega)
  omega
/-- the first guess -/
theorem kn_first (Y U v a b : Int) (hY : Y = a * 4294967296 + b) (ha : 2147483648 ≤ a) (b0 : 0 ≤ b) (b1 : b < 4294967296) (u0 : 0 ≤ U) (hU : U + 1 ≤ Y) (v0 : 0 ≤ v) (hv : v < 4294967296) :
    (U * 4294967296 + v) / Y ≤ U / a ∧ U / a ≤ 4294967297 ∧ 0 ≤ U / a ∧ U / a * a + U % a = U ∧ 0 ≤ U / a * a ∧ U / a * a ≤ U := by
  have m := Int.mul_ediv_add_emod U a
  rw [Int.mul_comm] at m
  have r0 := Int.emod_nonneg U (show a ≠ 0 by omega)
  have r1 := Int.emod_lt_of_pos U (show 0 < a by omega)
  have d0 := Int.ediv_nonneg u0 (show 0 ≤ a by omega)
  have p0 := Int.mul_nonneg d0 (show 0 ≤ a by omega)
  have e := kn_split Y (U / a + 1) a b hY
  have e1 : (U / a + 1) * a = U / a * a + a := by rw [Int.add_mul, Int.one_mul]
  have e2 : (U / a + 1) * b = U / a * b + b := by rw [Int.add_mul, Int.one_mul]
  refine ⟨?_, ?_, d0, m, p0, by omega⟩
  · have : (U * 4294967296 + v) / Y < U / a + 1 := by
      apply Int.ediv_lt_of_lt_mul (by omega)
      rw [e, e1, e2]
      have := Int.mul_nonneg d0 b0
      omega
    omega
  · have : U / a < 4294967298 := Int.ediv_lt_of_lt_mul (by omega) (by omega)
    omega
/-- what a round comes to: one guess less, or the quotient is there -/
theorem kn_round (Y U v a b A B : Int) (hY : Y = A * 4294967296 + B) (hA : 2147483648 ≤ A) (hA' : A < 4294967296) (hp : 1 ≤ Y) (hU : U + 1 ≤ Y) (u0 : 0 ≤ U) (v0 : 0 ≤ v) (hv : v < 4294967296) (B0 : 0 ≤ B) (B1 : B < 4294967296)
    (ha0 : 0 ≤ a) (ha1 : a ≤ 4294967297) (hb0 : 0 ≤ b) (hb1 : b < 4294967296) (R1 : a * A + b = U) (R2 : (U * 4294967296 + v) / Y ≤ a) :
    (4294967296 ≤ a ∧ b + A < 4294967296 ∧ 1 ≤ a ∧ Hid ((a - 1) * A + (b + A) = U) ∧ Hid ((U * 4294967296 + v) / Y ≤ a - 1)) ∨
    (a < 4294967296 ∧ 4294967296 * b + v < a * B ∧ b + A < 4294967296 ∧ 1 ≤ a ∧ (0 ≤ a * B ∧ a * B ≤ 18446744065119617025) ∧ Hid ((a - 1) * A + (b + A) = U) ∧ Hid ((U * 4294967296 + v) / Y ≤ a - 1)) ∨
    (4294967296 ≤ a ∧ 4294967296 ≤ b + A ∧ 1 ≤ a ∧ Hid (a - 1 = (U * 4294967296 + v) / Y)) ∨
    (a < 4294967296 ∧ 4294967296 * b + v < a * B ∧ 4294967296 ≤ b + A ∧ 1 ≤ a ∧ (0 ≤ a * B ∧ a * B ≤ 18446744065119617025) ∧ Hid (a - 1 = (U * 4294967296 + v) / Y)) ∨
    (a < 4294967296 ∧ a * B ≤ 4294967296 * b + v ∧ (0 ≤ a * B ∧ a * B ≤ 18446744065119617025) ∧ Hid (a = (U * 4294967296 + v) / Y)) := by
  have e8 : (a - 1) * A + (b + A) = U := by rw [Int.sub_mul]; omega
  by_cases hc : 4294967296 ≤ a
  · have st := kn_step Y U v a b A B hY hp hU hv R1 R2 (.inl hc)
    by_cases hb : b + A < 4294967296
    · exact .inl ⟨hc, hb, by omega, e8, st⟩
    · exact .inr (.inr (.inl ⟨hc, by omega, by omega, kn_break Y U v (a - 1) (b + A) A B hY hp v0 B0 B1 (by omega) (by omega) e8 st (by omega)⟩))
  · have pp := half_mul (x := a) (y := B) (by omega) (by omega) (by omega) (by omega)
    by_cases ht : 4294967296 * b + v < a * B
    · have st := kn_step Y U v a b A B hY hp hU hv R1 R2 (.inr ht)
      have ap : 1 ≤ a := by
        apply Classical.byContradiction
        intro hn
        have : a = 0 := by omega
        subst this
        omega
      by_cases hb : b + A < 4294967296
      · exact .inr (.inl ⟨by omega, ht, hb, ap, pp, e8, st⟩)
      · exact .inr (.inr (.inr (.inl ⟨by omega, ht, by omega, ap, pp, kn_break Y U v (a - 1) (b + A) A B hY hp v0 B0 B1 (by omega) (by omega) e8 st (by omega)⟩)))
    · exact .inr (.inr (.inr (.inr ⟨by omega, by omega, pp, kn_exit Y U v a b A B hY hp R1 R2 (by omega)⟩)))
/-- the whole: what two halves' quotients are together -/
theorem kn_both (N Y : Int) (hY : 1 ≤ Y) (A B : Int) (hN : N = A * 4294967296 + B) (b0 : 0 ≤ B) (b1 : B < 4294967296) :
    N / Y = A / Y * 4294967296 + (A % Y * 4294967296 + B) / Y ∧ N % Y = (A % Y * 4294967296 + B) % Y := by
  have m := Int.mul_ediv_add_emod A Y
  have e : N = (A % Y * 4294967296 + B) + A / Y * 4294967296 * Y := by
    rw [hN, show A / Y * 4294967296 * Y = Y * (A / Y) * 4294967296 by rw [Int.mul_right_comm, Int.mul_comm (A / Y) Y]]
    omega
  constructor
  · rw [e, Int.add_mul_ediv_right _ _ (by omega), Int.add_comm]
  · rw [e, Int.add_mul_emod_self_right]
/-! ### how many bits a word has -/
theorem bl_zero : Lib.bitLen 0 = 0 := by decide +kernel
theorem bl_spec (x : Nat) (h : x < 18446744073709551616) : x < 2 ^ Lib.bitLen x ∧ (x ≠ 0 → 1 ≤ Lib.bitLen x ∧ 2 ^ (Lib.bitLen x - 1) ≤ x) ∧ Lib.bitLen x ≤ 64 := by
  have key : ∀ (f x : Nat), x < 2 ^ f → f ≤ 64 → x < 2 ^ Lib.bitLen x ∧ (x ≠ 0 → 1 ≤ Lib.bitLen x ∧ 2 ^ (Lib.bitLen x - 1) ≤ x) ∧ Lib.bitLen x ≤ f := by
    intro f
    induction f with
    | zero =>
      intro x hx _
      have : x = 0 := by simp at hx; omega
      subst this
      rw [bl_zero]; simp
    | succ f ih =>
      intro x hx hf
      by_cases h0 : x = 0
      · subst h0
        rw [bl_zero]; simp
      · have hp : 2 ^ (f + 1) ≤ 2 ^ 64 := Nat.pow_le_pow_right (by omega) hf
        have hs : (2 : Nat) ^ (f + 1) = 2 * 2 ^ f := by rw [Nat.pow_succ]; omega
        have e := Lib.bitLen_half x h0 (by omega)
        obtain ⟨i1, i2, i3⟩ := ih (x / 2) (by omega) (by omega)
        rw [e, show 1 + Lib.bitLen (x / 2) = Lib.bitLen (x / 2) + 1 by omega, Nat.pow_succ]
        refine ⟨by omega, fun _ => ⟨by omega, ?_⟩, by omega⟩
        by_cases h1 : x / 2 = 0
        · rw [h1, bl_zero]; simp; omega
        · obtain ⟨j1, j2⟩ := i2 h1
          have : (2 : Nat) ^ (Lib.bitLen (x / 2) + 1 - 1) = 2 * 2 ^ (Lib.bitLen (x / 2) - 1) := by
            rw [show Lib.bitLen (x / 2) + 1 - 1 = (Lib.bitLen (x / 2) - 1) + 1 by omega, Nat.pow_succ]; omega
          omega
  exact key 64 x (by omega) (by omega)
/-- a word, moved up till its highest bit stands highest -/
theorem bl_up (y : Int) (h1 : 1 ≤ y) (h2 : y ≤ 18446744073709551615) :
    ∃ n : Nat, (64 : Int) - Lib.bitLen y.toNat = n ∧ n ≤ 63 ∧ 9223372036854775808 ≤ y * 2 ^ n ∧ y * 2 ^ n ≤ 18446744073709551615 := by
  obtain ⟨m, rfl⟩ := Int.eq_ofNat_of_zero_le (show 0 ≤ y by omega)
  obtain ⟨i1, i2, i3⟩ := bl_spec m (by omega)
  obtain ⟨j1, j2⟩ := i2 (by omega)
  rw [Int.toNat_natCast]
  generalize Lib.bitLen m = b at *
  refine ⟨64 - b, by omega, by omega, ?_, ?_⟩
  · have e : (9223372036854775808 : Nat) = 2 ^ (b - 1) * 2 ^ (64 - b) := by rw [← Nat.pow_add, show b - 1 + (64 - b) = 63 by omega]
    have := Nat.mul_le_mul_right (2 ^ (64 - b)) j2
    have g : ((m : Int) * 2 ^ (64 - b)) = ((m * 2 ^ (64 - b) : Nat) : Int) := by simp
    rw [g]; omega
  · have e : (18446744073709551616 : Nat) = 2 ^ b * 2 ^ (64 - b) := by rw [← Nat.pow_add, show b + (64 - b) = 64 by omega]
    have := Nat.mul_lt_mul_of_pos_right i1 (Nat.two_pow_pos (64 - b))
    have g : ((m : Int) * 2 ^ (64 - b)) = ((m * 2 ^ (64 - b) : Nat) : Int) := by simp
    rw [g]; omega
/-- what the dividend becomes, moved up as far -/
theorem up_parts (h l y : Int) (n : Nat) (hn : n ≤ 63) (hh : W h) (hl : W l) (hlt : h + 1 ≤ y) (y1 : y * 2 ^ n ≤ 18446744073709551615) :
    bits .or .u64 (IntKind.u64.wrap (h * 2 ^ n)) (l / 2 ^ (64 - n)) = (h * 18446744073709551616 + l) * 2 ^ n / 18446744073709551616 ∧
    IntKind.u64.wrap (l * 2 ^ n) = (h * 18446744073709551616 + l) * 2 ^ n % 18446744073709551616 ∧
    (h * 18446744073709551616 + l) * 2 ^ n / 18446744073709551616 + 1 ≤ y * 2 ^ n := by
  obtain ⟨h0, h1⟩ := hh
  obtain ⟨l0, l1⟩ := hl
  have hpq : (2 : Int) ^ n * 2 ^ (64 - n) = 18446744073709551616 := by rw [← Int.pow_add, show n + (64 - n) = 64 by omega]; rfl
  have hp : (1 : Int) ≤ 2 ^ n := by have : (0 : Int) < 2 ^ n := Int.pow_pos (by decide); omega
  have hq : (1 : Int) ≤ 2 ^ (64 - n) := by have : (0 : Int) < 2 ^ (64 - n) := Int.pow_pos (by decide); omega
  have hle : (h + 1) * 2 ^ n ≤ y * 2 ^ n := Int.mul_le_mul_of_nonneg_right hlt (by omega)
  rw [Int.add_mul, Int.one_mul] at hle
  have hp0 : 0 ≤ h * 2 ^ n := Int.mul_nonneg h0 (by omega)
  have hlq : l / 2 ^ (64 - n) < 2 ^ n := Int.ediv_lt_of_lt_mul (by omega) (by rw [hpq]; omega)
  have hlq0 : 0 ≤ l / 2 ^ (64 - n) := Int.ediv_nonneg l0 (by omega)
  have ell : l * 2 ^ n / 18446744073709551616 = l / 2 ^ (64 - n) := by
    rw [← hpq, Int.mul_comm l, Int.mul_ediv_mul_of_pos _ _ (by omega)]
  have eU : (h * 18446744073709551616 + l) * 2 ^ n / 18446744073709551616 = h * 2 ^ n + l / 2 ^ (64 - n) := by
    rw [← ell, Int.add_mul, Int.mul_right_comm]
    omega
  refine ⟨?_, ?_, ?_⟩
  · rw [eU, IntKind.wrap_u64, Int.emod_eq_of_lt hp0 (by omega)]
    obtain ⟨H, rfl⟩ := Int.eq_ofNat_of_zero_le h0
    obtain ⟨L, hL⟩ := Int.eq_ofNat_of_zero_le hlq0
    rw [hL] at hlq ⊢
    have g2 : (2 : Int) ^ n = ((2 ^ n : Nat) : Int) := by simp
    have hb : ((H * 2 ^ n : Nat) : Int) + ((2 ^ n : Nat) : Int) ≤ 18446744073709551615 := by rw [Int.natCast_mul, ← g2]; omega
    rw [g2] at hlq ⊢
    rw [← Int.natCast_mul, u64_or_nat _ _ (by omega) (by omega), nat_join n _ _ (Nat.mul_mod_left _ _) (by omega)]
    rfl
  · rw [IntKind.wrap_u64, Int.add_mul, Int.mul_right_comm]; omega
  · rw [eU]; omega
end Wd
end Go.Proofs.Ytopajockmcgpmaa
namespace Go.Proofs.Ytopajockmcgpmaa
open Go.RowKit
namespace Wd
set_option linter.unusedVariables false
end Wd
end Go.Proofs.Ytopajockmcgpmaa
namespace Go.Proofs.Ytopajockmcgpmaa
open Go.RowKit
namespace Wd
set_option linter.unusedVariables false
theorem grown_drewN {w v : World} (h : Grown w v) (n : Nat) : Grown w (v.drewN n) := by
  induction n with
  | zero => exact h
  | succ n ih => exact ih.drew
/-- what Div answers: nothing, if the upper word is not below the divisor -/
def divV (h l y : Int) : Value := if h < y then .tuple #[.int .u64 (divQ h l y), .int .u64 (divR h l y), .bool true] else .tuple #[.int .u64 0, .int .u64 0, .bool false]
/-! ### the inverse: each round doubles how many bits are right -/
def newt (n : Int) : Nat → Int
  | 0 => 1
  | k + 1 => IntKind.u64.wrap (newt n k * IntKind.u64.wrap (2 - IntKind.u64.wrap (n * newt n k)))
theorem newt_W (n : Int) (k : Nat) : W (newt n k) := by
  cases k with
  | zero => unfold W newt; omega
  | succ k => unfold newt; rw [IntKind.wrap_u64]; exact W_mod _
def invV (n : Int) : Value := if n % 2 = 0 then .tuple #[.int .u64 0, .bool false] else .tuple #[.int .u64 (newt n 6), .bool true]
theorem inverse_c (n : Int) (w : World) (hn : W n) :
    Calls Try.prog 44 #[.int .u64 n] w fun e w' => e = .returned (invV n) ∧ w = w' := by
  obtain ⟨hn, hn'⟩ := hn
  have h1 := and_one n hn hn'
  by_cases he : n % 2 = 0
  · have e : invV n = .tuple #[.int .u64 0, .bool false] := if_pos he
    rw [e]
    have he' : (n % 2 == 0) = true := by rw [beq_iff_eq]; exact he
    clear e he
    go_enter Try.func44, Try.ntmps44
    go_wp2_with fail
    go_ret2
    exact ⟨rfl, rfl⟩
  · have e : invV n = .tuple #[.int .u64 (newt n 6), .bool true] := if_neg he
    rw [e]
    have he' : (n % 2 == 0) = false := by rw [beq_eq_false_iff_ne]; exact he
    clear e he
    go_enter Try.func44, Try.ntmps44
    go_wp2_with fail
    go_loop [4, 8] (fun x i => ∃ k : Nat, k ≤ 6 ∧ i = .int .i64 k ∧ x = .int .u64 (newt n k)) (fun _ i => 6 - (intOf i).toNat)
    case atStart => exact ⟨0, by omega, rfl, rfl⟩
    case round =>
      obtain ⟨k, hk, rfl, rfl⟩ := hrel
      by_cases hlt : k < 6
      · go_wp2_with fail
        go_round
        case rel => exact ⟨k + 1, by omega, by go_num, rfl⟩
        case measure => simp [intOf]; omega
      · obtain rfl : k = 6 := by omega
        go_wp2_with fail
        go_ret2
        exact ⟨rfl, rfl⟩
end Wd
end Go.Proofs.Ytopajockmcgpmaa
namespace Go.Proofs.Ytopajockmcgpmaa
open Go.RowKit
namespace Wd
set_option linter.unusedVariables false
theorem bits_c (a : Int) (w : World) (ha : W a) :
    Calls Try.prog 65 #[.int .u64 a] w fun e w' => e = .returned (.int .i64 (Lib.bitLen a.toNat)) ∧ w = w' := by
  obtain ⟨ha, ha'⟩ := ha
  go_enter Try.func65, Try.ntmps65
  go_wp2_with fail
  refine (Try.bits_Len64 _ _ ha ha').mono ?_; rintro e w' ⟨rfl, rfl⟩
  go_wp2_with fail
  go_ret
  exact ⟨rfl, rfl⟩

end Wd
end Go.Proofs.Ytopajockmcgpmaa
namespace Go.Proofs.Ytopajockmcgpmaa
open Go.RowKit
namespace Wd
set_option linter.unusedVariables false
theorem pow_pos' (n : Nat) : (1 : Int) ≤ 2 ^ n := by have : (0 : Int) < 2 ^ n := Int.pow_pos (by decide); omega
theorem pow_up (n : Nat) : (2 : Int) ^ (n + 1) = 2 * 2 ^ n := by rw [Int.pow_succ]; omega
theorem pow_le {a b : Nat} (h : a ≤ b) : (2 : Int) ^ a ≤ 2 ^ b := by
  obtain ⟨d, rfl⟩ := Nat.exists_eq_add_of_le h
  rw [Int.pow_add]
  have := Int.mul_le_mul_of_nonneg_left (pow_pos' d) (show (0 : Int) ≤ 2 ^ a by have := pow_pos' a; omega)
  omega
theorem pow64 : (2 : Int) ^ 64 = 18446744073709551616 := by rfl
theorem or_add (a b : Int) (k : Nat) (h0 : 0 ≤ a) (h1 : a ≤ 18446744073709551615) (hm : a % 2 ^ k = 0) (h2 : 0 ≤ b) (h3 : b < 2 ^ k) (h4 : b ≤ 18446744073709551615) : bits .or .u64 a b = a + b := by
  obtain ⟨n, rfl⟩ := Int.eq_ofNat_of_zero_le h0
  obtain ⟨m, rfl⟩ := Int.eq_ofNat_of_zero_le h2
  have g2 : (2 : Int) ^ k = ((2 ^ k : Nat) : Int) := by simp
  rw [g2] at hm h3
  rw [u64_or_nat n m (by omega) (by omega), nat_join k n m (by omega) (by omega)]
  rfl

/-- the upper bits of a number of two words -/
def dv (h l : Int) (j : Nat) : Int := (h * 18446744073709551616 + l) / 2 ^ j
theorem dv_half (h l : Int) (j : Nat) : dv h l (j + 1) = dv h l j / 2 := by
  unfold dv
  rw [Int.pow_succ, Int.ediv_ediv_of_nonneg (by have := pow_pos' j; omega)]
theorem dv_bit (h l : Int) (j : Nat) (hj : j ≤ 63) : dv h l j % 2 = l / 2 ^ j % 2 := by
  have e : h * 18446744073709551616 + l = l + h * 2 * 2 ^ (63 - j) * 2 ^ j := by
    rw [Int.mul_assoc (h * 2), ← Int.pow_add, show 63 - j + j = 63 by omega, Int.mul_assoc]
    rw [show (2 : Int) * 2 ^ 63 = 18446744073709551616 by rfl]; omega
  unfold dv
  rw [e, Int.add_mul_ediv_right _ _ (by have := pow_pos' j; omega), Int.mul_right_comm, Int.add_mul_emod_self_right]
theorem dv_le (h l y : Int) (j : Nat) (hh : 0 ≤ h) (hl : 0 ≤ l) (hl' : l ≤ 18446744073709551615) (hy : h + 1 ≤ y) : 0 ≤ 2 ^ j * (dv h l j / y) ∧ 2 ^ j * (dv h l j / y) ≤ 18446744073709551615 := by
  have p := pow_pos' j
  have d0 : 0 ≤ dv h l j := Int.ediv_nonneg (by omega) (by omega)
  have q0 : 0 ≤ dv h l j / y := Int.ediv_nonneg d0 (by omega)
  refine ⟨Int.mul_nonneg (by omega) q0, ?_⟩
  have a1 : dv h l j / y * y ≤ dv h l j := Int.ediv_mul_le _ (by omega)
  have a2 : dv h l j * 2 ^ j ≤ h * 18446744073709551616 + l := Int.ediv_mul_le _ (by omega)
  have a3 := Int.mul_le_mul_of_nonneg_right a1 (show (0 : Int) ≤ 2 ^ j by omega)
  have a4 : (2 ^ j * (dv h l j / y)) * y < 18446744073709551616 * y := by
    rw [Int.mul_comm (2 ^ j), Int.mul_right_comm]; omega
  have := Int.lt_of_mul_lt_mul_right a4 (by omega)
  omega
theorem dv_top (h l : Int) (hl : 0 ≤ l) (hl' : l ≤ 18446744073709551615) : dv h l 64 = h := by
  unfold dv; rw [pow64]; omega
theorem dv_zero (h l : Int) : dv h l 0 = h * 18446744073709551616 + l := by unfold dv; simp

/-- one round of the quotient, bit by bit -/
theorem rdiv_round (h l y : Int) (k : Nat) (q r : Int) (hh : W h) (hl : W l) (hy : W y) (hlt : h + 1 ≤ y) (hk : k ≤ 63) (hq : q = 2 ^ (k + 1) * (dv h l (k + 1) / y)) (hr : r = dv h l (k + 1) % y) :
    0 ≤ r ∧ r + 1 ≤ y ∧ 0 ≤ q ∧ q ≤ 18446744073709551615 ∧ ∃ c q1 r1 : Int, bits .and .u64 (l / 2 ^ k) 1 = c ∧ 0 ≤ c ∧ c ≤ 1 ∧ Hid (q1 = 2 ^ k * (dv h l k / y)) ∧ Hid (r1 = dv h l k % y) ∧
      ((∃ z, r / 9223372036854775808 = 1 ∧ bits .or .u64 (IntKind.u64.wrap (r * 2)) c = z ∧ IntKind.u64.wrap (z - y) = r1 ∧ bits .or .u64 q (IntKind.u64.wrap (2 ^ k)) = q1) ∨
       (∃ z, r / 9223372036854775808 = 0 ∧ bits .or .u64 (r * 2) c = z ∧ y ≤ z ∧ z ≤ 18446744073709551615 ∧ z - y = r1 ∧ bits .or .u64 q (IntKind.u64.wrap (2 ^ k)) = q1) ∨
       (∃ z, r / 9223372036854775808 = 0 ∧ bits .or .u64 (r * 2) c = z ∧ z < y ∧ z = r1 ∧ q = q1)) := by
  obtain ⟨h0, h1⟩ := hh
  obtain ⟨l0, l1⟩ := hl
  obtain ⟨y0, y1⟩ := hy
  have b1 := dv_bit h l k hk
  have b2 := dv_half h l k
  have r0 : 0 ≤ r := by rw [hr]; exact Int.emod_nonneg _ (by omega)
  have r1 : r + 1 ≤ y := by rw [hr]; have := Int.emod_lt_of_pos (dv h l (k + 1)) (show 0 < y by omega); omega
  obtain ⟨q0, q1⟩ := dv_le h l y (k + 1) h0 l0 l1 hlt
  rw [← hq] at q0 q1
  have m := Int.mul_ediv_add_emod (dv h l (k + 1)) y
  rw [← hr] at m
  have e : dv h l k = 2 * dv h l (k + 1) + l / 2 ^ k % 2 := by omega
  have hp := pow_pos' k
  have hple : (2 : Int) ^ k ≤ 9223372036854775808 := by have := pow_le hk; rw [show (2 : Int) ^ 63 = 9223372036854775808 by rfl] at this; exact this
  have ec : bits .and .u64 (l / 2 ^ k) 1 = l / 2 ^ k % 2 := and_one _ (Int.ediv_nonneg l0 (by omega)) (by have := Int.ediv_le_self (2 ^ k) l0; omega)
  have hqm : q % 2 ^ (k + 1) = 0 := by rw [hq]; exact Int.mul_emod_right _ _
  have hu := pow_up k
  have eq1 : bits .or .u64 q (IntKind.u64.wrap (2 ^ k)) = q + 2 ^ k := by
    rw [IntKind.wrap_u64, Int.emod_eq_of_lt (by omega) (by omega)]
    exact or_add q (2 ^ k) (k + 1) q0 q1 hqm (by omega) (by omega) (by omega)
  refine ⟨r0, r1, q0, q1, l / 2 ^ k % 2, 2 ^ k * (dv h l k / y), dv h l k % y, ec, by omega, by omega, rfl, rfl, ?_⟩
  have hb : 0 ≤ l / 2 ^ k % 2 ∧ l / 2 ^ k % 2 ≤ 1 := by omega
  generalize l / 2 ^ k % 2 = c at *
  -- the new quotient and rest, either way
  have up : ∀ s : Int, s = 0 ∨ s = 1 → 0 ≤ 2 * r + c - s * y → 2 * r + c - s * y < y → dv h l k / y = 2 * (dv h l (k + 1) / y) + s ∧ dv h l k % y = 2 * r + c - s * y := by
    intro s hs s0 s1
    have : dv h l k = (2 * r + c - s * y) + (2 * (dv h l (k + 1) / y) + s) * y := by
      rw [e, Int.add_mul, Int.mul_assoc, Int.mul_comm (dv h l (k + 1) / y) y]
      omega
    rw [this, Int.add_mul_ediv_right _ _ (by omega), Int.add_mul_emod_self_right, Int.emod_eq_of_lt s0 s1, Int.ediv_eq_zero_of_lt s0 s1]
    exact ⟨by omega, rfl⟩
  have q2 : 2 ^ k * (2 * (dv h l (k + 1) / y)) = q := by rw [hq, hu, Int.mul_left_comm, Int.mul_assoc]
  have z1 : r ≤ 9223372036854775807 → bits .or .u64 (r * 2) c = r * 2 + c := fun hr => or_add (r * 2) c 1 (by omega) (by omega) (by omega) (by omega) (by omega) (by omega)
  by_cases hbig : 9223372036854775808 ≤ r
  · obtain ⟨u1, u2⟩ := up 1 (.inr rfl) (by omega) (by omega)
    refine .inl ⟨_, by omega, rfl, ?_, ?_⟩
    · rw [u2, IntKind.wrap_u64, IntKind.wrap_u64, or_add _ c 1 (by omega) (by omega) (by omega) (by omega) (by omega) (by omega)]
      omega
    · rw [eq1, u1, Int.mul_add, q2]; omega
  · by_cases hz : y ≤ r * 2 + c
    · obtain ⟨u1, u2⟩ := up 1 (.inr rfl) (by omega) (by omega)
      refine .inr (.inl ⟨_, by omega, z1 (by omega), hz, by omega, ?_, ?_⟩)
      · rw [u2]; omega
      · rw [eq1, u1, Int.mul_add, q2]; omega
    · obtain ⟨u1, u2⟩ := up 0 (.inl rfl) (by omega) (by omega)
      refine .inr (.inr ⟨_, by omega, z1 (by omega), by omega, ?_, ?_⟩)
      · rw [u2]; omega
      · rw [u1, Int.mul_add, q2]; omega
end Wd
end Go.Proofs.Ytopajockmcgpmaa
namespace Go.Proofs.Ytopajockmcgpmaa
open Go.RowKit
namespace Wd
set_option linter.unusedVariables false
theorem radd_c (a b : Int) (c : Bool) (w : World) (ha : W a) (hb : W b) :
    Calls Try.prog 59 #[.int .u64 a, .int .u64 b, .bool c] w fun e w' => e = .returned (.tuple #[.int .u64 (add a b c), .bool (addO a b c)]) ∧ w = w' := by
  obtain ⟨ha, ha'⟩ := ha
  obtain ⟨hb, hb'⟩ := hb
  cases c <;> go_enter Try.func59, Try.ntmps59 <;> go_wp2 <;> go_ret2 <;> refine ⟨ret_ib ?_ ?_, rfl⟩
  all_goals (try unfold add); (try unfold addO); simp only [b1, IntKind.wrap_u64, if_true, if_false, Bool.false_eq_true] at *
  all_goals first | omega | (rw [Bool.eq_iff_iff]; simp; omega)
theorem rsub_c (a b : Int) (c : Bool) (w : World) (ha : W a) (hb : W b) :
    Calls Try.prog 76 #[.int .u64 a, .int .u64 b, .bool c] w fun e w' => e = .returned (.tuple #[.int .u64 (sub a b c), .bool (subO a b c)]) ∧ w = w' := by
  obtain ⟨ha, ha'⟩ := ha
  obtain ⟨hb, hb'⟩ := hb
  cases c <;> go_enter Try.func76, Try.ntmps76 <;> go_wp2 <;> go_ret2 <;> refine ⟨ret_ib ?_ ?_, rfl⟩
  all_goals (try unfold sub); (try unfold subO); simp only [b1, IntKind.wrap_u64, if_true, if_false, Bool.false_eq_true] at *
  all_goals first | omega | (rw [Bool.eq_iff_iff]; simp; omega)
theorem rmul_c (a b : Int) (w : World) (ha : W a) (hb : W b) :
    Calls Try.prog 61 #[.int .u64 a, .int .u64 b] w fun e w' => e = .returned (.tuple #[.int .u64 (mulH a b), .int .u64 (mulL a b)]) ∧ w = w' := by
  have hfin := mul_halves (a / 4294967296) (a % 4294967296) (b / 4294967296) (b % 4294967296)
  obtain ⟨ha, ha'⟩ := ha
  obtain ⟨hb, hb'⟩ := hb
  replace hfin := hfin (by omega) (by omega) (by omega) (by omega) (by omega) (by omega) (by omega) (by omega)
  rw [show a / 4294967296 * 4294967296 + a % 4294967296 = a from by omega, show b / 4294967296 * 4294967296 + b % 4294967296 = b from by omega] at hfin
  have p1 := half_mul (x := a / 4294967296) (y := b / 4294967296) (by omega) (by omega) (by omega) (by omega)
  have p2 := half_mul (x := a / 4294967296) (y := b % 4294967296) (by omega) (by omega) (by omega) (by omega)
  have p3 := half_mul (x := a % 4294967296) (y := b / 4294967296) (by omega) (by omega) (by omega) (by omega)
  have p4 := half_mul (x := a % 4294967296) (y := b % 4294967296) (by omega) (by omega) (by omega) (by omega)
  have l1 := and_low a ha ha'
  have l2 := and_low b hb hb'
  have l3 := and_low (a / 4294967296 * (b % 4294967296) + a % 4294967296 * (b % 4294967296) / 4294967296) (by omega) (by omega)
  have H := Lib.hid hfin
  clear hfin
  go_enter Try.func61, Try.ntmps61
  go_wp2_with fail
  go_ret2
  refine ⟨ret_ii ?_ ?_, rfl⟩
  · exact H.out.1.symm
  · rw [IntKind.wrap_u64]; rfl
theorem rbits_c (a : Int) (w : World) (ha : W a) :
    Calls Try.prog 77 #[.int .u64 a] w fun e w' => e = .returned (.int .i64 (Lib.bitLen a.toNat)) ∧ w = w' := by
  obtain ⟨ha, ha'⟩ := ha
  obtain ⟨n, rfl⟩ := Int.eq_ofNat_of_zero_le ha
  have b0 := (bl_spec n (by omega)).2.2
  go_enter Try.func77, Try.ntmps77
  go_wp2_with fail
  go_loop [0, 3] (fun a c => ∃ m k : Nat, a = .int .u64 m ∧ c = .int .i64 k ∧ m ≤ n ∧ k ≤ 64 ∧ Hid (k + Lib.bitLen m = Lib.bitLen n)) (fun a _ => (intOf a).toNat)
  case atStart => exact ⟨n, 0, rfl, rfl, Nat.le_refl _, by omega, Nat.zero_add _⟩
  case round =>
    obtain ⟨m, k, rfl, rfl, hm, hk, H⟩ := hrel
    by_cases h0 : m = 0
    · have e : k = Lib.bitLen n := by have := H.out; rw [h0, bl_zero] at this; omega
      have E := Lib.hid e
      have H0 : (m : Int) ≤ 0 := by omega
      clear e h0
      go_wp2_with fail
      go_ret
      exact ⟨by rw [E.out]; rfl, rfl⟩
    · have e : k + 1 + Lib.bitLen (m / 2) = Lib.bitLen n := by have := H.out; rw [Lib.bitLen_half m h0 (by omega)] at this; omega
      have E := Lib.hid e
      have H0 : 0 < (m : Int) := by omega
      have k1 : k + 1 ≤ 64 := by omega
      clear e h0
      go_wp2_with fail
      go_round
      case rel => exact ⟨m / 2, k + 1, by go_num, by go_num, by omega, k1, E⟩
      case measure => (simp [intOf] <;> omega)
end Wd
end Go.Proofs.Ytopajockmcgpmaa
namespace Go.Proofs.Ytopajockmcgpmaa
open Go.RowKit
namespace Kit
set_option linter.unusedVariables false
def pick (n m : Int) : Int := if m < 1 then 0 else n % m
theorem pick_lt {n m : Int} (h : 1 ≤ m) : 0 ≤ pick n m ∧ pick n m < m := by
  unfold pick; rw [if_neg (by omega)]; exact ⟨Int.emod_nonneg _ (by omega), Int.emod_lt_of_pos _ (by omega)⟩
theorem pick_zero {n m : Int} (h : m < 1) : pick n m = 0 := if_pos h
theorem pick_c (n m : Int) (w : World) (hn : (Lit.int .i64 n).wf = true) (hm : (Lit.int .i64 m).wf = true) :
    Calls Try.prog 36 #[.int .i64 n, .int .i64 m] w fun e w' => e = .returned (.int .i64 (pick n m)) ∧ w = w' := by
  have b := bounds_i64 hn
  have c := bounds_i64 hm
  by_cases h1 : m < 1
  · rw [pick_zero h1]
    go_enter Try.func36, Try.ntmps36
    go_wp2
    go_ret
    exact ⟨rfl, rfl⟩
  · have hp : pick n m = n % m := if_neg h1
    have e := Int.emod_emod_of_dvd n (Int.dvd_refl m)
    have t1 := Int.tmod_eq_emod (a := n) (b := m)
    have r0 := Int.emod_nonneg n (show m ≠ 0 by omega)
    have r1 := Int.emod_lt_of_pos n (show 0 < m by omega)
    have hmz : (m == 0) = false := by rw [beq_eq_false_iff_ne]; omega
    have nabs : ((m.natAbs : Nat) : Int) = m := by omega
    by_cases hd : 0 ≤ n ∨ m ∣ n
    · rw [if_pos hd] at t1
      simp only [Int.natCast_zero, Int.sub_zero] at t1
      have t2 : 0 ≤ n.tmod m := by omega
      have t3 : n.tmod m < m := by omega
      rw [hp, ← t1]
      clear t1 hp e hd r0 r1 nabs
      go_enter Try.func36, Try.ntmps36
      go_wp2
      all_goals (go_ret; exact ⟨by go_num, rfl⟩)
    · rw [if_neg hd, nabs] at t1
      have q : n % m = n.tmod m + m := by omega
      have r2 : n % m ≠ 0 := fun h => hd (.inr (Int.dvd_of_emod_eq_zero h))
      have t2 : n.tmod m < 0 := by omega
      have t3 : 0 ≤ n.tmod m + m := by omega
      rw [hp, q]
      clear t1 hp e hd r0 r1 nabs q r2
      go_enter Try.func36, Try.ntmps36
      go_wp2
      all_goals (go_ret; exact ⟨by go_num, rfl⟩)
end Kit
end Go.Proofs.Ytopajockmcgpmaa
namespace Go.Proofs.Ytopajockmcgpmaa
open Go.RowKit
namespace Wd
set_option linter.unusedVariables false
theorem wrap_ex (a : Int) : ∃ j : Int, IntKind.u64.wrap a = a + 18446744073709551616 * j := by
  rw [IntKind.wrap_u64]; exact ⟨-(a / 18446744073709551616), by omega⟩
theorem newt_step (n x d f : Int) (hd : 18446744073709551616 = d * d * f) (h : d ∣ n * x - 1) :
    d * d ∣ n * IntKind.u64.wrap (x * IntKind.u64.wrap (2 - IntKind.u64.wrap (n * x))) - 1 := by
  obtain ⟨j1, e1⟩ := wrap_ex (n * x)
  rw [e1]
  obtain ⟨j2, e2⟩ := wrap_ex (2 - (n * x + 18446744073709551616 * j1))
  rw [e2]
  obtain ⟨j3, e3⟩ := wrap_ex (x * (2 - (n * x + 18446744073709551616 * j1) + 18446744073709551616 * j2))
  rw [e3, hd]
  obtain ⟨e, he⟩ := h
  refine ⟨-(e * e) + f * n * (x * (j2 - j1) + j3), ?_⟩
  have : n * x = 1 + d * e := by omega
  grind
theorem newt_right (n : Int) (hn : n % 2 = 1) : n * newt n 6 % 18446744073709551616 = 1 := by
  have s0 : (2 : Int) ∣ n * newt n 0 - 1 := by unfold newt; omega
  have s1 := newt_step n (newt n 0) 2 4611686018427387904 (by rfl) s0
  have s2 := newt_step n (newt n 1) 4 1152921504606846976 (by rfl) s1
  have s3 := newt_step n (newt n 2) 16 72057594037927936 (by rfl) s2
  have s4 := newt_step n (newt n 3) 256 281474976710656 (by rfl) s3
  have s5 := newt_step n (newt n 4) 65536 4294967296 (by rfl) s4
  have s6 := newt_step n (newt n 5) 4294967296 1 (by rfl) s5
  have e : newt n 6 = IntKind.u64.wrap (newt n 5 * IntKind.u64.wrap (2 - IntKind.u64.wrap (n * newt n 5))) := rfl
  rw [← e] at s6
  omega
/-- there is but one -/
theorem inv_one (n x y : Int) (hx : W x) (hy : W y) (h : n * x % 18446744073709551616 = 1) (g : n * y % 18446744073709551616 = 1) : x = y := by
  have d : (18446744073709551616 : Int) ∣ x - y := by
    obtain ⟨a, ha⟩ : ∃ a, n * x = 1 + 18446744073709551616 * a := ⟨n * x / 18446744073709551616, by omega⟩
    obtain ⟨b, hb⟩ : ∃ b, n * y = 1 + 18446744073709551616 * b := ⟨n * y / 18446744073709551616, by omega⟩
    refine ⟨y * a - x * b, ?_⟩
    have e1 : y * (n * x) = y * (1 + 18446744073709551616 * a) := by rw [ha]
    have e2 : x * (n * y) = x * (1 + 18446744073709551616 * b) := by rw [hb]
    have e3 : y * (n * x) = x * (n * y) := by grind
    grind
  unfold W at hx hy
  omega
/-- an even number has none -/
theorem inv_even (n x : Int) (hn : n % 2 = 0) : n * x % 18446744073709551616 ≠ 1 := by
  obtain ⟨m, rfl⟩ : ∃ m, n = 2 * m := ⟨n / 2, by omega⟩
  rw [Int.mul_assoc]
  generalize m * x = z
  omega
theorem xor_one (t : Int) (h : 0 ≤ t) (h' : t ≤ 18446744073709551615) : bits .xor .u64 t 1 = if t % 2 = 0 then t + 1 else t - 1 := by
  obtain ⟨m, rfl⟩ := Int.eq_ofNat_of_zero_le h
  have e : (1 : Int) = ((1 : Nat) : Int) := rfl
  have k : m ^^^ 1 = if m % 2 = 0 then m + 1 else m - 1 := by
    have a : (m ^^^ 1) / 2 = m / 2 := by rw [Nat.xor_div_two]; simp
    have b : (m ^^^ 1) % 2 = (m + 1) % 2 := by
      have t := Nat.xor_mod_two_pow (a := m) (b := 1) (n := 1)
      rw [Nat.pow_one] at t
      rw [t]
      rcases Nat.mod_two_eq_zero_or_one m with g | g
      · rw [g]; show 1 = _; omega
      · rw [g]; show 0 = _; omega
    split <;> omega
  rw [e, u64_xor_nat m 1 (by omega) (by omega), k]
  split <;> split <;> omega
/-- one round: a bit more is right -/
theorem rinv_round (n x : Int) (k : Nat) (hn : n % 2 = 1) (x0 : 0 ≤ x) (x1 : x < 2 ^ k) (hk : k ≤ 63) (h : n * x % 2 ^ k = 1 % 2 ^ k) :
    ∃ z c : Int, bits .xor .u64 (IntKind.u64.wrap (n * x)) 1 = z ∧ 0 ≤ z ∧ z ≤ 18446744073709551615 ∧ bits .and .u64 (z / 2 ^ k) 1 = c ∧
      ((c = 1 ∧ bits .or .u64 x (IntKind.u64.wrap (2 ^ k)) = x + 2 ^ k ∧ Hid (n * (x + 2 ^ k) % 2 ^ (k + 1) = 1)) ∨ (c = 0 ∧ Hid (n * x % 2 ^ (k + 1) = 1))) := by
  have hu := pow_up k
  have hp := pow_pos' k
  have hple : (2 : Int) ^ k ≤ 9223372036854775808 := by have := pow_le hk; rw [show (2 : Int) ^ 63 = 9223372036854775808 by rfl] at this; exact this
  have hw : W (IntKind.u64.wrap (n * x)) := by rw [IntKind.wrap_u64]; exact W_mod _
  have hx := xor_one _ hw.1 hw.2
  have hz : 0 ≤ bits .xor .u64 (IntKind.u64.wrap (n * x)) 1 ∧ bits .xor .u64 (IntKind.u64.wrap (n * x)) 1 ≤ 18446744073709551615 := by
    rw [hx]; obtain ⟨a, b⟩ := hw; split <;> omega
  have ho : bits .or .u64 x (IntKind.u64.wrap (2 ^ k)) = x + 2 ^ k := by
    rw [IntKind.wrap_u64, Int.emod_eq_of_lt (by omega) (by omega), show bits .or .u64 x (2 ^ k) = bits .or .u64 (2 ^ k) x by unfold bits; simp only [BitVec.or_comm]]
    rw [or_add (2 ^ k) x k (by omega) (by omega) (Int.emod_self) x0 x1 (by omega)]; omega
  refine ⟨_, _, rfl, hz.1, hz.2, and_one _ (Int.ediv_nonneg hz.1 (by omega)) (by have := Int.ediv_le_self (2 ^ k) hz.1; omega), ?_⟩
  have key : ∃ s, n * x + (bits .xor .u64 (IntKind.u64.wrap (n * x)) 1 / 2 ^ k) * 2 ^ k * n = 1 + 2 ^ (k + 1) * s := by
    cases k with
    | zero =>
      have : x = 0 := by simp at x1; omega
      subst this
      rw [hx]
      refine ⟨(n - 1) / 2, ?_⟩
      simp [IntKind.wrap_u64]
      omega
    | succ k =>
      have hk1 : (1 : Int) % 2 ^ (k + 1) = 1 := Int.emod_eq_of_lt (by omega) (by have := pow_pos' k; have := pow_up k; omega)
      rw [hk1] at h
      obtain ⟨f, hf⟩ : ∃ f : Int, (18446744073709551616 : Int) = 2 ^ (k + 1 + 1) * f := ⟨2 ^ (62 - k), by rw [← Int.pow_add, show k + 1 + 1 + (62 - k) = 64 by omega]; rfl⟩
      obtain ⟨j, hj⟩ := wrap_ex (n * x)
      have hod : IntKind.u64.wrap (n * x) % 2 = 1 := by
        obtain ⟨m, hm⟩ : ∃ m : Int, (2 : Int) ^ (k + 1) = 2 * m := ⟨2 ^ k, pow_up k⟩
        have e1 := Int.mul_ediv_add_emod (n * x) (2 ^ (k + 1))
        rw [h, hm, Int.mul_assoc] at e1
        omega
      rw [hx, if_neg (by omega)]
      -- n * x = 1 + 2^(k+1) * s
      obtain ⟨s, hs⟩ : ∃ s, n * x = 1 + 2 ^ (k + 1) * s := ⟨n * x / 2 ^ (k + 1), by have := Int.mul_ediv_add_emod (n * x) (2 ^ (k + 1)); omega⟩
      have ez : IntKind.u64.wrap (n * x) - 1 = (s + 2 * f * j) * 2 ^ (k + 1) := by
        rw [hj, hs, hf, hu]; grind
      rw [ez, Int.mul_ediv_cancel _ (by omega), hs]
      obtain ⟨m, hm⟩ : ∃ m, n = 2 * m + 1 := ⟨n / 2, by omega⟩
      refine ⟨s + f * j + (s + 2 * f * j) * m, ?_⟩
      rw [hu, hm]; grind
  have one : (1 : Int) % 2 ^ (k + 1) = 1 := Int.emod_eq_of_lt (by omega) (by omega)
  generalize bits .xor .u64 (IntKind.u64.wrap (n * x)) 1 / 2 ^ k = u at *
  obtain ⟨s, hs⟩ := key
  by_cases hc : u % 2 = 1
  · refine .inl ⟨hc, ho, ?_⟩
    have : n * (x + 2 ^ k) = 1 + 2 ^ (k + 1) * (s - (u / 2) * n) := by
      obtain ⟨m, hm⟩ : ∃ m, u = 2 * m + 1 := ⟨u / 2, by omega⟩
      have e : u / 2 = m := by omega
      rw [e]
      rw [hm, hu] at hs
      rw [hu]; grind
    show _ = _
    rw [this, Int.add_mul_emod_self_left]; exact one
  · refine .inr ⟨by omega, ?_⟩
    have : n * x = 1 + 2 ^ (k + 1) * (s - (u / 2) * n) := by
      obtain ⟨m, hm⟩ : ∃ m, u = 2 * m := ⟨u / 2, by omega⟩
      have e : u / 2 = m := by omega
      rw [e]
      rw [hm, hu] at hs
      rw [hu]; grind
    show _ = _
    rw [this, Int.add_mul_emod_self_left]; exact one
end Wd
end Go.Proofs.Ytopajockmcgpmaa
namespace Go.Proofs.Ytopajockmcgpmaa
open Go.RowKit
namespace Wd
set_option linter.unusedVariables false
theorem rinv_c (n : Int) (w : World) (hn : W n) :
    Calls Try.prog 58 #[.int .u64 n] w fun e w' => e = .returned (invV n) ∧ w = w' := by
  have W6 := newt_W n 6
  obtain ⟨ha, ha'⟩ := hn
  have h2 : n.tmod 2 = n % 2 := Int.tmod_eq_emod_of_nonneg ha
  by_cases he : n % 2 = 0
  · have e : invV n = .tuple #[.int .u64 0, .bool false] := if_pos he
    rw [e]
    have he' : (n % 2 == 0) = true := by rw [beq_iff_eq]; exact he
    clear e he
    go_enter Try.func58, Try.ntmps58
    go_wp2_with fail
    go_ret2
    exact ⟨rfl, rfl⟩
  · have e : invV n = .tuple #[.int .u64 (newt n 6), .bool true] := if_neg he
    rw [e]
    have he' : (n % 2 == 0) = false := by rw [beq_eq_false_iff_ne]; exact he
    have ho : n % 2 = 1 := by omega
    have NR := Lib.hid (newt_right n ho)
    have HO := Lib.hid ho
    clear e he ho
    go_enter Try.func58, Try.ntmps58
    go_wp2_with fail
    go_loop [4, 5] (fun x i => ∃ (k : Nat) (x0 : Int), x = .int .u64 x0 ∧ i = .int .i64 k ∧ k ≤ 64 ∧ 0 ≤ x0 ∧ Hid (x0 < 2 ^ k) ∧ Hid (n * x0 % 2 ^ k = 1 % 2 ^ k)) (fun _ i => 64 - (intOf i).toNat)
    case atStart => exact ⟨0, 0, rfl, rfl, by omega, by omega, (by show (0 : Int) < 2 ^ 0; decide), (by show n * 0 % 2 ^ 0 = 1 % 2 ^ 0; simp)⟩
    case round =>
      obtain ⟨k, x0, rfl, rfl, hk, hx0, HX, HM⟩ := hrel
      by_cases hlt : k < 64
      · obtain ⟨z, c, z1, z2, z3, z4, hc⟩ := rinv_round n x0 k HO.out hx0 HX.out (by omega) HM.out
        have hp := pow_pos' k
        have hu := pow_up k
        have hX := HX.out
        have o1 : (1 : Int) % 2 ^ (k + 1) = 1 := Int.emod_eq_of_lt (by omega) (by omega)
        have hP : x0 + 2 ^ k < 2 ^ (k + 1) := by omega
        have hQ : x0 < 2 ^ (k + 1) := by omega
        have O1 := Lib.hid o1
        have HP := Lib.hid hP
        have HQ := Lib.hid hQ
        clear hp hu hX o1 hP hQ
        rcases hc with ⟨rfl, c1, H1⟩ | ⟨rfl, H1⟩
        · go_wp2_with fail
          go_round
          case rel => exact ⟨k + 1, _, rfl, by go_num, by omega, by have := pow_pos' k; omega, HP, (by show _ = _; rw [O1.out]; exact H1.out)⟩
          case measure => (simp [intOf] <;> omega)
        · go_wp2_with fail
          go_round
          case rel => exact ⟨k + 1, _, rfl, by go_num, by omega, hx0, HQ, (by show _ = _; rw [O1.out]; exact H1.out)⟩
          case measure => (simp [intOf] <;> omega)
      · obtain rfl : k = 64 := by omega
        have e : x0 = newt n 6 := by
          refine inv_one n x0 (newt n 6) ⟨hx0, ?_⟩ W6 ?_ NR.out
          · have := HX.out; rw [pow64] at this; omega
          · have := HM.out; rw [pow64] at this; omega
        subst e
        clear HX HM
        go_wp2_with fail
        go_ret2
        exact ⟨rfl, rfl⟩
end Wd
end Go.Proofs.Ytopajockmcgpmaa
