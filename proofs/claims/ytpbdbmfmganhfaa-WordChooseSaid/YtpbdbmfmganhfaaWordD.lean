/- Contracts of package word that stand on math/bits: Div, Inverse, Bits. -/
import Derived.Test.YtpbdbmfmganhfaaDiv
namespace Go.Proofs.Ytpbdbmfmganhfaa
open Go.RowKit
namespace Wd
set_option linter.unusedVariables false

theorem grown_drewN {w v : World} (h : Grown w v) (n : Nat) : Grown w (v.drewN n) := by
  induction n with
  | zero => exact h
  | succ n ih => exact ih.drew
/-- math/bits.Div64, whatever the words: quotient and rest, if the divisor is above the upper word -/
theorem div64_c (h l y : Int) (w : World) (hh : W h) (hl : W l) (hy : W y) (hlt : h + 1 ≤ y) :
    Calls Try.prog 28 #[.int .u64 h, .int .u64 l, .int .u64 y] w fun e w' => e = .returned (.tuple #[.int .u64 (divQ h l y), .int .u64 (divR h l y)]) ∧ ∃ n, w' = w.drewN n := by
  by_cases h0 : h = 0
  · subst h0
    have e1 : divQ 0 l y = l / y := by unfold divQ; simp
    have e2 : divR 0 l y = l % y := by unfold divR; simp
    rw [e1, e2]
    exact div64_0 l y w hl hy (by omega)
  · obtain ⟨n, n1, n2, n3, n4⟩ := bl_up y (by have := hh.1; omega) hy.2
    obtain ⟨u1, u2, u3⟩ := up_parts h l y n n2 hh hl hlt n4
    have hp : (0 : Int) < 2 ^ n := Int.pow_pos (by decide)
    have hd : (0 : Int) ≤ (h * 18446744073709551616 + l) * 2 ^ n := Int.mul_nonneg (by have := hh.1; have := hl.1; omega) (by omega)
    obtain ⟨q, k⟩ := kn_both ((h * 18446744073709551616 + l) * 2 ^ n) (y * 2 ^ n) (by omega)
      ((h * 18446744073709551616 + l) * 2 ^ n / 18446744073709551616 * 4294967296 + (h * 18446744073709551616 + l) * 2 ^ n % 18446744073709551616 / 4294967296)
      ((h * 18446744073709551616 + l) * 2 ^ n % 18446744073709551616 % 4294967296) (by omega) (by omega) (by omega)
    refine (div64_w n h l y (y * 2 ^ n) _ _ _ _ _ (divR h l y) w hh hl hy (by have := hh.1; omega) hlt n1 (by omega) (by omega)
      (by rw [IntKind.wrap_u64, Int.toNat_natCast]; omega) (by rw [show ((64 : Int) - n).toNat = 64 - n by omega]; exact u1) u2 n3 n4
      (Int.ediv_nonneg hd (by omega)) u3 (Int.emod_nonneg _ (by omega)) (by have := Int.emod_lt_of_pos ((h * 18446744073709551616 + l) * 2 ^ n) (show (0 : Int) < 18446744073709551616 by omega); omega) rfl rfl rfl _ rfl ?_).mono ?_
    · show _ = _
      rw [← k, Int.mul_comm _ (2 ^ n), Int.mul_comm y (2 ^ n), Int.mul_emod_mul_of_pos _ _ hp, Int.toNat_natCast, Int.mul_ediv_cancel_left _ (by omega)]
      rfl
    · rintro e w' ⟨rfl, rfl⟩
      refine ⟨?_, 0, rfl⟩
      rw [← q, Int.mul_ediv_mul_of_pos_left _ _ hp]
      rfl
/-- what Div answers: nothing, if the upper word is not below the divisor -/
def divV (h l y : Int) : Value := if h < y then .tuple #[.int .u64 (divQ h l y), .int .u64 (divR h l y), .bool true] else .tuple #[.int .u64 0, .int .u64 0, .bool false]
theorem div_c (h l y : Int) (w : World) (hh : W h) (hl : W l) (hy : W y) :
    Calls Try.prog 12 #[.int .u64 h, .int .u64 l, .int .u64 y] w fun e w' => e = .returned (divV h l y) ∧ ∃ n, w' = w.drewN n := by
  by_cases hlt : h < y
  · have e : divV h l y = .tuple #[.int .u64 (divQ h l y), .int .u64 (divR h l y), .bool true] := if_pos hlt
    rw [e]
    have D := fun w => div64_c h l y w hh hl hy (by omega)
    have HD := Lib.hid D
    obtain ⟨hh, hh'⟩ := hh
    obtain ⟨hl, hl'⟩ := hl
    obtain ⟨hy, hy'⟩ := hy
    clear D e
    go_enter Try.func12, Try.ntmps12
    go_wp2_with fail
    refine (HD.out _).mono ?_; rintro e w' ⟨rfl, n, rfl⟩
    go_wp2_with fail
    go_ret3
    exact ⟨rfl, n, rfl⟩
  · have e : divV h l y = .tuple #[.int .u64 0, .int .u64 0, .bool false] := if_neg hlt
    rw [e]
    clear e
    go_enter Try.func12, Try.ntmps12
    go_wp2_with fail
    go_ret3
    exact ⟨rfl, 0, rfl⟩

theorem bits_c (a : Int) (w : World) (ha : W a) :
    Calls Try.prog 16 #[.int .u64 a] w fun e w' => e = .returned (.int .i64 (Lib.bitLen a.toNat)) ∧ w = w' := by
  obtain ⟨ha, ha'⟩ := ha
  go_enter Try.func16, Try.ntmps16
  go_wp2_with fail
  refine (Try.bits_Len64 _ _ ha ha').mono ?_; rintro e w' ⟨rfl, rfl⟩
  go_wp2_with fail
  go_ret
  exact ⟨rfl, rfl⟩

/-! ### the inverse: each round doubles how many bits are right -/
def newt (n : Int) : Nat → Int
  | 0 => 1
  | k + 1 => IntKind.u64.wrap (newt n k * IntKind.u64.wrap (2 - IntKind.u64.wrap (n * newt n k)))
theorem newt_W (n : Int) (k : Nat) : W (newt n k) := by
  cases k with
  | zero => unfold W newt; omega
  | succ k => unfold newt; rw [IntKind.wrap_u64]; exact W_mod _
def invV (n : Int) : Value := if n % 2 = 0 then .tuple #[.int .u64 0, .bool false] else .tuple #[.int .u64 (newt n 6), .bool true]
theorem inverse_c (n : Int) (w : World) (hn : W n) :
    Calls Try.prog 13 #[.int .u64 n] w fun e w' => e = .returned (invV n) ∧ w = w' := by
  obtain ⟨hn, hn'⟩ := hn
  have h1 := and_one n hn hn'
  by_cases he : n % 2 = 0
  · have e : invV n = .tuple #[.int .u64 0, .bool false] := if_pos he
    rw [e]
    have he' : (n % 2 == 0) = true := by rw [beq_iff_eq]; exact he
    clear e he
    go_enter Try.func13, Try.ntmps13
    go_wp2_with fail
    go_ret2
    exact ⟨rfl, rfl⟩
  · have e : invV n = .tuple #[.int .u64 (newt n 6), .bool true] := if_neg he
    rw [e]
    have he' : (n % 2 == 0) = false := by rw [beq_eq_false_iff_ne]; exact he
    clear e he
    go_enter Try.func13, Try.ntmps13
    go_wp2_with fail
    go_loop [4, 8] (fun x i => ∃ k : Nat, k ≤ 6 ∧ i = .int .i64 k ∧ x = .int .u64 (newt n k)) (fun _ i => 6 - (intOf i).toNat)
    case atStart => exact ⟨0, by omega, rfl, rfl⟩
    case round =>
      obtain ⟨k, hk, rfl, rfl⟩ := hrel
      by_cases hlt : k < 6
      · go_wp2_with fail
        go_round
        case rel => exact ⟨k + 1, by omega, by go_num, rfl⟩
        case measure => simp [intOf]; omega
      · obtain rfl : k = 6 := by omega
        go_wp2_with fail
        go_ret2
        exact ⟨rfl, rfl⟩
end Wd
end Go.Proofs.Ytpbdbmfmganhfaa
