/- The walk of WordInverse: a number times its inverse is 1; only odd ones have one; it is the only one. -/
import Derived.Test.YtpbdbmfmganhfaaLives01
namespace Go.Proofs.Ytpbdbmfmganhfaa.wordInverse
open Go.RowKit Wd
set_option linter.unusedVariables false
theorem walk (a0 : Int) (a1 : Int) (w0 : (Lit.int .u64 a0).wf = true) (w1 : (Lit.int .u64 a1).wf = true) (w : World) :
    Calls Try.prog 6 #[.int .u64 a0, .int .u64 a1] w fun e w' => e = .returned (.bool true) ∧ Grown w w' := by
  have h0 := W_wf w0
  have h1 := W_wf w1
  have c0 := h0.1
  have z0 : W 0 := by unfold W; omega
  by_cases he : a0 % 2 = 0
  · have e1 : invV a0 = .tuple #[.int .u64 0, .bool false] := if_pos he
    have e2 : invV 0 = .tuple #[.int .u64 0, .bool false] := if_pos (by decide)
    have he' : (a0 % 2 == 0) = true := by rw [beq_iff_eq]; exact he
    have E1 := Lib.hid e1
    have E2 := Lib.hid e2
    clear e1 e2 he
    go_enter Try.func6, Try.ntmps6
    go_wp2_with fail
    refine (lives_c _).mono ?_; rintro e w' ⟨rfl, rfl⟩
    go_wp2_with fail
    refine (inverse_c _ _ h0).mono ?_; rintro e w' ⟨rfl, rfl⟩
    rw [E1.out]
    go_wp2_with fail
    refine (inverse_c _ _ z0).mono ?_; rintro e w' ⟨rfl, rfl⟩
    rw [E2.out]
    go_wp2_with fail
    go_ret
    exact ⟨rfl, Grown.refl _⟩
  · have ho : a0 % 2 = 1 := by omega
    have e1 : invV a0 = .tuple #[.int .u64 (newt a0 6), .bool true] := if_neg he
    have r := newt_right a0 ho
    have wx := newt_W a0 6
    generalize newt a0 6 = X at *
    have hX : X % 2 ≠ 0 := by
      intro hX
      have := inv_even X a0 hX
      rw [Int.mul_comm] at this
      exact this r
    have e2 : invV X = .tuple #[.int .u64 a0, .bool true] := by
      have e : invV X = .tuple #[.int .u64 (newt X 6), .bool true] := if_neg hX
      have g := newt_right X (by omega)
      rw [e, inv_one X (newt X 6) a0 (newt_W X 6) h0 g (by rw [Int.mul_comm]; exact r)]
    have he' : (a0 % 2 == 0) = false := by rw [beq_eq_false_iff_ne]; exact he
    have r1 : IntKind.u64.wrap (a0 * X) = 1 := by rw [IntKind.wrap_u64]; exact r
    have r2 : (IntKind.u64.wrap (a0 * a1) == 1) = (a1 == X) := by
      rw [IntKind.wrap_u64, Bool.eq_iff_iff, beq_iff_eq, beq_iff_eq]
      exact ⟨fun h => inv_one a0 a1 X h1 wx h r, fun h => by rw [h]; exact r⟩
    have E1 := Lib.hid e1
    have E2 := Lib.hid e2
    clear e1 e2 he ho r hX
    go_enter Try.func6, Try.ntmps6
    go_wp2_with fail
    refine (lives_c _).mono ?_; rintro e w' ⟨rfl, rfl⟩
    go_wp2_with fail
    refine (inverse_c _ _ h0).mono ?_; rintro e w' ⟨rfl, rfl⟩
    rw [E1.out]
    go_wp2_with fail
    refine (inverse_c _ _ wx).mono ?_; rintro e w' ⟨rfl, rfl⟩
    rw [E2.out]
    go_wp2_with fail
    go_ret
    exact ⟨rfl, Grown.refl _⟩
end Go.Proofs.Ytpbdbmfmganhfaa.wordInverse
