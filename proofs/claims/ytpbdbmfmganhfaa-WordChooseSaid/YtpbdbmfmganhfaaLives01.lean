/- The chapter's examples come out. -/
import Derived.Test.YtpbdbmfmganhfaaWordR
namespace Go.Proofs.Ytpbdbmfmganhfaa
open Go.RowKit
namespace Wd
set_option linter.unusedVariables false
theorem inv3 : invV 3 = .tuple #[.int .u64 12297829382473034411, .bool true] := by
  unfold invV
  rw [if_neg (by decide)]
  have : newt 3 6 = 12297829382473034411 := by decide +kernel
  rw [this]
theorem lives_c (w : World) :
    Calls Try.prog 9 #[] w fun e w' => e = .returned (.bool true) ∧ w = w' := by
  have e1 : add 18446744073709551615 0 true = 0 := by decide
  have e2 : addO 18446744073709551615 0 true = true := by decide
  have i3 := inv3
  go_enter Try.func9, Try.ntmps9
  go_wp2_with fail
  refine (add_c _ _ _ _ (by unfold W; omega) (by unfold W; omega)).mono ?_; rintro e w' ⟨rfl, rfl⟩
  go_wp2_with fail
  refine (inverse_c _ _ (by unfold W; omega)).mono ?_; rintro e w' ⟨rfl, rfl⟩
  go_wp2_with fail
  go_ret
  exact ⟨rfl, rfl⟩
end Wd
end Go.Proofs.Ytpbdbmfmganhfaa
