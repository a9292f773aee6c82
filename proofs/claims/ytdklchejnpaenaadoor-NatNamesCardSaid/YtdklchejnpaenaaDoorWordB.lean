/- The contract of word.Bits. -/
import Derived.Test.YtdklchejnpaenaaDoorWordC
import Derived.Test.YtdklchejnpaenaaDoorDivM
import Derived.Test.YtdklchejnpaenaaDoorShelf
namespace Go.Proofs.YtdklchejnpaenaaDoor
open Go.RowKit
namespace Wd
set_option linter.unusedVariables false

theorem bits_c (a : Int) (w : World) (ha : W a) :
    Calls Tryd.prog 58 #[.int .u64 a] w fun e w' => e = .returned (.int .i64 (Lib.bitLen a.toNat)) ∧ w = w' := by
  obtain ⟨ha, ha'⟩ := ha
  go_enter Tryd.func58, Tryd.ntmps58
  go_wp2_with fail
  refine (Tryd.bits_Len64 _ _ ha ha').mono ?_; rintro e w' ⟨rfl, rfl⟩
  go_wp2_with fail
  go_ret
  exact ⟨rfl, rfl⟩

end Wd
end Go.Proofs.YtdklchejnpaenaaDoor
