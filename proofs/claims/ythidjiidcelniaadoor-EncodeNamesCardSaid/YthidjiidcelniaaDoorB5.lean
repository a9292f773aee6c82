/- Places compared. -/
import Derived.Test.YthidjiidcelniaaDoorB4
import Derived.Laws.StructEq
namespace Go.Proofs.YthidjiidcelniaaDoor
open Go Go.RowKit
namespace Is
open Nt
set_option linter.unusedVariables false
set_option linter.unusedSimpArgs false
theorem memEq (b x sc di : Int) (W : World) : (binOp .eql 24 (.agg #[.int .i64 b, .int .i64 x, .int .i64 sc, .int .i64 di]) (.agg #[.int .i64 0, .int .i64 0, .int .i64 0, .int .i64 0])).run Tryd.prog W = .ok (.bool (decide (b = 0) && decide (x = 0) && decide (sc = 0) && decide (di = 0))) W := by
  have u3 := Tryd.underlying3
  have a3 := Tryd.isAgg3
  have z3 := Tryd.sizeOf3
  have u2 := Tryd.underlying2
  have a2 := Tryd.isAgg2
  have z2 := Tryd.sizeOf2
  have hS : Tryd.prog.underlying 24 = some (.struct (Tryd.prog.fieldsOf 24)) := by kernel_rfl
  have hp : Tryd.prog.stoodInHeld 24 = false := by kernel_rfl
  rw [run_eql_struct, show (10000 : Nat) = 9999 + 1 from rfl, run_equalIn_agg W 9999 24 _ _ hS hp]
  simp only [Program.fieldsOf, Tryd.underlying24]
  go_simp
  by_cases h1 : b = 0 <;> by_cases h2 : x = 0 <;> by_cases h3 : sc = 0 <;> by_cases h4 : di = 0 <;> simp [h1, h2, h3, h4]
end Is
end Go.Proofs.YthidjiidcelniaaDoor
