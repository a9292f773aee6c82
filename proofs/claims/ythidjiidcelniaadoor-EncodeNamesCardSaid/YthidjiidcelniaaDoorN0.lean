/- Instructions compared. -/
import Derived.Test.YthidjiidcelniaaDoorB5
namespace Go.Proofs.YthidjiidcelniaaDoor
open Go Go.RowKit
namespace Is
open Nt
set_option linter.unusedVariables false
set_option linter.unusedSimpArgs false
def eqI (i j : Ins) : Bool := decide (i.op = j.op) && decide (i.d = j.d) && decide (i.s = j.s) && decide (i.t = j.t) && decide (i.b = j.b) && decide (i.x = j.x) && decide (i.sc = j.sc) && decide (i.di = j.di) && decide (i.im = j.im)
set_option maxRecDepth 100000 in
set_option maxHeartbeats 8000000 in
theorem instEq (op d s t b x sc di im op' d' s' t' b' x' sc' di' im' : Int) (W : World) : (binOp .eql 29 (.agg #[.int .i64 op, .int .i64 d, .int .i64 s, .int .i64 t, .int .i64 b, .int .i64 x, .int .i64 sc, .int .i64 di, .int .i64 im]) (.agg #[.int .i64 op', .int .i64 d', .int .i64 s', .int .i64 t', .int .i64 b', .int .i64 x', .int .i64 sc', .int .i64 di', .int .i64 im'])).run Tryd.prog W = .ok (.bool (eqI ⟨op, d, s, t, b, x, sc, di, im⟩ ⟨op', d', s', t', b', x', sc', di', im'⟩)) W := by
  have u3 := Tryd.underlying3
  have a3 := Tryd.isAgg3
  have z3 := Tryd.sizeOf3
  have u2 := Tryd.underlying2
  have a2 := Tryd.isAgg2
  have z2 := Tryd.sizeOf2
  have um := Tryd.underlying24
  have am := Tryd.isAgg24
  have zm := Tryd.sizeOf24
  have hSm : Tryd.prog.underlying 24 = some (.struct (Tryd.prog.fieldsOf 24)) := by kernel_rfl
  have hpm : Tryd.prog.stoodInHeld 24 = false := by kernel_rfl
  have hS : Tryd.prog.underlying 29 = some (.struct (Tryd.prog.fieldsOf 29)) := by kernel_rfl
  have hp : Tryd.prog.stoodInHeld 29 = false := by kernel_rfl
  rw [run_eql_struct, show (10000 : Nat) = 9999 + 1 from rfl, run_equalIn_agg W 9999 29 _ _ hS hp]
  simp only [Program.fieldsOf, Tryd.underlying29]
  unfold eqI
  go_simp
  by_cases h0 : op = op' <;> simp [h0]
  by_cases h1 : d = d' <;> simp [h1]
  by_cases h2 : s = s' <;> simp [h2]
  by_cases h3 : t = t' <;> simp [h3]
  by_cases h4 : b = b' <;> simp [h4]
  by_cases h5 : x = x' <;> simp [h5]
  by_cases h6 : sc = sc' <;> simp [h6]
  by_cases h7 : di = di' <;> simp [h7]
  by_cases h8 : im = im' <;> simp [h8]
end Is
end Go.Proofs.YthidjiidcelniaaDoor
