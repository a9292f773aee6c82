/- The document's own Check, whole; Flags, Jump. -/
import Derived.Test.YthidjiidcelniaaDoorC1
import Derived.Test.YthidjiidcelniaaDoorC2
import Derived.Test.YthidjiidcelniaaDoorC3
import Derived.Test.YthidjiidcelniaaDoorC4
import Derived.Test.YthidjiidcelniaaDoorC5
namespace Go.Proofs.YthidjiidcelniaaDoor
open Go Go.RowKit
namespace Is
open Nt
set_option linter.unusedVariables false
set_option linter.unusedSimpArgs false
theorem check_r (i : Ins) (w : World) : Calls Tryd.prog 16 #[.agg i.vs] w fun e w' => e = .returned (.int .i64 (chk i)) ∧ Below w.heap.size w w' := by
  cases hf : formOf i.op with
  | ds => exact check_ds i hf w
  | di => exact check_di i hf w
  | dm => exact check_dm i hf w
  | sm => exact check_sm i hf w
  | dj => exact check_dj i hf w
  | dst => exact check_dst i hf w
  | d => exact check_d i hf w
  | db => exact check_db i hf w
  | s => exact check_s i hf w
  | j => exact check_j i hf w
  | r => exact check_r' i hf w
  | no => exact check_no i hf w
theorem chk_01 (i : Ins) : (okI i = true ∧ chk i = 0) ∨ (okI i = false ∧ chk i = 2) := by
  unfold chk
  cases okI i
  · right; exact ⟨rfl, rfl⟩
  · left; exact ⟨rfl, rfl⟩
theorem ok_op {i : Ins} (h : okI i = true) : 1 ≤ i.op ∧ i.op ≤ 33 := by
  rcases op_cases i.op with h1 | h1 | h1 | h1 | h1 | h1 | h1 | h1 | h1 | h1 | h1 | h1 | h1 | h1 | h1 | h1 | h1 | h1 | h1 | h1 | h1 | h1 | h1 | h1 | h1 | h1 | h1 | h1 | h1 | h1 | h1 | h1 | h1 | h1
  all_goals first | omega | skip
  exfalso
  have e : formOf i.op = .no := by
    unfold formOf
    rw [if_neg (by omega), if_neg (by omega), if_neg (by omega), if_neg (by omega), if_neg (by omega), if_neg (by omega), if_neg (by omega), if_neg (by omega), if_neg (by omega), if_neg (by omega), if_neg (by omega)]
  unfold okI at h
  rw [e] at h
  cases h
end Is
end Go.Proofs.YthidjiidcelniaaDoor
