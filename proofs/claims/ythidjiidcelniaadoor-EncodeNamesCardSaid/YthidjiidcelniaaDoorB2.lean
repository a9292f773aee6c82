/- The document's own answers on instructions: forms, letters, registers, places. -/
import Derived.Test.YthidjiidcelniaaDoorB1
import Derived.Lib.Hide
import Derived.Laws.IdiomStrings
namespace Go.Proofs.YthidjiidcelniaaDoor
open Go Go.RowKit
namespace Is
open Nt
set_option linter.unusedVariables false
set_option maxRecDepth 100000 in
set_option maxHeartbeats 4000000 in
theorem form_c (op : Int) (w : World) : Calls Tryd.prog 18 #[.int .i64 op] w fun e w' => e = .returned (.string (formOf op).str) ∧ w' = w := by
  rcases op_cases op with rfl | rfl | rfl | rfl | rfl | rfl | rfl | rfl | rfl | rfl | rfl | rfl | rfl | rfl | rfl | rfl | rfl | rfl | rfl | rfl | rfl | rfl | rfl | rfl | rfl | rfl | rfl | rfl | rfl | rfl | rfl | rfl | rfl | h
  all_goals first
    | (go_enter Tryd.func18, Tryd.ntmps18
       go_wp2_with fail
       go_ret
       exact ⟨rfl, rfl⟩)
    | skip
  have e : formOf op = .no := by
    unfold formOf
    rw [if_neg (by omega), if_neg (by omega), if_neg (by omega), if_neg (by omega), if_neg (by omega), if_neg (by omega), if_neg (by omega), if_neg (by omega), if_neg (by omega), if_neg (by omega), if_neg (by omega)]
  rw [e]
  obtain ⟨n1, n2, n3, n4, n5, n6, n7, n8, n9, n10, n11, n12, n13, n14, n15, n16, n17, n18, n19, n20, n21, n22, n23, n24, n25, n26, n27, n28, n29, n30, n31, n32, n33⟩ := ops_out h
  rcases h with h | h
  · have h1 : op < 6 := by omega
    have h2 : op < 15 := by omega
    go_enter Tryd.func18, Tryd.ntmps18
    go_wp2_with fail
    go_ret
    exact ⟨rfl, rfl⟩
  · have h1 : 14 < op := by omega
    have h2 : 18 < op := by omega
    have h3 : 6 ≤ op := by omega
    have h4 : 15 ≤ op := by omega
    go_enter Tryd.func18, Tryd.ntmps18
    go_wp2_with fail
    go_ret
    exact ⟨rfl, rfl⟩
end Is
end Go.Proofs.YthidjiidcelniaaDoor
