/- Bytes of one's own, kept. -/
import Derived.Test.YthidjiidcelniaaDoorK2
namespace Go.Proofs.YthidjiidcelniaaDoor
open Go Go.RowKit
namespace Is
open Nt
set_option linter.unusedVariables false
set_option linter.unusedSimpArgs false
/-- bytes of one's own, behind what leaves them be -/
theorem own_keep {w w' : World} {B : Nat} {v : Value} {xs : List Int} (h : w.ownsRow B 5 1 v xs.length (bv xs)) (hb : Below w.heap.size w w') : w'.ownsRow B 5 1 v xs.length (bv xs) := by
  refine ⟨h.1, ?_⟩
  rcases h.2 with h1 | ⟨g, c, cur, h1, h2, h3, h4⟩
  · exact .inl h1
  · exact .inr ⟨g, c, cur, h1, h2, (hb.block g (Array.getElem?_eq_some_iff.1 h3).1).trans h3, h4⟩
end Is
end Go.Proofs.YthidjiidcelniaaDoor
