/-
  DERIVED. GIVEN WITH THE SEED: THE PROGRAM's TIES (one call each: nine closed facts by the kernel) AND EACH ROW's TIE, after the 31st guide's Derived/Test/Toyas{Tie, Card}.lean. No idea stands in it: it is a product of the set-up. Laid BY PROGRAM, IN A SANDBOX (cutbox-door.mjs). By AI agents, Wed Nov 11 2026. No macro, syntax, notation, axiom, sorry.
-/
import Derived.Test.YteppmkeoedddnaaDoorRows
import Derived.LaidByTextLater
import Derived.SevenTiedAt
import Derived.LaidSub
import Derived.LaidOnce
namespace Go.Proofs.YteppmkeoedddnaaDoor
open Go
set_option maxRecDepth 100000
theorem seatTie1 : Tryd.prog.laidByTextLater [("keysmith/inst.forms", Rows.laid_keysmith_inst_forms), ("math/bits.deBruijn32tab", Rows.laid_math_bits_deBruijn32tab), ("math/bits.deBruijn64tab", Rows.laid_math_bits_deBruijn64tab), ("keysmith/encode.own", Rows.laid_keysmith_encode_own)] [.wider, .data, .data, .data] true :=
  Program.laidByTextLater_by_one 62 8 171 (by kernel_rfl) (by kernel_rfl) (by kernel_rfl) (by kernel_rfl) (by kernel_rfl) (by kernel_rfl) (fun _ _ => by kernel_rfl)
theorem noOwnUnsafe : Tryd.pinned.checked.prog.headLifts.contains "ownunsafe" = false := by kernel_rfl
theorem tie : Tryd.prog.laidByTextLater [("keysmith/inst.forms", Rows.laid_keysmith_inst_forms), ("math/bits.deBruijn32tab", Rows.laid_math_bits_deBruijn32tab), ("math/bits.deBruijn64tab", Rows.laid_math_bits_deBruijn64tab), ("keysmith/encode.own", Rows.laid_keysmith_encode_own)] [.wider, .data, .data, .data] true :=
  Program.laidByTextLater.sub seatTie1 ["keysmith/inst.forms", "math/bits.deBruijn32tab", "math/bits.deBruijn64tab", "keysmith/encode.own"] (by kernel_rfl) (by kernel_rfl)
theorem layoutJumps_row_tie : Rows.layoutJumpsRow.laidByTextAt .later Tryd.pinned [.wider, .data, .data, .data] true :=
  OpenClaim.laidByTextAt_later rfl rfl tie noOwnUnsafe
theorem layoutLabels_row_tie : Rows.layoutLabelsRow.laidByTextAt .later Tryd.pinned [.wider, .data, .data, .data] true :=
  OpenClaim.laidByTextAt_later rfl rfl tie noOwnUnsafe
theorem layoutCut_row_tie : Rows.layoutCutRow.laidByTextAt .later Tryd.pinned [.wider, .data, .data, .data] true :=
  OpenClaim.laidByTextAt_later rfl rfl tie noOwnUnsafe
theorem layoutJumpsUpto_row_tie : Rows.layoutJumpsUptoRow.laidByTextAt .later Tryd.pinned [.wider, .data, .data, .data] true :=
  OpenClaim.laidByTextAt_later rfl rfl tie noOwnUnsafe
theorem layoutLabelsUpto_row_tie : Rows.layoutLabelsUptoRow.laidByTextAt .later Tryd.pinned [.wider, .data, .data, .data] true :=
  OpenClaim.laidByTextAt_later rfl rfl tie noOwnUnsafe
theorem layoutCutUpto_row_tie : Rows.layoutCutUptoRow.laidByTextAt .later Tryd.pinned [.wider, .data, .data, .data] true :=
  OpenClaim.laidByTextAt_later rfl rfl tie noOwnUnsafe
end Go.Proofs.YteppmkeoedddnaaDoor
