/-
  DERIVED. GIVEN WITH THE SEED: THE CARDS: each row of YtankmamoaajocaaDoorRows.lean that lists a variable, with what it lists TIED to the program's text (the seventh form; the later family's looks); each row that meets fmt, with fmt's text TOLD by the authors' own Lean function (tested against real Go, not proved from fmt's source: count such statements apart). THE CARD IS WHAT COUNTS. Prove the row's statement (the work); the ties are given (YtankmamoaajocaaDoorTie.lean); close each card by the builder's one call (the guide's Derived/Test/ToyasCard.lean, 'card_holds'). Laid BY PROGRAM, IN A SANDBOX (cutbox-door.mjs). By AI agents, Wed Nov 11 2026. No macro, syntax, notation, axiom, sorry.
-/
import Derived.Test.YtankmamoaajocaaDoorRows
import GoSem.ClaimSeven
namespace Go.Proofs.YtankmamoaajocaaDoor
namespace Rows

/-- THE TIED CARD OF 'keysmithlaw07.DecodeNames'. -/
def decodeNamesCard : Claim7 := { stood := { row := decodeNamesRow, standIns := [], harness := (true, "279495f5d353cd0450de114a673e0fa255ab2426b4c33a3f089c65a3151afba5"), looks := true }, kinds := [], alts := [], laidByText := true, laidKinds := [.wider, .data, .data, .data], laidTests := true, laidLooks := .later }
def DecodeNamesCardSaid : Prop := Claim7.holds Tryd.pinned (.plain (OpenSpec.ofChange decodeNamesSpec)) decodeNamesCard

/-- THE TIED CARD OF 'keysmithlaw07.DecodeBack'. -/
def decodeBackCard : Claim7 := { stood := { row := decodeBackRow, standIns := [], harness := (true, "279495f5d353cd0450de114a673e0fa255ab2426b4c33a3f089c65a3151afba5"), looks := true }, kinds := [], alts := [], laidByText := true, laidKinds := [.wider, .data, .data, .data], laidTests := true, laidLooks := .later }
def DecodeBackCardSaid : Prop := Claim7.holds Tryd.pinned (.plain (OpenSpec.ofChange decodeBackSpec)) decodeBackCard

/-- THE TIED CARD OF 'keysmithlaw07.DecodeCut'. -/
def decodeCutCard : Claim7 := { stood := { row := decodeCutRow, standIns := [], harness := (true, "279495f5d353cd0450de114a673e0fa255ab2426b4c33a3f089c65a3151afba5"), looks := true }, kinds := [], alts := [], laidByText := true, laidKinds := [.wider, .data, .data, .data], laidTests := true, laidLooks := .later }
def DecodeCutCardSaid : Prop := Claim7.holds Tryd.pinned (.plain (OpenSpec.ofChange decodeCutSpec)) decodeCutCard

/-- THE TIED CARD OF 'keysmithlaw07.DecodeEach'. -/
def decodeEachCard : Claim7 := { stood := { row := decodeEachRow, standIns := [], harness := (true, "279495f5d353cd0450de114a673e0fa255ab2426b4c33a3f089c65a3151afba5"), looks := true }, kinds := [], alts := [], laidByText := true, laidKinds := [.wider, .data, .data, .data], laidTests := true, laidLooks := .later }
def DecodeEachCardSaid : Prop := Claim7.holds Tryd.pinned (.plain (OpenSpec.ofChange decodeEachSpec)) decodeEachCard

/-- THE SECOND FORM's CARD OF 'keysmithlaw07.DecodeNames'. -/
def decodeNamesUptoCard : Claim7 := { stood := { row := decodeNamesUptoRow, standIns := [], harness := (true, "279495f5d353cd0450de114a673e0fa255ab2426b4c33a3f089c65a3151afba5"), looks := true }, kinds := [], alts := [], laidByText := true, laidKinds := [.wider, .data, .data, .data], laidTests := true, laidLooks := .later }
def DecodeNamesUptoCardSaid : Prop := Claim7.holds Tryd.pinned (.plain (OpenSpec.upto decodeNamesSpec)) decodeNamesUptoCard

/-- THE SECOND FORM's CARD OF 'keysmithlaw07.DecodeBack'. -/
def decodeBackUptoCard : Claim7 := { stood := { row := decodeBackUptoRow, standIns := [], harness := (true, "279495f5d353cd0450de114a673e0fa255ab2426b4c33a3f089c65a3151afba5"), looks := true }, kinds := [], alts := [], laidByText := true, laidKinds := [.wider, .data, .data, .data], laidTests := true, laidLooks := .later }
def DecodeBackUptoCardSaid : Prop := Claim7.holds Tryd.pinned (.plain (OpenSpec.upto decodeBackSpec)) decodeBackUptoCard

/-- THE SECOND FORM's CARD OF 'keysmithlaw07.DecodeCut'. -/
def decodeCutUptoCard : Claim7 := { stood := { row := decodeCutUptoRow, standIns := [], harness := (true, "279495f5d353cd0450de114a673e0fa255ab2426b4c33a3f089c65a3151afba5"), looks := true }, kinds := [], alts := [], laidByText := true, laidKinds := [.wider, .data, .data, .data], laidTests := true, laidLooks := .later }
def DecodeCutUptoCardSaid : Prop := Claim7.holds Tryd.pinned (.plain (OpenSpec.upto decodeCutSpec)) decodeCutUptoCard

/-- THE SECOND FORM's CARD OF 'keysmithlaw07.DecodeEach'. -/
def decodeEachUptoCard : Claim7 := { stood := { row := decodeEachUptoRow, standIns := [], harness := (true, "279495f5d353cd0450de114a673e0fa255ab2426b4c33a3f089c65a3151afba5"), looks := true }, kinds := [], alts := [], laidByText := true, laidKinds := [.wider, .data, .data, .data], laidTests := true, laidLooks := .later }
def DecodeEachUptoCardSaid : Prop := Claim7.holds Tryd.pinned (.plain (OpenSpec.upto decodeEachSpec)) decodeEachUptoCard
end Rows
end Go.Proofs.YtankmamoaajocaaDoor
