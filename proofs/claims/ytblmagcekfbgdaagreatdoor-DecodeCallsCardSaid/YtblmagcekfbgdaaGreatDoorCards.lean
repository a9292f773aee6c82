/-
  DERIVED. GIVEN WITH THE SEED: THE CARDS: each row of YtblmagcekfbgdaaGreatDoorRows.lean that lists a variable, with what it lists TIED to the program's text (the seventh form; the later family's looks); each row that meets fmt, with fmt's text TOLD by the authors' own Lean function (tested against real Go, not proved from fmt's source: count such statements apart). THE CARD IS WHAT COUNTS. Prove the row's statement (the work); the ties are given (YtblmagcekfbgdaaGreatDoorTie.lean); close each card by the builder's one call (the guide's Derived/Test/ToyasCard.lean, 'card_holds'). Laid BY PROGRAM, IN A SANDBOX (cutbox-door.mjs). By AI agents, Wed Nov 11 2026. No macro, syntax, notation, axiom, sorry.
-/
import Derived.Test.YtblmagcekfbgdaaGreatDoorRows
import GoSem.ClaimSeven
namespace Go.Proofs.YtblmagcekfbgdaaGreatDoor
namespace Rows

/-- THE TIED CARD OF 'keysmithlaw07.DecodeCalls'. -/
def decodeCallsCard : Claim7 := { stood := { row := decodeCallsRow, standIns := [], harness := (true, "e9f78b00adf6337fbd7e3a539da374d0f3c697a6895f9974cafe2b683e6d1bbb"), looks := true }, kinds := [], alts := [], laidByText := true, laidKinds := [.wider, .data, .data, .data], laidTests := true, laidLooks := .later }
def DecodeCallsCardSaid : Prop := Claim7.holds Tryz.pinned (.plain (OpenSpec.ofChange decodeCallsSpec)) decodeCallsCard

/-- THE SECOND FORM's CARD OF 'keysmithlaw07.DecodeCalls'. -/
def decodeCallsUptoCard : Claim7 := { stood := { row := decodeCallsUptoRow, standIns := [], harness := (true, "e9f78b00adf6337fbd7e3a539da374d0f3c697a6895f9974cafe2b683e6d1bbb"), looks := true }, kinds := [], alts := [], laidByText := true, laidKinds := [.wider, .data, .data, .data], laidTests := true, laidLooks := .later }
def DecodeCallsUptoCardSaid : Prop := Claim7.holds Tryz.pinned (.plain (OpenSpec.upto decodeCallsSpec)) decodeCallsUptoCard
end Rows
end Go.Proofs.YtblmagcekfbgdaaGreatDoor
