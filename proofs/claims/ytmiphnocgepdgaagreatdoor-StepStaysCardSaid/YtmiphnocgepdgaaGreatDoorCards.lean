/-
  DERIVED. GIVEN WITH THE SEED: THE CARDS: each row of YtmiphnocgepdgaaGreatDoorRows.lean that lists a variable, with what it lists TIED to the program's text (the seventh form; the later family's looks); each row that meets fmt, with fmt's text TOLD by the authors' own Lean function (tested against real Go, not proved from fmt's source: count such statements apart). THE CARD IS WHAT COUNTS. Prove the row's statement (the work); the ties are given (YtmiphnocgepdgaaGreatDoorTie.lean); close each card by the builder's one call (the guide's Derived/Test/ToyasCard.lean, 'card_holds'). Laid BY PROGRAM, IN A SANDBOX (cutbox-door.mjs). By AI agents, Wed Nov 11 2026. No macro, syntax, notation, axiom, sorry.
-/
import Derived.Test.YtmiphnocgepdgaaGreatDoorRows
import GoSem.ClaimSeven
namespace Go.Proofs.YtmiphnocgepdgaaGreatDoor
namespace Rows

/-- THE TIED CARD OF 'keysmithlaw08.StepNames'. -/
def stepNamesCard : Claim7 := { stood := { row := stepNamesRow, standIns := [], harness := (true, "c400365715e1819cdff8f539cb92e6247a3e86b48600b4eb7966c2f1a6c0efc6"), looks := false }, kinds := [], alts := [], laidByText := true, laidKinds := [.wider], laidTests := true, laidLooks := .later }
def StepNamesCardSaid : Prop := Claim7.holds Tryz.pinned (.plain (OpenSpec.ofChange stepNamesSpec)) stepNamesCard

/-- THE TIED CARD OF 'keysmithlaw08.StepCalls'. -/
def stepCallsCard : Claim7 := { stood := { row := stepCallsRow, standIns := [], harness := (true, "c400365715e1819cdff8f539cb92e6247a3e86b48600b4eb7966c2f1a6c0efc6"), looks := false }, kinds := [], alts := [], laidByText := true, laidKinds := [.wider], laidTests := true, laidLooks := .later }
def StepCallsCardSaid : Prop := Claim7.holds Tryz.pinned (.plain (OpenSpec.ofChange stepCallsSpec)) stepCallsCard

/-- THE TIED CARD OF 'keysmithlaw08.StepStays'. -/
def stepStaysCard : Claim7 := { stood := { row := stepStaysRow, standIns := [], harness := (true, "c400365715e1819cdff8f539cb92e6247a3e86b48600b4eb7966c2f1a6c0efc6"), looks := false }, kinds := [], alts := [], laidByText := true, laidKinds := [.wider], laidTests := true, laidLooks := .later }
def StepStaysCardSaid : Prop := Claim7.holds Tryz.pinned (.plain (OpenSpec.ofChange stepStaysSpec)) stepStaysCard

/-- THE TIED CARD OF 'keysmithlaw08.StepSeen'. -/
def stepSeenCard : Claim7 := { stood := { row := stepSeenRow, standIns := [], harness := (true, "c400365715e1819cdff8f539cb92e6247a3e86b48600b4eb7966c2f1a6c0efc6"), looks := false }, kinds := [], alts := [], laidByText := true, laidKinds := [.wider], laidTests := true, laidLooks := .later }
def StepSeenCardSaid : Prop := Claim7.holds Tryz.pinned (.plain (OpenSpec.ofChange stepSeenSpec)) stepSeenCard

/-- THE TIED CARD OF 'keysmithlaw08.StepSums'. -/
def stepSumsCard : Claim7 := { stood := { row := stepSumsRow, standIns := [], harness := (true, "c400365715e1819cdff8f539cb92e6247a3e86b48600b4eb7966c2f1a6c0efc6"), looks := false }, kinds := [], alts := [], laidByText := true, laidKinds := [.wider], laidTests := true, laidLooks := .later }
def StepSumsCardSaid : Prop := Claim7.holds Tryz.pinned (.plain (OpenSpec.ofChange stepSumsSpec)) stepSumsCard

/-- THE TIED CARD OF 'keysmithlaw08.StepStack'. -/
def stepStackCard : Claim7 := { stood := { row := stepStackRow, standIns := [], harness := (true, "c400365715e1819cdff8f539cb92e6247a3e86b48600b4eb7966c2f1a6c0efc6"), looks := false }, kinds := [], alts := [], laidByText := true, laidKinds := [.wider], laidTests := true, laidLooks := .later }
def StepStackCardSaid : Prop := Claim7.holds Tryz.pinned (.plain (OpenSpec.ofChange stepStackSpec)) stepStackCard

/-- THE SECOND FORM's CARD OF 'keysmithlaw08.StepNames'. -/
def stepNamesUptoCard : Claim7 := { stood := { row := stepNamesUptoRow, standIns := [], harness := (true, "c400365715e1819cdff8f539cb92e6247a3e86b48600b4eb7966c2f1a6c0efc6"), looks := false }, kinds := [], alts := [], laidByText := true, laidKinds := [.wider], laidTests := true, laidLooks := .later }
def StepNamesUptoCardSaid : Prop := Claim7.holds Tryz.pinned (.plain (OpenSpec.upto stepNamesSpec)) stepNamesUptoCard

/-- THE SECOND FORM's CARD OF 'keysmithlaw08.StepCalls'. -/
def stepCallsUptoCard : Claim7 := { stood := { row := stepCallsUptoRow, standIns := [], harness := (true, "c400365715e1819cdff8f539cb92e6247a3e86b48600b4eb7966c2f1a6c0efc6"), looks := false }, kinds := [], alts := [], laidByText := true, laidKinds := [.wider], laidTests := true, laidLooks := .later }
def StepCallsUptoCardSaid : Prop := Claim7.holds Tryz.pinned (.plain (OpenSpec.upto stepCallsSpec)) stepCallsUptoCard

/-- THE SECOND FORM's CARD OF 'keysmithlaw08.StepStays'. -/
def stepStaysUptoCard : Claim7 := { stood := { row := stepStaysUptoRow, standIns := [], harness := (true, "c400365715e1819cdff8f539cb92e6247a3e86b48600b4eb7966c2f1a6c0efc6"), looks := false }, kinds := [], alts := [], laidByText := true, laidKinds := [.wider], laidTests := true, laidLooks := .later }
def StepStaysUptoCardSaid : Prop := Claim7.holds Tryz.pinned (.plain (OpenSpec.upto stepStaysSpec)) stepStaysUptoCard

/-- THE SECOND FORM's CARD OF 'keysmithlaw08.StepSeen'. -/
def stepSeenUptoCard : Claim7 := { stood := { row := stepSeenUptoRow, standIns := [], harness := (true, "c400365715e1819cdff8f539cb92e6247a3e86b48600b4eb7966c2f1a6c0efc6"), looks := false }, kinds := [], alts := [], laidByText := true, laidKinds := [.wider], laidTests := true, laidLooks := .later }
def StepSeenUptoCardSaid : Prop := Claim7.holds Tryz.pinned (.plain (OpenSpec.upto stepSeenSpec)) stepSeenUptoCard

/-- THE SECOND FORM's CARD OF 'keysmithlaw08.StepSums'. -/
def stepSumsUptoCard : Claim7 := { stood := { row := stepSumsUptoRow, standIns := [], harness := (true, "c400365715e1819cdff8f539cb92e6247a3e86b48600b4eb7966c2f1a6c0efc6"), looks := false }, kinds := [], alts := [], laidByText := true, laidKinds := [.wider], laidTests := true, laidLooks := .later }
def StepSumsUptoCardSaid : Prop := Claim7.holds Tryz.pinned (.plain (OpenSpec.upto stepSumsSpec)) stepSumsUptoCard

/-- THE SECOND FORM's CARD OF 'keysmithlaw08.StepStack'. -/
def stepStackUptoCard : Claim7 := { stood := { row := stepStackUptoRow, standIns := [], harness := (true, "c400365715e1819cdff8f539cb92e6247a3e86b48600b4eb7966c2f1a6c0efc6"), looks := false }, kinds := [], alts := [], laidByText := true, laidKinds := [.wider], laidTests := true, laidLooks := .later }
def StepStackUptoCardSaid : Prop := Claim7.holds Tryz.pinned (.plain (OpenSpec.upto stepStackSpec)) stepStackUptoCard
end Rows
end Go.Proofs.YtmiphnocgepdgaaGreatDoor
