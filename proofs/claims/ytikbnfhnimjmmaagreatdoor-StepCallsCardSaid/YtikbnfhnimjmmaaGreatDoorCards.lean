/-
  DERIVED. GIVEN WITH THE SEED: THE CARDS: each row of YtikbnfhnimjmmaaGreatDoorRows.lean that lists a variable, with what it lists TIED to the program's text (the seventh form; the later family's looks); each row that meets fmt, with fmt's text TOLD by the authors' own Lean function (tested against real Go, not proved from fmt's source: count such statements apart). THE CARD IS WHAT COUNTS. Prove the row's statement (the work); the ties are given (YtikbnfhnimjmmaaGreatDoorTie.lean); close each card by the builder's one call (the guide's Derived/Test/ToyasCard.lean, 'card_holds'). Laid BY PROGRAM, IN A SANDBOX (cutbox-door.mjs). By AI agents, Wed Nov 11 2026. No macro, syntax, notation, axiom, sorry.
-/
import Derived.Test.YtikbnfhnimjmmaaGreatDoorRows
import GoSem.ClaimSeven
namespace Go.Proofs.YtikbnfhnimjmmaaGreatDoor
namespace Rows

/-- THE TIED CARD OF 'keysmithlaw07.DecodeCalls'. -/
def decodeCallsCard : Claim7 := { stood := { row := decodeCallsRow, standIns := [], harness := (true, "2caa109da011591106a75cd7f25be10f8da8dccc7ec80dd67f6f9d700abfbd72"), looks := true }, kinds := [], alts := [], laidByText := true, laidKinds := [.wider, .data, .data, .data], laidTests := true, laidLooks := .later }
def DecodeCallsCardSaid : Prop := Claim7.holds Tryz.pinned (.plain (OpenSpec.ofChange decodeCallsSpec)) decodeCallsCard

/-- THE TIED CARD OF 'keysmithlaw08.StepNames'. -/
def stepNamesCard : Claim7 := { stood := { row := stepNamesRow, standIns := [], harness := (true, "2caa109da011591106a75cd7f25be10f8da8dccc7ec80dd67f6f9d700abfbd72"), looks := true }, kinds := [], alts := [], laidByText := true, laidKinds := [.wider], laidTests := true, laidLooks := .later }
def StepNamesCardSaid : Prop := Claim7.holds Tryz.pinned (.plain (OpenSpec.ofChange stepNamesSpec)) stepNamesCard

/-- THE TIED CARD OF 'keysmithlaw08.StepCalls'. -/
def stepCallsCard : Claim7 := { stood := { row := stepCallsRow, standIns := [], harness := (true, "2caa109da011591106a75cd7f25be10f8da8dccc7ec80dd67f6f9d700abfbd72"), looks := true }, kinds := [], alts := [], laidByText := true, laidKinds := [.wider], laidTests := true, laidLooks := .later }
def StepCallsCardSaid : Prop := Claim7.holds Tryz.pinned (.plain (OpenSpec.ofChange stepCallsSpec)) stepCallsCard

/-- THE TIED CARD OF 'keysmithlaw09.MachineNames'. -/
def machineNamesCard : Claim7 := { stood := { row := machineNamesRow, standIns := [], harness := (true, "2caa109da011591106a75cd7f25be10f8da8dccc7ec80dd67f6f9d700abfbd72"), looks := true }, kinds := [], alts := [], laidByText := true, laidKinds := [.wider, .data, .data, .data], laidTests := true, laidLooks := .later }
def MachineNamesCardSaid : Prop := Claim7.holds Tryz.pinned (.plain (OpenSpec.ofChange machineNamesSpec)) machineNamesCard

/-- THE TIED CARD OF 'keysmithlaw09.MachineSteps'. -/
def machineStepsCard : Claim7 := { stood := { row := machineStepsRow, standIns := [], harness := (true, "2caa109da011591106a75cd7f25be10f8da8dccc7ec80dd67f6f9d700abfbd72"), looks := true }, kinds := [], alts := [], laidByText := true, laidKinds := [.wider, .data, .data, .data], laidTests := true, laidLooks := .later }
def MachineStepsCardSaid : Prop := Claim7.holds Tryz.pinned (.plain (OpenSpec.ofChange machineStepsSpec)) machineStepsCard

/-- THE TIED CARD OF 'keysmithlaw09.MachineApart'. -/
def machineApartCard : Claim7 := { stood := { row := machineApartRow, standIns := [], harness := (true, "2caa109da011591106a75cd7f25be10f8da8dccc7ec80dd67f6f9d700abfbd72"), looks := true }, kinds := [], alts := [], laidByText := true, laidKinds := [.wider, .data, .data, .data], laidTests := true, laidLooks := .later }
def MachineApartCardSaid : Prop := Claim7.holds Tryz.pinned (.plain (OpenSpec.ofChange machineApartSpec)) machineApartCard

/-- THE TIED CARD OF 'keysmithlaw10.LayoutNames'. -/
def layoutNamesCard : Claim7 := { stood := { row := layoutNamesRow, standIns := [], harness := (true, "2caa109da011591106a75cd7f25be10f8da8dccc7ec80dd67f6f9d700abfbd72"), looks := true }, kinds := [], alts := [], laidByText := true, laidKinds := [.wider, .data, .data, .data], laidTests := true, laidLooks := .later }
def LayoutNamesCardSaid : Prop := Claim7.holds Tryz.pinned (.plain (OpenSpec.ofChange layoutNamesSpec)) layoutNamesCard

/-- THE TIED CARD OF 'keysmithlaw10.LayoutCalls'. -/
def layoutCallsCard : Claim7 := { stood := { row := layoutCallsRow, standIns := [], harness := (true, "2caa109da011591106a75cd7f25be10f8da8dccc7ec80dd67f6f9d700abfbd72"), looks := true }, kinds := [], alts := [], laidByText := true, laidKinds := [.wider, .data, .data, .data], laidTests := true, laidLooks := .later }
def LayoutCallsCardSaid : Prop := Claim7.holds Tryz.pinned (.plain (OpenSpec.ofChange layoutCallsSpec)) layoutCallsCard

/-- THE TIED CARD OF 'keysmithlaw10.LayoutBack'. -/
def layoutBackCard : Claim7 := { stood := { row := layoutBackRow, standIns := [], harness := (true, "2caa109da011591106a75cd7f25be10f8da8dccc7ec80dd67f6f9d700abfbd72"), looks := true }, kinds := [], alts := [], laidByText := true, laidKinds := [.wider, .data, .data, .data], laidTests := true, laidLooks := .later }
def LayoutBackCardSaid : Prop := Claim7.holds Tryz.pinned (.plain (OpenSpec.ofChange layoutBackSpec)) layoutBackCard

/-- THE SECOND FORM's CARD OF 'keysmithlaw07.DecodeCalls'. -/
def decodeCallsUptoCard : Claim7 := { stood := { row := decodeCallsUptoRow, standIns := [], harness := (true, "2caa109da011591106a75cd7f25be10f8da8dccc7ec80dd67f6f9d700abfbd72"), looks := true }, kinds := [], alts := [], laidByText := true, laidKinds := [.wider, .data, .data, .data], laidTests := true, laidLooks := .later }
def DecodeCallsUptoCardSaid : Prop := Claim7.holds Tryz.pinned (.plain (OpenSpec.upto decodeCallsSpec)) decodeCallsUptoCard

/-- THE SECOND FORM's CARD OF 'keysmithlaw08.StepNames'. -/
def stepNamesUptoCard : Claim7 := { stood := { row := stepNamesUptoRow, standIns := [], harness := (true, "2caa109da011591106a75cd7f25be10f8da8dccc7ec80dd67f6f9d700abfbd72"), looks := true }, kinds := [], alts := [], laidByText := true, laidKinds := [.wider], laidTests := true, laidLooks := .later }
def StepNamesUptoCardSaid : Prop := Claim7.holds Tryz.pinned (.plain (OpenSpec.upto stepNamesSpec)) stepNamesUptoCard

/-- THE SECOND FORM's CARD OF 'keysmithlaw08.StepCalls'. -/
def stepCallsUptoCard : Claim7 := { stood := { row := stepCallsUptoRow, standIns := [], harness := (true, "2caa109da011591106a75cd7f25be10f8da8dccc7ec80dd67f6f9d700abfbd72"), looks := true }, kinds := [], alts := [], laidByText := true, laidKinds := [.wider], laidTests := true, laidLooks := .later }
def StepCallsUptoCardSaid : Prop := Claim7.holds Tryz.pinned (.plain (OpenSpec.upto stepCallsSpec)) stepCallsUptoCard

/-- THE SECOND FORM's CARD OF 'keysmithlaw09.MachineNames'. -/
def machineNamesUptoCard : Claim7 := { stood := { row := machineNamesUptoRow, standIns := [], harness := (true, "2caa109da011591106a75cd7f25be10f8da8dccc7ec80dd67f6f9d700abfbd72"), looks := true }, kinds := [], alts := [], laidByText := true, laidKinds := [.wider, .data, .data, .data], laidTests := true, laidLooks := .later }
def MachineNamesUptoCardSaid : Prop := Claim7.holds Tryz.pinned (.plain (OpenSpec.upto machineNamesSpec)) machineNamesUptoCard

/-- THE SECOND FORM's CARD OF 'keysmithlaw09.MachineSteps'. -/
def machineStepsUptoCard : Claim7 := { stood := { row := machineStepsUptoRow, standIns := [], harness := (true, "2caa109da011591106a75cd7f25be10f8da8dccc7ec80dd67f6f9d700abfbd72"), looks := true }, kinds := [], alts := [], laidByText := true, laidKinds := [.wider, .data, .data, .data], laidTests := true, laidLooks := .later }
def MachineStepsUptoCardSaid : Prop := Claim7.holds Tryz.pinned (.plain (OpenSpec.upto machineStepsSpec)) machineStepsUptoCard

/-- THE SECOND FORM's CARD OF 'keysmithlaw09.MachineApart'. -/
def machineApartUptoCard : Claim7 := { stood := { row := machineApartUptoRow, standIns := [], harness := (true, "2caa109da011591106a75cd7f25be10f8da8dccc7ec80dd67f6f9d700abfbd72"), looks := true }, kinds := [], alts := [], laidByText := true, laidKinds := [.wider, .data, .data, .data], laidTests := true, laidLooks := .later }
def MachineApartUptoCardSaid : Prop := Claim7.holds Tryz.pinned (.plain (OpenSpec.upto machineApartSpec)) machineApartUptoCard

/-- THE SECOND FORM's CARD OF 'keysmithlaw10.LayoutNames'. -/
def layoutNamesUptoCard : Claim7 := { stood := { row := layoutNamesUptoRow, standIns := [], harness := (true, "2caa109da011591106a75cd7f25be10f8da8dccc7ec80dd67f6f9d700abfbd72"), looks := true }, kinds := [], alts := [], laidByText := true, laidKinds := [.wider, .data, .data, .data], laidTests := true, laidLooks := .later }
def LayoutNamesUptoCardSaid : Prop := Claim7.holds Tryz.pinned (.plain (OpenSpec.upto layoutNamesSpec)) layoutNamesUptoCard

/-- THE SECOND FORM's CARD OF 'keysmithlaw10.LayoutCalls'. -/
def layoutCallsUptoCard : Claim7 := { stood := { row := layoutCallsUptoRow, standIns := [], harness := (true, "2caa109da011591106a75cd7f25be10f8da8dccc7ec80dd67f6f9d700abfbd72"), looks := true }, kinds := [], alts := [], laidByText := true, laidKinds := [.wider, .data, .data, .data], laidTests := true, laidLooks := .later }
def LayoutCallsUptoCardSaid : Prop := Claim7.holds Tryz.pinned (.plain (OpenSpec.upto layoutCallsSpec)) layoutCallsUptoCard

/-- THE SECOND FORM's CARD OF 'keysmithlaw10.LayoutBack'. -/
def layoutBackUptoCard : Claim7 := { stood := { row := layoutBackUptoRow, standIns := [], harness := (true, "2caa109da011591106a75cd7f25be10f8da8dccc7ec80dd67f6f9d700abfbd72"), looks := true }, kinds := [], alts := [], laidByText := true, laidKinds := [.wider, .data, .data, .data], laidTests := true, laidLooks := .later }
def LayoutBackUptoCardSaid : Prop := Claim7.holds Tryz.pinned (.plain (OpenSpec.upto layoutBackSpec)) layoutBackUptoCard
end Rows
end Go.Proofs.YtikbnfhnimjmmaaGreatDoor
