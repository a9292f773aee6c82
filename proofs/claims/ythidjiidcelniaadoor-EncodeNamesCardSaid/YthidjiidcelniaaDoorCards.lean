/-
  DERIVED. GIVEN WITH THE SEED: THE CARDS: each row of YthidjiidcelniaaDoorRows.lean that lists a variable, with what it lists TIED to the program's text (the seventh form; the later family's looks); each row that meets fmt, with fmt's text TOLD by the authors' own Lean function (tested against real Go, not proved from fmt's source: count such statements apart). THE CARD IS WHAT COUNTS. Prove the row's statement (the work); the ties are given (YthidjiidcelniaaDoorTie.lean); close each card by the builder's one call (the guide's Derived/Test/ToyasCard.lean, 'card_holds'). Laid BY PROGRAM, IN A SANDBOX (cutbox-door.mjs). By AI agents, Wed Nov 11 2026. No macro, syntax, notation, axiom, sorry.
-/
import Derived.Test.YthidjiidcelniaaDoorRows
import GoSem.ClaimSeven
namespace Go.Proofs.YthidjiidcelniaaDoor
namespace Rows

/-- THE TIED CARD OF 'keysmithlaw06.EncodeNames'. -/
def encodeNamesCard : Claim7 := { stood := { row := encodeNamesRow, standIns := [], harness := (true, "3e12de2c7bd55de0e5cf88478177882db97eb6ea81ec0c06b98b2b93029132c2"), looks := false }, kinds := [], alts := [], laidByText := true, laidKinds := [.wider, .data, .data, .data], laidTests := true, laidLooks := .later }
def EncodeNamesCardSaid : Prop := Claim7.holds Tryd.pinned (.plain (OpenSpec.ofChange encodeNamesSpec)) encodeNamesCard

/-- THE TIED CARD OF 'keysmithlaw06.EncodeCalls'. -/
def encodeCallsCard : Claim7 := { stood := { row := encodeCallsRow, standIns := [], harness := (true, "3e12de2c7bd55de0e5cf88478177882db97eb6ea81ec0c06b98b2b93029132c2"), looks := false }, kinds := [], alts := [], laidByText := true, laidKinds := [.wider, .data, .data, .data], laidTests := true, laidLooks := .later }
def EncodeCallsCardSaid : Prop := Claim7.holds Tryd.pinned (.plain (OpenSpec.ofChange encodeCallsSpec)) encodeCallsCard

/-- THE TIED CARD OF 'keysmithlaw06.EncodeApart'. -/
def encodeApartCard : Claim7 := { stood := { row := encodeApartRow, standIns := [], harness := (true, "3e12de2c7bd55de0e5cf88478177882db97eb6ea81ec0c06b98b2b93029132c2"), looks := false }, kinds := [], alts := [], laidByText := true, laidKinds := [.wider, .data, .data, .data], laidTests := true, laidLooks := .later }
def EncodeApartCardSaid : Prop := Claim7.holds Tryd.pinned (.plain (OpenSpec.ofChange encodeApartSpec)) encodeApartCard

/-- THE TIED CARD OF 'keysmithlaw06.EncodeNumbers'. -/
def encodeNumbersCard : Claim7 := { stood := { row := encodeNumbersRow, standIns := [], harness := (true, "3e12de2c7bd55de0e5cf88478177882db97eb6ea81ec0c06b98b2b93029132c2"), looks := false }, kinds := [], alts := [], laidByText := true, laidKinds := [.wider, .data, .data, .data], laidTests := true, laidLooks := .later }
def EncodeNumbersCardSaid : Prop := Claim7.holds Tryd.pinned (.plain (OpenSpec.ofChange encodeNumbersSpec)) encodeNumbersCard

/-- THE TIED CARD OF 'keysmithlaw06.EncodeRegisters'. -/
def encodeRegistersCard : Claim7 := { stood := { row := encodeRegistersRow, standIns := [], harness := (true, "3e12de2c7bd55de0e5cf88478177882db97eb6ea81ec0c06b98b2b93029132c2"), looks := false }, kinds := [], alts := [], laidByText := true, laidKinds := [.wider, .data, .data, .data], laidTests := true, laidLooks := .later }
def EncodeRegistersCardSaid : Prop := Claim7.holds Tryd.pinned (.plain (OpenSpec.ofChange encodeRegistersSpec)) encodeRegistersCard

/-- THE SECOND FORM's CARD OF 'keysmithlaw06.EncodeNames'. -/
def encodeNamesUptoCard : Claim7 := { stood := { row := encodeNamesUptoRow, standIns := [], harness := (true, "3e12de2c7bd55de0e5cf88478177882db97eb6ea81ec0c06b98b2b93029132c2"), looks := false }, kinds := [], alts := [], laidByText := true, laidKinds := [.wider, .data, .data, .data], laidTests := true, laidLooks := .later }
def EncodeNamesUptoCardSaid : Prop := Claim7.holds Tryd.pinned (.plain (OpenSpec.upto encodeNamesSpec)) encodeNamesUptoCard

/-- THE SECOND FORM's CARD OF 'keysmithlaw06.EncodeCalls'. -/
def encodeCallsUptoCard : Claim7 := { stood := { row := encodeCallsUptoRow, standIns := [], harness := (true, "3e12de2c7bd55de0e5cf88478177882db97eb6ea81ec0c06b98b2b93029132c2"), looks := false }, kinds := [], alts := [], laidByText := true, laidKinds := [.wider, .data, .data, .data], laidTests := true, laidLooks := .later }
def EncodeCallsUptoCardSaid : Prop := Claim7.holds Tryd.pinned (.plain (OpenSpec.upto encodeCallsSpec)) encodeCallsUptoCard

/-- THE SECOND FORM's CARD OF 'keysmithlaw06.EncodeApart'. -/
def encodeApartUptoCard : Claim7 := { stood := { row := encodeApartUptoRow, standIns := [], harness := (true, "3e12de2c7bd55de0e5cf88478177882db97eb6ea81ec0c06b98b2b93029132c2"), looks := false }, kinds := [], alts := [], laidByText := true, laidKinds := [.wider, .data, .data, .data], laidTests := true, laidLooks := .later }
def EncodeApartUptoCardSaid : Prop := Claim7.holds Tryd.pinned (.plain (OpenSpec.upto encodeApartSpec)) encodeApartUptoCard

/-- THE SECOND FORM's CARD OF 'keysmithlaw06.EncodeNumbers'. -/
def encodeNumbersUptoCard : Claim7 := { stood := { row := encodeNumbersUptoRow, standIns := [], harness := (true, "3e12de2c7bd55de0e5cf88478177882db97eb6ea81ec0c06b98b2b93029132c2"), looks := false }, kinds := [], alts := [], laidByText := true, laidKinds := [.wider, .data, .data, .data], laidTests := true, laidLooks := .later }
def EncodeNumbersUptoCardSaid : Prop := Claim7.holds Tryd.pinned (.plain (OpenSpec.upto encodeNumbersSpec)) encodeNumbersUptoCard

/-- THE SECOND FORM's CARD OF 'keysmithlaw06.EncodeRegisters'. -/
def encodeRegistersUptoCard : Claim7 := { stood := { row := encodeRegistersUptoRow, standIns := [], harness := (true, "3e12de2c7bd55de0e5cf88478177882db97eb6ea81ec0c06b98b2b93029132c2"), looks := false }, kinds := [], alts := [], laidByText := true, laidKinds := [.wider, .data, .data, .data], laidTests := true, laidLooks := .later }
def EncodeRegistersUptoCardSaid : Prop := Claim7.holds Tryd.pinned (.plain (OpenSpec.upto encodeRegistersSpec)) encodeRegistersUptoCard
end Rows
end Go.Proofs.YthidjiidcelniaaDoor
