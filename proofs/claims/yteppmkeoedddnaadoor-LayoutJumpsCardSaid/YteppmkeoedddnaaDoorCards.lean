/-
  DERIVED. GIVEN WITH THE SEED: THE CARDS: each row of YteppmkeoedddnaaDoorRows.lean that lists a variable, with what it lists TIED to the program's text (the seventh form; the later family's looks); each row that meets fmt, with fmt's text TOLD by the authors' own Lean function (tested against real Go, not proved from fmt's source: count such statements apart). THE CARD IS WHAT COUNTS. Prove the row's statement (the work); the ties are given (YteppmkeoedddnaaDoorTie.lean); close each card by the builder's one call (the guide's Derived/Test/ToyasCard.lean, 'card_holds'). Laid BY PROGRAM, IN A SANDBOX (cutbox-door.mjs). By AI agents, Wed Nov 11 2026. No macro, syntax, notation, axiom, sorry.
-/
import Derived.Test.YteppmkeoedddnaaDoorRows
import GoSem.ClaimSeven
namespace Go.Proofs.YteppmkeoedddnaaDoor
namespace Rows

/-- THE TIED CARD OF 'keysmithlaw10.LayoutJumps'. -/
def layoutJumpsCard : Claim7 := { stood := { row := layoutJumpsRow, standIns := [], harness := (true, "203acc73e8e55b6b9f04ca00fe5c6205217683f58bb38b62728b7b794762b9e5"), looks := false }, kinds := [], alts := [], laidByText := true, laidKinds := [.wider, .data, .data, .data], laidTests := true, laidLooks := .later }
def LayoutJumpsCardSaid : Prop := Claim7.holds Tryd.pinned (.plain (OpenSpec.ofChange layoutJumpsSpec)) layoutJumpsCard

/-- THE TIED CARD OF 'keysmithlaw10.LayoutLabels'. -/
def layoutLabelsCard : Claim7 := { stood := { row := layoutLabelsRow, standIns := [], harness := (true, "203acc73e8e55b6b9f04ca00fe5c6205217683f58bb38b62728b7b794762b9e5"), looks := false }, kinds := [], alts := [], laidByText := true, laidKinds := [.wider, .data, .data, .data], laidTests := true, laidLooks := .later }
def LayoutLabelsCardSaid : Prop := Claim7.holds Tryd.pinned (.plain (OpenSpec.ofChange layoutLabelsSpec)) layoutLabelsCard

/-- THE TIED CARD OF 'keysmithlaw10.LayoutCut'. -/
def layoutCutCard : Claim7 := { stood := { row := layoutCutRow, standIns := [], harness := (true, "203acc73e8e55b6b9f04ca00fe5c6205217683f58bb38b62728b7b794762b9e5"), looks := false }, kinds := [], alts := [], laidByText := true, laidKinds := [.wider, .data, .data, .data], laidTests := true, laidLooks := .later }
def LayoutCutCardSaid : Prop := Claim7.holds Tryd.pinned (.plain (OpenSpec.ofChange layoutCutSpec)) layoutCutCard

/-- THE SECOND FORM's CARD OF 'keysmithlaw10.LayoutJumps'. -/
def layoutJumpsUptoCard : Claim7 := { stood := { row := layoutJumpsUptoRow, standIns := [], harness := (true, "203acc73e8e55b6b9f04ca00fe5c6205217683f58bb38b62728b7b794762b9e5"), looks := false }, kinds := [], alts := [], laidByText := true, laidKinds := [.wider, .data, .data, .data], laidTests := true, laidLooks := .later }
def LayoutJumpsUptoCardSaid : Prop := Claim7.holds Tryd.pinned (.plain (OpenSpec.upto layoutJumpsSpec)) layoutJumpsUptoCard

/-- THE SECOND FORM's CARD OF 'keysmithlaw10.LayoutLabels'. -/
def layoutLabelsUptoCard : Claim7 := { stood := { row := layoutLabelsUptoRow, standIns := [], harness := (true, "203acc73e8e55b6b9f04ca00fe5c6205217683f58bb38b62728b7b794762b9e5"), looks := false }, kinds := [], alts := [], laidByText := true, laidKinds := [.wider, .data, .data, .data], laidTests := true, laidLooks := .later }
def LayoutLabelsUptoCardSaid : Prop := Claim7.holds Tryd.pinned (.plain (OpenSpec.upto layoutLabelsSpec)) layoutLabelsUptoCard

/-- THE SECOND FORM's CARD OF 'keysmithlaw10.LayoutCut'. -/
def layoutCutUptoCard : Claim7 := { stood := { row := layoutCutUptoRow, standIns := [], harness := (true, "203acc73e8e55b6b9f04ca00fe5c6205217683f58bb38b62728b7b794762b9e5"), looks := false }, kinds := [], alts := [], laidByText := true, laidKinds := [.wider, .data, .data, .data], laidTests := true, laidLooks := .later }
def LayoutCutUptoCardSaid : Prop := Claim7.holds Tryd.pinned (.plain (OpenSpec.upto layoutCutSpec)) layoutCutUptoCard
end Rows
end Go.Proofs.YteppmkeoedddnaaDoor
