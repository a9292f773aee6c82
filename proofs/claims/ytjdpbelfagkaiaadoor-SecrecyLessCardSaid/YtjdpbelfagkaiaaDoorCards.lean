/-
  DERIVED. GIVEN WITH THE SEED: THE CARDS: each row of YtjdpbelfagkaiaaDoorRows.lean that lists a variable, with what it lists TIED to the program's text (the seventh form; the later family's looks); each row that meets fmt, with fmt's text TOLD by the authors' own Lean function (tested against real Go, not proved from fmt's source: count such statements apart). THE CARD IS WHAT COUNTS. Prove the row's statement (the work); the ties are given (YtjdpbelfagkaiaaDoorTie.lean); close each card by the builder's one call (the guide's Derived/Test/ToyasCard.lean, 'card_holds'). Laid BY PROGRAM, IN A SANDBOX (cutbox-door.mjs). By AI agents, Wed Nov 11 2026. No macro, syntax, notation, axiom, sorry.
-/
import Derived.Test.YtjdpbelfagkaiaaDoorRows
import GoSem.ClaimSeven
namespace Go.Proofs.YtjdpbelfagkaiaaDoor
namespace Rows

/-- THE TIED CARD OF 'keysmithlaw12.LimbNames'. -/
def limbNamesCard : Claim7 := { stood := { row := limbNamesRow, standIns := [], harness := (true, "2414d7cdbdacc3bc89d51f6904e3d6f8a008952f7d03a937c26a0bf62e513ecd"), looks := false }, kinds := [], alts := [], laidByText := true, laidKinds := [.data], laidTests := true, laidLooks := .later }
def LimbNamesCardSaid : Prop := Claim7.holds Tryd.pinned (.plain (OpenSpec.ofChange limbNamesSpec)) limbNamesCard

/-- THE TIED CARD OF 'keysmithlaw12.LimbCalls'. -/
def limbCallsCard : Claim7 := { stood := { row := limbCallsRow, standIns := [], harness := (true, "2414d7cdbdacc3bc89d51f6904e3d6f8a008952f7d03a937c26a0bf62e513ecd"), looks := false }, kinds := [], alts := [], laidByText := true, laidKinds := [.data], laidTests := true, laidLooks := .later }
def LimbCallsCardSaid : Prop := Claim7.holds Tryd.pinned (.plain (OpenSpec.ofChange limbCallsSpec)) limbCallsCard

/-- THE TIED CARD OF 'keysmithlaw12.LimbRounds'. -/
def limbRoundsCard : Claim7 := { stood := { row := limbRoundsRow, standIns := [], harness := (true, "2414d7cdbdacc3bc89d51f6904e3d6f8a008952f7d03a937c26a0bf62e513ecd"), looks := false }, kinds := [], alts := [], laidByText := true, laidKinds := [.data], laidTests := true, laidLooks := .later }
def LimbRoundsCardSaid : Prop := Claim7.holds Tryd.pinned (.plain (OpenSpec.ofChange limbRoundsSpec)) limbRoundsCard

/-- THE TIED CARD OF 'keysmithlaw12.LimbUnused'. -/
def limbUnusedCard : Claim7 := { stood := { row := limbUnusedRow, standIns := [], harness := (true, "2414d7cdbdacc3bc89d51f6904e3d6f8a008952f7d03a937c26a0bf62e513ecd"), looks := false }, kinds := [], alts := [], laidByText := true, laidKinds := [.data], laidTests := true, laidLooks := .later }
def LimbUnusedCardSaid : Prop := Claim7.holds Tryd.pinned (.plain (OpenSpec.ofChange limbUnusedSpec)) limbUnusedCard

/-- THE TIED CARD OF 'keysmithlaw12.LimbParts'. -/
def limbPartsCard : Claim7 := { stood := { row := limbPartsRow, standIns := [], harness := (true, "2414d7cdbdacc3bc89d51f6904e3d6f8a008952f7d03a937c26a0bf62e513ecd"), looks := false }, kinds := [], alts := [], laidByText := true, laidKinds := [.data], laidTests := true, laidLooks := .later }
def LimbPartsCardSaid : Prop := Claim7.holds Tryd.pinned (.plain (OpenSpec.ofChange limbPartsSpec)) limbPartsCard

/-- THE TIED CARD OF 'keysmithlaw13.SecrecyNames'. -/
def secrecyNamesCard : Claim7 := { stood := { row := secrecyNamesRow, standIns := [], harness := (true, "2414d7cdbdacc3bc89d51f6904e3d6f8a008952f7d03a937c26a0bf62e513ecd"), looks := false }, kinds := [], alts := [], laidByText := true, laidKinds := [.data], laidTests := true, laidLooks := .later }
def SecrecyNamesCardSaid : Prop := Claim7.holds Tryd.pinned (.plain (OpenSpec.ofChange secrecyNamesSpec)) secrecyNamesCard

/-- THE TIED CARD OF 'keysmithlaw13.SecrecyRuns'. -/
def secrecyRunsCard : Claim7 := { stood := { row := secrecyRunsRow, standIns := [], harness := (true, "2414d7cdbdacc3bc89d51f6904e3d6f8a008952f7d03a937c26a0bf62e513ecd"), looks := false }, kinds := [], alts := [], laidByText := true, laidKinds := [.data], laidTests := true, laidLooks := .later }
def SecrecyRunsCardSaid : Prop := Claim7.holds Tryd.pinned (.plain (OpenSpec.ofChange secrecyRunsSpec)) secrecyRunsCard

/-- THE TIED CARD OF 'keysmithlaw13.SecrecyLess'. -/
def secrecyLessCard : Claim7 := { stood := { row := secrecyLessRow, standIns := [], harness := (true, "2414d7cdbdacc3bc89d51f6904e3d6f8a008952f7d03a937c26a0bf62e513ecd"), looks := false }, kinds := [], alts := [], laidByText := true, laidKinds := [.data], laidTests := true, laidLooks := .later }
def SecrecyLessCardSaid : Prop := Claim7.holds Tryd.pinned (.plain (OpenSpec.ofChange secrecyLessSpec)) secrecyLessCard

/-- THE TIED CARD OF 'keysmithlaw13.SecrecyNamed'. -/
def secrecyNamedCard : Claim7 := { stood := { row := secrecyNamedRow, standIns := [], harness := (true, "2414d7cdbdacc3bc89d51f6904e3d6f8a008952f7d03a937c26a0bf62e513ecd"), looks := false }, kinds := [], alts := [], laidByText := true, laidKinds := [.data], laidTests := true, laidLooks := .later }
def SecrecyNamedCardSaid : Prop := Claim7.holds Tryd.pinned (.plain (OpenSpec.ofChange secrecyNamedSpec)) secrecyNamedCard

/-- THE SECOND FORM's CARD OF 'keysmithlaw12.LimbNames'. -/
def limbNamesUptoCard : Claim7 := { stood := { row := limbNamesUptoRow, standIns := [], harness := (true, "2414d7cdbdacc3bc89d51f6904e3d6f8a008952f7d03a937c26a0bf62e513ecd"), looks := false }, kinds := [], alts := [], laidByText := true, laidKinds := [.data], laidTests := true, laidLooks := .later }
def LimbNamesUptoCardSaid : Prop := Claim7.holds Tryd.pinned (.plain (OpenSpec.upto limbNamesSpec)) limbNamesUptoCard

/-- THE SECOND FORM's CARD OF 'keysmithlaw12.LimbCalls'. -/
def limbCallsUptoCard : Claim7 := { stood := { row := limbCallsUptoRow, standIns := [], harness := (true, "2414d7cdbdacc3bc89d51f6904e3d6f8a008952f7d03a937c26a0bf62e513ecd"), looks := false }, kinds := [], alts := [], laidByText := true, laidKinds := [.data], laidTests := true, laidLooks := .later }
def LimbCallsUptoCardSaid : Prop := Claim7.holds Tryd.pinned (.plain (OpenSpec.upto limbCallsSpec)) limbCallsUptoCard

/-- THE SECOND FORM's CARD OF 'keysmithlaw12.LimbRounds'. -/
def limbRoundsUptoCard : Claim7 := { stood := { row := limbRoundsUptoRow, standIns := [], harness := (true, "2414d7cdbdacc3bc89d51f6904e3d6f8a008952f7d03a937c26a0bf62e513ecd"), looks := false }, kinds := [], alts := [], laidByText := true, laidKinds := [.data], laidTests := true, laidLooks := .later }
def LimbRoundsUptoCardSaid : Prop := Claim7.holds Tryd.pinned (.plain (OpenSpec.upto limbRoundsSpec)) limbRoundsUptoCard

/-- THE SECOND FORM's CARD OF 'keysmithlaw12.LimbUnused'. -/
def limbUnusedUptoCard : Claim7 := { stood := { row := limbUnusedUptoRow, standIns := [], harness := (true, "2414d7cdbdacc3bc89d51f6904e3d6f8a008952f7d03a937c26a0bf62e513ecd"), looks := false }, kinds := [], alts := [], laidByText := true, laidKinds := [.data], laidTests := true, laidLooks := .later }
def LimbUnusedUptoCardSaid : Prop := Claim7.holds Tryd.pinned (.plain (OpenSpec.upto limbUnusedSpec)) limbUnusedUptoCard

/-- THE SECOND FORM's CARD OF 'keysmithlaw12.LimbParts'. -/
def limbPartsUptoCard : Claim7 := { stood := { row := limbPartsUptoRow, standIns := [], harness := (true, "2414d7cdbdacc3bc89d51f6904e3d6f8a008952f7d03a937c26a0bf62e513ecd"), looks := false }, kinds := [], alts := [], laidByText := true, laidKinds := [.data], laidTests := true, laidLooks := .later }
def LimbPartsUptoCardSaid : Prop := Claim7.holds Tryd.pinned (.plain (OpenSpec.upto limbPartsSpec)) limbPartsUptoCard

/-- THE SECOND FORM's CARD OF 'keysmithlaw13.SecrecyNames'. -/
def secrecyNamesUptoCard : Claim7 := { stood := { row := secrecyNamesUptoRow, standIns := [], harness := (true, "2414d7cdbdacc3bc89d51f6904e3d6f8a008952f7d03a937c26a0bf62e513ecd"), looks := false }, kinds := [], alts := [], laidByText := true, laidKinds := [.data], laidTests := true, laidLooks := .later }
def SecrecyNamesUptoCardSaid : Prop := Claim7.holds Tryd.pinned (.plain (OpenSpec.upto secrecyNamesSpec)) secrecyNamesUptoCard

/-- THE SECOND FORM's CARD OF 'keysmithlaw13.SecrecyRuns'. -/
def secrecyRunsUptoCard : Claim7 := { stood := { row := secrecyRunsUptoRow, standIns := [], harness := (true, "2414d7cdbdacc3bc89d51f6904e3d6f8a008952f7d03a937c26a0bf62e513ecd"), looks := false }, kinds := [], alts := [], laidByText := true, laidKinds := [.data], laidTests := true, laidLooks := .later }
def SecrecyRunsUptoCardSaid : Prop := Claim7.holds Tryd.pinned (.plain (OpenSpec.upto secrecyRunsSpec)) secrecyRunsUptoCard

/-- THE SECOND FORM's CARD OF 'keysmithlaw13.SecrecyLess'. -/
def secrecyLessUptoCard : Claim7 := { stood := { row := secrecyLessUptoRow, standIns := [], harness := (true, "2414d7cdbdacc3bc89d51f6904e3d6f8a008952f7d03a937c26a0bf62e513ecd"), looks := false }, kinds := [], alts := [], laidByText := true, laidKinds := [.data], laidTests := true, laidLooks := .later }
def SecrecyLessUptoCardSaid : Prop := Claim7.holds Tryd.pinned (.plain (OpenSpec.upto secrecyLessSpec)) secrecyLessUptoCard

/-- THE SECOND FORM's CARD OF 'keysmithlaw13.SecrecyNamed'. -/
def secrecyNamedUptoCard : Claim7 := { stood := { row := secrecyNamedUptoRow, standIns := [], harness := (true, "2414d7cdbdacc3bc89d51f6904e3d6f8a008952f7d03a937c26a0bf62e513ecd"), looks := false }, kinds := [], alts := [], laidByText := true, laidKinds := [.data], laidTests := true, laidLooks := .later }
def SecrecyNamedUptoCardSaid : Prop := Claim7.holds Tryd.pinned (.plain (OpenSpec.upto secrecyNamedSpec)) secrecyNamedUptoCard
end Rows
end Go.Proofs.YtjdpbelfagkaiaaDoor
