/-
  DERIVED. GIVEN WITH THE SEED: THE CARDS: each row of YtbdhibgljaelbaaDoorRows.lean that lists a variable, with what it lists TIED to the program's text (the seventh form; the later family's looks); each row that meets fmt, with fmt's text TOLD by the authors' own Lean function (tested against real Go, not proved from fmt's source: count such statements apart). THE CARD IS WHAT COUNTS. Prove the row's statement (the work); the ties are given (YtbdhibgljaelbaaDoorTie.lean); close each card by the builder's one call (the guide's Derived/Test/ToyasCard.lean, 'card_holds'). Laid BY PROGRAM, IN A SANDBOX (cutbox-door.mjs). By AI agents, Wed Nov 11 2026. No macro, syntax, notation, axiom, sorry.
-/
import Derived.Test.YtbdhibgljaelbaaDoorRows
import GoSem.ClaimSeven
namespace Go.Proofs.YtbdhibgljaelbaaDoor
namespace Rows

/-- THE TIED CARD OF 'keysmithlaw12.LimbNames'. -/
def limbNamesCard : Claim7 := { stood := { row := limbNamesRow, standIns := [], harness := (true, "ca2b5b451c31ede4c42cd9e1a064dd717467247e90267cd52931e86d22b9d249"), looks := false }, kinds := [], alts := [], laidByText := true, laidKinds := [.data], laidTests := true, laidLooks := .later }
def LimbNamesCardSaid : Prop := Claim7.holds Tryd.pinned (.plain (OpenSpec.ofChange limbNamesSpec)) limbNamesCard

/-- THE TIED CARD OF 'keysmithlaw12.LimbCalls'. -/
def limbCallsCard : Claim7 := { stood := { row := limbCallsRow, standIns := [], harness := (true, "ca2b5b451c31ede4c42cd9e1a064dd717467247e90267cd52931e86d22b9d249"), looks := false }, kinds := [], alts := [], laidByText := true, laidKinds := [.data], laidTests := true, laidLooks := .later }
def LimbCallsCardSaid : Prop := Claim7.holds Tryd.pinned (.plain (OpenSpec.ofChange limbCallsSpec)) limbCallsCard

/-- THE TIED CARD OF 'keysmithlaw13.SecrecyRuns'. -/
def secrecyRunsCard : Claim7 := { stood := { row := secrecyRunsRow, standIns := [], harness := (true, "ca2b5b451c31ede4c42cd9e1a064dd717467247e90267cd52931e86d22b9d249"), looks := false }, kinds := [], alts := [], laidByText := true, laidKinds := [.data], laidTests := true, laidLooks := .later }
def SecrecyRunsCardSaid : Prop := Claim7.holds Tryd.pinned (.plain (OpenSpec.ofChange secrecyRunsSpec)) secrecyRunsCard

/-- THE SECOND FORM's CARD OF 'keysmithlaw12.LimbNames'. -/
def limbNamesUptoCard : Claim7 := { stood := { row := limbNamesUptoRow, standIns := [], harness := (true, "ca2b5b451c31ede4c42cd9e1a064dd717467247e90267cd52931e86d22b9d249"), looks := false }, kinds := [], alts := [], laidByText := true, laidKinds := [.data], laidTests := true, laidLooks := .later }
def LimbNamesUptoCardSaid : Prop := Claim7.holds Tryd.pinned (.plain (OpenSpec.upto limbNamesSpec)) limbNamesUptoCard

/-- THE SECOND FORM's CARD OF 'keysmithlaw12.LimbCalls'. -/
def limbCallsUptoCard : Claim7 := { stood := { row := limbCallsUptoRow, standIns := [], harness := (true, "ca2b5b451c31ede4c42cd9e1a064dd717467247e90267cd52931e86d22b9d249"), looks := false }, kinds := [], alts := [], laidByText := true, laidKinds := [.data], laidTests := true, laidLooks := .later }
def LimbCallsUptoCardSaid : Prop := Claim7.holds Tryd.pinned (.plain (OpenSpec.upto limbCallsSpec)) limbCallsUptoCard

/-- THE SECOND FORM's CARD OF 'keysmithlaw13.SecrecyRuns'. -/
def secrecyRunsUptoCard : Claim7 := { stood := { row := secrecyRunsUptoRow, standIns := [], harness := (true, "ca2b5b451c31ede4c42cd9e1a064dd717467247e90267cd52931e86d22b9d249"), looks := false }, kinds := [], alts := [], laidByText := true, laidKinds := [.data], laidTests := true, laidLooks := .later }
def SecrecyRunsUptoCardSaid : Prop := Claim7.holds Tryd.pinned (.plain (OpenSpec.upto secrecyRunsSpec)) secrecyRunsUptoCard
end Rows
end Go.Proofs.YtbdhibgljaelbaaDoor
