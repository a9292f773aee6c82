/-
  NARROWER THAN 'FOR EVERY INPUT', by the rows' own cells (each row's printed sentence says how): LimbNames: laid · LimbCalls: laid · SecrecyRuns: laid.
  DERIVED. THE GIVEN ROWS OF THIS SEAT. 3 by the template 'for every input the law returns true; each argument reads behind the call as it read before'; 0 by the template 'total and deterministic' (their statements: YtbdhibgljaelbaaDoorTotals.lean).
  GIVEN WITH THE SEED: the statements are not yours to turn. If you find one false, say at which input.
  Laid BY PROGRAM, IN A SANDBOX (cutbox-rows.mjs): the forced cells as the released guide's own fill.sh prints them over the translation 50175ba56aae0789… (all of the seat's roots in one cut). By AI agents, Wed Nov 11 2026. No macro, syntax, notation, axiom, sorry.
-/
import Derived.Test.YtbdhibgljaelbaaDoorChecked
import GoSem.Claim
import GoSem.ClaimJoined
import GoSem.ClaimMapViews
import Derived.JoinedTies
import Derived.KernelRfl
namespace Go.Proofs.YtbdhibgljaelbaaDoor
/- THE CELL 'sum', in the pinned program and in every row, IS THE sha256 OF THE DUMP (.gsa) THAT YtbdhibgljaelbaaDoorProg.lean LOADS. Nothing in Lean hashes anything: it is a label: what it is worth is what the hold of that sum in a sandbox is worth. -/
noncomputable def Tryd.pinned : Pinned := { name := "ytbdhibgljaelbaadoor", sum := "50175ba56aae0789fc92211963765bf7067290c6898a9afd19b237959670d2b7", checked := Tryd.checked }
namespace Rows
def none {H : Type} : Left H := { results := [], args := [] }

/- WHAT THE LISTED PACKAGE-LEVEL VARIABLES READ AS WHEN THE CALL BEGINS. Each datum BY PROGRAM (the guide's laid-datum.mjs) off the statement by which the dump's own 'gosem.cut.vars' lays the variable. In a bare row this is a premise. The card (YtbdhibgljaelbaaDoorCards.lean) ties it to the program's text. -/
def laid_keysmith_limb_forms {H : Type} : DataW H := .agg [.agg [.lit (.int .u8 0), .lit (.int .u64 0), .lit (.int .u64 0)], .agg [.lit (.int .u8 1), .lit (.int .u64 0), .lit (.int .u64 18446744073709551615)], .agg [.lit (.int .u8 5), .lit (.int .u64 0), .lit (.int .u64 0)], .agg [.lit (.int .u8 13), .lit (.int .u64 0), .lit (.int .u64 0)], .agg [.lit (.int .u8 13), .lit (.int .u64 0), .lit (.int .u64 0)], .agg [.lit (.int .u8 13), .lit (.int .u64 0), .lit (.int .u64 0)], .agg [.lit (.int .u8 13), .lit (.int .u64 0), .lit (.int .u64 0)], .agg [.lit (.int .u8 13), .lit (.int .u64 0), .lit (.int .u64 0)], .agg [.lit (.int .u8 5), .lit (.int .u64 1), .lit (.int .u64 63)], .agg [.lit (.int .u8 5), .lit (.int .u64 1), .lit (.int .u64 63)], .agg [.lit (.int .u8 15), .lit (.int .u64 0), .lit (.int .u64 0)], .agg [.lit (.int .u8 31), .lit (.int .u64 0), .lit (.int .u64 0)], .agg [.lit (.int .u8 31), .lit (.int .u64 0), .lit (.int .u64 0)], .agg [.lit (.int .u8 29), .lit (.int .u64 0), .lit (.int .u64 0)], .agg [.lit (.int .u8 33), .lit (.int .u64 0), .lit (.int .u64 18446744073709551615)], .agg [.lit (.int .u8 40), .lit (.int .u64 0), .lit (.int .u64 18446744073709551615)], .agg [.lit (.int .u8 1), .lit (.int .u64 1), .lit (.int .u64 1048576)], .agg [.lit (.int .u8 0), .lit (.int .u64 0), .lit (.int .u64 0)]]

/-- 'keysmithlaw12.LimbNames': WHATEVER THE INPUT: true; the input reads as it did. -/
def limbNamesSpec : ChangeSpec := { name := "limbNames", fn := fun _ => fun
  | [] => { results := [.lit (.bool true)], args := [] }
  | _ => none }
def limbNamesRow : OpenClaim := { program := "ytbdhibgljaelbaadoor", sum := "50175ba56aae0789fc92211963765bf7067290c6898a9afd19b237959670d2b7", func := "keysmith/keysmithlaw12.LimbNames", spec := "limbNames", unfollowed := true, recurses := true, named := ["keysmith/limb.forms"], apart := false, laid := [("keysmith/limb.forms", laid_keysmith_limb_forms)] }
def LimbNamesSaid : Prop := limbNamesRow.holds Tryd.pinned (OpenSpec.ofChange limbNamesSpec)

/-- ITS FALSE NEIGHBOUR: 'it returns false'. Refute it at one input. -/
def limbNamesWrong : ChangeSpec := { name := "limbNames", fn := fun _ => fun
  | [] => { results := [.lit (.bool false)], args := [] }
  | _ => none }
def LimbNamesWrongFalsely : Prop := limbNamesRow.holds Tryd.pinned (OpenSpec.ofChange limbNamesWrong)

/-- 'keysmithlaw12.LimbCalls': WHATEVER THE INPUT: true; the input reads as it did. -/
def limbCallsSpec : ChangeSpec := { name := "limbCalls", fn := fun _ => fun
  | [d1, d2, d3] => { results := [.lit (.bool true)], args := [d1, d2, d3] }
  | _ => none }
def limbCallsRow : OpenClaim := { program := "ytbdhibgljaelbaadoor", sum := "50175ba56aae0789fc92211963765bf7067290c6898a9afd19b237959670d2b7", func := "keysmith/keysmithlaw12.LimbCalls", spec := "limbCalls", unfollowed := true, recurses := true, named := ["keysmith/limb.forms"], apart := false, laid := [("keysmith/limb.forms", laid_keysmith_limb_forms)] }
def LimbCallsSaid : Prop := limbCallsRow.holds Tryd.pinned (OpenSpec.ofChange limbCallsSpec)

/-- ITS FALSE NEIGHBOUR: 'it returns false'. Refute it at one input. -/
def limbCallsWrong : ChangeSpec := { name := "limbCalls", fn := fun _ => fun
  | [d1, d2, d3] => { results := [.lit (.bool false)], args := [d1, d2, d3] }
  | _ => none }
def LimbCallsWrongFalsely : Prop := limbCallsRow.holds Tryd.pinned (OpenSpec.ofChange limbCallsWrong)

/-- 'keysmithlaw13.SecrecyRuns': WHATEVER THE INPUT: true; the input reads as it did. -/
def secrecyRunsSpec : ChangeSpec := { name := "secrecyRuns", fn := fun _ => fun
  | [d1, d2, d3] => { results := [.lit (.bool true)], args := [d1, d2, d3] }
  | _ => none }
def secrecyRunsRow : OpenClaim := { program := "ytbdhibgljaelbaadoor", sum := "50175ba56aae0789fc92211963765bf7067290c6898a9afd19b237959670d2b7", func := "keysmith/keysmithlaw13.SecrecyRuns", spec := "secrecyRuns", unfollowed := true, recurses := true, named := ["keysmith/limb.forms"], apart := false, laid := [("keysmith/limb.forms", laid_keysmith_limb_forms)] }
def SecrecyRunsSaid : Prop := secrecyRunsRow.holds Tryd.pinned (OpenSpec.ofChange secrecyRunsSpec)

/-- ITS FALSE NEIGHBOUR: 'it returns false'. Refute it at one input. -/
def secrecyRunsWrong : ChangeSpec := { name := "secrecyRuns", fn := fun _ => fun
  | [d1, d2, d3] => { results := [.lit (.bool false)], args := [d1, d2, d3] }
  | _ => none }
def SecrecyRunsWrongFalsely : Prop := secrecyRunsRow.holds Tryd.pinned (OpenSpec.ofChange secrecyRunsWrong)

/- THE SECOND FORM. 'bulk': how many values and letters a reading holds, each counted each time it is reached (what is shared counts as often as it is met; a slice's spare places count too). A statement '..UptoSaid' is the law's where the arguments, and the package variables that the reading takes, are together of bulk at most 1048576: NARROWER than '..Said'. Prove '..Said' where nothing that the law and all that it calls make is longer than what came in: it says more and counts as full. Else prove '..UptoSaid'. A law counts once. -/
mutual
def uptoBulk {H : Type} : DataW H → Nat
  | .lit (.string bytes) => bytes.length + 1
  | .lit _ => 1
  | .nil => 1
  | .ptr d => uptoBulk d + 1
  | .slice elems spare => uptoBulkAll elems + uptoBulkAll spare + 1
  | .agg parts => uptoBulkAll parts + 1
  | .iface _ d => uptoBulk d + 1
  | .map entries => uptoBulkEntries entries + 1
  | .held _ => 1
def uptoBulkAll {H : Type} : List (DataW H) → Nat
  | [] => 0
  | d :: r => uptoBulk d + uptoBulkAll r
def uptoBulkEntries {H : Type} : List (Lit × DataW H) → Nat
  | [] => 0
  | x :: r => uptoBulkEntry x + uptoBulkEntries r
def uptoBulkEntry {H : Type} : Lit × DataW H → Nat
  | (.string bytes, d) => bytes.length + uptoBulk d + 1
  | (_, d) => uptoBulk d + 1
 end
def uptoSmall : (H : Type) → List (DataW H) → Bool := fun _ ds => decide (uptoBulkAll ds ≤ 1048576)
def OpenSpec.upto (s : _root_.Go.ChangeSpec) : _root_.Go.OpenSpec := { _root_.Go.OpenSpec.ofChange s with cond := some uptoSmall }

/-- 'keysmithlaw12.LimbNames', WHERE WHAT IT READS IS OF BULK AT MOST 1048576: true; the input reads as it did. -/
def limbNamesUptoRow : OpenClaim := { program := "ytbdhibgljaelbaadoor", sum := "50175ba56aae0789fc92211963765bf7067290c6898a9afd19b237959670d2b7", func := "keysmith/keysmithlaw12.LimbNames", spec := "limbNames", unfollowed := true, recurses := true, named := ["keysmith/limb.forms"], apart := false, laid := [("keysmith/limb.forms", laid_keysmith_limb_forms)], narrowed := true }
def LimbNamesUptoSaid : Prop := limbNamesUptoRow.holds Tryd.pinned (OpenSpec.upto limbNamesSpec)

/-- 'keysmithlaw12.LimbCalls', WHERE WHAT IT READS IS OF BULK AT MOST 1048576: true; the input reads as it did. -/
def limbCallsUptoRow : OpenClaim := { program := "ytbdhibgljaelbaadoor", sum := "50175ba56aae0789fc92211963765bf7067290c6898a9afd19b237959670d2b7", func := "keysmith/keysmithlaw12.LimbCalls", spec := "limbCalls", unfollowed := true, recurses := true, named := ["keysmith/limb.forms"], apart := false, laid := [("keysmith/limb.forms", laid_keysmith_limb_forms)], narrowed := true }
def LimbCallsUptoSaid : Prop := limbCallsUptoRow.holds Tryd.pinned (OpenSpec.upto limbCallsSpec)

/-- 'keysmithlaw13.SecrecyRuns', WHERE WHAT IT READS IS OF BULK AT MOST 1048576: true; the input reads as it did. -/
def secrecyRunsUptoRow : OpenClaim := { program := "ytbdhibgljaelbaadoor", sum := "50175ba56aae0789fc92211963765bf7067290c6898a9afd19b237959670d2b7", func := "keysmith/keysmithlaw13.SecrecyRuns", spec := "secrecyRuns", unfollowed := true, recurses := true, named := ["keysmith/limb.forms"], apart := false, laid := [("keysmith/limb.forms", laid_keysmith_limb_forms)], narrowed := true }
def SecrecyRunsUptoSaid : Prop := secrecyRunsUptoRow.holds Tryd.pinned (OpenSpec.upto secrecyRunsSpec)

end Rows
end Go.Proofs.YtbdhibgljaelbaaDoor
