/-
  NARROWER THAN 'FOR EVERY INPUT', by the rows' own cells (each row's printed sentence says how): StepNames: laid · StepCalls: laid · StepStays: laid · StepSeen: laid · StepSums: laid · StepStack: laid.
  DERIVED. THE GIVEN ROWS OF THIS SEAT. 6 by the template 'for every input the law returns true; each argument reads behind the call as it read before'; 0 by the template 'total and deterministic' (their statements: YtmiphnocgepdgaaGreatDoorTotals.lean).
  GIVEN WITH THE SEED: the statements are not yours to turn. If you find one false, say at which input.
  Laid BY PROGRAM, IN A SANDBOX (cutbox-rows.mjs): the forced cells as the released guide's own fill.sh prints them over the translation ceccc9d6877416a0… (all of the seat's roots in one cut). By AI agents, Wed Nov 11 2026. No macro, syntax, notation, axiom, sorry.
-/
import Derived.Test.YtmiphnocgepdgaaGreatDoorChecked
import GoSem.Claim
import GoSem.ClaimJoined
import GoSem.ClaimMapViews
import Derived.JoinedTies
import Derived.KernelRfl
namespace Go.Proofs.YtmiphnocgepdgaaGreatDoor
/- THE CELL 'sum', in the pinned program and in every row, IS THE sha256 OF THE DUMP (.gsa) THAT YtmiphnocgepdgaaGreatDoorProg.lean LOADS. Nothing in Lean hashes anything: it is a label: what it is worth is what the hold of that sum in a sandbox is worth. -/
noncomputable def Tryz.pinned : Pinned := { name := "ytmiphnocgepdgaagreatdoor", sum := "ceccc9d6877416a0ebdc22d2c0445f97c57119011de9168617c21b0830b5c092", checked := Tryz.checked }
namespace Rows
def none {H : Type} : Left H := { results := [], args := [] }

/- WHAT THE LISTED PACKAGE-LEVEL VARIABLES READ AS WHEN THE CALL BEGINS. Each datum BY PROGRAM (the guide's laid-datum.mjs) off the statement by which the dump's own 'gosem.cut.vars' lays the variable. In a bare row this is a premise. The card (YtmiphnocgepdgaaGreatDoorCards.lean) ties it to the program's text. -/
def laid_keysmith_inst_forms {H : Type} : DataW H := .agg [.agg [.lit (.string []), .lit (.int .u16 0), .lit (.int .i64 0), .lit (.int .i64 0), .lit (.int .i64 0)], .agg [.lit (.string [109, 111, 118]), .lit (.int .u16 6), .lit (.int .i64 0), .lit (.int .i64 0), .lit (.int .i64 0)], .agg [.lit (.string []), .lit (.int .u16 2), .lit (.int .i64 1), .lit (.int .i64 0), .lit (.int .i64 0)], .agg [.lit (.string []), .lit (.int .u16 34), .lit (.int .i64 0), .lit (.int .i64 0), .lit (.int .i64 0)], .agg [.lit (.string []), .lit (.int .u16 36), .lit (.int .i64 0), .lit (.int .i64 0), .lit (.int .i64 0)], .agg [.lit (.string [108, 101, 97]), .lit (.int .u16 34), .lit (.int .i64 0), .lit (.int .i64 0), .lit (.int .i64 0)], .agg [.lit (.string [97, 100, 100]), .lit (.int .u16 7), .lit (.int .i64 0), .lit (.int .i64 0), .lit (.int .i64 7)], .agg [.lit (.string [97, 100, 99]), .lit (.int .u16 7), .lit (.int .i64 0), .lit (.int .i64 1), .lit (.int .i64 7)], .agg [.lit (.string [115, 117, 98]), .lit (.int .u16 7), .lit (.int .i64 0), .lit (.int .i64 0), .lit (.int .i64 7)], .agg [.lit (.string [115, 98, 98]), .lit (.int .u16 7), .lit (.int .i64 0), .lit (.int .i64 1), .lit (.int .i64 7)], .agg [.lit (.string [97, 110, 100]), .lit (.int .u16 7), .lit (.int .i64 0), .lit (.int .i64 0), .lit (.int .i64 7)], .agg [.lit (.string [111, 114]), .lit (.int .u16 7), .lit (.int .i64 0), .lit (.int .i64 0), .lit (.int .i64 7)], .agg [.lit (.string [120, 111, 114]), .lit (.int .u16 7), .lit (.int .i64 0), .lit (.int .i64 0), .lit (.int .i64 7)], .agg [.lit (.string [99, 109, 112]), .lit (.int .u16 5), .lit (.int .i64 0), .lit (.int .i64 0), .lit (.int .i64 7)], .agg [.lit (.string [116, 101, 115, 116]), .lit (.int .u16 5), .lit (.int .i64 0), .lit (.int .i64 0), .lit (.int .i64 7)], .agg [.lit (.string []), .lit (.int .u16 3), .lit (.int .i64 2), .lit (.int .i64 0), .lit (.int .i64 7)], .agg [.lit (.string []), .lit (.int .u16 3), .lit (.int .i64 2), .lit (.int .i64 0), .lit (.int .i64 7)], .agg [.lit (.string []), .lit (.int .u16 3), .lit (.int .i64 2), .lit (.int .i64 0), .lit (.int .i64 7)], .agg [.lit (.string []), .lit (.int .u16 1), .lit (.int .i64 2), .lit (.int .i64 0), .lit (.int .i64 7)], .agg [.lit (.string [109, 117, 108, 120]), .lit (.int .u16 90), .lit (.int .i64 0), .lit (.int .i64 0), .lit (.int .i64 0)], .agg [.lit (.string [97, 100, 99, 120]), .lit (.int .u16 7), .lit (.int .i64 0), .lit (.int .i64 1), .lit (.int .i64 1)], .agg [.lit (.string [97, 100, 111, 120]), .lit (.int .u16 7), .lit (.int .i64 0), .lit (.int .i64 2), .lit (.int .i64 2)], .agg [.lit (.string [110, 101, 103]), .lit (.int .u16 3), .lit (.int .i64 0), .lit (.int .i64 0), .lit (.int .i64 7)], .agg [.lit (.string [110, 111, 116]), .lit (.int .u16 3), .lit (.int .i64 0), .lit (.int .i64 0), .lit (.int .i64 0)], .agg [.lit (.string [115, 104, 108]), .lit (.int .u16 3), .lit (.int .i64 3), .lit (.int .i64 0), .lit (.int .i64 5)], .agg [.lit (.string [115, 104, 114]), .lit (.int .u16 3), .lit (.int .i64 3), .lit (.int .i64 0), .lit (.int .i64 5)], .agg [.lit (.string [99, 109, 111, 118, 99]), .lit (.int .u16 7), .lit (.int .i64 0), .lit (.int .i64 1), .lit (.int .i64 0)], .agg [.lit (.string [99, 109, 111, 118, 110, 122]), .lit (.int .u16 7), .lit (.int .i64 0), .lit (.int .i64 4), .lit (.int .i64 0)], .agg [.lit (.string [112, 117, 115, 104]), .lit (.int .u16 132), .lit (.int .i64 0), .lit (.int .i64 0), .lit (.int .i64 0)], .agg [.lit (.string [112, 111, 112]), .lit (.int .u16 130), .lit (.int .i64 0), .lit (.int .i64 0), .lit (.int .i64 0)], .agg [.lit (.string [106, 109, 112]), .lit (.int .u16 0), .lit (.int .i64 2), .lit (.int .i64 0), .lit (.int .i64 0)], .agg [.lit (.string [106, 110, 122]), .lit (.int .u16 0), .lit (.int .i64 2), .lit (.int .i64 4), .lit (.int .i64 0)], .agg [.lit (.string [106, 99]), .lit (.int .u16 0), .lit (.int .i64 2), .lit (.int .i64 1), .lit (.int .i64 0)], .agg [.lit (.string [114, 101, 116]), .lit (.int .u16 128), .lit (.int .i64 0), .lit (.int .i64 0), .lit (.int .i64 0)]]

/-- 'keysmithlaw08.StepNames': WHATEVER THE INPUT: true; the input reads as it did. -/
def stepNamesSpec : ChangeSpec := { name := "stepNames", fn := fun _ => fun
  | [] => { results := [.lit (.bool true)], args := [] }
  | _ => none }
def stepNamesRow : OpenClaim := { program := "ytmiphnocgepdgaagreatdoor", sum := "ceccc9d6877416a0ebdc22d2c0445f97c57119011de9168617c21b0830b5c092", func := "keysmith/keysmithlaw08.StepNames", spec := "stepNames", unfollowed := true, recurses := true, named := ["keysmith/inst.forms"], apart := false, laid := [("keysmith/inst.forms", laid_keysmith_inst_forms)] }
def StepNamesSaid : Prop := stepNamesRow.holds Tryz.pinned (OpenSpec.ofChange stepNamesSpec)

/-- ITS FALSE NEIGHBOUR: 'it returns false'. Refute it at one input. -/
def stepNamesWrong : ChangeSpec := { name := "stepNames", fn := fun _ => fun
  | [] => { results := [.lit (.bool false)], args := [] }
  | _ => none }
def StepNamesWrongFalsely : Prop := stepNamesRow.holds Tryz.pinned (OpenSpec.ofChange stepNamesWrong)

/-- 'keysmithlaw08.StepCalls': WHATEVER THE INPUT: true; the input reads as it did. -/
def stepCallsSpec : ChangeSpec := { name := "stepCalls", fn := fun _ => fun
  | [d1, d2, d3, d4, d5, d6, d7] => { results := [.lit (.bool true)], args := [d1, d2, d3, d4, d5, d6, d7] }
  | _ => none }
def stepCallsRow : OpenClaim := { program := "ytmiphnocgepdgaagreatdoor", sum := "ceccc9d6877416a0ebdc22d2c0445f97c57119011de9168617c21b0830b5c092", func := "keysmith/keysmithlaw08.StepCalls", spec := "stepCalls", unfollowed := true, recurses := true, named := ["keysmith/inst.forms"], apart := false, laid := [("keysmith/inst.forms", laid_keysmith_inst_forms)] }
def StepCallsSaid : Prop := stepCallsRow.holds Tryz.pinned (OpenSpec.ofChange stepCallsSpec)

/-- ITS FALSE NEIGHBOUR: 'it returns false'. Refute it at one input. -/
def stepCallsWrong : ChangeSpec := { name := "stepCalls", fn := fun _ => fun
  | [d1, d2, d3, d4, d5, d6, d7] => { results := [.lit (.bool false)], args := [d1, d2, d3, d4, d5, d6, d7] }
  | _ => none }
def StepCallsWrongFalsely : Prop := stepCallsRow.holds Tryz.pinned (OpenSpec.ofChange stepCallsWrong)

/-- 'keysmithlaw08.StepStays': WHATEVER THE INPUT: true; the input reads as it did. -/
def stepStaysSpec : ChangeSpec := { name := "stepStays", fn := fun _ => fun
  | [d1, d2, d3, d4, d5] => { results := [.lit (.bool true)], args := [d1, d2, d3, d4, d5] }
  | _ => none }
def stepStaysRow : OpenClaim := { program := "ytmiphnocgepdgaagreatdoor", sum := "ceccc9d6877416a0ebdc22d2c0445f97c57119011de9168617c21b0830b5c092", func := "keysmith/keysmithlaw08.StepStays", spec := "stepStays", unfollowed := true, recurses := true, named := ["keysmith/inst.forms"], apart := false, laid := [("keysmith/inst.forms", laid_keysmith_inst_forms)] }
def StepStaysSaid : Prop := stepStaysRow.holds Tryz.pinned (OpenSpec.ofChange stepStaysSpec)

/-- ITS FALSE NEIGHBOUR: 'it returns false'. Refute it at one input. -/
def stepStaysWrong : ChangeSpec := { name := "stepStays", fn := fun _ => fun
  | [d1, d2, d3, d4, d5] => { results := [.lit (.bool false)], args := [d1, d2, d3, d4, d5] }
  | _ => none }
def StepStaysWrongFalsely : Prop := stepStaysRow.holds Tryz.pinned (OpenSpec.ofChange stepStaysWrong)

/-- 'keysmithlaw08.StepSeen': WHATEVER THE INPUT: true; the input reads as it did. -/
def stepSeenSpec : ChangeSpec := { name := "stepSeen", fn := fun _ => fun
  | [d1, d2, d3, d4, d5] => { results := [.lit (.bool true)], args := [d1, d2, d3, d4, d5] }
  | _ => none }
def stepSeenRow : OpenClaim := { program := "ytmiphnocgepdgaagreatdoor", sum := "ceccc9d6877416a0ebdc22d2c0445f97c57119011de9168617c21b0830b5c092", func := "keysmith/keysmithlaw08.StepSeen", spec := "stepSeen", unfollowed := true, recurses := true, named := ["keysmith/inst.forms"], apart := false, laid := [("keysmith/inst.forms", laid_keysmith_inst_forms)] }
def StepSeenSaid : Prop := stepSeenRow.holds Tryz.pinned (OpenSpec.ofChange stepSeenSpec)

/-- ITS FALSE NEIGHBOUR: 'it returns false'. Refute it at one input. -/
def stepSeenWrong : ChangeSpec := { name := "stepSeen", fn := fun _ => fun
  | [d1, d2, d3, d4, d5] => { results := [.lit (.bool false)], args := [d1, d2, d3, d4, d5] }
  | _ => none }
def StepSeenWrongFalsely : Prop := stepSeenRow.holds Tryz.pinned (OpenSpec.ofChange stepSeenWrong)

/-- 'keysmithlaw08.StepSums': WHATEVER THE INPUT: true; the input reads as it did. -/
def stepSumsSpec : ChangeSpec := { name := "stepSums", fn := fun _ => fun
  | [d1, d2, d3, d4, d5] => { results := [.lit (.bool true)], args := [d1, d2, d3, d4, d5] }
  | _ => none }
def stepSumsRow : OpenClaim := { program := "ytmiphnocgepdgaagreatdoor", sum := "ceccc9d6877416a0ebdc22d2c0445f97c57119011de9168617c21b0830b5c092", func := "keysmith/keysmithlaw08.StepSums", spec := "stepSums", unfollowed := true, recurses := true, named := ["keysmith/inst.forms"], apart := false, laid := [("keysmith/inst.forms", laid_keysmith_inst_forms)] }
def StepSumsSaid : Prop := stepSumsRow.holds Tryz.pinned (OpenSpec.ofChange stepSumsSpec)

/-- ITS FALSE NEIGHBOUR: 'it returns false'. Refute it at one input. -/
def stepSumsWrong : ChangeSpec := { name := "stepSums", fn := fun _ => fun
  | [d1, d2, d3, d4, d5] => { results := [.lit (.bool false)], args := [d1, d2, d3, d4, d5] }
  | _ => none }
def StepSumsWrongFalsely : Prop := stepSumsRow.holds Tryz.pinned (OpenSpec.ofChange stepSumsWrong)

/-- 'keysmithlaw08.StepStack': WHATEVER THE INPUT: true; the input reads as it did. -/
def stepStackSpec : ChangeSpec := { name := "stepStack", fn := fun _ => fun
  | [d1, d2, d3, d4] => { results := [.lit (.bool true)], args := [d1, d2, d3, d4] }
  | _ => none }
def stepStackRow : OpenClaim := { program := "ytmiphnocgepdgaagreatdoor", sum := "ceccc9d6877416a0ebdc22d2c0445f97c57119011de9168617c21b0830b5c092", func := "keysmith/keysmithlaw08.StepStack", spec := "stepStack", unfollowed := true, recurses := true, named := ["keysmith/inst.forms"], apart := false, laid := [("keysmith/inst.forms", laid_keysmith_inst_forms)] }
def StepStackSaid : Prop := stepStackRow.holds Tryz.pinned (OpenSpec.ofChange stepStackSpec)

/-- ITS FALSE NEIGHBOUR: 'it returns false'. Refute it at one input. -/
def stepStackWrong : ChangeSpec := { name := "stepStack", fn := fun _ => fun
  | [d1, d2, d3, d4] => { results := [.lit (.bool false)], args := [d1, d2, d3, d4] }
  | _ => none }
def StepStackWrongFalsely : Prop := stepStackRow.holds Tryz.pinned (OpenSpec.ofChange stepStackWrong)

/- THE SECOND FORM. 'bulk': how many values and letters a reading holds, each counted each time it is reached (what is shared counts as often as it is met; a slice's spare places count too). A statement '..UptoSaid' is the law's where the arguments, and the package variables that the reading takes, are together of bulk at most 1048576: NARROWER than '..Said'. Prove '..Said' where nothing that the law and all that it calls make is longer than what came in: it says more and counts as full. Else prove '..UptoSaid'. A law counts once. -/
mutual
def uptoBulk {H : Type} : DataW H → Nat
  | .lit (.string bytes) => bytes.length + 1
  | .lit _ => 1
  | .nil => 1
  | .ptr d => uptoBulk d + 1
  | .slice elems spare => uptoBulkAll elems + uptoBulkAll spare + 1
  | .agg parts => uptoBulkAll parts + 1
  | .iface _ d => uptoBulk d + 1
  | .map entries => uptoBulkEntries entries + 1
  | .held _ => 1
def uptoBulkAll {H : Type} : List (DataW H) → Nat
  | [] => 0
  | d :: r => uptoBulk d + uptoBulkAll r
def uptoBulkEntries {H : Type} : List (Lit × DataW H) → Nat
  | [] => 0
  | x :: r => uptoBulkEntry x + uptoBulkEntries r
def uptoBulkEntry {H : Type} : Lit × DataW H → Nat
  | (.string bytes, d) => bytes.length + uptoBulk d + 1
  | (_, d) => uptoBulk d + 1
 end
def uptoSmall : (H : Type) → List (DataW H) → Bool := fun _ ds => decide (uptoBulkAll ds ≤ 1048576)
def OpenSpec.upto (s : _root_.Go.ChangeSpec) : _root_.Go.OpenSpec := { _root_.Go.OpenSpec.ofChange s with cond := some uptoSmall }

/-- 'keysmithlaw08.StepNames', WHERE WHAT IT READS IS OF BULK AT MOST 1048576: true; the input reads as it did. -/
def stepNamesUptoRow : OpenClaim := { program := "ytmiphnocgepdgaagreatdoor", sum := "ceccc9d6877416a0ebdc22d2c0445f97c57119011de9168617c21b0830b5c092", func := "keysmith/keysmithlaw08.StepNames", spec := "stepNames", unfollowed := true, recurses := true, named := ["keysmith/inst.forms"], apart := false, laid := [("keysmith/inst.forms", laid_keysmith_inst_forms)], narrowed := true }
def StepNamesUptoSaid : Prop := stepNamesUptoRow.holds Tryz.pinned (OpenSpec.upto stepNamesSpec)

/-- 'keysmithlaw08.StepCalls', WHERE WHAT IT READS IS OF BULK AT MOST 1048576: true; the input reads as it did. -/
def stepCallsUptoRow : OpenClaim := { program := "ytmiphnocgepdgaagreatdoor", sum := "ceccc9d6877416a0ebdc22d2c0445f97c57119011de9168617c21b0830b5c092", func := "keysmith/keysmithlaw08.StepCalls", spec := "stepCalls", unfollowed := true, recurses := true, named := ["keysmith/inst.forms"], apart := false, laid := [("keysmith/inst.forms", laid_keysmith_inst_forms)], narrowed := true }
def StepCallsUptoSaid : Prop := stepCallsUptoRow.holds Tryz.pinned (OpenSpec.upto stepCallsSpec)

/-- 'keysmithlaw08.StepStays', WHERE WHAT IT READS IS OF BULK AT MOST 1048576: true; the input reads as it did. -/
def stepStaysUptoRow : OpenClaim := { program := "ytmiphnocgepdgaagreatdoor", sum := "ceccc9d6877416a0ebdc22d2c0445f97c57119011de9168617c21b0830b5c092", func := "keysmith/keysmithlaw08.StepStays", spec := "stepStays", unfollowed := true, recurses := true, named := ["keysmith/inst.forms"], apart := false, laid := [("keysmith/inst.forms", laid_keysmith_inst_forms)], narrowed := true }
def StepStaysUptoSaid : Prop := stepStaysUptoRow.holds Tryz.pinned (OpenSpec.upto stepStaysSpec)

/-- 'keysmithlaw08.StepSeen', WHERE WHAT IT READS IS OF BULK AT MOST 1048576: true; the input reads as it did. -/
def stepSeenUptoRow : OpenClaim := { program := "ytmiphnocgepdgaagreatdoor", sum := "ceccc9d6877416a0ebdc22d2c0445f97c57119011de9168617c21b0830b5c092", func := "keysmith/keysmithlaw08.StepSeen", spec := "stepSeen", unfollowed := true, recurses := true, named := ["keysmith/inst.forms"], apart := false, laid := [("keysmith/inst.forms", laid_keysmith_inst_forms)], narrowed := true }
def StepSeenUptoSaid : Prop := stepSeenUptoRow.holds Tryz.pinned (OpenSpec.upto stepSeenSpec)

/-- 'keysmithlaw08.StepSums', WHERE WHAT IT READS IS OF BULK AT MOST 1048576: true; the input reads as it did. -/
def stepSumsUptoRow : OpenClaim := { program := "ytmiphnocgepdgaagreatdoor", sum := "ceccc9d6877416a0ebdc22d2c0445f97c57119011de9168617c21b0830b5c092", func := "keysmith/keysmithlaw08.StepSums", spec := "stepSums", unfollowed := true, recurses := true, named := ["keysmith/inst.forms"], apart := false, laid := [("keysmith/inst.forms", laid_keysmith_inst_forms)], narrowed := true }
def StepSumsUptoSaid : Prop := stepSumsUptoRow.holds Tryz.pinned (OpenSpec.upto stepSumsSpec)

/-- 'keysmithlaw08.StepStack', WHERE WHAT IT READS IS OF BULK AT MOST 1048576: true; the input reads as it did. -/
def stepStackUptoRow : OpenClaim := { program := "ytmiphnocgepdgaagreatdoor", sum := "ceccc9d6877416a0ebdc22d2c0445f97c57119011de9168617c21b0830b5c092", func := "keysmith/keysmithlaw08.StepStack", spec := "stepStack", unfollowed := true, recurses := true, named := ["keysmith/inst.forms"], apart := false, laid := [("keysmith/inst.forms", laid_keysmith_inst_forms)], narrowed := true }
def StepStackUptoSaid : Prop := stepStackUptoRow.holds Tryz.pinned (OpenSpec.upto stepStackSpec)

end Rows
end Go.Proofs.YtmiphnocgepdgaaGreatDoor
