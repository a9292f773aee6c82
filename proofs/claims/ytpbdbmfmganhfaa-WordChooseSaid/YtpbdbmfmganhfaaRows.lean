/-
  No cell of these rows narrows 'for every input' (looked for: loops, veiled, ifaces, maps, wideKeys, modest, calm, conditions, laid).
  DERIVED. THE GIVEN ROWS OF THIS SEAT. 6 by the template 'for every input the law returns true; each argument reads behind the call as it read before'; 0 by the template 'total and deterministic' (their statements: YtpbdbmfmganhfaaTotals.lean).
  GIVEN WITH THE SEED: the statements are not yours to turn. If you find one false, say at which input.
  Laid BY PROGRAM, IN A SANDBOX (cutbox-rows.mjs): the forced cells as the released guide's own fill.sh prints them over the translation 187a9ad65f83fab7… (all of the seat's roots in one cut). By AI agents, Wed Nov 11 2026. No macro, syntax, notation, axiom, sorry.
-/
import Derived.Test.YtpbdbmfmganhfaaChecked
import GoSem.Claim
import GoSem.ClaimJoined
import GoSem.ClaimMapViews
import Derived.JoinedTies
import Derived.KernelRfl
namespace Go.Proofs.Ytpbdbmfmganhfaa
/- THE CELL 'sum', in the pinned program and in every row, IS THE sha256 OF THE DUMP (.gsa) THAT YtpbdbmfmganhfaaProg.lean LOADS. Nothing in Lean hashes anything: it is a label: what it is worth is what the hold of that sum in a sandbox is worth. -/
noncomputable def Try.pinned : Pinned := { name := "ytpbdbmfmganhfaa", sum := "187a9ad65f83fab734a1890f7b0de86c26144c024c7f901f6bf355b20cdfbae3", checked := Try.checked }
namespace Rows
def none {H : Type} : Left H := { results := [], args := [] }

/-- 'keysmithlaw01.WordNames': WHATEVER THE INPUT: true; the input reads as it did. -/
def wordNamesSpec : ChangeSpec := { name := "wordNames", fn := fun _ => fun
  | [] => { results := [.lit (.bool true)], args := [] }
  | _ => none }
def wordNamesRow : OpenClaim := { program := "ytpbdbmfmganhfaa", sum := "187a9ad65f83fab734a1890f7b0de86c26144c024c7f901f6bf355b20cdfbae3", func := "keysmith/keysmithlaw01.WordNames", spec := "wordNames", named := ["math/bits.divideError", "math/bits.overflowError"], apart := false }
def WordNamesSaid : Prop := wordNamesRow.holds Try.pinned (OpenSpec.ofChange wordNamesSpec)

/-- ITS FALSE NEIGHBOUR: 'it returns false'. Refute it at one input. -/
def wordNamesWrong : ChangeSpec := { name := "wordNames", fn := fun _ => fun
  | [] => { results := [.lit (.bool false)], args := [] }
  | _ => none }
def WordNamesWrongFalsely : Prop := wordNamesRow.holds Try.pinned (OpenSpec.ofChange wordNamesWrong)

/-- 'keysmithlaw01.WordCalls': WHATEVER THE INPUT: true; the input reads as it did. -/
def wordCallsSpec : ChangeSpec := { name := "wordCalls", fn := fun _ => fun
  | [d1, d2, d3, d4] => { results := [.lit (.bool true)], args := [d1, d2, d3, d4] }
  | _ => none }
def wordCallsRow : OpenClaim := { program := "ytpbdbmfmganhfaa", sum := "187a9ad65f83fab734a1890f7b0de86c26144c024c7f901f6bf355b20cdfbae3", func := "keysmith/keysmithlaw01.WordCalls", spec := "wordCalls", named := ["math/bits.divideError", "math/bits.overflowError"], apart := false }
def WordCallsSaid : Prop := wordCallsRow.holds Try.pinned (OpenSpec.ofChange wordCallsSpec)

/-- ITS FALSE NEIGHBOUR: 'it returns false'. Refute it at one input. -/
def wordCallsWrong : ChangeSpec := { name := "wordCalls", fn := fun _ => fun
  | [d1, d2, d3, d4] => { results := [.lit (.bool false)], args := [d1, d2, d3, d4] }
  | _ => none }
def WordCallsWrongFalsely : Prop := wordCallsRow.holds Try.pinned (OpenSpec.ofChange wordCallsWrong)

/-- 'keysmithlaw01.WordBack': WHATEVER THE INPUT: true; the input reads as it did. -/
def wordBackSpec : ChangeSpec := { name := "wordBack", fn := fun _ => fun
  | [d1, d2, d3, d4] => { results := [.lit (.bool true)], args := [d1, d2, d3, d4] }
  | _ => none }
def wordBackRow : OpenClaim := { program := "ytpbdbmfmganhfaa", sum := "187a9ad65f83fab734a1890f7b0de86c26144c024c7f901f6bf355b20cdfbae3", func := "keysmith/keysmithlaw01.WordBack", spec := "wordBack", named := ["math/bits.divideError", "math/bits.overflowError"], apart := false }
def WordBackSaid : Prop := wordBackRow.holds Try.pinned (OpenSpec.ofChange wordBackSpec)

/-- ITS FALSE NEIGHBOUR: 'it returns false'. Refute it at one input. -/
def wordBackWrong : ChangeSpec := { name := "wordBack", fn := fun _ => fun
  | [d1, d2, d3, d4] => { results := [.lit (.bool false)], args := [d1, d2, d3, d4] }
  | _ => none }
def WordBackWrongFalsely : Prop := wordBackRow.holds Try.pinned (OpenSpec.ofChange wordBackWrong)

/-- 'keysmithlaw01.WordInverse': WHATEVER THE INPUT: true; the input reads as it did. -/
def wordInverseSpec : ChangeSpec := { name := "wordInverse", fn := fun _ => fun
  | [d1, d2] => { results := [.lit (.bool true)], args := [d1, d2] }
  | _ => none }
def wordInverseRow : OpenClaim := { program := "ytpbdbmfmganhfaa", sum := "187a9ad65f83fab734a1890f7b0de86c26144c024c7f901f6bf355b20cdfbae3", func := "keysmith/keysmithlaw01.WordInverse", spec := "wordInverse", apart := false }
def WordInverseSaid : Prop := wordInverseRow.holds Try.pinned (OpenSpec.ofChange wordInverseSpec)

/-- ITS FALSE NEIGHBOUR: 'it returns false'. Refute it at one input. -/
def wordInverseWrong : ChangeSpec := { name := "wordInverse", fn := fun _ => fun
  | [d1, d2] => { results := [.lit (.bool false)], args := [d1, d2] }
  | _ => none }
def WordInverseWrongFalsely : Prop := wordInverseRow.holds Try.pinned (OpenSpec.ofChange wordInverseWrong)

/-- 'keysmithlaw01.WordChoose': WHATEVER THE INPUT: true; the input reads as it did. -/
def wordChooseSpec : ChangeSpec := { name := "wordChoose", fn := fun _ => fun
  | [d1, d2, d3, d4, d5] => { results := [.lit (.bool true)], args := [d1, d2, d3, d4, d5] }
  | _ => none }
def wordChooseRow : OpenClaim := { program := "ytpbdbmfmganhfaa", sum := "187a9ad65f83fab734a1890f7b0de86c26144c024c7f901f6bf355b20cdfbae3", func := "keysmith/keysmithlaw01.WordChoose", spec := "wordChoose", apart := false }
def WordChooseSaid : Prop := wordChooseRow.holds Try.pinned (OpenSpec.ofChange wordChooseSpec)

/-- ITS FALSE NEIGHBOUR: 'it returns false'. Refute it at one input. -/
def wordChooseWrong : ChangeSpec := { name := "wordChoose", fn := fun _ => fun
  | [d1, d2, d3, d4, d5] => { results := [.lit (.bool false)], args := [d1, d2, d3, d4, d5] }
  | _ => none }
def WordChooseWrongFalsely : Prop := wordChooseRow.holds Try.pinned (OpenSpec.ofChange wordChooseWrong)

/-- 'keysmithlaw01.WordSpreads': WHATEVER THE INPUT: true; the input reads as it did. -/
def wordSpreadsSpec : ChangeSpec := { name := "wordSpreads", fn := fun _ => fun
  | [d1, d2, d3] => { results := [.lit (.bool true)], args := [d1, d2, d3] }
  | _ => none }
def wordSpreadsRow : OpenClaim := { program := "ytpbdbmfmganhfaa", sum := "187a9ad65f83fab734a1890f7b0de86c26144c024c7f901f6bf355b20cdfbae3", func := "keysmith/keysmithlaw01.WordSpreads", spec := "wordSpreads", apart := false }
def WordSpreadsSaid : Prop := wordSpreadsRow.holds Try.pinned (OpenSpec.ofChange wordSpreadsSpec)

/-- ITS FALSE NEIGHBOUR: 'it returns false'. Refute it at one input. -/
def wordSpreadsWrong : ChangeSpec := { name := "wordSpreads", fn := fun _ => fun
  | [d1, d2, d3] => { results := [.lit (.bool false)], args := [d1, d2, d3] }
  | _ => none }
def WordSpreadsWrongFalsely : Prop := wordSpreadsRow.holds Try.pinned (OpenSpec.ofChange wordSpreadsWrong)

/- THE SECOND FORM. 'bulk': how many values and letters a reading holds, each counted each time it is reached (what is shared counts as often as it is met; a slice's spare places count too). A statement '..UptoSaid' is the law's where the arguments, and the package variables that the reading takes, are together of bulk at most 1048576: NARROWER than '..Said'. Prove '..Said' where nothing that the law and all that it calls make is longer than what came in: it says more and counts as full. Else prove '..UptoSaid'. A law counts once. -/
mutual
def uptoBulk {H : Type} : DataW H → Nat
  | .lit (.string bytes) => bytes.length + 1
  | .lit _ => 1
  | .nil => 1
  | .ptr d => uptoBulk d + 1
  | .slice elems spare => uptoBulkAll elems + uptoBulkAll spare + 1
  | .agg parts => uptoBulkAll parts + 1
  | .iface _ d => uptoBulk d + 1
  | .map entries => uptoBulkEntries entries + 1
  | .held _ => 1
def uptoBulkAll {H : Type} : List (DataW H) → Nat
  | [] => 0
  | d :: r => uptoBulk d + uptoBulkAll r
def uptoBulkEntries {H : Type} : List (Lit × DataW H) → Nat
  | [] => 0
  | x :: r => uptoBulkEntry x + uptoBulkEntries r
def uptoBulkEntry {H : Type} : Lit × DataW H → Nat
  | (.string bytes, d) => bytes.length + uptoBulk d + 1
  | (_, d) => uptoBulk d + 1
 end
def uptoSmall : (H : Type) → List (DataW H) → Bool := fun _ ds => decide (uptoBulkAll ds ≤ 1048576)
def OpenSpec.upto (s : _root_.Go.ChangeSpec) : _root_.Go.OpenSpec := { _root_.Go.OpenSpec.ofChange s with cond := some uptoSmall }

/-- 'keysmithlaw01.WordNames', WHERE WHAT IT READS IS OF BULK AT MOST 1048576: true; the input reads as it did. -/
def wordNamesUptoRow : OpenClaim := { program := "ytpbdbmfmganhfaa", sum := "187a9ad65f83fab734a1890f7b0de86c26144c024c7f901f6bf355b20cdfbae3", func := "keysmith/keysmithlaw01.WordNames", spec := "wordNames", named := ["math/bits.divideError", "math/bits.overflowError"], apart := false, narrowed := true }
def WordNamesUptoSaid : Prop := wordNamesUptoRow.holds Try.pinned (OpenSpec.upto wordNamesSpec)

/-- 'keysmithlaw01.WordCalls', WHERE WHAT IT READS IS OF BULK AT MOST 1048576: true; the input reads as it did. -/
def wordCallsUptoRow : OpenClaim := { program := "ytpbdbmfmganhfaa", sum := "187a9ad65f83fab734a1890f7b0de86c26144c024c7f901f6bf355b20cdfbae3", func := "keysmith/keysmithlaw01.WordCalls", spec := "wordCalls", named := ["math/bits.divideError", "math/bits.overflowError"], apart := false, narrowed := true }
def WordCallsUptoSaid : Prop := wordCallsUptoRow.holds Try.pinned (OpenSpec.upto wordCallsSpec)

/-- 'keysmithlaw01.WordBack', WHERE WHAT IT READS IS OF BULK AT MOST 1048576: true; the input reads as it did. -/
def wordBackUptoRow : OpenClaim := { program := "ytpbdbmfmganhfaa", sum := "187a9ad65f83fab734a1890f7b0de86c26144c024c7f901f6bf355b20cdfbae3", func := "keysmith/keysmithlaw01.WordBack", spec := "wordBack", named := ["math/bits.divideError", "math/bits.overflowError"], apart := false, narrowed := true }
def WordBackUptoSaid : Prop := wordBackUptoRow.holds Try.pinned (OpenSpec.upto wordBackSpec)

/-- 'keysmithlaw01.WordInverse', WHERE WHAT IT READS IS OF BULK AT MOST 1048576: true; the input reads as it did. -/
def wordInverseUptoRow : OpenClaim := { program := "ytpbdbmfmganhfaa", sum := "187a9ad65f83fab734a1890f7b0de86c26144c024c7f901f6bf355b20cdfbae3", func := "keysmith/keysmithlaw01.WordInverse", spec := "wordInverse", apart := false, narrowed := true }
def WordInverseUptoSaid : Prop := wordInverseUptoRow.holds Try.pinned (OpenSpec.upto wordInverseSpec)

/-- 'keysmithlaw01.WordChoose', WHERE WHAT IT READS IS OF BULK AT MOST 1048576: true; the input reads as it did. -/
def wordChooseUptoRow : OpenClaim := { program := "ytpbdbmfmganhfaa", sum := "187a9ad65f83fab734a1890f7b0de86c26144c024c7f901f6bf355b20cdfbae3", func := "keysmith/keysmithlaw01.WordChoose", spec := "wordChoose", apart := false, narrowed := true }
def WordChooseUptoSaid : Prop := wordChooseUptoRow.holds Try.pinned (OpenSpec.upto wordChooseSpec)

/-- 'keysmithlaw01.WordSpreads', WHERE WHAT IT READS IS OF BULK AT MOST 1048576: true; the input reads as it did. -/
def wordSpreadsUptoRow : OpenClaim := { program := "ytpbdbmfmganhfaa", sum := "187a9ad65f83fab734a1890f7b0de86c26144c024c7f901f6bf355b20cdfbae3", func := "keysmith/keysmithlaw01.WordSpreads", spec := "wordSpreads", apart := false, narrowed := true }
def WordSpreadsUptoSaid : Prop := wordSpreadsUptoRow.holds Try.pinned (OpenSpec.upto wordSpreadsSpec)

end Rows
end Go.Proofs.Ytpbdbmfmganhfaa
