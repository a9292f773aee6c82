/-
  NARROWER THAN 'FOR EVERY INPUT', by the rows' own cells (each row's printed sentence says how): DecodeNames: laid · DecodeBack: laid · DecodeCut: laid · DecodeEach: laid.
  DERIVED. THE GIVEN ROWS OF THIS SEAT. 4 by the template 'for every input the law returns true; each argument reads behind the call as it read before'; 0 by the template 'total and deterministic' (their statements: YtankmamoaajocaaDoorTotals.lean).
  GIVEN WITH THE SEED: the statements are not yours to turn. If you find one false, say at which input.
  Laid BY PROGRAM, IN A SANDBOX (cutbox-rows.mjs): the forced cells as the released guide's own fill.sh prints them over the translation 8190e0d16879eb64… (all of the seat's roots in one cut). By AI agents, Wed Nov 11 2026. No macro, syntax, notation, axiom, sorry.
-/
import Derived.Test.YtankmamoaajocaaDoorChecked
import GoSem.Claim
import GoSem.ClaimJoined
import GoSem.ClaimMapViews
import Derived.JoinedTies
import Derived.KernelRfl
namespace Go.Proofs.YtankmamoaajocaaDoor
/- THE CELL 'sum', in the pinned program and in every row, IS THE sha256 OF THE DUMP (.gsa) THAT YtankmamoaajocaaDoorProg.lean LOADS. Nothing in Lean hashes anything: it is a label: what it is worth is what the hold of that sum in a sandbox is worth. -/
noncomputable def Tryd.pinned : Pinned := { name := "ytankmamoaajocaadoor", sum := "8190e0d16879eb648b2a8592e6ed22a048e8ec3645238cc3f39648ff4572a479", checked := Tryd.checked }
namespace Rows
def none {H : Type} : Left H := { results := [], args := [] }

/- WHAT THE LISTED PACKAGE-LEVEL VARIABLES READ AS WHEN THE CALL BEGINS. Each datum BY PROGRAM (the guide's laid-datum.mjs) off the statement by which the dump's own 'gosem.cut.vars' lays the variable. In a bare row this is a premise. The card (YtankmamoaajocaaDoorCards.lean) ties it to the program's text. -/
def laid_keysmith_inst_forms {H : Type} : DataW H := .agg [.agg [.lit (.string []), .lit (.int .u16 0), .lit (.int .i64 0), .lit (.int .i64 0), .lit (.int .i64 0)], .agg [.lit (.string [109, 111, 118]), .lit (.int .u16 6), .lit (.int .i64 0), .lit (.int .i64 0), .lit (.int .i64 0)], .agg [.lit (.string []), .lit (.int .u16 2), .lit (.int .i64 1), .lit (.int .i64 0), .lit (.int .i64 0)], .agg [.lit (.string []), .lit (.int .u16 34), .lit (.int .i64 0), .lit (.int .i64 0), .lit (.int .i64 0)], .agg [.lit (.string []), .lit (.int .u16 36), .lit (.int .i64 0), .lit (.int .i64 0), .lit (.int .i64 0)], .agg [.lit (.string [108, 101, 97]), .lit (.int .u16 34), .lit (.int .i64 0), .lit (.int .i64 0), .lit (.int .i64 0)], .agg [.lit (.string [97, 100, 100]), .lit (.int .u16 7), .lit (.int .i64 0), .lit (.int .i64 0), .lit (.int .i64 7)], .agg [.lit (.string [97, 100, 99]), .lit (.int .u16 7), .lit (.int .i64 0), .lit (.int .i64 1), .lit (.int .i64 7)], .agg [.lit (.string [115, 117, 98]), .lit (.int .u16 7), .lit (.int .i64 0), .lit (.int .i64 0), .lit (.int .i64 7)], .agg [.lit (.string [115, 98, 98]), .lit (.int .u16 7), .lit (.int .i64 0), .lit (.int .i64 1), .lit (.int .i64 7)], .agg [.lit (.string [97, 110, 100]), .lit (.int .u16 7), .lit (.int .i64 0), .lit (.int .i64 0), .lit (.int .i64 7)], .agg [.lit (.string [111, 114]), .lit (.int .u16 7), .lit (.int .i64 0), .lit (.int .i64 0), .lit (.int .i64 7)], .agg [.lit (.string [120, 111, 114]), .lit (.int .u16 7), .lit (.int .i64 0), .lit (.int .i64 0), .lit (.int .i64 7)], .agg [.lit (.string [99, 109, 112]), .lit (.int .u16 5), .lit (.int .i64 0), .lit (.int .i64 0), .lit (.int .i64 7)], .agg [.lit (.string [116, 101, 115, 116]), .lit (.int .u16 5), .lit (.int .i64 0), .lit (.int .i64 0), .lit (.int .i64 7)], .agg [.lit (.string []), .lit (.int .u16 3), .lit (.int .i64 2), .lit (.int .i64 0), .lit (.int .i64 7)], .agg [.lit (.string []), .lit (.int .u16 3), .lit (.int .i64 2), .lit (.int .i64 0), .lit (.int .i64 7)], .agg [.lit (.string []), .lit (.int .u16 3), .lit (.int .i64 2), .lit (.int .i64 0), .lit (.int .i64 7)], .agg [.lit (.string []), .lit (.int .u16 1), .lit (.int .i64 2), .lit (.int .i64 0), .lit (.int .i64 7)], .agg [.lit (.string [109, 117, 108, 120]), .lit (.int .u16 90), .lit (.int .i64 0), .lit (.int .i64 0), .lit (.int .i64 0)], .agg [.lit (.string [97, 100, 99, 120]), .lit (.int .u16 7), .lit (.int .i64 0), .lit (.int .i64 1), .lit (.int .i64 1)], .agg [.lit (.string [97, 100, 111, 120]), .lit (.int .u16 7), .lit (.int .i64 0), .lit (.int .i64 2), .lit (.int .i64 2)], .agg [.lit (.string [110, 101, 103]), .lit (.int .u16 3), .lit (.int .i64 0), .lit (.int .i64 0), .lit (.int .i64 7)], .agg [.lit (.string [110, 111, 116]), .lit (.int .u16 3), .lit (.int .i64 0), .lit (.int .i64 0), .lit (.int .i64 0)], .agg [.lit (.string [115, 104, 108]), .lit (.int .u16 3), .lit (.int .i64 3), .lit (.int .i64 0), .lit (.int .i64 5)], .agg [.lit (.string [115, 104, 114]), .lit (.int .u16 3), .lit (.int .i64 3), .lit (.int .i64 0), .lit (.int .i64 5)], .agg [.lit (.string [99, 109, 111, 118, 99]), .lit (.int .u16 7), .lit (.int .i64 0), .lit (.int .i64 1), .lit (.int .i64 0)], .agg [.lit (.string [99, 109, 111, 118, 110, 122]), .lit (.int .u16 7), .lit (.int .i64 0), .lit (.int .i64 4), .lit (.int .i64 0)], .agg [.lit (.string [112, 117, 115, 104]), .lit (.int .u16 132), .lit (.int .i64 0), .lit (.int .i64 0), .lit (.int .i64 0)], .agg [.lit (.string [112, 111, 112]), .lit (.int .u16 130), .lit (.int .i64 0), .lit (.int .i64 0), .lit (.int .i64 0)], .agg [.lit (.string [106, 109, 112]), .lit (.int .u16 0), .lit (.int .i64 2), .lit (.int .i64 0), .lit (.int .i64 0)], .agg [.lit (.string [106, 110, 122]), .lit (.int .u16 0), .lit (.int .i64 2), .lit (.int .i64 4), .lit (.int .i64 0)], .agg [.lit (.string [106, 99]), .lit (.int .u16 0), .lit (.int .i64 2), .lit (.int .i64 1), .lit (.int .i64 0)], .agg [.lit (.string [114, 101, 116]), .lit (.int .u16 128), .lit (.int .i64 0), .lit (.int .i64 0), .lit (.int .i64 0)]]
def laid_math_bits_deBruijn32tab {H : Type} : DataW H := .agg [.lit (.int .u8 0), .lit (.int .u8 1), .lit (.int .u8 28), .lit (.int .u8 2), .lit (.int .u8 29), .lit (.int .u8 14), .lit (.int .u8 24), .lit (.int .u8 3), .lit (.int .u8 30), .lit (.int .u8 22), .lit (.int .u8 20), .lit (.int .u8 15), .lit (.int .u8 25), .lit (.int .u8 17), .lit (.int .u8 4), .lit (.int .u8 8), .lit (.int .u8 31), .lit (.int .u8 27), .lit (.int .u8 13), .lit (.int .u8 23), .lit (.int .u8 21), .lit (.int .u8 19), .lit (.int .u8 16), .lit (.int .u8 7), .lit (.int .u8 26), .lit (.int .u8 12), .lit (.int .u8 18), .lit (.int .u8 6), .lit (.int .u8 11), .lit (.int .u8 5), .lit (.int .u8 10), .lit (.int .u8 9)]
def laid_math_bits_deBruijn64tab {H : Type} : DataW H := .agg [.lit (.int .u8 0), .lit (.int .u8 1), .lit (.int .u8 56), .lit (.int .u8 2), .lit (.int .u8 57), .lit (.int .u8 49), .lit (.int .u8 28), .lit (.int .u8 3), .lit (.int .u8 61), .lit (.int .u8 58), .lit (.int .u8 42), .lit (.int .u8 50), .lit (.int .u8 38), .lit (.int .u8 29), .lit (.int .u8 17), .lit (.int .u8 4), .lit (.int .u8 62), .lit (.int .u8 47), .lit (.int .u8 59), .lit (.int .u8 36), .lit (.int .u8 45), .lit (.int .u8 43), .lit (.int .u8 51), .lit (.int .u8 22), .lit (.int .u8 53), .lit (.int .u8 39), .lit (.int .u8 33), .lit (.int .u8 30), .lit (.int .u8 24), .lit (.int .u8 18), .lit (.int .u8 12), .lit (.int .u8 5), .lit (.int .u8 63), .lit (.int .u8 55), .lit (.int .u8 48), .lit (.int .u8 27), .lit (.int .u8 60), .lit (.int .u8 41), .lit (.int .u8 37), .lit (.int .u8 16), .lit (.int .u8 46), .lit (.int .u8 35), .lit (.int .u8 44), .lit (.int .u8 21), .lit (.int .u8 52), .lit (.int .u8 32), .lit (.int .u8 23), .lit (.int .u8 11), .lit (.int .u8 54), .lit (.int .u8 26), .lit (.int .u8 40), .lit (.int .u8 15), .lit (.int .u8 34), .lit (.int .u8 20), .lit (.int .u8 31), .lit (.int .u8 10), .lit (.int .u8 25), .lit (.int .u8 14), .lit (.int .u8 19), .lit (.int .u8 9), .lit (.int .u8 13), .lit (.int .u8 8), .lit (.int .u8 7), .lit (.int .u8 6)]
def laid_keysmith_encode_own {H : Type} : DataW H := .agg [.lit (.int .u8 0), .lit (.int .u8 137), .lit (.int .u8 184), .lit (.int .u8 139), .lit (.int .u8 137), .lit (.int .u8 141), .lit (.int .u8 1), .lit (.int .u8 17), .lit (.int .u8 41), .lit (.int .u8 25), .lit (.int .u8 33), .lit (.int .u8 9), .lit (.int .u8 49), .lit (.int .u8 57), .lit (.int .u8 133), .lit (.int .u8 0), .lit (.int .u8 4), .lit (.int .u8 5), .lit (.int .u8 7), .lit (.int .u8 246), .lit (.int .u8 102), .lit (.int .u8 243), .lit (.int .u8 3), .lit (.int .u8 2), .lit (.int .u8 4), .lit (.int .u8 5), .lit (.int .u8 66), .lit (.int .u8 69), .lit (.int .u8 80), .lit (.int .u8 88), .lit (.int .u8 233), .lit (.int .u8 133), .lit (.int .u8 130), .lit (.int .u8 195)]

/-- 'keysmithlaw07.DecodeNames': WHATEVER THE INPUT: true; the input reads as it did. -/
def decodeNamesSpec : ChangeSpec := { name := "decodeNames", fn := fun _ => fun
  | [] => { results := [.lit (.bool true)], args := [] }
  | _ => none }
def decodeNamesRow : OpenClaim := { program := "ytankmamoaajocaadoor", sum := "8190e0d16879eb648b2a8592e6ed22a048e8ec3645238cc3f39648ff4572a479", func := "keysmith/keysmithlaw07.DecodeNames", spec := "decodeNames", unfollowed := true, recurses := true, named := ["keysmith/encode.own", "math/bits.deBruijn32tab", "math/bits.deBruijn64tab", "keysmith/inst.forms"], apart := false, laid := [("keysmith/inst.forms", laid_keysmith_inst_forms), ("math/bits.deBruijn32tab", laid_math_bits_deBruijn32tab), ("math/bits.deBruijn64tab", laid_math_bits_deBruijn64tab), ("keysmith/encode.own", laid_keysmith_encode_own)] }
def DecodeNamesSaid : Prop := decodeNamesRow.holds Tryd.pinned (OpenSpec.ofChange decodeNamesSpec)

/-- ITS FALSE NEIGHBOUR: 'it returns false'. Refute it at one input. -/
def decodeNamesWrong : ChangeSpec := { name := "decodeNames", fn := fun _ => fun
  | [] => { results := [.lit (.bool false)], args := [] }
  | _ => none }
def DecodeNamesWrongFalsely : Prop := decodeNamesRow.holds Tryd.pinned (OpenSpec.ofChange decodeNamesWrong)

/-- 'keysmithlaw07.DecodeBack': WHATEVER THE INPUT: true; the input reads as it did. -/
def decodeBackSpec : ChangeSpec := { name := "decodeBack", fn := fun _ => fun
  | [d1, d2, d3] => { results := [.lit (.bool true)], args := [d1, d2, d3] }
  | _ => none }
def decodeBackRow : OpenClaim := { program := "ytankmamoaajocaadoor", sum := "8190e0d16879eb648b2a8592e6ed22a048e8ec3645238cc3f39648ff4572a479", func := "keysmith/keysmithlaw07.DecodeBack", spec := "decodeBack", unfollowed := true, recurses := true, named := ["keysmith/encode.own", "math/bits.deBruijn32tab", "math/bits.deBruijn64tab", "keysmith/inst.forms"], apart := false, laid := [("keysmith/inst.forms", laid_keysmith_inst_forms), ("math/bits.deBruijn32tab", laid_math_bits_deBruijn32tab), ("math/bits.deBruijn64tab", laid_math_bits_deBruijn64tab), ("keysmith/encode.own", laid_keysmith_encode_own)] }
def DecodeBackSaid : Prop := decodeBackRow.holds Tryd.pinned (OpenSpec.ofChange decodeBackSpec)

/-- ITS FALSE NEIGHBOUR: 'it returns false'. Refute it at one input. -/
def decodeBackWrong : ChangeSpec := { name := "decodeBack", fn := fun _ => fun
  | [d1, d2, d3] => { results := [.lit (.bool false)], args := [d1, d2, d3] }
  | _ => none }
def DecodeBackWrongFalsely : Prop := decodeBackRow.holds Tryd.pinned (OpenSpec.ofChange decodeBackWrong)

/-- 'keysmithlaw07.DecodeCut': WHATEVER THE INPUT: true; the input reads as it did. -/
def decodeCutSpec : ChangeSpec := { name := "decodeCut", fn := fun _ => fun
  | [d1, d2, d3] => { results := [.lit (.bool true)], args := [d1, d2, d3] }
  | _ => none }
def decodeCutRow : OpenClaim := { program := "ytankmamoaajocaadoor", sum := "8190e0d16879eb648b2a8592e6ed22a048e8ec3645238cc3f39648ff4572a479", func := "keysmith/keysmithlaw07.DecodeCut", spec := "decodeCut", unfollowed := true, recurses := true, named := ["keysmith/encode.own", "math/bits.deBruijn32tab", "math/bits.deBruijn64tab", "keysmith/inst.forms"], apart := false, laid := [("keysmith/inst.forms", laid_keysmith_inst_forms), ("math/bits.deBruijn32tab", laid_math_bits_deBruijn32tab), ("math/bits.deBruijn64tab", laid_math_bits_deBruijn64tab), ("keysmith/encode.own", laid_keysmith_encode_own)] }
def DecodeCutSaid : Prop := decodeCutRow.holds Tryd.pinned (OpenSpec.ofChange decodeCutSpec)

/-- ITS FALSE NEIGHBOUR: 'it returns false'. Refute it at one input. -/
def decodeCutWrong : ChangeSpec := { name := "decodeCut", fn := fun _ => fun
  | [d1, d2, d3] => { results := [.lit (.bool false)], args := [d1, d2, d3] }
  | _ => none }
def DecodeCutWrongFalsely : Prop := decodeCutRow.holds Tryd.pinned (OpenSpec.ofChange decodeCutWrong)

/-- 'keysmithlaw07.DecodeEach': WHATEVER THE INPUT: true; the input reads as it did. -/
def decodeEachSpec : ChangeSpec := { name := "decodeEach", fn := fun _ => fun
  | [d1, d2] => { results := [.lit (.bool true)], args := [d1, d2] }
  | _ => none }
def decodeEachRow : OpenClaim := { program := "ytankmamoaajocaadoor", sum := "8190e0d16879eb648b2a8592e6ed22a048e8ec3645238cc3f39648ff4572a479", func := "keysmith/keysmithlaw07.DecodeEach", spec := "decodeEach", unfollowed := true, recurses := true, named := ["keysmith/encode.own", "math/bits.deBruijn32tab", "math/bits.deBruijn64tab", "keysmith/inst.forms"], apart := false, laid := [("keysmith/inst.forms", laid_keysmith_inst_forms), ("math/bits.deBruijn32tab", laid_math_bits_deBruijn32tab), ("math/bits.deBruijn64tab", laid_math_bits_deBruijn64tab), ("keysmith/encode.own", laid_keysmith_encode_own)] }
def DecodeEachSaid : Prop := decodeEachRow.holds Tryd.pinned (OpenSpec.ofChange decodeEachSpec)

/-- ITS FALSE NEIGHBOUR: 'it returns false'. Refute it at one input. -/
def decodeEachWrong : ChangeSpec := { name := "decodeEach", fn := fun _ => fun
  | [d1, d2] => { results := [.lit (.bool false)], args := [d1, d2] }
  | _ => none }
def DecodeEachWrongFalsely : Prop := decodeEachRow.holds Tryd.pinned (OpenSpec.ofChange decodeEachWrong)

/- THE SECOND FORM. 'bulk': how many values and letters a reading holds, each counted each time it is reached (what is shared counts as often as it is met; a slice's spare places count too). A statement '..UptoSaid' is the law's where the arguments, and the package variables that the reading takes, are together of bulk at most 1048576: NARROWER than '..Said'. Prove '..Said' where nothing that the law and all that it calls make is longer than what came in: it says more and counts as full. Else prove '..UptoSaid'. A law counts once. -/
mutual
def uptoBulk {H : Type} : DataW H → Nat
  | .lit (.string bytes) => bytes.length + 1
  | .lit _ => 1
  | .nil => 1
  | .ptr d => uptoBulk d + 1
  | .slice elems spare => uptoBulkAll elems + uptoBulkAll spare + 1
  | .agg parts => uptoBulkAll parts + 1
  | .iface _ d => uptoBulk d + 1
  | .map entries => uptoBulkEntries entries + 1
  | .held _ => 1
def uptoBulkAll {H : Type} : List (DataW H) → Nat
  | [] => 0
  | d :: r => uptoBulk d + uptoBulkAll r
def uptoBulkEntries {H : Type} : List (Lit × DataW H) → Nat
  | [] => 0
  | x :: r => uptoBulkEntry x + uptoBulkEntries r
def uptoBulkEntry {H : Type} : Lit × DataW H → Nat
  | (.string bytes, d) => bytes.length + uptoBulk d + 1
  | (_, d) => uptoBulk d + 1
 end
def uptoSmall : (H : Type) → List (DataW H) → Bool := fun _ ds => decide (uptoBulkAll ds ≤ 1048576)
def OpenSpec.upto (s : _root_.Go.ChangeSpec) : _root_.Go.OpenSpec := { _root_.Go.OpenSpec.ofChange s with cond := some uptoSmall }

/-- 'keysmithlaw07.DecodeNames', WHERE WHAT IT READS IS OF BULK AT MOST 1048576: true; the input reads as it did. -/
def decodeNamesUptoRow : OpenClaim := { program := "ytankmamoaajocaadoor", sum := "8190e0d16879eb648b2a8592e6ed22a048e8ec3645238cc3f39648ff4572a479", func := "keysmith/keysmithlaw07.DecodeNames", spec := "decodeNames", unfollowed := true, recurses := true, named := ["keysmith/encode.own", "math/bits.deBruijn32tab", "math/bits.deBruijn64tab", "keysmith/inst.forms"], apart := false, laid := [("keysmith/inst.forms", laid_keysmith_inst_forms), ("math/bits.deBruijn32tab", laid_math_bits_deBruijn32tab), ("math/bits.deBruijn64tab", laid_math_bits_deBruijn64tab), ("keysmith/encode.own", laid_keysmith_encode_own)], narrowed := true }
def DecodeNamesUptoSaid : Prop := decodeNamesUptoRow.holds Tryd.pinned (OpenSpec.upto decodeNamesSpec)

/-- 'keysmithlaw07.DecodeBack', WHERE WHAT IT READS IS OF BULK AT MOST 1048576: true; the input reads as it did. -/
def decodeBackUptoRow : OpenClaim := { program := "ytankmamoaajocaadoor", sum := "8190e0d16879eb648b2a8592e6ed22a048e8ec3645238cc3f39648ff4572a479", func := "keysmith/keysmithlaw07.DecodeBack", spec := "decodeBack", unfollowed := true, recurses := true, named := ["keysmith/encode.own", "math/bits.deBruijn32tab", "math/bits.deBruijn64tab", "keysmith/inst.forms"], apart := false, laid := [("keysmith/inst.forms", laid_keysmith_inst_forms), ("math/bits.deBruijn32tab", laid_math_bits_deBruijn32tab), ("math/bits.deBruijn64tab", laid_math_bits_deBruijn64tab), ("keysmith/encode.own", laid_keysmith_encode_own)], narrowed := true }
def DecodeBackUptoSaid : Prop := decodeBackUptoRow.holds Tryd.pinned (OpenSpec.upto decodeBackSpec)

/-- 'keysmithlaw07.DecodeCut', WHERE WHAT IT READS IS OF BULK AT MOST 1048576: true; the input reads as it did. -/
def decodeCutUptoRow : OpenClaim := { program := "ytankmamoaajocaadoor", sum := "8190e0d16879eb648b2a8592e6ed22a048e8ec3645238cc3f39648ff4572a479", func := "keysmith/keysmithlaw07.DecodeCut", spec := "decodeCut", unfollowed := true, recurses := true, named := ["keysmith/encode.own", "math/bits.deBruijn32tab", "math/bits.deBruijn64tab", "keysmith/inst.forms"], apart := false, laid := [("keysmith/inst.forms", laid_keysmith_inst_forms), ("math/bits.deBruijn32tab", laid_math_bits_deBruijn32tab), ("math/bits.deBruijn64tab", laid_math_bits_deBruijn64tab), ("keysmith/encode.own", laid_keysmith_encode_own)], narrowed := true }
def DecodeCutUptoSaid : Prop := decodeCutUptoRow.holds Tryd.pinned (OpenSpec.upto decodeCutSpec)

/-- 'keysmithlaw07.DecodeEach', WHERE WHAT IT READS IS OF BULK AT MOST 1048576: true; the input reads as it did. -/
def decodeEachUptoRow : OpenClaim := { program := "ytankmamoaajocaadoor", sum := "8190e0d16879eb648b2a8592e6ed22a048e8ec3645238cc3f39648ff4572a479", func := "keysmith/keysmithlaw07.DecodeEach", spec := "decodeEach", unfollowed := true, recurses := true, named := ["keysmith/encode.own", "math/bits.deBruijn32tab", "math/bits.deBruijn64tab", "keysmith/inst.forms"], apart := false, laid := [("keysmith/inst.forms", laid_keysmith_inst_forms), ("math/bits.deBruijn32tab", laid_math_bits_deBruijn32tab), ("math/bits.deBruijn64tab", laid_math_bits_deBruijn64tab), ("keysmith/encode.own", laid_keysmith_encode_own)], narrowed := true }
def DecodeEachUptoSaid : Prop := decodeEachUptoRow.holds Tryd.pinned (OpenSpec.upto decodeEachSpec)

end Rows
end Go.Proofs.YtankmamoaajocaaDoor
