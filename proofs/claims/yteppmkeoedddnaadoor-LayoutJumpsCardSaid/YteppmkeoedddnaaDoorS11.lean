/- The landed package decode: the only instruction that may stand at the cursor. | The landed package decode: Inst. -/
import Derived.Test.YteppmkeoedddnaaDoorS8
namespace Go.Proofs.YteppmkeoedddnaaDoor
open Go Go.RowKit
namespace Is
open Nt
set_option linter.unusedVariables false
set_option linter.unusedSimpArgs false
end Is
end Go.Proofs.YteppmkeoedddnaaDoor
namespace Go.Proofs.YteppmkeoedddnaaDoor
open Go Go.RowKit
namespace Is
open Nt
set_option linter.unusedVariables false
set_option linter.unusedSimpArgs false
/-- the instruction at a place, how many bytes it has, and the error -/
def rD (s : ByteArray) (a : Int) : Ins × Int × Int :=
  if a < 0 ∨ (s.size : Int) < a then (zI, 0, 2) else if a = (s.size : Int) then (zI, 0, 8)
  else match decO s a.toNat with
    | none => (zI, 0, 4)
    | some i => (i, ((encL i).length : Int), 0)
theorem rD_out {s : ByteArray} {a : Int} (h : a < 0 ∨ (s.size : Int) < a) : rD s a = (zI, 0, 2) := if_pos h
theorem rD_end {s : ByteArray} {a : Int} (h : a = (s.size : Int)) : rD s a = (zI, 0, 8) := by unfold rD; rw [if_neg (by omega), if_pos h]
theorem rD_none {s : ByteArray} {k : Nat} (hk : k < s.size) (h : decO s k = none) : rD s (k : Int) = (zI, 0, 4) := by
  unfold rD; rw [if_neg (by omega), if_neg (by omega), Int.toNat_natCast, h]
theorem rD_some {s : ByteArray} {k : Nat} {i : Ins} (hk : k < s.size) (h : decO s k = some i) : rD s (k : Int) = (i, ((encL i).length : Int), 0) := by
  unfold rD; rw [if_neg (by omega), if_neg (by omega), Int.toNat_natCast, h]
/-- what is told of a place -/
def tD (x : Ins × Int × Int) : Value := .tuple #[.agg x.1.vs, .int .i64 x.2.1, .int .i64 x.2.2]
set_option maxRecDepth 100000 in
theorem ret_i3 {fn : Func} {p u v : Tmp} {R : Ending → World → Prop} {a : Act} {w : World} {g : Nat} {cs : Array Value} (h : fn.results = #[.cell p 35, .tmp u, .tmp v]) (hp : a.tmps.getD p undef = .pointer (some ⟨g, 0, none⟩)) (hd : a.defers = [])
    (hb : Bk w g 35 cs) (h9 : cs.size = 9) (hR : R (.returned (.tuple #[.agg cs, a.tmps.getD u undef, a.tmps.getD v undef])) w) : bodyPost Tryd.prog fn R .ret a w := by
  have hp' : a.tmps[p]?.getD undef = .pointer (some ⟨g, 0, none⟩) := by simpa using hp
  refine bodyPost_ret ?_ hd hR
  simp [results, h, hp', asAddr, run_loadVar_row w g 35 35 cs (0, 0) _ hb Tryd.underlying35 rfl (show (Tryd.prog.info? 35).map (·.size) = some cs.size by rw [h9]; kernel_rfl)]
end Is
end Go.Proofs.YteppmkeoedddnaaDoor
