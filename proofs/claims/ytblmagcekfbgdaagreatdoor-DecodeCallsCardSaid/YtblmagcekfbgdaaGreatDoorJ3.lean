/- The landed package inst: what a form has, whether an instruction fits it. -/
import Derived.Test.YtblmagcekfbgdaaGreatDoorJ1
import Derived.Test.YtblmagcekfbgdaaGreatDoorD1
import Derived.Test.YtblmagcekfbgdaaGreatDoorB1
namespace Go.Proofs.YtblmagcekfbgdaaGreatDoor
open Go Go.RowKit Go.Sort
namespace Is
open Nt
set_option linter.unusedVariables false
set_option linter.unusedSimpArgs false
/-- has a form one of these parts? -/
def hpB (pt p : Int) : Bool := bits .and .u16 pt p != 0
theorem has_l (nm : ByteArray) (pt nu ft fm p : Int) (w : World) : Calls Tryz.prog 91 #[.agg #[.string nm, .int .u16 pt, .int .i64 nu, .int .i64 ft, .int .i64 fm], .int .u16 p] w fun e w' => e = .returned (.bool (hpB pt p)) ∧ Grw w w' := by
  have HW := Lib.hid (Grw.alloc w (.cells #[.string nm, .int .u16 pt, .int .i64 nu, .int .i64 ft, .int .i64 fm] 100))
  have e : hpB pt p = (bits .and .u16 pt p != 0) := rfl
  rw [e]
  clear e
  go_enter Tryz.func91, Tryz.ntmps91
  go_wp2_with fail
  go_ret
  exact ⟨by first | rfl | simp, HW.out⟩
def fitB (pt nu : Int) (i : Ins) : Bool :=
  if hpB pt 2 && (hpB pt 8 && decide (i.d = i.s)) then false
  else frB i.d (hpB pt 3) && (frB i.s (hpB pt 12) && (frB i.t (hpB pt 16) && (fpB i (hpB pt 32) && fnB i.im nu)))
theorem c5 {w : World} {I : Nat} {nm : ByteArray} {pt nu ft fm : Int} (h : Bk w I 100 #[.string nm, .int .u16 pt, .int .i64 nu, .int .i64 ft, .int .i64 fm]) : w.cell? ⟨I, 0, none⟩ = some (.string nm) ∧ w.cell? ⟨I, 1, none⟩ = some (.int .u16 pt) ∧ w.cell? ⟨I, 2, none⟩ = some (.int .i64 nu) ∧ w.cell? ⟨I, 3, none⟩ = some (.int .i64 ft) ∧ w.cell? ⟨I, 4, none⟩ = some (.int .i64 fm) := ⟨h.cell 0, h.cell 1, h.cell 2, h.cell 3, h.cell 4⟩
theorem Calls.grw {f : FuncId} {args : Array Value} {w : World} {v : Value} (h : Calls Tryz.prog f args w fun e w' => e = .returned v ∧ w' = w) : Calls Tryz.prog f args w fun e w' => e = .returned v ∧ Grw w w' :=
  h.mono fun _ _ ⟨h1, h2⟩ => ⟨h1, h2 ▸ Grw.refl _⟩
end Is
end Go.Proofs.YtblmagcekfbgdaaGreatDoor
