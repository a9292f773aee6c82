/- A reading begun; a part that ends. -/
import Derived.Test.YtaocplcmmpbjjaaDoorSF
import Derived.Laws.EntriesVeiled
namespace Go.Proofs.YtaocplcmmpbjjaaDoor
open Go Go.RowKit Go.Maps
namespace Sn
open Nt
set_option linter.unusedVariables false
set_option linter.unusedSimpArgs false
def telF (R : Nat) : Value := .func (.func 29) #[.pointer (some ⟨R, 0, none⟩)] #[]
/-- a reading that has just begun -/
def BegP (s : ByteArray) (w : World) (e : Ending) (w' : World) : Prop :=
  ∃ R M, e = .returned (.pointer (some ⟨R, 0, none⟩)) ∧ w.heap.size ≤ M ∧ M < R ∧ Rdg w' R s (telF R) (.map (some M)) 4 0 0 0 ∧ GoM w' M ∧ Below w.heap.size w w'
set_option maxRecDepth 100000 in
theorem begin_l (s : ByteArray) (w : World) : Calls Tryd.prog 20 #[.string s] w (BegP s w) := by
  have HG := Lib.hid (goings_l w)
  go_enter Tryd.func20, Tryd.ntmps20
  go_wp2_with fail
  go_at_call 28
  refine HG.out.mono ?_
  rintro e w1 ⟨rfl, hm, hb⟩
  have HM := Lib.hid hm
  have HB := Lib.hid hb
  have HL := Lib.hid hm.lt
  have c1 : (w1.alloc (.cells #[.string s, .nilFunc, .map (some w.heap.size), .int .i64 4, .int .i64 0, .int .i64 0, .int .i64 0] 52)).cell? ⟨w1.heap.size, 1, none⟩ = some .nilFunc := Bk.cell (Bk.new w1 52 _) 1
  have f1 : (w1.alloc (.cells #[.string s, .nilFunc, .map (some w.heap.size), .int .i64 4, .int .i64 0, .int .i64 0, .int .i64 0] 52)).frozen? ⟨w1.heap.size, 1, none⟩ = false := Bk.frozen (Bk.new w1 52 _) 1
  clear hm hb HG
  go_wp2_with fail
  go_ret
  exact ⟨w1.heap.size, w.heap.size, rfl, Nat.le_refl _, HL.out, Bk.new w1 52 _, HM.out.kept (World.grownBy_alloc w1 _ none) (by simp), HB.out.alloc HB.out.size _⟩
end Sn
end Go.Proofs.YtaocplcmmpbjjaaDoor
