/- The goings: a map of functions. -/
import Derived.Test.YtaocplcmmpbjjaaDoorSE
import Derived.Maps.Own
import Derived.Maps.Views
namespace Go.Proofs.YtaocplcmmpbjjaaDoor
open Go Go.RowKit Go.Maps
namespace Sn
open Nt
set_option linter.unusedVariables false
set_option linter.unusedSimpArgs false
/-- a function without more, by its number -/
def funR (v : Value) : Option (DataW Unit × List MemPlace) :=
  match v with
  | .func (.func g) ⟨[]⟩ ⟨[]⟩ => some (.lit (.int .i64 (g : Int)), [])
  | .nilFunc => some (.lit (.int .i64 (-1)), [])
  | _ => none
theorem funR_inv {v : Value} {g : Nat} {ps : List MemPlace} (h : funR v = some (.lit (.int .i64 (g : Int)), ps)) : v = .func (.func g) #[] #[] := by
  unfold funR at h
  split at h
  · have e := congrArg (fun o : Option (DataW Unit × List MemPlace) => match o with | some (.lit (.int _ z), _) => z.toNat | _ => 0) h
    simp only [Int.toNat_natCast] at e
    rw [e]
  · have e := congrArg (fun o : Option (DataW Unit × List MemPlace) => match o with | some (.lit (.int _ z), _) => z | _ => 0) h
    simp only at e
    omega
  · cases h
def goD : DataW Unit := (((((DataW.map []).put (.int .i64 1) (.lit (.int .i64 32))).put (.int .i64 2) (.lit (.int .i64 22))).put (.int .i64 3) (.lit (.int .i64 33))).put (.int .i64 4) (.lit (.int .i64 34))).put (.int .i64 5) (.lit (.int .i64 35))
/-- a map of the goings -/
def GoM (w : World) (M : Nat) : Prop := w.ownsMap Tryd.prog 3 funR M 5 goD
theorem GoM.kept {w w' : World} {M : Nat} {row : Option Nat} (h : GoM w M) (hg : w.grownBy w' row) (hne : some M ≠ row) : GoM w' M := World.ownsMap.kept h hg hne
theorem GoM.lt {w : World} {M : Nat} (h : GoM w M) : M < w.heap.size := World.ownsMap.lt h
/-- the function for a kind -/
def goF (k : Nat) : Nat := if k = 1 then 32 else if k = 2 then 22 else if k = 3 then 33 else if k = 4 then 34 else 35
set_option maxRecDepth 100000 in
theorem GoM.look {w : World} {M : Nat} (h : GoM w M) (k : Nat) (h1 : 1 ≤ k) (h5 : k ≤ 5) : (Instr.lookup 50 (.map (some M)) (.int .i64 (k : Int)) false).run Tryd.prog w = .ok (.func (.func (goF k)) #[] #[]) w := by
  have hz : (zeroValue 35).run Tryd.prog w = .ok .nilFunc w := by kernel_rfl
  have hkey : keyOf Tryd.prog 3 (.int .i64 (k : Int)) = some (.int .i64 (k : Int)) := keyOf_int_mk Tryd.underlying3 (by simp [Lit.wf, IntKind.min, IntKind.max, IntKind.signed, IntKind.bits]; omega)
  obtain ⟨v, ps, hrun, hv⟩ := World.ownsMap.lookup h (int_keyed Tryd.underlying3) Tryd.underlying50 hz (zd := .lit (.int .i64 (-1))) (zp := []) rfl hkey
  have hat : goD.atKey (.int .i64 (k : Int)) (.lit (.int .i64 (-1))) = .lit (.int .i64 (goF k : Int)) := by
    have hk : k = 1 ∨ k = 2 ∨ k = 3 ∨ k = 4 ∨ k = 5 := by omega
    rcases hk with rfl | rfl | rfl | rfl | rfl <;> rfl
  rw [hat] at hv
  rw [funR_inv hv] at hrun
  exact hrun
set_option maxRecDepth 100000 in
theorem goings_l (w : World) : Calls Tryd.prog 28 #[] w fun e w' => e = .returned (.map (some w.heap.size)) ∧ GoM w' w.heap.size ∧ Below w.heap.size w w' := by
  have hmm := @run_makeMap Tryd.prog
  have hk : ∀ a : Int, a = 1 ∨ a = 2 ∨ a = 3 ∨ a = 4 ∨ a = 5 → keyOf Tryd.prog 3 (.int .i64 a) = some (.int .i64 a) := fun a h => keyOf_int_mk Tryd.underlying3 (by rcases h with rfl | rfl | rfl | rfl | rfl <;> decide)
  have K := int_keyed (P := Tryd.prog) (k := 3) Tryd.underlying3
  obtain ⟨w1, r1, o1, g1⟩ := (World.ownsMap_made w Tryd.prog 3 funR).update K Tryd.underlying50 (by unfold maxLen; omega) (hk 1 (by simp)) (val := .func (.func 32) #[] #[]) rfl
  obtain ⟨w2, r2, o2, g2⟩ := o1.update K Tryd.underlying50 (by unfold maxLen; omega) (hk 2 (by simp)) (val := .func (.func 22) #[] #[]) rfl
  obtain ⟨w3, r3, o3, g3⟩ := o2.update K Tryd.underlying50 (by unfold maxLen; omega) (hk 3 (by simp)) (val := .func (.func 33) #[] #[]) rfl
  obtain ⟨w4, r4, o4, g4⟩ := o3.update K Tryd.underlying50 (by unfold maxLen; omega) (hk 4 (by simp)) (val := .func (.func 34) #[] #[]) rfl
  obtain ⟨w5, r5, o5, g5⟩ := o4.update K Tryd.underlying50 (by unfold maxLen; omega) (hk 5 (by simp)) (val := .func (.func 35) #[] #[]) rfl
  have HO := Lib.hid o5
  have HB : Hid (Below w.heap.size w w5) := Lib.hid (by
    have h0 : Below w.heap.size w (w.alloc (.map #[] 0)) := (Below.refl _ w).alloc (Nat.le_refl _) _
    have st : ∀ {a b : World}, Below w.heap.size w a → a.grownBy b (some w.heap.size) → Below w.heap.size w b := fun h g => h.grown g h.size (fun r e => by cases e; exact Nat.le_refl _)
    exact st (st (st (st (st h0 g1) g2) g3) g4) g5)
  clear o1 o2 o3 o4 o5 g1 g2 g3 g4 g5 K hk
  go_enter Tryd.func28, Tryd.ntmps28
  go_wp2_with fail
  go_ret
  exact ⟨rfl, HO.out, HB.out⟩
end Sn
end Go.Proofs.YtaocplcmmpbjjaaDoor
