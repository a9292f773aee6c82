/- The document's own row of registers that are told. -/
import Derived.Test.YthidjiidcelniaaDoorD1
import Derived.Maps.AppendAt
import Derived.Laws.AppendOwn
import Derived.Laws.OwnMore
import Derived.OwnWalk
namespace Go.Proofs.YthidjiidcelniaaDoor
open Go Go.RowKit
namespace Is
open Nt
set_option linter.unusedVariables false
def iv (xs : List Int) : List Value := xs.map (Value.int .i64)
def regK (p : Int → Bool) (k : Nat) : List Int := ((List.range k).map fun (j : Nat) => (j : Int)).filter p
theorem regK_succ (p : Int → Bool) (k : Nat) : regK p (k + 1) = regK p k ++ (if p (k : Int) then [(k : Int)] else []) := by
  unfold regK
  rw [List.range_succ, List.map_append, List.filter_append]
  congr 1
  cases h : p (k : Int) <;> simp [h]
theorem regK_len (p : Int → Bool) (k : Nat) : (regK p k).length ≤ k := by
  unfold regK
  refine Nat.le_trans (List.length_filter_le _ _) ?_
  simp
/-- sixteen truths as cells -/
def tab (p : Int → Bool) : Array Value := ((List.range 16).map fun (k : Nat) => Value.bool (p (k : Int))).toArray
theorem tab_get (p : Int → Bool) {k : Nat} (h : k < 16) : (tab p)[k]? = some (.bool (p (k : Int))) := by
  unfold tab
  rw [List.getElem?_toArray, List.getElem?_map, List.getElem?_range h]; rfl
theorem tab_size (p : Int → Bool) : (tab p).size = 16 := by unfold tab; simp
theorem tab_set (p : Int → Bool) {r : Nat} (h : r < 16) : (tab p).setIfInBounds r (.bool true) = tab (fun z => p z || decide (z = (r : Int))) := by
  apply Array.ext_getElem?
  intro i
  rw [Array.getElem?_setIfInBounds, tab_size]
  by_cases hi : r = i
  · subst hi
    rw [if_pos rfl, if_pos h, tab_get _ h]; simp
  · rw [if_neg hi]
    rcases Nat.lt_or_ge i 16 with h8 | h8
    · rw [tab_get _ h8, tab_get _ h8]
      have : ¬ ((i : Int) = (r : Int)) := by omega
      simp [this]
    · rw [Array.getElem?_eq_none (by rw [tab_size]; exact h8), Array.getElem?_eq_none (by rw [tab_size]; exact h8)]
theorem info_int : (Tryd.prog.info? 3).map (fun i => (i.zero, i.size, i.bytes)) = some (some (.int .i64 0), 1, 8) := by kernel_rfl
theorem ownsRow_base {w : World} {B B' : Nat} {e : TypeId} {s n : Nat} {v : Value} {xs : List Value} (h : w.ownsRow B e s v n xs) (hB : B' ≤ B) : w.ownsRow B' e s v n xs := by
  refine ⟨h.1, ?_⟩
  rcases h.2 with h1 | ⟨g, c, cur, h1, h2, h3⟩
  · exact .inl h1
  · exact .inr ⟨g, c, cur, h1, Nat.le_trans hB h2, h3⟩
theorem one_new (W : World) (z : Int) (j : Nat) (u : Value) (hu : [Value.int .i64 z][j]? = some u) : (W.alloc (.cells #[.int .i64 z] 3)).cell? ((⟨W.heap.size, 0, none⟩ : Addr).add j) = some u := by
  have e : (⟨W.heap.size, 0, none⟩ : Addr).add j = ⟨W.heap.size, j, none⟩ := by
    unfold Addr.add; split
    · rename_i e; rw [e]
    · simp
  rw [e, World.cell?_alloc_at _ _ _ _ (by simp)]
  simpa using hu
/-- a row of registers of one's own -/
def RowP (xs : List Int) (w : World) (e : Ending) (w' : World) : Prop := ∃ v, e = .returned v ∧ w'.ownsRow w.heap.size 3 1 v xs.length (iv xs) ∧ Below w.heap.size w w'
end Is
end Go.Proofs.YthidjiidcelniaaDoor
