/- Blocks that the call itself made, known whole. -/
import Derived.Test.YtdklchejnpaenaaDoorPairs
import Derived.Laws.MakeOwn
import Derived.Laws.Rows
import Derived.RangeFuncBox
namespace Go.Proofs.YtdklchejnpaenaaDoor
open Go Go.RowKit
namespace Nt
open Wd Sti
set_option linter.unusedVariables false

/-- block g is just the cells cs of element type t, none frozen -/
def Bk (w : World) (g : Nat) (t : TypeId) (cs : Array Value) : Prop := w.heap[g]? = some (.cells cs t (0, 0))
section
variable {w w' : World} {g : Nat} {t : TypeId} {cs : Array Value}
theorem Bk.lt (h : Bk w g t cs) : g < w.heap.size := by
  rcases Nat.lt_or_ge g w.heap.size with hlt | hge
  · exact hlt
  · unfold Bk at h; rw [Array.getElem?_eq_none hge] at h; cases h
theorem Bk.cell (h : Bk w g t cs) (i : Nat) : w.cell? ⟨g, i, none⟩ = cs[i]? := cell_of_row w g i cs t (0, 0) h
theorem Bk.frozen (h : Bk w g t cs) (i : Nat) : w.frozen? ⟨g, i, none⟩ = false := by
  unfold Bk at h
  simp [World.frozen?, h]
theorem Bk.new (w : World) (t : TypeId) (cs : Array Value) : Bk (w.alloc (.cells cs t)) w.heap.size t cs := heap_alloc_new w _
theorem Bk.drew (h : Bk w g t cs) : Bk w.drew g t cs := h
theorem Bk.drewN (h : Bk w g t cs) (n : Nat) : Bk (w.drewN n) g t cs := h
theorem Bk.alloc (h : Bk w g t cs) (o : Obj) : Bk (w.alloc o) g t cs := (Below.heap_alloc w o g h.lt).trans h
theorem Bk.set_ (h : Bk w g t cs) (i : Nat) (u : Value) : Bk (w.setCell ⟨g, i, none⟩ u) g t (cs.setIfInBounds i u) := by
  unfold Bk at h ⊢
  simp [World.setCell, Array.getElem?_modify, h]
theorem Bk.far (h : Bk w g t cs) {p : Addr} (hp : g ≠ p.block) (u : Value) : Bk (w.setCell p u) g t cs := (Below.heap_setCell w p u g hp).trans h
theorem Bk.below {B : Nat} (h : Bk w g t cs) (hb : Below B w w') (hg : g < B) : Bk w' g t cs := (hb.block g hg).trans h
theorem Bk.grown {row : Option Nat} (h : Bk w g t cs) (hb : w.grownBy w' row) (hr : ∀ r, row = some r → ∃ o : Obj, w.heap[r]? = some o ∧ o.isCells = false) : Bk w' g t cs :=
  (hb.block g h.lt (fun e => by
    obtain ⟨o, ho, hc⟩ := hr g e.symm
    unfold Bk at h
    rw [h] at ho
    cases ho
    cases hc)).trans h
end
/-- the limbs as values -/
def us (xs : List Int) : Array Value := (xs.map (Value.int .u64)).toArray
theorem us_size (xs : List Int) : (us xs).size = xs.length := by simp [us]
theorem us_get {xs : List Int} {k : Nat} (h : k < xs.length) : (us xs)[k]? = some (.int .u64 (at_ xs k)) := by
  unfold us at_
  rw [List.getElem?_toArray, List.getElem?_map, List.getElem?_eq_getElem h]
  rfl
theorem us_set (xs : List Int) (k : Nat) (v : Int) : (us xs).setIfInBounds k (.int .u64 v) = us (xs.set k v) := by
  unfold us
  apply Array.ext'
  simp [List.map_set]
theorem us_zeros (n : Nat) : us (List.replicate n 0) = Array.replicate n (.int .u64 0) := by
  unfold us
  apply Array.ext'
  simp
/-- a block of limbs reads as its limbs, from a place on -/
theorem Bk.rd {w : World} {g : Nat} {t : TypeId} {xs : List Int} {B o n : Nat} (h : Bk w g t (us xs)) (hB : g < B) (hw : Ws xs) (hn : o + n ≤ xs.length) : Rd w B (some ⟨g, o, none⟩) n ((xs.drop o).take n) := by
  refine ⟨by rw [List.length_take, List.length_drop]; omega, (hw.drop o).take n, fun _ => ⟨_, rfl, hB, fun j hj => ?_⟩⟩
  have e : (Addr.add ⟨g, o, none⟩ j) = ⟨g, o + j, none⟩ := by unfold Addr.add; split <;> simp_all
  rw [e, h.cell, us_get (by omega)]
  congr 2
  unfold at_
  rw [List.getElem?_take, if_pos hj, List.getElem?_drop]
theorem Bk.rd0 {w : World} {g : Nat} {t : TypeId} {xs : List Int} {B n : Nat} (h : Bk w g t (us xs)) (hB : g < B) (hw : Ws xs) (hn : xs.length = n) : Rd w B (some ⟨g, 0, none⟩) n xs := by
  have := h.rd (o := 0) (n := n) hB hw (by omega)
  rwa [List.drop_zero, List.take_of_length_le (by omega)] at this
theorem below_drewN {B : Nat} {a w : World} (h : Below B a w) (n : Nat) : Below B a (w.drewN n) := ⟨h.os, h.tape, h.output, h.size, h.block⟩
theorem Bk.new' {w : World} {t : TypeId} {cs : Array Value} {g : Nat} (hg : g = w.heap.size) : Bk (w.alloc (.cells cs t)) g t cs := by subst hg; exact Bk.new w t cs
theorem Bk.putObj {w : World} {g D : Nat} {t : TypeId} {cs : Array Value} (h : Bk w g t cs) {o : Obj} (o' : Obj) (hD : w.heap[D]? = some o) (ho : o.isCells = false) : Bk (w.putObj D o') g t cs :=
  h.grown (grownBy_putObj' w D o') (fun r e => by cases e; exact ⟨o, hD, ho⟩)
theorem below_putObj {B D : Nat} {a w : World} (h : Below B a w) (hB : B ≤ a.heap.size) (hD : B ≤ D) (o' : Obj) : Below B a (w.putObj D o') :=
  h.grown (grownBy_putObj' w D o') (Nat.le_trans hB h.size) (fun r e => by cases e; exact hD)
theorem only_setCell (w : World) (b i : Nat) (v : Value) : w.grownBy (w.setCell ⟨b, i, none⟩ v) (some b) :=
  ⟨rfl, rfl, rfl, by simp [World.setCell], fun k _ hne => Below.heap_setCell w _ v k (by rintro rfl; exact hne rfl)⟩
theorem only_drew (w : World) (r : Option Nat) : w.grownBy w.drew r := ⟨rfl, rfl, rfl, Nat.le_refl _, fun _ _ _ => rfl⟩
/-- an answer: a slice that reads as a trimmed natural of value N, of no more than m limbs -/
def Ans (w w' : World) (v : Value) (N : Int) (m : Nat) : Prop :=
  ∃ A n c zs, v = .slice A n c ∧ Is zs N ∧ Rd w' w'.heap.size A n zs ∧ n ≤ c ∧ c ≤ m ∧ Below w.heap.size w w'
theorem ans_trim {w W' : World} {g : Nat} {t : TypeId} {os : List Int} {N : Int} {m : Nat} (h : Bk W' g t (us os)) (hw : Ws os) (hv : V os = N) (hm : os.length ≤ m) (hb : Below w.heap.size w W') :
    Ans w W' (.slice (some ⟨g, 0, none⟩) (trim os).length os.length) N m :=
  ⟨_, _, _, trim os, rfl, hv ▸ Is.of_trim hw, (h.rd0 h.lt hw rfl).trim, trim_le os, hm, hb⟩
end Nt
end Go.Proofs.YtdklchejnpaenaaDoor
