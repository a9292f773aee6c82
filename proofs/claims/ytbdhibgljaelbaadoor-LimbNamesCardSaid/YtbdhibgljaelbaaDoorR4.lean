/- The document's own look at a program. -/
import Derived.Test.YtbdhibgljaelbaaDoorR3
import Derived.Test.YtbdhibgljaelbaaDoorS8
namespace Go.Proofs.YtbdhibgljaelbaaDoor
open Go Go.RowKit Go.Sort Go.Shelf
namespace Lb
open Wd Nt Gr
set_option linter.unusedVariables false
set_option linter.unusedSimpArgs false
theorem tkL_in {rg : Int} {o : Op} (h : OpG rg o) : ∀ x ∈ tkL o, 0 ≤ x ∧ x < rg := by
  obtain ⟨hk, hd, he, ha, hb, hc⟩ := h
  obtain ⟨k, d, e, a, b, c, bf, im⟩ := o
  dsimp only at *
  unfold tkL
  dsimp only
  intro x hx
  rcases (by omega : k = 1 ∨ k = 2 ∨ k = 3 ∨ k = 4 ∨ k = 5 ∨ k = 6 ∨ k = 7 ∨ k = 8 ∨ k = 9 ∨ k = 10 ∨ k = 11 ∨ k = 12 ∨ k = 13 ∨ k = 14 ∨ k = 15 ∨ k = 16 ∨ k = 17) with rfl | rfl | rfl | rfl | rfl | rfl | rfl | rfl | rfl | rfl | rfl | rfl | rfl | rfl | rfl | rfl | rfl
  all_goals (
    simp only [hD, hE, hA, hB, hC, mm] at ha hb hc
    simp at ha hb hc hx)
  all_goals first
    | omega
    | (subst hx; omega)
    | (rcases hx with rfl | rfl <;> omega)
    | (rcases hx with rfl | rfl | rfl <;> omega)
    | (by_cases h1 : a = -1
       · simp [h1] at hx; omega
       · simp [h1] at hx; omega)
    | (by_cases h1 : a = -1
       · simp [h1] at hx; omega
       · simp [h1] at hx; rcases hx with rfl | rfl <;> omega)
theorem bools_at {W : World} {g n : Nat} {t : TypeId} {md : Nat → Bool} (h : Bk W g t (row (mdR n md)).toArray) {i : Nat} (hi : i < n) : W.cell? ⟨g, i, none⟩ = some (.bool (md i)) := by
  rw [h.cell, List.getElem?_toArray, row_bools, List.getElem?_map, mdR_get hi]
  rfl
theorem bools_set {W : World} {g n : Nat} {t : TypeId} {md : Nat → Bool} (h : Bk W g t (row (mdR n md)).toArray) {r : Nat} {v : Bool} (hr : r < n) : Bk (W.setCell ⟨g, r, none⟩ (.bool v)) g t (row (mdR n (setR md (r : Int) v))).toArray := by
  have h1 := h.set_ r (.bool v)
  have e : (row (mdR n md)).toArray.setIfInBounds r (.bool v) = (row (mdR n (setR md (r : Int) v))).toArray := by
    have h2 := mdR_set (n := n) (md := md) (r := (r : Int)) (v := v) (by omega) (by omega)
    rw [Int.toNat_natCast] at h2
    rw [← h2, row_bools, row_bools, List.map_set]
    apply Array.ext'
    simp
  rw [e] at h1
  exact h1
/-- a row of numbers does not lie where the bools lie -/
theorem rdr_far {W : World} {B g n m i : Nat} {t : TypeId} {A : Option Addr} {xs : List Int} {md : Nat → Bool} {v : Value} (h : Rdr W B A n xs) (hb : Bk W g t (row (mdR m md)).toArray) : Rdr (W.setCell ⟨g, i, none⟩ v) B A n xs := by
  refine ⟨h.len, fun h0 => ?_⟩
  obtain ⟨b, o, e, hB, hc⟩ := h.rd h0
  have hne : b ≠ g := by
    intro e2
    subst e2
    obtain ⟨x, hx⟩ : ∃ x, xs[0]? = some x := ⟨_, List.getElem?_eq_getElem (by rw [h.len]; exact h0)⟩
    have h1 := hc 0 x hx 0 (.int .i64 x) rfl
    rw [hb.cell, List.getElem?_toArray, row_bools, List.getElem?_map] at h1
    cases hq : (mdR m md)[o + 0 * Sh.k Int + 0]? with
    | none => rw [hq] at h1; cases h1
    | some y => rw [hq] at h1; cases h1
  refine ⟨b, o, e, hB, fun j x hj d v hv => ?_⟩
  have := hc j x hj d v hv
  rw [← this]
  unfold World.cell?
  rw [Below.heap_setCell _ ⟨g, i, none⟩ _ b (by show b ≠ g; exact hne)]
theorem refF_9 {s : Ah} {o : Op} {x : Int} (h17 : o.k ≠ 17) (hx : x ∈ mkL o) (hc : s.lp.contains x = true) : refF s o = 9 := by
  unfold refF
  rw [if_neg h17, if_pos (List.any_eq_true.2 ⟨x, hx, hc⟩)]
theorem refF_no {s : Ah} {o : Op} (h17 : o.k ≠ 17) (h : ∀ x ∈ mkL o, s.lp.contains x = false) : refF s o = if o.k = 16 ∧ s.md o.d.toNat = true then 9 else if o.k = 16 ∧ s.lp.length = 8 then 10 else if (tkL o).all (fun t => s.md t.toNat) then 0 else 5 := by
  unfold refF
  rw [if_neg h17, if_neg]
  intro hh
  obtain ⟨x, hx, hc⟩ := List.any_eq_true.1 hh
  rw [h x hx] at hc
  cases hc
theorem all_no {s : Ah} {l : List Int} {x : Int} (hx : x ∈ l) (h : s.md x.toNat = false) : l.all (fun t => s.md t.toNat) = false := by
  rw [Bool.eq_false_iff]
  intro hh
  have := List.all_eq_true.1 hh x hx
  rw [h] at this
  cases this
theorem all_yes {s : Ah} {l : List Int} (h : ∀ x ∈ l, s.md x.toNat = true) : l.all (fun t => s.md t.toNat) = true := List.all_eq_true.2 (fun x hx => h x hx)
theorem take_snoc {l : List Int} {j : Nat} {x : Int} (h : l[j]? = some x) : l.take (j + 1) = l.take j ++ [x] := by rw [List.take_add_one, h]; rfl
end Lb
end Go.Proofs.YtbdhibgljaelbaaDoor
