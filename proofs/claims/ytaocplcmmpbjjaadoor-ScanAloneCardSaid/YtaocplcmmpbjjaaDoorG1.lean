/- Rows of things of any kind, each some cells wide: read, and of one's own. -/
import Derived.Test.YtaocplcmmpbjjaaDoorA1
import Derived.Maps.AppendAt
import Derived.Laws.AppendOwn
namespace Go.Proofs.YtaocplcmmpbjjaaDoor
open Go Go.RowKit
namespace Gr
open Nt
set_option linter.unusedVariables false
set_option linter.unusedSimpArgs false
def I64 (z : Int) : Prop := -9223372036854775808 ≤ z ∧ z ≤ 9223372036854775807
theorem I64.lit {z : Int} (h : I64 z) : (Lit.int .i64 z).wf = true := by
  unfold I64 at h
  simp only [Lit.wf, Bool.and_eq_true, decide_eq_true_eq]
  exact ⟨h.1, h.2⟩
/-- things of one kind: their cells, how many each has -/
class Sh (T : Type) where
  vs : T → List Value
  k : Nat
  len : ∀ x, (vs x).length = k
  one : ∀ x, ∀ v ∈ vs x, v.oneCell' = true
  pos : 0 < k
section
variable {T : Type} [Sh T]
def row (xs : List T) : List Value := xs.flatMap Sh.vs
theorem row_nil : row ([] : List T) = [] := rfl
theorem row_app (xs ys : List T) : row (xs ++ ys) = row xs ++ row ys := List.flatMap_append
theorem row_one (x : T) : row [x] = Sh.vs x := by unfold row; simp
theorem row_len (xs : List T) : (row xs).length = xs.length * Sh.k T := by
  induction xs with
  | nil => simp [row]
  | cons x xs ih =>
    show (Sh.vs x ++ row xs).length = _
    rw [List.length_append, ih, List.length_cons, Sh.len, Nat.add_mul, Nat.one_mul, Nat.add_comm]
theorem row_get {xs : List T} {j d : Nat} {x : T} (h : xs[j]? = some x) (hd : d < Sh.k T) : (row xs)[j * Sh.k T + d]? = (Sh.vs x)[d]? := by
  induction xs generalizing j with
  | nil => cases h
  | cons p xs ih =>
    show (Sh.vs p ++ row xs)[j * Sh.k T + d]? = _
    cases j with
    | zero =>
      obtain rfl : p = x := by simpa using h
      rw [Nat.zero_mul, Nat.zero_add, List.getElem?_append_left (by rw [Sh.len]; exact hd)]
    | succ j =>
      have h' : xs[j]? = some x := by simpa using h
      rw [Nat.add_mul, Nat.one_mul, List.getElem?_append_right (by rw [Sh.len]; omega), Sh.len, show j * Sh.k T + Sh.k T + d - Sh.k T = j * Sh.k T + d by omega]
      exact ih h'
theorem row_one' (xs : List T) : ∀ v ∈ row xs, v.oneCell' = true := by
  intro v hv
  unfold row at hv
  obtain ⟨x, _, hx⟩ := List.mem_flatMap.1 hv
  exact Sh.one x v hx
theorem add_at (b o k : Nat) : (⟨b, o, none⟩ : Addr).add k = ⟨b, o + k, none⟩ := by
  unfold Addr.add; split
  · rename_i e; simp [e]
  · simp
/-- a slice at block b, from place o on, reads as xs, below block B -/
structure Rdr (w : World) (B : Nat) (A : Option Addr) (n : Nat) (xs : List T) : Prop where
  len : xs.length = n
  rd : 0 < n → ∃ b o, A = some ⟨b, o, none⟩ ∧ b < B ∧ ∀ (j : Nat) (x : T), xs[j]? = some x → ∀ (d : Nat) (v : Value), (Sh.vs x)[d]? = some v → w.cell? ⟨b, o + j * Sh.k T + d, none⟩ = some v
variable {w w' : World} {B B' n : Nat} {A : Option Addr} {xs : List T}
theorem Rdr.nil : Rdr w B A 0 ([] : List T) := ⟨rfl, fun h => absurd h (by omega)⟩
theorem Rdr.keep (h : Rdr w B A n xs) (hk : ∀ p : Addr, p.block < B → w'.cell? p = w.cell? p) : Rdr w' B A n xs :=
  ⟨h.len, fun h0 => by
    obtain ⟨b, o, e, hb, hc⟩ := h.rd h0
    exact ⟨b, o, e, hb, fun j x hj d v hv => (hk _ hb).trans (hc j x hj d v hv)⟩⟩
theorem Rdr.below (h : Rdr w B A n xs) (hb : Below B w w') : Rdr w' B A n xs := h.keep fun _ hp => hb.cell hp
theorem Rdr.more (h : Rdr w B A n xs) (hb : B ≤ B') : Rdr w B' A n xs :=
  ⟨h.len, fun h0 => by obtain ⟨b, o, e, hB, hc⟩ := h.rd h0; exact ⟨b, o, e, Nat.lt_of_lt_of_le hB hb, hc⟩⟩
/-- the cells of thing j -/
theorem Rdr.at_ (h : Rdr w B A n xs) {j : Nat} {x : T} (hj : xs[j]? = some x) : ∃ b o, A = some ⟨b, o, none⟩ ∧ b < B ∧ ∀ (d : Nat) (v : Value), (Sh.vs x)[d]? = some v → w.cell? ⟨b, o + j * Sh.k T + d, none⟩ = some v := by
  obtain ⟨b, o, e, hb, hc⟩ := h.rd (by rw [← h.len]; have := (List.getElem?_eq_some_iff.1 hj).1; omega)
  exact ⟨b, o, e, hb, hc j x hj⟩
/-- things of one's own -/
abbrev Rws (e : TypeId) (B : Nat) (v : Value) (xs : List T) (w : World) : Prop := w.ownsRow B e (Sh.k T) v xs.length (row xs)
theorem rws_form {e : TypeId} {v : Value} (h : Rws e B v xs w) : ∃ A c, v = .slice A xs.length c ∧ xs.length ≤ c := by
  rcases h.2 with ⟨e, h0⟩ | ⟨g, cap, cur, e, h2, h3, h4, _⟩
  · exact ⟨none, 0, by rw [e, h0], by omega⟩
  · exact ⟨_, _, e, h4⟩
theorem rws_rd {e : TypeId} {c : Nat} (h : Rws e B (.slice A n c) xs w) : n = xs.length ∧ Rdr w w.heap.size A n xs ∧ n ≤ c ∧ (∀ g o, A = some ⟨g, o, none⟩ → B ≤ g) := by
  have hh := h
  rcases h.2 with ⟨e, h0⟩ | ⟨g, cap, cur, e, h2, h3, h4⟩
  · cases e
    obtain rfl : xs = [] := List.eq_nil_of_length_eq_zero h0
    exact ⟨rfl, ⟨rfl, fun h => absurd h (by omega)⟩, Nat.le_refl _, fun g o e => by cases e⟩
  · cases e
    have hlt : g < w.heap.size := (Array.getElem?_eq_some_iff.1 h3).1
    refine ⟨rfl, ⟨rfl, fun _ => ⟨g, 0, rfl, hlt, fun j i hj d v hv => ?_⟩⟩, h4.1, fun g' o e => by cases e; exact h2⟩
    have hjl : j < xs.length := (List.getElem?_eq_some_iff.1 hj).1
    have hd : d < Sh.k T := by
      have := (List.getElem?_eq_some_iff.1 hv).1
      rw [Sh.len] at this
      exact this
    rw [Nat.zero_add]
    have hlt2 : j * Sh.k T + d < xs.length * Sh.k T := by
      have h1 : (j + 1) * Sh.k T ≤ xs.length * Sh.k T := Nat.mul_le_mul_right _ hjl
      rw [Nat.add_mul, Nat.one_mul] at h1
      omega
    rw [World.ownsRow.cellAt hh (j * Sh.k T + d) hlt2, row_get hj hd]
    exact hv
/-- a block that is just these things -/
theorem bk_rdr {g : Nat} {t : TypeId} (h : Bk w g t (row xs).toArray) (hB : g < B) : Rdr w B (some ⟨g, 0, none⟩) xs.length xs :=
  ⟨rfl, fun _ => ⟨g, 0, rfl, hB, fun j i hj d v hv => by
    have hd : d < Sh.k T := by
      have := (List.getElem?_eq_some_iff.1 hv).1
      rw [Sh.len] at this
      exact this
    rw [Nat.zero_add, h.cell, List.getElem?_toArray, row_get hj hd]
    exact hv⟩⟩
end
theorem bel_tr {a b c : World} (h : Below a.heap.size a b) (k : Below b.heap.size b c) : Below a.heap.size a c := h.trans (k.mono h.size)
theorem bel_al {w : World} (o : Obj) : Below w.heap.size w (w.alloc o) := (Below.refl _ w).alloc (Nat.le_refl _) o
theorem bel_al' {w x : World} (h : Below w.heap.size w x) (o : Obj) : Below w.heap.size w (x.alloc o) := h.alloc h.size o
theorem c8 {w : World} {g : Nat} {t : TypeId} {v0 v1 v2 v3 v4 v5 v6 v7 : Value} (h : Bk w g t #[v0, v1, v2, v3, v4, v5, v6, v7]) :
    w.cell? ⟨g, 0, none⟩ = some v0 ∧ w.cell? ⟨g, 1, none⟩ = some v1 ∧ w.cell? ⟨g, 2, none⟩ = some v2 ∧ w.cell? ⟨g, 3, none⟩ = some v3 ∧ w.cell? ⟨g, 4, none⟩ = some v4 ∧ w.cell? ⟨g, 5, none⟩ = some v5 ∧ w.cell? ⟨g, 6, none⟩ = some v6 ∧ w.cell? ⟨g, 7, none⟩ = some v7 :=
  ⟨h.cell 0, h.cell 1, h.cell 2, h.cell 3, h.cell 4, h.cell 5, h.cell 6, h.cell 7⟩
theorem c3 {w : World} {g : Nat} {t : TypeId} {v0 v1 v2 : Value} (h : Bk w g t #[v0, v1, v2]) :
    w.cell? ⟨g, 0, none⟩ = some v0 ∧ w.cell? ⟨g, 1, none⟩ = some v1 ∧ w.cell? ⟨g, 2, none⟩ = some v2 := ⟨h.cell 0, h.cell 1, h.cell 2⟩
theorem c2 {w : World} {g : Nat} {t : TypeId} {v0 v1 : Value} (h : Bk w g t #[v0, v1]) :
    w.cell? ⟨g, 0, none⟩ = some v0 ∧ w.cell? ⟨g, 1, none⟩ = some v1 := ⟨h.cell 0, h.cell 1⟩
end Gr
end Go.Proofs.YtaocplcmmpbjjaaDoor
