/- ScanAlone: what its walks need. -/
import Derived.Test.YtaocplcmmpbjjaaDoorOC
import Derived.Deep.RegionHeld3
import Derived.Lib.SliceRun
import Derived.Deep.Cut
import Derived.Deep.CutRange
namespace Go.Proofs.YtaocplcmmpbjjaaDoor
open Go Go.RowKit Go.Maps Go.Shelf
namespace scanAlone
open Nt Sn
open Gr (Rdr Rws row Sh rws_rd rws_form)
set_option linter.unusedVariables false
set_option linter.unusedSimpArgs false
theorem rowP_at {xs : List TV} {w w' : World} {v : Value} (h : RowP xs w v w') : ∃ A n c, v = .slice A n c ∧ n = xs.length ∧ n ≤ c ∧ Rdr w' w'.heap.size A n xs ∧ Below w.heap.size w w' := by
  obtain ⟨A, c, h1, h0, h2, h3⟩ := h
  exact ⟨A, _, c, h1, rfl, h0, h2, h3⟩
theorem tx_len (s : ByteArray) : (Tx s).length ≤ s.size + 1 := by
  have h := tl_len1 s
  rw [tl_scn] at h
  have h2 : (scn s).1.length ≤ s.size + 1 := by simpa [toks] using h
  unfold Tx
  rw [List.length_map]
  omega
/-- All's answer of a source without an error -/
theorem all_y {s : ByteArray} (hs : s.size ≤ 65536) (h : (scn s).2 = none) (W : World) (hT : Lib.Utf8Tabs 0 1 W) :
    Calls Tryd.prog 9 #[.string s] W fun e w' => ∃ v, e = .returned (.tuple #[v, .int .i64 (s.size : Int), .int .i64 0]) ∧ RowP (Tx s) W v w' := by
  obtain ⟨a1, a2, a3⟩ := all_ok hs h
  have := all_r s (by omega) W hT
  unfold AllR at this
  rw [a1, a2, a3] at this
  exact this
theorem all_n {s : ByteArray} {p y : Nat} (hs : s.size ≤ 65536) (h : (scn s).2 = some (p, y)) (W : World) (hT : Lib.Utf8Tabs 0 1 W) :
    Calls Tryd.prog 9 #[.string s] W fun e w' => ∃ v, e = .returned (.tuple #[v, .int .i64 (p : Int), .int .i64 (y : Int)]) ∧ RowP [] W v w' := by
  obtain ⟨a1, a2, a3, _⟩ := all_err hs h
  have := all_r s (by omega) W hT
  unfold AllR at this
  rw [a1, a2, a3] at this
  exact this
/-- a word among a source's -/
theorem tx_word (s : ByteArray) {i : Nat} {x : TV} (h : (Tx s)[i]? = some x) : ∃ rs, WOk x.k rs ∧ rn (Bs x.t) = rs ∧ x.t.size ≤ s.size := by
  unfold Tx at h
  rw [List.getElem?_map] at h
  obtain ⟨t, ht, rfl⟩ := Option.map_eq_some_iff.1 h
  obtain ⟨h1, h2, h3, h4⟩ := scn_at s t (List.mem_of_getElem? ht)
  refine ⟨t.rs, h1, h2, ?_⟩
  show (wtx (Bs s) t).toArray.size ≤ _
  rw [List.size_toArray, h3]
  omega
theorem keepA6 {W : World} {a b c d e f : Addr} {u v x y z t : Value} (h : W.cell? a = some u ∧ W.cell? b = some v ∧ W.cell? c = some x ∧ W.cell? d = some y ∧ W.cell? e = some z ∧ W.cell? f = some t) (o : Obj) :
    (W.alloc o).cell? a = some u ∧ (W.alloc o).cell? b = some v ∧ (W.alloc o).cell? c = some x ∧ (W.alloc o).cell? d = some y ∧ (W.alloc o).cell? e = some z ∧ (W.alloc o).cell? f = some t :=
  ⟨Lib.cell?_alloc_some o h.1, Lib.cell?_alloc_some o h.2.1, Lib.cell?_alloc_some o h.2.2.1, Lib.cell?_alloc_some o h.2.2.2.1, Lib.cell?_alloc_some o h.2.2.2.2.1, Lib.cell?_alloc_some o h.2.2.2.2.2⟩
/-- the ways of a word -/
theorem five {X : ByteArray} {k : Nat} {rs : List Rn} (h : WOk k rs) (hX : rn (Bs X) = rs) :
    (X.size ≠ 1 ∧ k = 1) ∨ (X.size ≠ 1 ∧ k = 2) ∨ (X.size = 1 ∧ k = 2) ∨ (∃ hp : 0 < X.size, X.size = 1 ∧ k = 1 ∧ letR (X[0]'hp).toNat = true) ∨ (∃ hp : 0 < X.size, X.size = 1 ∧ k = 3 ∧ letR (X[0]'hp).toNat = false) := by
  have hb : ∀ b : UInt8, Bs X = [b] → ∃ hp : 0 < X.size, X.size = 1 ∧ X[0]'hp = b := by
    intro b hb
    obtain ⟨d⟩ := X
    have hd : d = #[b] := by
      have h1 : d.toList = [b] := hb
      rw [← Array.toArray_toList (xs := d), h1]
    subst hd
    exact ⟨Nat.one_pos, rfl, rfl⟩
  have hk := h.1
  by_cases h3 : k = 3
  · subst h3
    obtain ⟨b, h1, h2⟩ := word_sign h hX
    obtain ⟨hp, h4, h5⟩ := hb b h1
    exact .inr (.inr (.inr (.inr ⟨hp, h4, rfl, by rw [h5]; exact h2⟩)))
  · by_cases h1 : X.size = 1
    · by_cases h2 : k = 2
      · exact .inr (.inr (.inl ⟨h1, h2⟩))
      · obtain rfl : k = 1 := by omega
        obtain ⟨b, h4, h5⟩ := word_name h hX h1
        obtain ⟨hp, h6, h7⟩ := hb b h4
        exact .inr (.inr (.inr (.inl ⟨hp, h6, rfl, by rw [h7]; exact h5⟩)))
    · by_cases h2 : k = 2
      · exact .inr (.inl ⟨h1, h2⟩)
      · exact .inl ⟨h1, by omega⟩
end scanAlone
end Go.Proofs.YtaocplcmmpbjjaaDoor
