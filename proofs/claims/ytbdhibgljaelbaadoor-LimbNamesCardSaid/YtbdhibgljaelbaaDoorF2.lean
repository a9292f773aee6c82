/- The statements' own helpers: Own at buffers, operations, words; OwnProg. -/
import Derived.Test.YtbdhibgljaelbaaDoorR4
import Derived.Test.YtbdhibgljaelbaaDoorN4
namespace Go.Proofs.YtbdhibgljaelbaaDoor
open Go Go.RowKit Go.Sort Go.Shelf
namespace Lb
open Wd Nt Gr
set_option linter.unusedVariables false
set_option linter.unusedSimpArgs false
theorem run_append_nil' {w : World} (t ty e : TypeId) (i : TypeInfo) (ht : Tryd.prog.underlying t = some (.slice e)) (hi : Tryd.prog.info? e = some i)
    (v : Value) (n : Nat) (xs : List Value) (base size : Nat) (hown : w.ownsRow base e size v n xs) (c : Nat) : (Builtin.append_ #[t, t] ty #[v, .slice none 0 c]).run Tryd.prog w = .ok v w := by
  rcases hown.2 with ⟨rfl, rfl⟩ | ⟨g, cap, cur, rfl, _, _, hnc, _⟩
  · simp [Builtin.append_, run_underlying ht, sizeOf, typeInfo, hi, Builtin.lenOf, Builtin.firstCells]
  · simp [Builtin.append_, run_underlying ht, sizeOf, typeInfo, hi, Builtin.lenOf, Builtin.firstCells, hnc, storeCells]
theorem rdr_row {T : Type} [Sh T] {w : World} {B n : Nat} {A : Option Addr} {xs : List T} (h : Rdr w B A n xs) (h0 : 0 < n) : ∃ ad, A = some ad ∧ ad.block < B ∧ ∀ (j : Nat) (u : Value), (row xs)[j]? = some u → w.cell? (ad.add j) = some u := by
  obtain ⟨b, o, e, hB, hc⟩ := h.rd h0
  refine ⟨_, e, hB, fun j u hu => ?_⟩
  have hj := (List.getElem?_eq_some_iff.1 hu).1
  rw [row_len] at hj
  have hk := Sh.pos (T := T)
  have hd : j % Sh.k T < Sh.k T := Nat.mod_lt _ hk
  have hq : j / Sh.k T < xs.length := Nat.div_lt_of_lt_mul (by rw [Nat.mul_comm]; exact hj)
  have hx := List.getElem?_eq_getElem hq
  have he : j = j / Sh.k T * Sh.k T + j % Sh.k T := by rw [Nat.mul_comm]; exact (Nat.div_add_mod j _).symm
  rw [he, row_get hx hd] at hu
  have := hc _ _ hx _ _ hu
  rw [add_at]
  rw [Nat.add_assoc, ← he] at this
  exact this
/-- a row in memory of its own: the append -/
theorem own_run {T : Type} [Sh T] (st et : TypeId) (i : TypeInfo) (z : Value) (bytes : Nat) (hu : Tryd.prog.underlying st = some (.slice et)) (hi : Tryd.prog.info? et = some i) (hz : i.zero = some z) (hs : i.size = Sh.k T) (hb : i.bytes = bytes) (hzs : z.cells.size = Sh.k T) (hb2 : bytes ≤ 1000)
    {w : World} {A : Option Addr} {n c : Nat} {xs : List T} (h : Rdr w w.heap.size A n xs) (hn : n ≤ 100000) :
    ∃ g c' w3, (Builtin.append_ #[st, st] st #[.slice (some ⟨w.heap.size, 0, none⟩) 0 0, .slice A n c]).run Tryd.prog (w.alloc (.cells #[] et)) = .ok (.slice (some ⟨g, 0, none⟩) n c') w3 ∧ Below w.heap.size w w3 ∧ Rws et w.heap.size (.slice (some ⟨g, 0, none⟩) n c') xs w3 := by
  have hb2' : Below w.heap.size w (w.alloc (.cells #[] et)) := bel_al _
  have hlen := h.len
  have hown0 := bk_rws (t := et) (B := w.heap.size) (xs := ([] : List T)) (w := w.alloc (.cells #[] et)) (g := w.heap.size) (Bk.new _ _ _) (Nat.le_refl _) (by simp)
  have hown : (w.alloc (.cells #[] et)).ownsRow w.heap.size et (Sh.k T) (.slice (some ⟨w.heap.size, 0, none⟩) 0 0) 0 [] := hown0
  have key : ∃ g c' w3, (Builtin.append_ #[st, st] st #[.slice (some ⟨w.heap.size, 0, none⟩) 0 0, .slice A n c]).run Tryd.prog (w.alloc (.cells #[] et)) = .ok (.slice (some ⟨g, 0, none⟩) n c') w3 ∧ Below w.heap.size w w3 ∧ w3.ownsRow w.heap.size et (Sh.k T) (.slice (some ⟨g, 0, none⟩) n c') n (row xs) := by
    have app : ∀ (ad : Addr) (m : Nat) (news : List Value), m ≤ 100000 → news.length = m * Sh.k T → (∀ (j : Nat) (u : Value), news[j]? = some u → (w.alloc (.cells #[] et)).cell? (ad.add j) = some u) → (∀ u ∈ news, u.oneCell' = true) →
        ∃ g c' w3, (Builtin.append_ #[st, st] st #[.slice (some ⟨w.heap.size, 0, none⟩) 0 0, .slice (some ad) m c]).run Tryd.prog (w.alloc (.cells #[] et)) = .ok (.slice (some ⟨g, 0, none⟩) m c') w3 ∧ Below w.heap.size w w3 ∧ w3.ownsRow w.heap.size et (Sh.k T) (.slice (some ⟨g, 0, none⟩) m c') m news := fun ad m news hm hnl hnews h1 => by
      obtain ⟨v', w3, hrun, h4, h5, h6, _⟩ := run_append_own_at (P := Tryd.prog) (w := w.alloc (.cells #[] et)) w.heap.size st st et i z (Sh.k T) bytes hu hi hz hs hb hzs Sh.pos _ 0 _ hown ad m c news hnl hnews h1 (by simp only [maxLen]; omega) (by rw [Nat.zero_add]; exact Nat.le_trans (Nat.mul_le_mul hm hb2) (by decide)) (by rw [World.size_alloc]; exact Nat.le_succ _)
      have hb3 : Below w.heap.size w w3 := Below.grown hb2' h5 (by rw [World.size_alloc]; exact Nat.le_succ _) (fun k e => by simp [Value.ownBlock] at e; omega)
      rw [List.nil_append, Nat.zero_add] at h4
      rcases h4.2 with ⟨e, _⟩ | ⟨g, c', cur, rfl, _⟩
      · exact absurd (h6.1 e).1 (by intro e; cases e)
      · exact ⟨g, c', w3, hrun, hb3, h4⟩
    rcases Nat.eq_zero_or_pos n with h0 | h0
    · subst h0
      obtain rfl : xs = [] := List.eq_nil_of_length_eq_zero hlen
      rcases A with _ | ad
      · exact ⟨w.heap.size, 0, _, run_append_nil' st st et i hu hi _ _ _ _ _ hown c, hb2', hown⟩
      · exact app ad 0 [] (by omega) (by simp) (fun j u hu => by simp at hu) (fun u hu => by cases hu)
    · obtain ⟨ad, rfl, hbad, hat⟩ := rdr_row h h0
      exact app ad n (row xs) hn (by rw [row_len, hlen]) (fun j u hu => by rw [hb2'.cell (by rw [Nt.block_add]; exact hbad)]; exact hat j u hu) (row_one' xs)
  obtain ⟨g, c', w3, k1, k2, k3⟩ := key
  exact ⟨g, c', w3, k1, k2, by unfold Rws; rw [hlen]; exact k3⟩
set_option maxRecDepth 100000 in
theorem info_bf : (Tryd.prog.info? 29).map (fun i => (i.zero, i.size, i.bytes)) = some (some (.agg #[.int .i64 0, .int .i64 0, .bool false]), 3, 24) := by kernel_rfl
set_option maxRecDepth 100000 in
theorem info_lop : (Tryd.prog.info? 33).map (fun i => (i.zero, i.size, i.bytes)) = some (some (.agg #[.int .i64 0, .int .i64 0, .int .i64 0, .int .i64 0, .int .i64 0, .int .i64 0, .int .i64 0, .int .u64 0]), 8, 64) := by kernel_rfl
/-- what Own answers -/
def OwnA {T : Type} [Sh T] (t : TypeId) (xs : List T) (w : World) (e : Ending) (w' : World) : Prop := Below w.heap.size w w' ∧ ∃ g c, e = .returned (.slice (some ⟨g, 0, none⟩) xs.length c) ∧ Rws t w.heap.size (.slice (some ⟨g, 0, none⟩) xs.length c) xs w'
theorem ownB_c (A : Option Addr) (n c : Nat) (xs : List Bf) (w : World) (h : Rdr w w.heap.size A n xs) (hn : n ≤ 100000) :
    Calls Tryd.prog 52 #[.slice A n c] w (OwnA 29 xs w) := by
  obtain ⟨i, hi, hz, h2, h3⟩ := info_parts info_bf
  obtain ⟨g, c', w3, hap, hb3, hS⟩ := own_run (c := c) 23 29 i _ 24 Tryd.underlying23 hi hz h2 h3 rfl (by omega) h hn
  have hP : Hid (OwnA 29 xs w (.returned (.slice (some ⟨g, 0, none⟩) n c')) w3) := Lib.hid ⟨hb3, g, c', by rw [h.len], by rw [h.len]; exact hS⟩
  clear hi hz h2 h3 hb3 hS h
  go_enter Tryd.func52, Tryd.ntmps52
  go_wp2_with (at_builtin; refine wpList_append_eq rfl (.tmp 3) (.tmp 4) 23 rfl _ _ rfl rfl _ _ hap ?_)
  go_ret
  exact hP.out
theorem ownO_c (A : Option Addr) (n c : Nat) (xs : List Op) (w : World) (h : Rdr w w.heap.size A n xs) (hn : n ≤ 100000) :
    Calls Tryd.prog 11 #[.slice A n c] w (OwnA 33 xs w) := by
  obtain ⟨i, hi, hz, h2, h3⟩ := info_parts info_lop
  obtain ⟨g, c', w3, hap, hb3, hS⟩ := own_run (c := c) 24 33 i _ 64 Tryd.underlying24 hi hz h2 h3 rfl (by omega) h hn
  have hP : Hid (OwnA 33 xs w (.returned (.slice (some ⟨g, 0, none⟩) n c')) w3) := Lib.hid ⟨hb3, g, c', by rw [h.len], by rw [h.len]; exact hS⟩
  clear hi hz h2 h3 hb3 hS h
  go_enter Tryd.func11, Tryd.ntmps11
  go_wp2_with (at_builtin; refine wpList_append_eq rfl (.tmp 3) (.tmp 4) 24 rfl _ _ rfl rfl _ _ hap ?_)
  go_ret
  exact hP.out
end Lb
end Go.Proofs.YtbdhibgljaelbaaDoor
