/- Rows of one's own: a whole row put behind; a whole thing stored anew; the blocks of OwnProg's answers. -/
import Derived.Test.YtbdhibgljaelbaaDoorF3
import Derived.Test.YtbdhibgljaelbaaDoorME
import Derived.Test.YtbdhibgljaelbaaDoorSA
namespace Go.Proofs.YtbdhibgljaelbaaDoor
open Go Go.RowKit Go.Sort Go.Shelf
namespace Lb
open Wd Nt Gr
set_option linter.unusedVariables false
set_option linter.unusedSimpArgs false
theorem ownLt {w : World} {B g n c s m : Nat} {e : TypeId} {ys : List Value} (h : w.ownsRow B e s (.slice (some ⟨g, 0, none⟩) n c) m ys) : B ≤ g ∧ g < w.heap.size := by
  rcases h.2 with ⟨e1, _⟩ | ⟨g', cap, cur, e1, h2, hg, _⟩
  · cases e1
  · cases e1
    exact ⟨h2, (Array.getElem?_eq_some_iff.1 hg).1⟩
/-- a row put behind a row of one's own -/
theorem app_run {T : Type} [Sh T] (st et ty : TypeId) (i : TypeInfo) (z : Value) (bytes : Nat) (hu : Tryd.prog.underlying st = some (.slice et)) (hi : Tryd.prog.info? et = some i) (hz : i.zero = some z) (hs : i.size = Sh.k T) (hb : i.bytes = bytes) (hzs : z.cells.size = Sh.k T) (hb2 : bytes ≤ 1000)
    {W : World} {B B' : Nat} {v : Value} {ys xs : List T} (ho : Rws et B v ys W) {A : Option Addr} {n c : Nat} (h : Rdr W B' A n xs) (hn : n ≤ 100000) (hy : ys.length ≤ 100000) (hB : B ≤ W.heap.size) :
    ∃ v' w3, (Builtin.append_ #[st, st] ty #[v, .slice A n c]).run Tryd.prog W = .ok v' w3 ∧ Rws et B v' (ys ++ xs) w3 ∧ W.grownBy w3 v.ownBlock ∧ (v'.ownBlock = v.ownBlock ∨ v'.ownBlock = some W.heap.size) := by
  have hlen := h.len
  have ho' : W.ownsRow B et (Sh.k T) v ys.length (row ys) := ho
  have app : ∀ (ad : Addr) (m : Nat) (news : List Value), m ≤ 100000 → news.length = m * Sh.k T → (∀ (j : Nat) (u : Value), news[j]? = some u → W.cell? (ad.add j) = some u) → (∀ u ∈ news, u.oneCell' = true) →
      ∃ v' w3, (Builtin.append_ #[st, st] ty #[v, .slice (some ad) m c]).run Tryd.prog W = .ok v' w3 ∧ w3.ownsRow B et (Sh.k T) v' (ys.length + m) (row ys ++ news) ∧ W.grownBy w3 v.ownBlock ∧ (v'.ownBlock = v.ownBlock ∨ v'.ownBlock = some W.heap.size) := fun ad m news hm hnl hnews h1 => by
    obtain ⟨v', w3, hrun, h4, h5, h6, h7⟩ := run_append_own_at (P := Tryd.prog) (w := W) B st ty et i z (Sh.k T) bytes hu hi hz hs hb hzs Sh.pos _ _ _ ho' ad m c news hnl hnews h1 (by simp only [maxLen]; omega) (Nat.le_trans (Nat.mul_le_mul (show ys.length + m ≤ 200000 by omega) hb2) (by decide)) hB
    exact ⟨v', w3, hrun, h4, h5, h7⟩
  rcases Nat.eq_zero_or_pos n with h0 | h0
  · subst h0
    obtain rfl : xs = [] := List.eq_nil_of_length_eq_zero hlen
    rcases A with _ | ad
    · exact ⟨v, W, run_append_nil' st ty et i hu hi _ _ _ _ _ ho' c, by rw [List.append_nil]; exact ho, World.grownBy.refl W _, .inl rfl⟩
    · obtain ⟨v', w3, k1, k2, k3, k4⟩ := app ad 0 [] (by omega) (by simp) (fun j u hu => by simp at hu) (fun u hu => by cases hu)
      refine ⟨v', w3, k1, ?_, k3, k4⟩
      rw [List.append_nil]
      rw [List.append_nil, Nat.add_zero] at k2
      exact k2
  · obtain ⟨ad, rfl, hbad, hat⟩ := rdr_row h h0
    obtain ⟨v', w3, k1, k2, k3, k4⟩ := app ad n (row xs) hn (by rw [row_len, hlen]) (fun j u hu => hat j u hu) (row_one' xs)
    refine ⟨v', w3, k1, ?_, k3, k4⟩
    unfold Rws
    rw [row_app, List.length_append, hlen]
    exact k2
/-- a whole buffer stored anew -/
theorem own_put3 {w : World} {B gl n c j : Nat} {e : TypeId} {xs : List Bf} {x y : Bf} (h : Rws e B (.slice (some ⟨gl, 0, none⟩) n c) xs w) (hn : n = xs.length) (hx : xs[j]? = some x) :
    Rws e B (.slice (some ⟨gl, 0, none⟩) n c) (xs.set j y) (((w.setCell ⟨gl, j * 3, none⟩ (.int .i64 y.sz)).setCell ⟨gl, j * 3 + 1, none⟩ (.int .i64 y.kd)).setCell ⟨gl, j * 3 + 2, none⟩ (.bool y.sec)) := by
  have hl := (List.getElem?_eq_some_iff.1 hx).1
  have h1 := own_put (d := 0) (y := ⟨y.sz, x.kd, x.sec⟩) (u := .int .i64 y.sz) h hn hx (by decide) rfl
  have h2 := own_put (d := 1) (y := ⟨y.sz, y.kd, x.sec⟩) (u := .int .i64 y.kd) h1 (by rw [List.length_set]; exact hn) (List.getElem?_set_self hl) (by decide) rfl
  have h3 := own_put (d := 2) (y := y) (u := .bool y.sec) h2 (by rw [List.length_set, List.length_set]; exact hn) (List.getElem?_set_self (by rw [List.length_set]; exact hl)) (by decide) rfl
  rw [List.set_set, List.set_set] at h3
  exact h3
theorem set_one (xs : List Bf) {j : Nat} {x : Bf} (hx : xs[j]? = some x) (y : Bf) (hj : j < (xs.set j y).length) : (xs.set j y)[j]? = some y := List.getElem?_set_self (by simpa using hj)
/-- a program in a block: its rows its own -/
structure PgB (w W : World) (g : Nat) (rg : Int) (bs : List Bf) (os : List Op) (gA c gX d : Nat) : Prop where
  k : Bk W g 26 #[.int .i64 rg, .slice (some ⟨gA, 0, none⟩) bs.length c, .slice (some ⟨gX, 0, none⟩) os.length d]
  bs : Rws 29 w.heap.size (.slice (some ⟨gA, 0, none⟩) bs.length c) bs W
  os : Rws 33 w.heap.size (.slice (some ⟨gX, 0, none⟩) os.length d) os W
theorem PgB.below {w W W' : World} {g : Nat} {rg : Int} {bs : List Bf} {os : List Op} {gA c gX d : Nat} (h : PgB w W g rg bs os gA c gX d) (hb : Below W.heap.size W W') : PgB w W' g rg bs os gA c gX d :=
  ⟨h.k.below hb h.k.lt, own_below h.bs hb, own_below h.os hb⟩
/-- a cell of another block, and of none of its rows -/
theorem PgB.far {w W : World} {g : Nat} {rg : Int} {bs : List Bf} {os : List Op} {gA c gX d a i : Nat} {u : Value} (h : PgB w W g rg bs os gA c gX d) (h1 : g ≠ a) (h2 : gA ≠ a) (h3 : gX ≠ a) : PgB w (W.setCell ⟨a, i, none⟩ u) g rg bs os gA c gX d :=
  ⟨h.k.far (p := ⟨a, i, none⟩) h1 u, h.bs.kept (row := some a) (only_setCell _ _ _ _) (.inr (by simp [Value.ownBlock]; exact h2)), h.os.kept (row := some a) (only_setCell _ _ _ _) (.inr (by simp [Value.ownBlock]; exact h3))⟩
theorem ownBlk {w : World} {B g n c s m : Nat} {e : TypeId} {ys : List Value} (h : w.ownsRow B e s (.slice (some ⟨g, 0, none⟩) n c) m ys) : ∃ cs, Bk w g e cs := by
  rcases h.2 with ⟨e1, _⟩ | ⟨g', cap, cur, e1, _, hg, _⟩
  · cases e1
  · cases e1
    exact ⟨cur, hg⟩
theorem bk_ne {w : World} {g g' : Nat} {t t' : TypeId} {cs cs' : Array Value} (h : Bk w g t cs) (h' : Bk w g' t' cs') (hne : t ≠ t') : g ≠ g' := by
  intro e
  subst e
  unfold Bk at h h'
  rw [h] at h'
  injection h' with h'
  injection h' with _ h2
  exact hne h2
/-- the blocks of a program are three -/
theorem PgB.ne {w W : World} {g : Nat} {rg : Int} {bs : List Bf} {os : List Op} {gA c gX d : Nat} (h : PgB w W g rg bs os gA c gX d) : g ≠ gA ∧ g ≠ gX ∧ gA ≠ gX := by
  obtain ⟨ca, ha⟩ := ownBlk h.bs
  obtain ⟨cx, hx⟩ := ownBlk h.os
  exact ⟨bk_ne h.k ha (by decide), bk_ne h.k hx (by decide), bk_ne ha hx (by decide)⟩
theorem PgB.rd {w W : World} {g : Nat} {rg : Int} {bs : List Bf} {os : List Op} {gA c gX d : Nat} (h : PgB w W g rg bs os gA c gX d) : Rdr W W.heap.size (some ⟨gA, 0, none⟩) bs.length bs ∧ Rdr W W.heap.size (some ⟨gX, 0, none⟩) os.length os := ⟨(rws_rd h.bs).2.1, (rws_rd h.os).2.1⟩
/-- a buffer made public -/
theorem PgB.pub {w W : World} {g : Nat} {rg : Int} {bs : List Bf} {os : List Op} {gA c gX d k : Nat} {b : Bf} (h : PgB w W g rg bs os gA c gX d) (hb : bs[k]? = some b) : PgB w (W.setCell ⟨gA, k * 3 + 2, none⟩ (.bool false)) g rg (bs.set k (er b)) os gA c gX d := by
  have h1 : Rws 29 w.heap.size (.slice (some ⟨gA, 0, none⟩) bs.length c) (bs.set k (er b)) (W.setCell ⟨gA, k * 3 + 2, none⟩ (.bool false)) := own_put (d := 2) (y := er b) h.bs rfl hb (by decide) rfl
  refine ⟨?_, ?_, h.os.kept (row := some gA) (only_setCell _ _ _ _) (.inr (by simp [Value.ownBlock]; exact fun e => h.ne.2.2 e.symm))⟩
  · rw [List.length_set]
    exact h.k.far (p := ⟨gA, k * 3 + 2, none⟩) h.ne.1 _
  · rw [List.length_set]
    exact h1
/-- a whole buffer put in -/
theorem PgB.put {w W : World} {g : Nat} {rg : Int} {bs : List Bf} {os : List Op} {gA c gX d k : Nat} {b : Bf} (h : PgB w W g rg bs os gA c gX d) (hb : bs[k]? = some b) (y : Bf) :
    PgB w (((W.setCell ⟨gA, k * 3, none⟩ (.int .i64 y.sz)).setCell ⟨gA, k * 3 + 1, none⟩ (.int .i64 y.kd)).setCell ⟨gA, k * 3 + 2, none⟩ (.bool y.sec)) g rg (bs.set k y) os gA c gX d := by
  refine ⟨?_, ?_, ?_⟩
  · rw [List.length_set]
    exact ((h.k.far (p := ⟨gA, k * 3, none⟩) h.ne.1 _).far (p := ⟨gA, k * 3 + 1, none⟩) h.ne.1 _).far (p := ⟨gA, k * 3 + 2, none⟩) h.ne.1 _
  · rw [List.length_set]
    exact own_put3 h.bs rfl hb
  · have hn : ∀ {W : World}, W.ownsRow w.heap.size 33 (Sh.k Op) (.slice (some ⟨gX, 0, none⟩) os.length d) os.length (row os) → ∀ i u, (W.setCell ⟨gA, i, none⟩ u).ownsRow w.heap.size 33 (Sh.k Op) (.slice (some ⟨gX, 0, none⟩) os.length d) os.length (row os) := fun h0 i u => h0.kept (row := some gA) (only_setCell _ _ _ _) (.inr (by simp [Value.ownBlock]; exact fun e => h.ne.2.2 e.symm))
    exact hn (hn (hn h.os _ _) _ _) _ _
/-- an operation's buffer turned -/
theorem PgB.bf {w W : World} {g : Nat} {rg : Int} {bs : List Bf} {os : List Op} {gA c gX d k : Nat} {o : Op} (h : PgB w W g rg bs os gA c gX d) (ho : os[k]? = some o) (z : Int) :
    PgB w (W.setCell ⟨gX, k * 8 + 6, none⟩ (.int .i64 z)) g rg bs (os.set k { o with bf := z }) gA c gX d := by
  refine ⟨?_, h.bs.kept (row := some gX) (only_setCell _ _ _ _) (.inr (by simp [Value.ownBlock]; exact h.ne.2.2)), ?_⟩
  · rw [List.length_set]
    exact h.k.far (p := ⟨gX, k * 8 + 6, none⟩) h.ne.2.1 _
  · rw [List.length_set]
    exact own_put (d := 6) (y := { o with bf := z }) h.os rfl ho (by decide) rfl
theorem OwnP.pgB {p : Pg} {w W : World} {g gA c gX d : Nat} (hk : Bk W g 26 #[.int .i64 p.rg, .slice (some ⟨gA, 0, none⟩) p.bf.length c, .slice (some ⟨gX, 0, none⟩) p.op.length d])
    (h1 : Rws 29 w.heap.size (.slice (some ⟨gA, 0, none⟩) p.bf.length c) p.bf W) (h2 : Rws 33 w.heap.size (.slice (some ⟨gX, 0, none⟩) p.op.length d) p.op W) : PgB w W g p.rg p.bf p.op gA c gX d := ⟨hk, h1, h2⟩
end Lb
end Go.Proofs.YtbdhibgljaelbaaDoor
