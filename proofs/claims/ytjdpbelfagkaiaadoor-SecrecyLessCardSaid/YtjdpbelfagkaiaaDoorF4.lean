/- Rows of one's own: a whole row put behind; a whole thing stored anew; the blocks of OwnProg's answers. | Two programs in memory of their own, side by side. | A program, one of its own beside it, a third one beside that. -/
import Derived.Test.YtjdpbelfagkaiaaDoorF3
import Derived.Test.YtjdpbelfagkaiaaDoorME
import Derived.Test.YtjdpbelfagkaiaaDoorSA
import Derived.Test.YtjdpbelfagkaiaaDoorF1
namespace Go.Proofs.YtjdpbelfagkaiaaDoor
open Go Go.RowKit Go.Sort Go.Shelf
namespace Lb
open Wd Nt Gr
set_option linter.unusedVariables false
set_option linter.unusedSimpArgs false
/-- a row put behind a row of one's own -/
theorem app_run {T : Type} [Sh T] (st et ty : TypeId) (i : TypeInfo) (z : Value) (bytes : Nat) (hu : Tryd.prog.underlying st = some (.slice et)) (hi : Tryd.prog.info? et = some i) (hz : i.zero = some z) (hs : i.size = Sh.k T) (hb : i.bytes = bytes) (hzs : z.cells.size = Sh.k T) (hb2 : bytes ≤ 1000)
    {W : World} {B B' : Nat} {v : Value} {ys xs : List T} (ho : Rws et B v ys W) {A : Option Addr} {n c : Nat} (h : Rdr W B' A n xs) (hn : n ≤ 100000) (hy : ys.length ≤ 100000) (hB : B ≤ W.heap.size) :
    ∃ v' w3, (Builtin.append_ #[st, st] ty #[v, .slice A n c]).run Tryd.prog W = .ok v' w3 ∧ Rws et B v' (ys ++ xs) w3 ∧ W.grownBy w3 v.ownBlock ∧ (v'.ownBlock = v.ownBlock ∨ v'.ownBlock = some W.heap.size) := by
  have hlen := h.len
  have ho' : W.ownsRow B et (Sh.k T) v ys.length (row ys) := ho
  have app : ∀ (ad : Addr) (m : Nat) (news : List Value), m ≤ 100000 → news.length = m * Sh.k T → (∀ (j : Nat) (u : Value), news[j]? = some u → W.cell? (ad.add j) = some u) → (∀ u ∈ news, u.oneCell' = true) →
      ∃ v' w3, (Builtin.append_ #[st, st] ty #[v, .slice (some ad) m c]).run Tryd.prog W = .ok v' w3 ∧ w3.ownsRow B et (Sh.k T) v' (ys.length + m) (row ys ++ news) ∧ W.grownBy w3 v.ownBlock ∧ (v'.ownBlock = v.ownBlock ∨ v'.ownBlock = some W.heap.size) := fun ad m news hm hnl hnews h1 => by
    obtain ⟨v', w3, hrun, h4, h5, h6, h7⟩ := run_append_own_at (P := Tryd.prog) (w := W) B st ty et i z (Sh.k T) bytes hu hi hz hs hb hzs Sh.pos _ _ _ ho' ad m c news hnl hnews h1 (by simp only [maxLen]; omega) (Nat.le_trans (Nat.mul_le_mul (show ys.length + m ≤ 200000 by omega) hb2) (by decide)) hB
    exact ⟨v', w3, hrun, h4, h5, h7⟩
  rcases Nat.eq_zero_or_pos n with h0 | h0
  · subst h0
    obtain rfl : xs = [] := List.eq_nil_of_length_eq_zero hlen
    rcases A with _ | ad
    · exact ⟨v, W, run_append_nil' st ty et i hu hi _ _ _ _ _ ho' c, by rw [List.append_nil]; exact ho, World.grownBy.refl W _, .inl rfl⟩
    · obtain ⟨v', w3, k1, k2, k3, k4⟩ := app ad 0 [] (by omega) (by simp) (fun j u hu => by simp at hu) (fun u hu => by cases hu)
      refine ⟨v', w3, k1, ?_, k3, k4⟩
      rw [List.append_nil]
      rw [List.append_nil, Nat.add_zero] at k2
      exact k2
  · obtain ⟨ad, rfl, hbad, hat⟩ := rdr_row h h0
    obtain ⟨v', w3, k1, k2, k3, k4⟩ := app ad n (row xs) hn (by rw [row_len, hlen]) (fun j u hu => hat j u hu) (row_one' xs)
    refine ⟨v', w3, k1, ?_, k3, k4⟩
    unfold Rws
    rw [row_app, List.length_append, hlen]
    exact k2
/-- a whole buffer stored anew -/
theorem own_put3 {w : World} {B gl n c j : Nat} {e : TypeId} {xs : List Bf} {x y : Bf} (h : Rws e B (.slice (some ⟨gl, 0, none⟩) n c) xs w) (hn : n = xs.length) (hx : xs[j]? = some x) :
    Rws e B (.slice (some ⟨gl, 0, none⟩) n c) (xs.set j y) (((w.setCell ⟨gl, j * 3, none⟩ (.int .i64 y.sz)).setCell ⟨gl, j * 3 + 1, none⟩ (.int .i64 y.kd)).setCell ⟨gl, j * 3 + 2, none⟩ (.bool y.sec)) := by
  have hl := (List.getElem?_eq_some_iff.1 hx).1
  have h1 := own_put (d := 0) (y := ⟨y.sz, x.kd, x.sec⟩) (u := .int .i64 y.sz) h hn hx (by decide) rfl
  have h2 := own_put (d := 1) (y := ⟨y.sz, y.kd, x.sec⟩) (u := .int .i64 y.kd) h1 (by rw [List.length_set]; exact hn) (List.getElem?_set_self hl) (by decide) rfl
  have h3 := own_put (d := 2) (y := y) (u := .bool y.sec) h2 (by rw [List.length_set, List.length_set]; exact hn) (List.getElem?_set_self (by rw [List.length_set]; exact hl)) (by decide) rfl
  rw [List.set_set, List.set_set] at h3
  exact h3
theorem set_one (xs : List Bf) {j : Nat} {x : Bf} (hx : xs[j]? = some x) (y : Bf) (hj : j < (xs.set j y).length) : (xs.set j y)[j]? = some y := List.getElem?_set_self (by simpa using hj)
/-- a program in a block: its rows its own -/
structure PgB (w W : World) (g : Nat) (rg : Int) (bs : List Bf) (os : List Op) (gA c gX d : Nat) : Prop where
  k : Bk W g 26 #[.int .i64 rg, .slice (some ⟨gA, 0, none⟩) bs.length c, .slice (some ⟨gX, 0, none⟩) os.length d]
  bs : Rws 29 w.heap.size (.slice (some ⟨gA, 0, none⟩) bs.length c) bs W
  os : Rws 33 w.heap.size (.slice (some ⟨gX, 0, none⟩) os.length d) os W
theorem PgB.below {w W W' : World} {g : Nat} {rg : Int} {bs : List Bf} {os : List Op} {gA c gX d : Nat} (h : PgB w W g rg bs os gA c gX d) (hb : Below W.heap.size W W') : PgB w W' g rg bs os gA c gX d :=
  ⟨h.k.below hb h.k.lt, own_below h.bs hb, own_below h.os hb⟩
/-- a cell of another block, and of none of its rows -/
theorem PgB.far {w W : World} {g : Nat} {rg : Int} {bs : List Bf} {os : List Op} {gA c gX d a i : Nat} {u : Value} (h : PgB w W g rg bs os gA c gX d) (h1 : g ≠ a) (h2 : gA ≠ a) (h3 : gX ≠ a) : PgB w (W.setCell ⟨a, i, none⟩ u) g rg bs os gA c gX d :=
  ⟨h.k.far (p := ⟨a, i, none⟩) h1 u, h.bs.kept (row := some a) (only_setCell _ _ _ _) (.inr (by simp [Value.ownBlock]; exact h2)), h.os.kept (row := some a) (only_setCell _ _ _ _) (.inr (by simp [Value.ownBlock]; exact h3))⟩
theorem ownBlk {w : World} {B g n c s m : Nat} {e : TypeId} {ys : List Value} (h : w.ownsRow B e s (.slice (some ⟨g, 0, none⟩) n c) m ys) : ∃ cs, Bk w g e cs := by
  rcases h.2 with ⟨e1, _⟩ | ⟨g', cap, cur, e1, _, hg, _⟩
  · cases e1
  · cases e1
    exact ⟨cur, hg⟩
theorem bk_ne {w : World} {g g' : Nat} {t t' : TypeId} {cs cs' : Array Value} (h : Bk w g t cs) (h' : Bk w g' t' cs') (hne : t ≠ t') : g ≠ g' := by
  intro e
  subst e
  unfold Bk at h h'
  rw [h] at h'
  injection h' with h'
  injection h' with _ h2
  exact hne h2
/-- the blocks of a program are three -/
theorem PgB.ne {w W : World} {g : Nat} {rg : Int} {bs : List Bf} {os : List Op} {gA c gX d : Nat} (h : PgB w W g rg bs os gA c gX d) : g ≠ gA ∧ g ≠ gX ∧ gA ≠ gX := by
  obtain ⟨ca, ha⟩ := ownBlk h.bs
  obtain ⟨cx, hx⟩ := ownBlk h.os
  exact ⟨bk_ne h.k ha (by decide), bk_ne h.k hx (by decide), bk_ne ha hx (by decide)⟩
theorem PgB.rd {w W : World} {g : Nat} {rg : Int} {bs : List Bf} {os : List Op} {gA c gX d : Nat} (h : PgB w W g rg bs os gA c gX d) : Rdr W W.heap.size (some ⟨gA, 0, none⟩) bs.length bs ∧ Rdr W W.heap.size (some ⟨gX, 0, none⟩) os.length os := ⟨(rws_rd h.bs).2.1, (rws_rd h.os).2.1⟩
/-- a buffer made public -/
theorem PgB.pub {w W : World} {g : Nat} {rg : Int} {bs : List Bf} {os : List Op} {gA c gX d k : Nat} {b : Bf} (h : PgB w W g rg bs os gA c gX d) (hb : bs[k]? = some b) : PgB w (W.setCell ⟨gA, k * 3 + 2, none⟩ (.bool false)) g rg (bs.set k (er b)) os gA c gX d := by
  have h1 : Rws 29 w.heap.size (.slice (some ⟨gA, 0, none⟩) bs.length c) (bs.set k (er b)) (W.setCell ⟨gA, k * 3 + 2, none⟩ (.bool false)) := own_put (d := 2) (y := er b) h.bs rfl hb (by decide) rfl
  refine ⟨?_, ?_, h.os.kept (row := some gA) (only_setCell _ _ _ _) (.inr (by simp [Value.ownBlock]; exact fun e => h.ne.2.2 e.symm))⟩
  · rw [List.length_set]
    exact h.k.far (p := ⟨gA, k * 3 + 2, none⟩) h.ne.1 _
  · rw [List.length_set]
    exact h1
/-- a whole buffer put in -/
theorem PgB.put {w W : World} {g : Nat} {rg : Int} {bs : List Bf} {os : List Op} {gA c gX d k : Nat} {b : Bf} (h : PgB w W g rg bs os gA c gX d) (hb : bs[k]? = some b) (y : Bf) :
    PgB w (((W.setCell ⟨gA, k * 3, none⟩ (.int .i64 y.sz)).setCell ⟨gA, k * 3 + 1, none⟩ (.int .i64 y.kd)).setCell ⟨gA, k * 3 + 2, none⟩ (.bool y.sec)) g rg (bs.set k y) os gA c gX d := by
  refine ⟨?_, ?_, ?_⟩
  · rw [List.length_set]
    exact ((h.k.far (p := ⟨gA, k * 3, none⟩) h.ne.1 _).far (p := ⟨gA, k * 3 + 1, none⟩) h.ne.1 _).far (p := ⟨gA, k * 3 + 2, none⟩) h.ne.1 _
  · rw [List.length_set]
    exact own_put3 h.bs rfl hb
  · have hn : ∀ {W : World}, W.ownsRow w.heap.size 33 (Sh.k Op) (.slice (some ⟨gX, 0, none⟩) os.length d) os.length (row os) → ∀ i u, (W.setCell ⟨gA, i, none⟩ u).ownsRow w.heap.size 33 (Sh.k Op) (.slice (some ⟨gX, 0, none⟩) os.length d) os.length (row os) := fun h0 i u => h0.kept (row := some gA) (only_setCell _ _ _ _) (.inr (by simp [Value.ownBlock]; exact fun e => h.ne.2.2 e.symm))
    exact hn (hn (hn h.os _ _) _ _) _ _
/-- an operation's buffer turned -/
theorem PgB.bf {w W : World} {g : Nat} {rg : Int} {bs : List Bf} {os : List Op} {gA c gX d k : Nat} {o : Op} (h : PgB w W g rg bs os gA c gX d) (ho : os[k]? = some o) (z : Int) :
    PgB w (W.setCell ⟨gX, k * 8 + 6, none⟩ (.int .i64 z)) g rg bs (os.set k { o with bf := z }) gA c gX d := by
  refine ⟨?_, h.bs.kept (row := some gX) (only_setCell _ _ _ _) (.inr (by simp [Value.ownBlock]; exact h.ne.2.2)), ?_⟩
  · rw [List.length_set]
    exact h.k.far (p := ⟨gX, k * 8 + 6, none⟩) h.ne.2.1 _
  · rw [List.length_set]
    exact own_put (d := 6) (y := { o with bf := z }) h.os rfl ho (by decide) rfl
theorem OwnP.pgB {p : Pg} {w W : World} {g gA c gX d : Nat} (hk : Bk W g 26 #[.int .i64 p.rg, .slice (some ⟨gA, 0, none⟩) p.bf.length c, .slice (some ⟨gX, 0, none⟩) p.op.length d])
    (h1 : Rws 29 w.heap.size (.slice (some ⟨gA, 0, none⟩) p.bf.length c) p.bf W) (h2 : Rws 33 w.heap.size (.slice (some ⟨gX, 0, none⟩) p.op.length d) p.op W) : PgB w W g p.rg p.bf p.op gA c gX d := ⟨hk, h1, h2⟩
end Lb
end Go.Proofs.YtjdpbelfagkaiaaDoor
namespace Go.Proofs.YtjdpbelfagkaiaaDoor
open Go Go.RowKit Go.Sort Go.Shelf
namespace Lb
open Wd Nt Gr
set_option linter.unusedVariables false
set_option linter.unusedSimpArgs false
/-- a program's block, still zeros -/
def Zp (W : World) (g : Nat) : Prop := Bk W g 26 #[.int .i64 0, .slice none 0 0, .slice none 0 0]
def zpO : Obj := .cells #[.int .i64 0, .slice none 0 0, .slice none 0 0] 26
theorem zp_1 {W : World} {g : Nat} (h : g = W.heap.size) : Zp (W.alloc (.cells #[.int .i64 0, .slice none 0 0, .slice none 0 0] 26)) g := by
  subst h
  exact Bk.new _ _ _
theorem zp_1d {W : World} {g : Nat} (h : g = W.heap.size) : Zp (W.alloc (.cells #[.int .i64 0, .slice none 0 0, .slice none 0 0] 26)).drew g := zp_1 (W := W.drew) h
theorem zp_1s {W : World} (o : Obj) : Zp ((W.alloc o).alloc (.cells #[.int .i64 0, .slice none 0 0, .slice none 0 0] 26)) (W.heap.size + 1) := zp_1 (World.size_alloc _ _).symm
theorem zp_1ds {W : World} (o : Obj) : Zp ((W.alloc o).alloc (.cells #[.int .i64 0, .slice none 0 0, .slice none 0 0] 26)).drew (W.heap.size + 1) := zp_1d (World.size_alloc _ _).symm
theorem zp_2 {W : World} {g : Nat} (o : Obj) (h : Zp W g) : Zp (W.alloc o) g := Bk.alloc h o
theorem zp_2d {W : World} {g : Nat} (o : Obj) (h : Zp W.drew g) : Zp (W.alloc o).drew g := zp_2 (W := W.drew) o h
theorem zp_3 {W W' : World} (hb : Below W.heap.size W W') {g : Nat} (h : Zp W g) : Zp W' g := Bk.below h hb (Bk.lt h)
theorem zp_4 {W : World} {g g' : Nat} {t : TypeId} {cs0 cs : Array Value} (hg : Bk W g' t cs0) (hne : g ≠ g') (h : Zp W g) : Zp (W.setRow g' cs) g := (setRow_other W g' g cs hne).trans h
theorem zp_st {W : World} {g : Nat} (h : Zp W g) (z : Int) (a1 a2 : Option Addr) (n1 n2 c1 c2 : Nat) :
    (storeCells ⟨g, 0, none⟩ [.int .i64 z, .slice a1 n1 c1, .slice a2 n2 c2]).run Tryd.prog W = .ok () (W.setRow g #[.int .i64 z, .slice a1 n1 c1, .slice a2 n2 c2]) := by
  have h2 := run_storeCells_from (P := Tryd.prog) g 26 [.int .i64 z, .slice a1 n1 c1, .slice a2 n2 c2] 0 _ W h (by simp) (fun v hv => by
    simp only [List.mem_cons, List.not_mem_nil, or_false] at hv
    rcases hv with rfl | rfl | rfl <;> rfl)
  rw [h2]
  congr 1
theorem keepC1 {w W : World} {g i : Nat} {u v x u' : Value} {a b c : Nat} (h : W.cell? ⟨w.heap.size, a, none⟩ = some u ∧ W.cell? ⟨w.heap.size, b, none⟩ = some v ∧ W.cell? ⟨w.heap.size, c, none⟩ = some x ∧ Below w.heap.size w W) (hg : w.heap.size < g) :
    (W.setCell ⟨g, i, none⟩ u').cell? ⟨w.heap.size, a, none⟩ = some u ∧ (W.setCell ⟨g, i, none⟩ u').cell? ⟨w.heap.size, b, none⟩ = some v ∧ (W.setCell ⟨g, i, none⟩ u').cell? ⟨w.heap.size, c, none⟩ = some x ∧ Below w.heap.size w (W.setCell ⟨g, i, none⟩ u') := by
  have e : ∀ a, (W.setCell ⟨g, i, none⟩ u').cell? ⟨w.heap.size, a, none⟩ = W.cell? ⟨w.heap.size, a, none⟩ := fun a => by
    have h1 : (W.setCell ⟨g, i, none⟩ u').heap[w.heap.size]? = W.heap[w.heap.size]? := Below.heap_setCell W ⟨g, i, none⟩ u' w.heap.size (by show w.heap.size ≠ g; omega)
    unfold World.cell?
    rw [h1]
  exact ⟨(e a).trans h.1, (e b).trans h.2.1, (e c).trans h.2.2.1, h.2.2.2.setCell (p := ⟨g, i, none⟩) (Nat.le_of_lt hg) u'⟩
theorem keepV6 {w W : World} {g g' : Nat} {u v x p0 p1 p2 q0 q1 q2 : Value} {a b c : Nat} (h : W.cell? ⟨w.heap.size, a, none⟩ = some u ∧ W.cell? ⟨w.heap.size, b, none⟩ = some v ∧ W.cell? ⟨w.heap.size, c, none⟩ = some x ∧ Below w.heap.size w W) (hg : w.heap.size < g) (hg' : w.heap.size < g') :
    ((((((W.setCell ⟨g, 0, none⟩ p0).setCell ⟨g, 1, none⟩ p1).setCell ⟨g, 2, none⟩ p2).setCell ⟨g', 0, none⟩ q0).setCell ⟨g', 1, none⟩ q1).setCell ⟨g', 2, none⟩ q2).cell? ⟨w.heap.size, a, none⟩ = some u ∧ ((((((W.setCell ⟨g, 0, none⟩ p0).setCell ⟨g, 1, none⟩ p1).setCell ⟨g, 2, none⟩ p2).setCell ⟨g', 0, none⟩ q0).setCell ⟨g', 1, none⟩ q1).setCell ⟨g', 2, none⟩ q2).cell? ⟨w.heap.size, b, none⟩ = some v ∧ ((((((W.setCell ⟨g, 0, none⟩ p0).setCell ⟨g, 1, none⟩ p1).setCell ⟨g, 2, none⟩ p2).setCell ⟨g', 0, none⟩ q0).setCell ⟨g', 1, none⟩ q1).setCell ⟨g', 2, none⟩ q2).cell? ⟨w.heap.size, c, none⟩ = some x ∧ Below w.heap.size w ((((((W.setCell ⟨g, 0, none⟩ p0).setCell ⟨g, 1, none⟩ p1).setCell ⟨g, 2, none⟩ p2).setCell ⟨g', 0, none⟩ q0).setCell ⟨g', 1, none⟩ q1).setCell ⟨g', 2, none⟩ q2) :=
  keepC1 (keepC1 (keepC1 (keepC1 (keepC1 (keepC1 h hg) hg) hg) hg') hg') hg'
theorem keepV3 {w W : World} {g : Nat} {u v x p0 p1 p2 : Value} {a b c : Nat} (h : W.cell? ⟨w.heap.size, a, none⟩ = some u ∧ W.cell? ⟨w.heap.size, b, none⟩ = some v ∧ W.cell? ⟨w.heap.size, c, none⟩ = some x ∧ Below w.heap.size w W) (hg : w.heap.size < g) :
    (((W.setCell ⟨g, 0, none⟩ p0).setCell ⟨g, 1, none⟩ p1).setCell ⟨g, 2, none⟩ p2).cell? ⟨w.heap.size, a, none⟩ = some u ∧ (((W.setCell ⟨g, 0, none⟩ p0).setCell ⟨g, 1, none⟩ p1).setCell ⟨g, 2, none⟩ p2).cell? ⟨w.heap.size, b, none⟩ = some v ∧ (((W.setCell ⟨g, 0, none⟩ p0).setCell ⟨g, 1, none⟩ p1).setCell ⟨g, 2, none⟩ p2).cell? ⟨w.heap.size, c, none⟩ = some x ∧ Below w.heap.size w (((W.setCell ⟨g, 0, none⟩ p0).setCell ⟨g, 1, none⟩ p1).setCell ⟨g, 2, none⟩ p2) :=
  keepC1 (keepC1 (keepC1 h hg) hg) hg
theorem belD1 {w W : World} (h : Below w.heap.size w W.drew) (o : Obj) : Below w.heap.size w (W.alloc o).drew := bel_al' (x := W.drew) h o
theorem belD2 {w W : World} (h : Below w.heap.size w W.drew) (o o' : Obj) : Below w.heap.size w ((W.alloc o).alloc o').drew := bel_al' (x := (W.drew.alloc o)) (bel_al' (x := W.drew) h o) o'
/-- what is known of a zero block: its cells, where it lies -/
theorem zp_all {w W : World} {g : Nat} (hg : w.heap.size < g) (h : Zp W g) : W.cell? ⟨g, 0, none⟩ = some (.int .i64 0) ∧ W.cell? ⟨g, 1, none⟩ = some (.slice none 0 0) ∧ W.cell? ⟨g, 2, none⟩ = some (.slice none 0 0) ∧ W.frozen? ⟨g, 0, none⟩ = false ∧ W.frozen? ⟨g, 1, none⟩ = false ∧ W.frozen? ⟨g, 2, none⟩ = false ∧ g < W.heap.size ∧ w.heap.size < g ∧ g ≠ W.heap.size ∧ W.heap.size ≠ g :=
  ⟨h.cell 0, h.cell 1, h.cell 2, h.frozen 0, h.frozen 1, h.frozen 2, h.lt, hg, Nat.ne_of_lt h.lt, (Nat.ne_of_lt h.lt).symm⟩
/-- two programs of one's own, and the one that was handed in -/
structure Two (w W : World) (p : Pg) (A : Option Addr) (c : Nat) (X : Option Addr) (d : Nat) (bq br : List Bf) (g7 gA cA gX cX g8 hA dA hX dX : Nat) : Prop where
  box : Bk W w.heap.size 26 #[.int .i64 p.rg, .slice A p.bf.length c, .slice X p.op.length d]
  q : PgB w W g7 p.rg bq p.op gA cA gX cX
  r : PgB w W g8 p.rg br p.op hA dA hX dX
  n7 : g7 ≠ w.heap.size
  n8 : g8 ≠ w.heap.size
  n78 : g7 ≠ g8
  nA : gA ≠ hA
  nX : gX ≠ hX
  b : Below w.heap.size w W
section
variable {w W W' : World} {p : Pg} {A X : Option Addr} {c d : Nat} {bq br : List Bf} {g7 gA cA gX cX g8 hA dA hX dX : Nat}
theorem Two.below (h : Two w W p A c X d bq br g7 gA cA gX cX g8 hA dA hX dX) (hb : Below W.heap.size W W') : Two w W' p A c X d bq br g7 gA cA gX cX g8 hA dA hX dX :=
  ⟨h.box.below hb h.box.lt, h.q.below hb, h.r.below hb, h.n7, h.n8, h.n78, h.nA, h.nX, bel_tr h.b hb⟩
theorem Two.pub8 (h : Two w W p A c X d bq br g7 gA cA gX cX g8 hA dA hX dX) {k : Nat} {b : Bf} (hb : br[k]? = some b) : Two w (W.setCell ⟨hA, k * 3 + 2, none⟩ (.bool false)) p A c X d bq (br.set k (er b)) g7 gA cA gX cX g8 hA dA hX dX := by
  obtain ⟨cs, hc⟩ := ownBlk h.r.bs
  obtain ⟨cs2, hc2⟩ := ownBlk h.q.os
  have hbl : w.heap.size ≤ hA := by
    rcases h.r.bs.2 with ⟨e1, _⟩ | ⟨g', cap, cur, e1, h2, _⟩
    · cases e1
    · cases e1; exact h2
  exact ⟨h.box.far (p := ⟨hA, k * 3 + 2, none⟩) (bk_ne h.box hc (by decide)) _, h.q.far (bk_ne h.q.k hc (by decide)) h.nA (bk_ne hc2 hc (by decide)), h.r.pub hb, h.n7, h.n8, h.n78, h.nA, h.nX, h.b.setCell (p := ⟨hA, k * 3 + 2, none⟩) hbl _⟩
theorem Two.pub7 (h : Two w W p A c X d bq br g7 gA cA gX cX g8 hA dA hX dX) {k : Nat} {b : Bf} (hb : bq[k]? = some b) : Two w (W.setCell ⟨gA, k * 3 + 2, none⟩ (.bool false)) p A c X d (bq.set k (er b)) br g7 gA cA gX cX g8 hA dA hX dX := by
  obtain ⟨cs, hc⟩ := ownBlk h.q.bs
  obtain ⟨cs2, hc2⟩ := ownBlk h.r.os
  have hbl : w.heap.size ≤ gA := by
    rcases h.q.bs.2 with ⟨e1, _⟩ | ⟨g', cap, cur, e1, h2, _⟩
    · cases e1
    · cases e1; exact h2
  exact ⟨h.box.far (p := ⟨gA, k * 3 + 2, none⟩) (bk_ne h.box hc (by decide)) _, h.q.pub hb, h.r.far (bk_ne h.r.k hc (by decide)) h.nA.symm (bk_ne hc2 hc (by decide)), h.n7, h.n8, h.n78, h.nA, h.nX, h.b.setCell (p := ⟨gA, k * 3 + 2, none⟩) hbl _⟩
end
theorem ownLt {w : World} {B g n c s m : Nat} {e : TypeId} {ys : List Value} (h : w.ownsRow B e s (.slice (some ⟨g, 0, none⟩) n c) m ys) : B ≤ g ∧ g < w.heap.size := by
  rcases h.2 with ⟨e1, _⟩ | ⟨g', cap, cur, e1, h2, hg, _⟩
  · cases e1
  · cases e1
    exact ⟨h2, (Array.getElem?_eq_some_iff.1 hg).1⟩
/-- what is known ahead of the stores -/
structure Pre (w W : World) (p : Pg) (A : Option Addr) (c : Nat) (X : Option Addr) (d gA cA gX cX hA dA hX dX : Nat) : Prop where
  box : Bk W w.heap.size 26 #[.int .i64 p.rg, .slice A p.bf.length c, .slice X p.op.length d]
  b5 : Rws 29 w.heap.size (.slice (some ⟨gA, 0, none⟩) p.bf.length cA) p.bf W
  o5 : Rws 33 w.heap.size (.slice (some ⟨gX, 0, none⟩) p.op.length cX) p.op W
  b6 : Rws 29 w.heap.size (.slice (some ⟨hA, 0, none⟩) p.bf.length dA) p.bf W
  o6 : Rws 33 w.heap.size (.slice (some ⟨hX, 0, none⟩) p.op.length dX) p.op W
  nA : gA ≠ hA
  nX : gX ≠ hX
  b : Below w.heap.size w W
section
variable {w W : World} {p : Pg} {A X : Option Addr} {c d gA cA gX cX hA dA hX dX : Nat}
def prV (p : Pg) (gA cA gX cX : Nat) : Array Value := #[.int .i64 p.rg, .slice (some ⟨gA, 0, none⟩) p.bf.length cA, .slice (some ⟨gX, 0, none⟩) p.op.length cX]
theorem Pre.f1 (h : Pre w W p A c X d gA cA gX cX hA dA hX dX) :
    Two w ((W.alloc (.cells #[.int .i64 p.rg, .slice (some ⟨gA, 0, none⟩) p.bf.length cA, .slice (some ⟨gX, 0, none⟩) p.op.length cX] 26)).alloc (.cells #[.int .i64 p.rg, .slice (some ⟨hA, 0, none⟩) p.bf.length dA, .slice (some ⟨hX, 0, none⟩) p.op.length dX] 26)) p A c X d p.bf p.bf W.heap.size gA cA gX cX (W.heap.size + 1) hA dA hX dX := by
  have hl := h.box.lt
  exact ⟨(h.box.alloc _).alloc _, ⟨(Bk.new W _ _).alloc _, own_below (own_below h.b5 (bel_al _)) (bel_al _), own_below (own_below h.o5 (bel_al _)) (bel_al _)⟩, ⟨Bk.new' (by simp), own_below (own_below h.b6 (bel_al _)) (bel_al _), own_below (own_below h.o6 (bel_al _)) (bel_al _)⟩, by omega, by omega, by omega, h.nA, h.nX, bel_al' (bel_al' h.b _) _⟩
theorem Pre.f2 (h : Pre w W p A c X d gA cA gX cX hA dA hX dX) :
    Two w ((W.alloc (.cells #[.int .i64 p.rg, .slice (some ⟨hA, 0, none⟩) p.bf.length dA, .slice (some ⟨hX, 0, none⟩) p.op.length dX] 26)).alloc (.cells #[.int .i64 p.rg, .slice (some ⟨gA, 0, none⟩) p.bf.length cA, .slice (some ⟨gX, 0, none⟩) p.op.length cX] 26)) p A c X d p.bf p.bf (W.heap.size + 1) gA cA gX cX W.heap.size hA dA hX dX := by
  have hl := h.box.lt
  exact ⟨(h.box.alloc _).alloc _, ⟨Bk.new' (by simp), own_below (own_below h.b5 (bel_al _)) (bel_al _), own_below (own_below h.o5 (bel_al _)) (bel_al _)⟩, ⟨(Bk.new W _ _).alloc _, own_below (own_below h.b6 (bel_al _)) (bel_al _), own_below (own_below h.o6 (bel_al _)) (bel_al _)⟩, by omega, by omega, by omega, h.nA, h.nX, bel_al' (bel_al' h.b _) _⟩
/-- a zero block filled -/
theorem Pre.fill (h : Pre w W p A c X d gA cA gX cX hA dA hX dX) {g : Nat} (hz : Zp W g) (hg : w.heap.size < g) (u0 u1 u2 : Value) : Pre w (((W.setCell ⟨g, 0, none⟩ u0).setCell ⟨g, 1, none⟩ u1).setCell ⟨g, 2, none⟩ u2) p A c X d gA cA gX cX hA dA hX dX := by
  have k : ∀ {B s n m : Nat} {e : TypeId} {v : Value} {ys : List Value}, W.ownsRow B e s v m ys → e ≠ 26 → (((W.setCell ⟨g, 0, none⟩ u0).setCell ⟨g, 1, none⟩ u1).setCell ⟨g, 2, none⟩ u2).ownsRow B e s v m ys := fun h0 hne => own_far (own_far (own_far h0 hz hne) (hz.set_ 0 _) hne) ((hz.set_ 0 _).set_ 1 _) hne
  exact ⟨((h.box.far (p := ⟨g, 0, none⟩) (show w.heap.size ≠ g by omega) _).far (p := ⟨g, 1, none⟩) (show w.heap.size ≠ g by omega) _).far (p := ⟨g, 2, none⟩) (show w.heap.size ≠ g by omega) _, k (n := 0) h.b5 (by decide), k (n := 0) h.o5 (by decide), k (n := 0) h.b6 (by decide), k (n := 0) h.o6 (by decide), h.nA, h.nX, ((h.b.setCell (p := ⟨g, 0, none⟩) (Nat.le_of_lt hg) _).setCell (p := ⟨g, 1, none⟩) (Nat.le_of_lt hg) _).setCell (p := ⟨g, 2, none⟩) (Nat.le_of_lt hg) _⟩
theorem zp_fill {g : Nat} (hz : Zp W g) (u0 u1 u2 : Value) : Bk (((W.setCell ⟨g, 0, none⟩ u0).setCell ⟨g, 1, none⟩ u1).setCell ⟨g, 2, none⟩ u2) g 26 #[u0, u1, u2] := ((hz.set_ 0 u0).set_ 1 u1).set_ 2 u2
theorem Pre.f3 (h : Pre w W p A c X d gA cA gX cX hA dA hX dX) {g : Nat} (hz : Zp W g) (hg : w.heap.size < g) :
    Two w ((((W.setCell ⟨g, 0, none⟩ (.int .i64 p.rg)).setCell ⟨g, 1, none⟩ (.slice (some ⟨gA, 0, none⟩) p.bf.length cA)).setCell ⟨g, 2, none⟩ (.slice (some ⟨gX, 0, none⟩) p.op.length cX)).alloc (.cells #[.int .i64 p.rg, .slice (some ⟨hA, 0, none⟩) p.bf.length dA, .slice (some ⟨hX, 0, none⟩) p.op.length dX] 26)) p A c X d p.bf p.bf g gA cA gX cX W.heap.size hA dA hX dX := by
  have hl := h.box.lt
  have hzl := hz.lt
  have h2 := h.fill hz hg (.int .i64 p.rg) (.slice (some ⟨gA, 0, none⟩) p.bf.length cA) (.slice (some ⟨gX, 0, none⟩) p.op.length cX)
  exact ⟨h2.box.alloc _, ⟨(zp_fill hz _ _ _).alloc _, own_below h2.b5 (bel_al _), own_below h2.o5 (bel_al _)⟩, ⟨Bk.new' (by simp), own_below h2.b6 (bel_al _), own_below h2.o6 (bel_al _)⟩, by omega, by omega, by omega, h.nA, h.nX, bel_al' h2.b _⟩
theorem Pre.f4 (h : Pre w W p A c X d gA cA gX cX hA dA hX dX) {g : Nat} (hz : Zp W g) (hg : w.heap.size < g) :
    Two w ((((W.setCell ⟨g, 0, none⟩ (.int .i64 p.rg)).setCell ⟨g, 1, none⟩ (.slice (some ⟨hA, 0, none⟩) p.bf.length dA)).setCell ⟨g, 2, none⟩ (.slice (some ⟨hX, 0, none⟩) p.op.length dX)).alloc (.cells #[.int .i64 p.rg, .slice (some ⟨gA, 0, none⟩) p.bf.length cA, .slice (some ⟨gX, 0, none⟩) p.op.length cX] 26)) p A c X d p.bf p.bf W.heap.size gA cA gX cX g hA dA hX dX := by
  have hl := h.box.lt
  have hzl := hz.lt
  have h2 := h.fill hz hg (.int .i64 p.rg) (.slice (some ⟨hA, 0, none⟩) p.bf.length dA) (.slice (some ⟨hX, 0, none⟩) p.op.length dX)
  exact ⟨h2.box.alloc _, ⟨Bk.new' (by simp), own_below h2.b5 (bel_al _), own_below h2.o5 (bel_al _)⟩, ⟨(zp_fill hz _ _ _).alloc _, own_below h2.b6 (bel_al _), own_below h2.o6 (bel_al _)⟩, by omega, by omega, by omega, h.nA, h.nX, bel_al' h2.b _⟩
theorem Pre.f5 (h : Pre w W p A c X d gA cA gX cX hA dA hX dX) {g g' : Nat} (hz : Zp W g) (hg : w.heap.size < g) (hz' : Zp W g') (hg' : w.heap.size < g') (hne : g ≠ g') :
    Two w ((((((W.setCell ⟨g, 0, none⟩ (.int .i64 p.rg)).setCell ⟨g, 1, none⟩ (.slice (some ⟨gA, 0, none⟩) p.bf.length cA)).setCell ⟨g, 2, none⟩ (.slice (some ⟨gX, 0, none⟩) p.op.length cX)).setCell ⟨g', 0, none⟩ (.int .i64 p.rg)).setCell ⟨g', 1, none⟩ (.slice (some ⟨hA, 0, none⟩) p.bf.length dA)).setCell ⟨g', 2, none⟩ (.slice (some ⟨hX, 0, none⟩) p.op.length dX)) p A c X d p.bf p.bf g gA cA gX cX g' hA dA hX dX := by
  have h2 := h.fill hz hg (.int .i64 p.rg) (.slice (some ⟨gA, 0, none⟩) p.bf.length cA) (.slice (some ⟨gX, 0, none⟩) p.op.length cX)
  have z2 : Zp (((W.setCell ⟨g, 0, none⟩ (.int .i64 p.rg)).setCell ⟨g, 1, none⟩ (.slice (some ⟨gA, 0, none⟩) p.bf.length cA)).setCell ⟨g, 2, none⟩ (.slice (some ⟨gX, 0, none⟩) p.op.length cX)) g' := ((Bk.far hz' (p := ⟨g, 0, none⟩) hne.symm _).far (p := ⟨g, 1, none⟩) hne.symm _).far (p := ⟨g, 2, none⟩) hne.symm _
  have h3 := h2.fill z2 hg' (.int .i64 p.rg) (.slice (some ⟨hA, 0, none⟩) p.bf.length dA) (.slice (some ⟨hX, 0, none⟩) p.op.length dX)
  have k2 := zp_fill hz (.int .i64 p.rg) (.slice (some ⟨gA, 0, none⟩) p.bf.length cA) (.slice (some ⟨gX, 0, none⟩) p.op.length cX)
  exact ⟨h3.box, ⟨((k2.far (p := ⟨g', 0, none⟩) hne _).far (p := ⟨g', 1, none⟩) hne _).far (p := ⟨g', 2, none⟩) hne _, h3.b5, h3.o5⟩, ⟨zp_fill z2 _ _ _, h3.b6, h3.o6⟩, by omega, by omega, hne, h.nA, h.nX, h3.b⟩
end
end Lb
end Go.Proofs.YtjdpbelfagkaiaaDoor
namespace Go.Proofs.YtjdpbelfagkaiaaDoor
open Go Go.RowKit Go.Sort Go.Shelf
namespace Lb
open Wd Nt Gr
set_option linter.unusedVariables false
set_option linter.unusedSimpArgs false
/-- the program that was handed in, and one of its own -/
structure One (w W : World) (p : Pg) (A : Option Addr) (c : Nat) (X : Option Addr) (d : Nat) (rg : Int) (bs : List Bf) (os : List Op) (g gA cA gX cX : Nat) : Prop where
  box : Bk W w.heap.size 26 #[.int .i64 p.rg, .slice A p.bf.length c, .slice X p.op.length d]
  q : PgB w W g rg bs os gA cA gX cX
  n : g ≠ w.heap.size
  b : Below w.heap.size w W
section
variable {w W W' : World} {p : Pg} {A X : Option Addr} {c d : Nat} {rg : Int} {bs : List Bf} {os : List Op} {g gA cA gX cX : Nat}
theorem One.below (h : One w W p A c X d rg bs os g gA cA gX cX) (hb : Below W.heap.size W W') : One w W' p A c X d rg bs os g gA cA gX cX :=
  ⟨h.box.below hb h.box.lt, h.q.below hb, h.n, bel_tr h.b hb⟩
theorem One.lo (h : One w W p A c X d rg bs os g gA cA gX cX) : w.heap.size ≤ gA ∧ w.heap.size ≤ gX ∧ gA < W.heap.size ∧ gX < W.heap.size ∧ g < W.heap.size ∧ w.heap.size < W.heap.size := ⟨(ownLt h.q.bs).1, (ownLt h.q.os).1, (ownLt h.q.bs).2, (ownLt h.q.os).2, h.q.k.lt, h.box.lt⟩
theorem One.put (h : One w W p A c X d rg bs os g gA cA gX cX) {k : Nat} {b : Bf} (hb : bs[k]? = some b) (y : Bf) :
    One w (((W.setCell ⟨gA, k * 3, none⟩ (.int .i64 y.sz)).setCell ⟨gA, k * 3 + 1, none⟩ (.int .i64 y.kd)).setCell ⟨gA, k * 3 + 2, none⟩ (.bool y.sec)) p A c X d rg (bs.set k y) os g gA cA gX cX := by
  obtain ⟨cs, hc⟩ := ownBlk h.q.bs
  have hne : w.heap.size ≠ gA := bk_ne h.box hc (by decide)
  have hl := h.lo.1
  exact ⟨((h.box.far (p := ⟨gA, k * 3, none⟩) hne _).far (p := ⟨gA, k * 3 + 1, none⟩) hne _).far (p := ⟨gA, k * 3 + 2, none⟩) hne _, h.q.put hb y, h.n, ((h.b.setCell (p := ⟨gA, k * 3, none⟩) hl _).setCell (p := ⟨gA, k * 3 + 1, none⟩) hl _).setCell (p := ⟨gA, k * 3 + 2, none⟩) hl _⟩
theorem One.bf (h : One w W p A c X d rg bs os g gA cA gX cX) {k : Nat} {o : Op} (ho : os[k]? = some o) (z : Int) :
    One w (W.setCell ⟨gX, k * 8 + 6, none⟩ (.int .i64 z)) p A c X d rg bs (os.set k { o with bf := z }) g gA cA gX cX := by
  obtain ⟨cs, hc⟩ := ownBlk h.q.os
  have hne : w.heap.size ≠ gX := bk_ne h.box hc (by decide)
  exact ⟨h.box.far (p := ⟨gX, k * 8 + 6, none⟩) hne _, h.q.bf ho z, h.n, h.b.setCell (p := ⟨gX, k * 8 + 6, none⟩) h.lo.2.1 _⟩
/-- a cell of a block that is none of its own -/
theorem One.far (h : One w W p A c X d rg bs os g gA cA gX cX) {a i : Nat} {u : Value} (h0 : w.heap.size < a) (h1 : g ≠ a) (h2 : gA ≠ a) (h3 : gX ≠ a) : One w (W.setCell ⟨a, i, none⟩ u) p A c X d rg bs os g gA cA gX cX :=
  ⟨h.box.far (p := ⟨a, i, none⟩) (show w.heap.size ≠ a by omega) u, h.q.far h1 h2 h3, h.n, h.b.setCell (p := ⟨a, i, none⟩) (Nat.le_of_lt h0) u⟩
/-- an append to a row of operations that is none of its own -/
theorem One.grown (h : One w W p A c X d rg bs os g gA cA gX cX) {B s n a : Nat} {e : TypeId} {nn cc : Nat} {ys : List Value} (ho : W.ownsRow B e s (.slice (some ⟨a, 0, none⟩) nn cc) n ys) (h0 : w.heap.size < a) (h1 : g ≠ a) (h2 : gA ≠ a) (h3 : gX ≠ a) (hg : W.grownBy W' (some a)) : One w W' p A c X d rg bs os g gA cA gX cX := by
  have hk : ∀ {t : TypeId} {cs : Array Value} {k : Nat}, Bk W k t cs → k ≠ a → Bk W' k t cs := fun hb hne => (hg.block _ hb.lt (by simp; exact fun e => hne e)).trans hb
  have hb := hg
  refine ⟨hk h.box (by omega), ⟨hk h.q.k h1, h.q.bs.kept hg (.inr (by simp [Value.ownBlock]; exact h2)), h.q.os.kept hg (.inr (by simp [Value.ownBlock]; exact h3))⟩, h.n, h.b.grown hg (by have := h.lo; omega) (fun k e => by cases e; omega)⟩
end
theorem rdr_take {T : Type} [Sh T] {w : World} {B n : Nat} {A : Option Addr} {xs : List T} (h : Rdr w B A n xs) (m : Nat) (hm : m ≤ n) : Rdr w B A m (xs.take m) := by
  refine ⟨by rw [List.length_take, h.len]; omega, fun h0 => ?_⟩
  obtain ⟨b, o, e, hb, hc⟩ := h.rd (by omega)
  refine ⟨b, o, e, hb, fun j x hj d v hv => hc j x ?_ d v hv⟩
  rw [List.getElem?_take] at hj
  split at hj
  · exact hj
  · cases hj
/-- three programs: what was handed in, one of its own, a third -/
structure Fin3 (w W : World) (p : Pg) (A : Option Addr) (c : Nat) (X : Option Addr) (d : Nat) (rg : Int) (bs : List Bf) (os : List Op) (g gA cA gX cX : Nat) (rg3 : Int) (bs3 : List Bf) (os3 : List Op) (g3 gA3 cA3 : Nat) (X3 : Option Addr) (cX3 : Nat) : Prop where
  one : One w W p A c X d rg bs os g gA cA gX cX
  k3 : Bk W g3 26 #[.int .i64 rg3, .slice (some ⟨gA3, 0, none⟩) bs3.length cA3, .slice X3 os3.length cX3]
  b3 : Rws 29 w.heap.size (.slice (some ⟨gA3, 0, none⟩) bs3.length cA3) bs3 W
  o3 : Rws 33 w.heap.size (.slice X3 os3.length cX3) os3 W
section
variable {w W W' : World} {p : Pg} {A X X3 : Option Addr} {c d cX3 : Nat} {rg rg3 : Int} {bs bs3 : List Bf} {os os3 : List Op} {g gA cA gX cX g3 gA3 cA3 : Nat}
theorem Fin3.below (h : Fin3 w W p A c X d rg bs os g gA cA gX cX rg3 bs3 os3 g3 gA3 cA3 X3 cX3) (hb : Below W.heap.size W W') : Fin3 w W' p A c X d rg bs os g gA cA gX cX rg3 bs3 os3 g3 gA3 cA3 X3 cX3 :=
  ⟨h.one.below hb, h.k3.below hb h.k3.lt, own_below h.b3 hb, own_below h.o3 hb⟩
theorem Fin3.S (h : Fin3 w W p A c X d rg bs os g gA cA gX cX rg3 bs3 os3 g3 gA3 cA3 X3 cX3) {n m n3 m3 : Nat} (h1 : bs.length = n) (h2 : os.length = m) (h3 : bs3.length = n3) (h4 : os3.length = m3) :
    W.cell? ⟨w.heap.size, 0, none⟩ = some (.int .i64 p.rg) ∧ W.cell? ⟨w.heap.size, 1, none⟩ = some (.slice A p.bf.length c) ∧ W.cell? ⟨w.heap.size, 2, none⟩ = some (.slice X p.op.length d) ∧
    W.cell? ⟨g, 0, none⟩ = some (.int .i64 rg) ∧ W.cell? ⟨g, 1, none⟩ = some (.slice (some ⟨gA, 0, none⟩) n cA) ∧ W.cell? ⟨g, 2, none⟩ = some (.slice (some ⟨gX, 0, none⟩) m cX) ∧
    W.cell? ⟨g3, 0, none⟩ = some (.int .i64 rg3) ∧ W.cell? ⟨g3, 1, none⟩ = some (.slice (some ⟨gA3, 0, none⟩) n3 cA3) ∧ W.cell? ⟨g3, 2, none⟩ = some (.slice X3 m3 cX3) := by
  subst h1 h2 h3 h4
  exact ⟨h.one.box.cell 0, h.one.box.cell 1, h.one.box.cell 2, h.one.q.k.cell 0, h.one.q.k.cell 1, h.one.q.k.cell 2, h.k3.cell 0, h.k3.cell 1, h.k3.cell 2⟩
theorem Fin3.T (h : Fin3 w W p A c X d rg bs os g gA cA gX cX rg3 bs3 os3 g3 gA3 cA3 X3 cX3) {n m n3 m3 : Nat} (h1 : bs.length = n) (h2 : os.length = m) (h3 : bs3.length = n3) (h4 : os3.length = m3) :
    W.cell? ⟨w.heap.size, 0, none⟩ = some (.int .i64 p.rg) ∧ W.cell? ⟨w.heap.size, 1, none⟩ = some (.slice A p.bf.length c) ∧ W.cell? ⟨w.heap.size, 2, none⟩ = some (.slice X p.op.length d) ∧
    W.cell? ⟨g, 0, none⟩ = some (.int .i64 rg) ∧ W.cell? ⟨g, 1, none⟩ = some (.slice (some ⟨gA, 0, none⟩) n cA) ∧ W.cell? ⟨g, 2, none⟩ = some (.slice (some ⟨gX, 0, none⟩) m cX) ∧
    W.cell? ⟨g3, 0, none⟩ = some (.int .i64 rg3) ∧ W.cell? ⟨g3, 1, none⟩ = some (.slice (some ⟨gA3, 0, none⟩) n3 cA3) ∧ W.cell? ⟨g3, 2, none⟩ = some (.slice X3 m3 cX3) ∧ Fin3 w W p A c X d rg bs os g gA cA gX cX rg3 bs3 os3 g3 gA3 cA3 X3 cX3 := by
  subst h1 h2 h3 h4
  exact ⟨h.one.box.cell 0, h.one.box.cell 1, h.one.box.cell 2, h.one.q.k.cell 0, h.one.q.k.cell 1, h.one.q.k.cell 2, h.k3.cell 0, h.k3.cell 1, h.k3.cell 2, h⟩
theorem Fin3.rd3 (h : Fin3 w W p A c X d rg bs os g gA cA gX cX rg3 bs3 os3 g3 gA3 cA3 X3 cX3) : Rdr W W.heap.size (some ⟨gA3, 0, none⟩) bs3.length bs3 ∧ Rdr W W.heap.size X3 os3.length os3 := ⟨(rws_rd h.b3).2.1, (rws_rd h.o3).2.1⟩
end
end Lb
end Go.Proofs.YtjdpbelfagkaiaaDoor
