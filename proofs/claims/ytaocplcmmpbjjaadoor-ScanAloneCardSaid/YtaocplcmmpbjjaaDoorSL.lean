/- The state of a reading that is under way, and what keeps it. -/
import Derived.Test.YtaocplcmmpbjjaaDoorSK
namespace Go.Proofs.YtaocplcmmpbjjaaDoor
open Go Go.RowKit Go.Maps Go.Shelf
namespace Sn
open Nt
set_option linter.unusedVariables false
set_option linter.unusedSimpArgs false
/-- a round's word: what lay below n₀ stays, walks' objects stay, the reading stays -/
def Kps (n₀ R : Nat) (X Y : World) : Prop := Below n₀ X Y ∧ KeepsWalks X Y ∧ Y.heap[R]? = X.heap[R]?
/-- what the caller's invariant abides: a turn of the reading, or of what is no cells, from b₀ on -/
def AbR (R b₀ : Nat) (X : World) (row : Option Nat) : Prop := ∀ r, row = some r → r = R ∨ (b₀ ≤ r ∧ ∃ o : Obj, X.heap[r]? = some o ∧ o.isCells = false)
/-- under way: before a place, a part's kind and where it began -/
structure StT (n₀ R M I : Nat) (s : ByteArray) (pos p k : Nat) (X : World) : Prop where
  r : Rdg X R s (telF R) (.map (some M)) (k : Int) (p : Int) 0 0
  m : GoM X M
  it : X.heap[I]? = some (.stringIter s pos)
  tb : Lib.Utf8Tabs 0 1 X
  ne : R ≠ I ∧ M ≠ I ∧ M ≠ R ∧ 0 ≠ R ∧ 0 ≠ I ∧ 1 ≠ R ∧ 1 ≠ I
  lo : 0 < n₀ ∧ 1 < n₀ ∧ n₀ ≤ X.heap.size
theorem gom_eq {X Y : World} {M : Nat} (h : GoM X M) (e : Y.heap[M]? = X.heap[M]?) : GoM Y M := by
  obtain ⟨es, c, h1, h2⟩ := h
  exact ⟨es, c, e.trans h1, h2⟩
theorem gom_walk {X Y : World} {M : Nat} (h : GoM X M) (hk : KeepsWalks X Y) : GoM Y M := by
  obtain ⟨es, c, h1, h2⟩ := h
  exact ⟨es, c, hk.same M _ h1 rfl, h2⟩
theorem tabs_eq {X Y : World} (h : Lib.Utf8Tabs 0 1 X) (e0 : Y.heap[0]? = X.heap[0]?) (e1 : Y.heap[1]? = X.heap[1]?) : Lib.Utf8Tabs 0 1 Y :=
  ⟨fun c hc => (World.cell?_of_block (a := ⟨0, c, none⟩) e0).trans (h.1 c hc), fun i hi => ⟨(World.cell?_of_block (a := ⟨1, 2 * i, none⟩) e1).trans (h.2 i hi).1, (World.cell?_of_block (a := ⟨1, 2 * i + 1, none⟩) e1).trans (h.2 i hi).2⟩⟩
theorem below_walks {X Y : World} (hb : Below X.heap.size X Y) : KeepsWalks X Y := ⟨hb.size, fun k o hk _ => (hb.block k (Array.getElem?_eq_some_iff.1 hk).1).trans hk⟩
theorem below_grown {w w' : World} (h : Below w.heap.size w w') : w.grownBy w' none := ⟨h.os, h.tape, h.output, h.size, fun k hk _ => h.block k hk⟩
theorem below_low {X Y : World} {n : Nat} (hb : Below X.heap.size X Y) (hn : n ≤ X.heap.size) : Below n X Y := ⟨hb.os, hb.tape, hb.output, hb.size, fun k hk => hb.block k (by omega)⟩
section
variable {n₀ R M I : Nat} {s : ByteArray} {pos p k : Nat} {X Y : World}
theorem StT.keep (h : StT n₀ R M I s pos p k X) (hk : Kps n₀ R X Y) : StT n₀ R M I s pos p k Y :=
  ⟨hk.2.2.trans h.r, gom_walk h.m hk.2.1, hk.2.1.same I _ h.it rfl, tabs_eq h.tb (hk.1.block _ h.lo.1) (hk.1.block _ h.lo.2.1), h.ne, h.lo.1, h.lo.2.1, Nat.le_trans h.lo.2.2 hk.2.1.size⟩
theorem StT.lts (h : StT n₀ R M I s pos p k X) : R < X.heap.size ∧ M < X.heap.size ∧ I < X.heap.size ∧ 0 < X.heap.size ∧ 1 < X.heap.size :=
  ⟨Bk.lt h.r, h.m.lt, (Array.getElem?_eq_some_iff.1 h.it).1, World.block_lt_of_cell? X _ (h.tb.1 0 (by omega)), World.block_lt_of_cell? X _ (h.tb.2 0 (by omega)).1⟩
theorem StT.kps (h : StT n₀ R M I s pos p k X) (hb : Below X.heap.size X Y) : Kps n₀ R X Y :=
  ⟨below_low hb h.lo.2.2, below_walks hb, hb.block R h.lts.1⟩
theorem StT.below (h : StT n₀ R M I s pos p k X) (hb : Below X.heap.size X Y) : StT n₀ R M I s pos p k Y := h.keep (h.kps hb)
theorem StT.next (h : StT n₀ R M I s pos p k X) (pos' : Nat) : StT n₀ R M I s pos' p k (X.putObj I (.stringIter s pos')) := by
  obtain ⟨n1, n2, n3, n4, n5, n6, n7⟩ := h.ne
  exact ⟨(World.putObj_heap_other n1).trans h.r, gom_eq h.m (World.putObj_heap_other n2), World.putObj_heap_same h.lts.2.2.1, tabs_eq h.tb (World.putObj_heap_other n5) (World.putObj_heap_other n7), h.ne, h.lo.1, h.lo.2.1, by simpa using h.lo.2.2⟩
theorem StT.turn (h : StT n₀ R M I s pos p k X) {p' k' : Nat} (hg : X.grownBy Y (some R)) (hr : Rdg Y R s (telF R) (.map (some M)) (k' : Int) (p' : Int) 0 0) : StT n₀ R M I s pos p' k' Y := by
  obtain ⟨n1, n2, n3, n4, n5, n6, n7⟩ := h.ne
  obtain ⟨h1, h2, h3, h4, h5⟩ := h.lts
  have e : ∀ b, b < X.heap.size → b ≠ R → Y.heap[b]? = X.heap[b]? := fun b hb hn => hg.block b hb (fun e => hn (Option.some.inj e))
  exact ⟨hr, gom_eq h.m (e M h2 n3), (e I h3 (Ne.symm n1)).trans h.it, tabs_eq h.tb (e _ h4 n4) (e _ h5 n6), h.ne, h.lo.1, h.lo.2.1, Nat.le_trans h.lo.2.2 hg.size⟩
end
/-- how a word is handed on -/
def tokV (s : ByteArray) (t : Tok) : Value := .agg #[.int .i64 (t.k : Int), .string (s.extract t.p t.b), .int .i64 (t.p : Int)]
/-- what end comes to, for whoever ranges -/
def EndQ (n₀ R M I : Nat) (s : ByteArray) (pos p k b : Nat) (J Jx : List Tok → World → Prop) (pre : List Tok) (e : Ending) (w' : World) : Prop :=
  (finS s p b k = ([], none) ∧ e = .returned (.bool true) ∧ J pre w' ∧ StT n₀ R M I s pos p k w') ∨
  (finS s p b k = ([], some (p, 3)) ∧ e = .returned (.bool false) ∧ J pre w' ∧ Rdg w' R s (telF R) (.map (some M)) (k : Int) (p : Int) (p : Int) 3) ∨
  (finS s p b k = ([⟨k, p, b⟩], none) ∧ ((e = .returned (.bool true) ∧ J (pre ++ [⟨k, p, b⟩]) w' ∧ StT n₀ R M I s pos p k w') ∨ (e = .returned (.bool false) ∧ Jx (pre ++ [⟨k, p, b⟩]) w')))
theorem endq_in (n mm l n₀ b₀ R M I : Nat) (hn1 : 1 ≤ n) (s : ByteArray) (pos p k b : Nat) (hpb : p ≤ b) (hbs : b ≤ s.size) (hs : s.size ≤ 100000) (X : World) (J Jx : List Tok → World → Prop) (pre : List Tok)
    (hJ : ∀ t X Y row, J t X → X.grownBy Y row → AbR R b₀ X row → J t Y)
    (hY : finS s p b k = ([⟨k, p, b⟩], none) → ∀ X, J pre X → YieldAt Fence.wide mm Tryd.prog l #[tokV s ⟨k, p, b⟩] X fun e Y => (e = .returned (.bool true) ∧ J (pre ++ [⟨k, p, b⟩]) Y ∧ Kps n₀ R X Y) ∨ (e = .returned (.bool false) ∧ Jx (pre ++ [⟨k, p, b⟩]) Y))
    (hS : StT n₀ R M I s pos p k X) (h0 : J pre X) :
    CallsIn Fence.wide n Tryd.prog 37 #[.pointer (some ⟨R, 0, none⟩), .int .i64 (b : Int), .func (.yield l) #[] #[]] X (EndQ n₀ R M I s pos p k b J Jx pre) := by
  have hJb : ∀ t Y, J t X → Below X.heap.size X Y → J t Y := fun t Y h hb => hJ t X Y none h (below_grown hb) (fun r e => by cases e)
  refine (end_in n mm l R hn1 s (telF R) (.map (some M)) (k : Int) 0 0 p b hpb hbs hs X hS.r (fun r w' => (r = true ∧ J (pre ++ [⟨k, p, b⟩]) w' ∧ StT n₀ R M I s pos p k w' ∧ finS s p b k = ([⟨k, p, b⟩], none)) ∨ (r = false ∧ Jx (pre ++ [⟨k, p, b⟩]) w' ∧ finS s p b k = ([⟨k, p, b⟩], none))) ?_).mono ?_
  · rintro ⟨h4, h5, h2⟩ Y hb
    have hf : finS s p b k = ([⟨k, p, b⟩], none) := by
      unfold finS
      rw [if_neg (by omega), if_neg (fun h => h2 (by omega) h.2)]
    refine (hY hf Y (hJb pre Y h0 hb)).mono ?_
    rintro e Z (⟨rfl, h1, h3⟩ | ⟨rfl, h1⟩)
    · exact ⟨true, rfl, .inl ⟨rfl, h1, (hS.below hb).keep h3, hf⟩⟩
    · exact ⟨false, rfl, .inr ⟨rfl, h1, hf⟩⟩
  · rintro e w' (⟨h45, rfl, hb⟩ | ⟨h2, hn, rfl, W1, hb, hg, hr⟩ | ⟨r, rfl, ⟨rfl, h1, h2, hf⟩ | ⟨rfl, h1, hf⟩⟩)
    · refine .inl ⟨?_, rfl, hJb pre w' h0 hb, hS.below hb⟩
      unfold finS
      rw [if_pos (by omega)]
    · refine .inr (.inl ⟨?_, rfl, hJ pre W1 w' (some R) (hJb pre W1 h0 hb) hg (fun r e => by cases e; exact .inl rfl), hr⟩)
      unfold finS
      rw [if_neg (by omega), if_pos ⟨by omega, hn⟩]
    · exact .inr (.inr ⟨hf, .inl ⟨rfl, h1, h2⟩⟩)
    · exact .inr (.inr ⟨hf, .inr ⟨rfl, h1⟩⟩)
end Sn
end Go.Proofs.YtaocplcmmpbjjaaDoor
