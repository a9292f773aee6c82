/- A loop over an iterator that has a state of its own: what the iterator turns lies in blocks S; what a round keeps, it names (Kp); whatever is told is told with a word about it (Yx); nothing leaves the loop early. -/
import Derived.Test.YteppmkeoedddnaaDoorA1
import Derived.RangeFuncNested
import Derived.RangeFuncBound
import Derived.RangeFuncCalls
import Derived.RangeFuncLeaves
namespace Go.Proofs.YteppmkeoedddnaaDoor
open Go Go.RowKit
namespace Rt
set_option linter.unusedVariables false
/-- an iterator's step: new blocks; of those that lay, blocks of S alone are turned -/
structure Tn (S : Nat → Prop) (W W' : World) : Prop where
  os : W'.os = W.os
  tape : W'.tape = W.tape
  output : W'.output = W.output
  size : W.heap.size ≤ W'.heap.size
  block : ∀ k, k < W.heap.size → ¬ S k → W'.heap[k]? = W.heap[k]?
theorem Tn.refl (S : Nat → Prop) (W : World) : Tn S W W := ⟨rfl, rfl, rfl, Nat.le_refl _, fun _ _ _ => rfl⟩
theorem Tn.trans {S T : Nat → Prop} {A B C : World} (h : Tn S A B) (k : Tn T B C) (hT : ∀ j, T j → j < A.heap.size → S j) : Tn S A C :=
  ⟨k.os.trans h.os, k.tape.trans h.tape, k.output.trans h.output, Nat.le_trans h.size k.size, fun i hi hs => (k.block i (Nat.lt_of_lt_of_le hi h.size) (fun ht => hs (hT i ht hi))).trans (h.block i hi hs)⟩
theorem Tn.mono {S S' : Nat → Prop} {A B : World} (h : Tn S A B) (hs : ∀ k, k < A.heap.size → S k → S' k) : Tn S' A B :=
  ⟨h.os, h.tape, h.output, h.size, fun k hk hn => h.block k hk (fun h' => hn (hs k hk h'))⟩
theorem Tn.of_below {S : Nat → Prop} {A B : World} (h : Below A.heap.size A B) : Tn S A B := ⟨h.os, h.tape, h.output, h.size, fun k hk _ => h.block k hk⟩
theorem Tn.below {S : Nat → Prop} {A B : World} {n : Nat} (h : Tn S A B) (hn : n ≤ A.heap.size) (hs : ∀ k, k < n → ¬ S k) : Below n A B := ⟨h.os, h.tape, h.output, h.size, fun k hk => h.block k (by omega) (hs k hk)⟩
theorem Tn.alloc {S : Nat → Prop} {A B : World} (h : Tn S A B) (o : Obj) : Tn S A (B.alloc o) := h.trans (T := S) (Tn.of_below ((Below.refl _ B).alloc (Nat.le_refl _) o)) (fun _ h _ => h)
theorem Tn.drew {S : Nat → Prop} {A B : World} (h : Tn S A B) : Tn S A B.drew := ⟨h.os, h.tape, h.output, h.size, h.block⟩
theorem Tn.drewN {S : Nat → Prop} {A B : World} (h : Tn S A B) (n : Nat) : Tn S A (B.drewN n) := ⟨h.os, h.tape, h.output, h.size, h.block⟩
theorem Tn.setCell {S : Nat → Prop} {A B : World} (h : Tn S A B) (p : Addr) (hp : p.block < A.heap.size → S p.block) (v : Value) : Tn S A (B.setCell p v) :=
  h.trans (T := fun k => k = p.block) ⟨rfl, rfl, rfl, by simp [World.setCell], fun k hk hn => Below.heap_setCell _ _ _ _ hn⟩ (fun j hj hl => by subst hj; exact hp hl)
theorem Tn.grown {S : Nat → Prop} {A B C : World} {row : Option Nat} (h : Tn S A B) (hg : B.grownBy C row) (hr : ∀ j, row = some j → j < A.heap.size → S j) : Tn S A C :=
  h.trans (T := fun k => row = some k) ⟨hg.os, hg.tape, hg.output, hg.size, fun k hk hn => hg.block k hk (fun e => hn e.symm)⟩ hr
theorem Tn.putObj {S : Nat → Prop} {A B : World} (h : Tn S A B) (l : Nat) (hl : l < A.heap.size → S l) (o : Obj) : Tn S A (B.putObj l o) := h.grown (grownBy_putObj' B l o) (fun j e hj => by cases e; exact hl hj)
theorem Tn.keeps {S : Nat → Prop} {A B : World} (h : Tn S A B) {k : Nat} {o : Obj} (hk : A.heap[k]? = some o) (hn : ¬ S k) : B.heap[k]? = some o := (h.block k (Array.getElem?_eq_some_iff.1 hk).1 hn).trans hk
/-- .. and of those from B on that are no cells whatever -/
structure Tx (B : Nat) (S : Nat → Prop) (W W' : World) : Prop where
  os : W'.os = W.os
  tape : W'.tape = W.tape
  output : W'.output = W.output
  size : W.heap.size ≤ W'.heap.size
  block : ∀ k o, W.heap[k]? = some o → ¬ S k → (B ≤ k → o.isCells = true) → W'.heap[k]? = some o
theorem Tn.tx {B : Nat} {S : Nat → Prop} {W W' : World} (h : Tn S W W') : Tx B S W W' := ⟨h.os, h.tape, h.output, h.size, fun k o hk hn _ => h.keeps hk hn⟩
theorem Tx.putObj {B : Nat} {S : Nat → Prop} (W : World) {l : Nat} {o : Obj} (hB : B ≤ l) (hl : W.heap[l]? = some o) (ho : o.isCells = false) (o' : Obj) : Tx B S W (W.putObj l o') :=
  ⟨rfl, rfl, rfl, (grownBy_putObj' W l o').size, fun k x hk _ hc => by
    refine (World.putObj_heap_other (fun e => ?_)).trans hk
    subst e
    rw [hl] at hk
    cases hk
    rw [hc hB] at ho
    cases ho⟩
theorem Tx.mono {B : Nat} {S S' : Nat → Prop} {W W' : World} (h : Tx B S W W') (hs : ∀ k, S k → S' k) : Tx B S' W W' := ⟨h.os, h.tape, h.output, h.size, fun k o hk hn hc => h.block k o hk (fun h' => hn (hs k h')) hc⟩
theorem Tx.tn {B : Nat} {S : Nat → Prop} {W W' : World} (h : Tx B S W W') : Tn (fun k => S k ∨ B ≤ k) W W' := ⟨h.os, h.tape, h.output, h.size, fun k hk hn => by
  obtain ⟨o, ho⟩ : ∃ o, W.heap[k]? = some o := ⟨_, Array.getElem?_eq_getElem hk⟩
  rw [ho]
  exact h.block k o ho (fun h' => hn (.inl h')) (fun h' => absurd (.inr h') hn)⟩
theorem Tx.below {B n : Nat} {S : Nat → Prop} {W W' : World} (h : Tx B S W W') (hn : n ≤ B) (hw : n ≤ W.heap.size) (hs : ∀ k, k < n → ¬ S k) : Below n W W' :=
  h.tn.below hw (fun k hk h' => h'.elim (hs k hk) (fun h'' => by omega))
/-- what is told stands through such steps -/
abbrev Stays {β : Type} (B : Nat) (S : Nat → Prop) (I : β → World → Prop) : Prop := ∀ s W W', I s W → Tx B S W W' → I s W'
/-- an iterator's contract: it turns blocks of S; ahead of each round Yx is told; a round keeps Kp; in the end So -/
def SeqT {α : Type} (F : Fence) (n : Nat) (P : Program) (g : Nat) (lb : Array Value) (encs : α → Array Value) (S : Nat → Prop) (Yx : List α → α → World → Prop) (Kp : World → World → Prop) (So : List α → World → Prop) (N : Nat) (w : World) : Prop :=
  ∀ (l : Nat) (J : List α → World → Prop) (W : World), Below w.heap.size w W → (∀ s A B, J s A → Tn S A B → J s B) →
    (∀ pre x W1, J pre W1 → Yx pre x W1 → pre.length < N → YieldAt F (n - 1) P l (encs x) W1 fun e W' => e = .returned (.bool true) ∧ J (pre ++ [x]) W' ∧ Kp W1 W') →
    J [] W →
    CallsIn F n P g (#[.func (.yield l) #[] #[]] ++ lb) W fun e W' => (∃ v, e = .returned v) ∧ ∃ xs, So xs W' ∧ J xs W'
/-- a round's body goes on -/
def goesOn {α : Type} (B : Nat) (Kp : World → World → Prop) (I : List α → World → Prop) (xs : List α) (W : World) : Exit → Act → World → Prop
  | .normal, _, W' => KeepsFrom B W W' ∧ Kp W W' ∧ I xs W'
  | _, _, _ => False
variable {F : Fence} {n : Nat} {P : Program}
theorem range_t {α : Type} {g : Operand} {ps : Array Tmp} {assign body : Code} {Q : Exit → Act → World → Prop} {a : Act} {w w0 : World}
    (hro : F.round = none) (h1 : 1 ≤ n) {gf : Nat} {lb : Array Value} (hg : a.eval g = .func (.func gf) #[] lb) (hFg : F.fn gf) (eg : ∀ args w, (callFunc gf args).run P w = .ok (.enter gf args) w)
    {encs : α → Array Value} {S : Nat → Prop} {Yx : List α → α → World → Prop} {Kp : World → World → Prop} {So : List α → World → Prop} {N : Nat} (hseq : SeqT F (n - 1) P gf lb encs S Yx Kp So N w0)
    (hb0 : Below w0.heap.size w0 w) (hS : ∀ k, S k → k < w.heap.size)
    (hKt : ∀ {A B C : World}, Kp A B → Kp B C → Kp A C) (hKb : ∀ (W : World) (l : Nat) (o o' : Obj), w.heap.size ≤ l → W.heap[l]? = some o → o.isCells = false → Kp W (W.putObj l o')) (hps : ∀ x, (encs x).size = ps.size)
    (hYx : ∀ pre x, Stays w.heap.size (fun _ => False) (fun (_ : Unit) W => Yx pre x W)) (hSo : Stays w.heap.size (fun _ => False) So)
    (I : List α → World → Prop) (hI : Stays w.heap.size S I) (h0 : I [] w)
    (Ax : List α → α → Act → World → Prop) (hAx : ∀ pre x a', Stays w.heap.size (fun _ => False) (fun (_ : Unit) W => Ax pre x a' W))
    (hassign : ∀ (l : Nat) (pre : List α) (x : α) (W : World) (K : Act → World → Prop), I pre W → Yx pre x W → pre.length < N →
      (∀ a' W', KeepsFrom w.heap.size W W' → Kp W W' → I pre W' → Yx pre x W' → Ax pre x a' W' → K a' W') →
      assign.wpIn (F.inRound l) (n - 1 - 1) P (Exit.then K (fun _ _ _ => False)) { tmps := (ps.zip (encs x)).foldl (fun t (p, v) => t.setIfInBounds p v) a.tmps, defers := [] } W)
    (hbody : ∀ (l : Nat) (pre : List α) (x : α) (a' : Act) (W : World), w.heap.size ≤ l → (∃ r, W.heap[l]? = some (.loop r)) → I pre W → Yx pre x W → Ax pre x a' W → pre.length < N → body.wpIn (F.inRound l) (n - 1 - 1) P (goesOn w.heap.size Kp I (pre ++ [x]) W) a' W)
    (hdone : ∀ (D : Nat) (xs : List α) (W : World), w.heap.size ≤ D → So xs W → I xs W → W.heap[D]? = some (.deferred (some [])) → Q .normal { a with defers := { target := .collected D, args := #[] } :: a.defers } W) :
    (Code.rangeFunc g ps assign body).wpIn F n P Q a w := by
  refine wpIn_rangeFunc fun fn hfn => ?_
  rw [hro]
  obtain ⟨rec, hrec⟩ : ∃ rec : LoopState → Option Code → Loop, rec = fun st pe => { state := st, pending := pe, fn, tmps := a.tmps, params := ps, assign, body, defers := w.heap.size } := ⟨_, rfl⟩
  have hold : ∀ o p : Obj, Below w.heap.size w ((w.alloc o).alloc p) := fun o p => ((Below.refl _ w).alloc (Nat.le_refl _) o).alloc (by simp) p
  obtain ⟨W1, hW1⟩ : ∃ W1, (w.alloc (.deferred (some []))).alloc (.loop (rec .ready none)) = W1 := ⟨_, rfl⟩
  have hb1 : Below w.heap.size w W1 := by rw [← hW1]; exact hold _ _
  have hL1 : W1.heap[w.heap.size + 1]? = some (.loop (rec .ready none)) := by
    have := World.alloc_heap_new (w.alloc (.deferred (some []))) (.loop (rec .ready none))
    rw [World.size_alloc, hW1] at this
    exact this
  have hD1 : W1.heap[w.heap.size]? = some (.deferred (some [])) := by
    rw [← hW1]
    exact (Below.heap_alloc _ _ _ (by simp)).trans (World.alloc_heap_new w _)
  have hI1 : I [] W1 := hI _ _ _ h0 (Tn.of_below hb1).tx
  refine ⟨w.heap.size + 1, [{ target := .collected w.heap.size, args := #[] }], W1, { target := .fn (.func gf) lb, args := #[.func (.yield (w.heap.size + 1)) #[] #[]] }, W1, gf,
    #[.func (.yield (w.heap.size + 1)) #[] #[]] ++ lb, W1, ?_, ?_, ?_, ?_, fun _ => h1, ?_⟩
  · rw [← hW1, hrec]; exact run_enterLoop_outer _ _ _ _ _
  · simp only [resolve, hg]
    simp [go_sem]
  · intro f' hf'; simp [Target.leads] at hf'; subst hf'; exact hFg
  · simp [invoke, go_sem, eg]
  · refine (hseq (w.heap.size + 1)
      (fun pre W => I pre W ∧ W.heap[w.heap.size + 1]? = some (.loop (rec .ready none)) ∧ W.heap[w.heap.size]? = some (.deferred (some [])))
      W1 (hb0.trans (hb1.mono hb0.size))
      (fun s A B hs ht => ⟨hI s A B hs.1 ht.tx, ht.keeps hs.2.1 (fun h => by have := hS _ h; omega), ht.keeps hs.2.2 (fun h => by have := hS _ h; omega)⟩)
      ?_ ⟨hI1, hL1, hD1⟩).mono ?_
    · rintro pre x W ⟨hi, hl, hd⟩ hy hlen
      have hrun := run_yield (P := P) (args := encs x) hl (by rw [hrec]; exact hps x)
      rw [hrec] at hrun
      refine ⟨fn, _, assign, body, hrun, roundIn_of_wpIn hfn (hassign _ pre x W _ hi hy hlen ?_)⟩
      intro a' X hkf hkp hix hyx hax
      have hlX := hkf.same _ _ (by omega) hl rfl
      have hdX := hkf.same _ _ (Nat.le_refl _) hd rfl
      refine ⟨_, run_beginRound hlX (by rw [hrec]), ?_⟩
      have hltX : w.heap.size + 1 < X.heap.size := (Array.getElem?_eq_some_iff.1 hlX).1
      obtain ⟨Y, hY⟩ : ∃ Y, X.putObj (w.heap.size + 1) (.loop { rec .ready none with state := .busy }) = Y := ⟨_, rfl⟩
      have tY : ∀ S', Tx w.heap.size S' X Y := fun S' => by rw [← hY]; exact Tx.putObj X (by omega) hlX rfl _
      have hlY : Y.heap[w.heap.size + 1]? = some (.loop { rec .ready none with state := .busy }) := by rw [← hY]; exact World.putObj_heap_same hltX
      have hdY : Y.heap[w.heap.size]? = some (.deferred (some [])) := by rw [← hY]; exact (World.putObj_heap_other (by omega)).trans hdX
      have hkY : Kp X Y := by rw [← hY]; exact hKb _ _ _ _ (by omega) hlX rfl
      have hlen2 := hlen
      rw [hY]
      refine wpIn_mono (hbody _ pre x a' Y (by omega) ⟨_, hlY⟩ (hI _ _ _ hix (tY _)) (hYx pre x () _ _ hyx (tY _)) (hAx pre x a' () _ _ hax (tY _)) hlen) ?_
      rintro e a3 Z hp
      cases e with
      | normal =>
        obtain ⟨hk3, hkp3, hi3⟩ := hp
        have hlZ := hk3.same _ _ (by omega) hlY rfl
        have hdZ := hk3.same _ _ (Nat.le_refl _) hdY rfl
        have hend := run_endRound (P := P) none hlZ
        rw [hrec] at hend hlZ
        have tz : ∀ o', Tx w.heap.size S Z (Z.putObj (w.heap.size + 1) o') := fun o' => Tx.putObj Z (by omega) hlZ rfl o'
        refine ⟨_, _, hend, rfl, ⟨hI _ _ _ hi3 (tz _), ?_, (World.putObj_heap_other (by omega)).trans hdZ⟩, hKt hkp (hKt hkY (hKt hkp3 (hKb _ _ _ _ (by omega) hlZ rfl)))⟩
        rw [World.putObj_heap_same (Array.getElem?_eq_some_iff.1 hlZ).1, hrec]
        rfl
      | ret => exact hp.elim
      | exit id => exact hp.elim
      | goto t => exact hp.elim
      | panic ch => exact hp.elim
      | outgrown => exact hp.elim
    · rintro e W2 ⟨⟨v, rfl⟩, xs, hso, hi, hl, hd⟩
      have hend := run_endLoop (P := P) hl (by rw [hrec]; simp)
      rw [hrec] at hend
      have tz : ∀ S' o', Tx w.heap.size S' W2 (W2.putObj (w.heap.size + 1) o') := fun S' o' => Tx.putObj W2 (by omega) hl rfl o'
      exact ⟨none, _, hend, hdone _ xs _ (Nat.le_refl _) (hSo _ _ _ hso (tz _ _)) (hI _ _ _ hi (tz _ _)) ((World.putObj_heap_other (by omega)).trans hd)⟩
end Rt
end Go.Proofs.YteppmkeoedddnaaDoor
