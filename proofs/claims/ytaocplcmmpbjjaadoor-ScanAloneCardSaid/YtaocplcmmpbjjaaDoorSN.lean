/- A range over an iterator that writes a reading of its own between its rounds. -/
import Derived.Test.YtaocplcmmpbjjaaDoorSL
namespace Go.Proofs.YtaocplcmmpbjjaaDoor
open Go Go.RowKit Go.Maps Go.Shelf
namespace Sn
set_option linter.unusedVariables false
set_option linter.unusedSimpArgs false
variable {n : Nat} {P : Program}
theorem kps_trans {n₀ R : Nat} {A B C : World} (h : Kps n₀ R A B) (k : Kps n₀ R B C) : Kps n₀ R A C := ⟨h.1.trans k.1, h.2.1.trans k.2.1, k.2.2.trans h.2.2⟩
theorem kps_put {n₀ R : Nat} {W : World} {l : Nat} {o : Obj} (o' : Obj) (hn : n₀ ≤ l) (hl : W.heap[l]? = some o) (ho : o.isWalk = false) (hne : R ≠ l) : Kps n₀ R W (W.putObj l o') :=
  ⟨⟨rfl, rfl, rfl, by simp, fun k hk => World.putObj_heap_other (by omega)⟩, KeepsWalks.putObj o' hl ho, World.putObj_heap_other hne⟩
theorem kps_refl (n₀ R : Nat) (W : World) : Kps n₀ R W W := ⟨Below.refl _ _, KeepsWalks.refl _, rfl⟩
/-- the contract of an iterator that writes a reading R of its own: with whatever invariants, which may speak of that reading's place -/
def SeqR {α : Type} (n : Nat) (P : Program) (gf : Nat) (fb lb : Array Value) (encs : α → Array Value) (n₀ : Nat) (ok : Nat → World → World → Prop) (xs : List α) (E : Nat → World → Prop) (w : World) : Prop :=
  ∀ (l : Nat) (J Jx : Nat → List α → World → Prop) (W : World), Below w.heap.size w W →
    (∀ R t X Y row, J R t X → X.grownBy Y row → AbR R W.heap.size X row → J R t Y) →
    (∀ R pre x X, J R pre X → (pre ++ [x]) <+: xs → YieldAt Fence.wide (n - 1) P l (encs x) X fun e Y => (e = .returned (.bool true) ∧ J R (pre ++ [x]) Y ∧ Kps n₀ R X Y) ∨ (e = .returned (.bool false) ∧ Jx R (pre ++ [x]) Y)) →
    (∀ R X, ok R W X → Below W.heap.size W X → J R [] X) →
    CallsIn Fence.wide n P gf (fb ++ #[.func (.yield l) #[] #[]] ++ lb) W fun e W' => (∃ v, e = .returned v) ∧ ∃ R, ((J R xs W' ∧ E R W') ∨ (∃ pre, pre <+: xs ∧ Jx R pre W'))
theorem abR_up {R b b' : Nat} {X : World} {row : Option Nat} (hb : b ≤ b') (h : AbR R b' X row) : AbR R b X row := fun r e => by
  rcases h r e with h | ⟨h1, h2⟩
  · exact .inl h
  · exact .inr ⟨by omega, h2⟩
theorem abR_put {R b : Nat} {X : World} {l : Nat} {o : Obj} (hl : X.heap[l]? = some o) (hb : b ≤ l) (ho : o.isCells = false) : AbR R b X (some l) := fun r e => by cases e; exact .inr ⟨hb, o, hl, ho⟩
theorem wpIn_rangeR {α : Type} {g : Operand} {ps : Array Tmp} {assign body : Code} {Q : Exit → Act → World → Prop} {a : Act} {w : World}
    (h1 : 1 ≤ n) {gf : Nat} {fb lb : Array Value} (hg : a.eval g = .func (.func gf) fb lb) (eg : ∀ args w, (callFunc gf args).run P w = .ok (.enter gf args) w)
    {encs : α → Array Value} {n₀ : Nat} {ok : Nat → World → World → Prop} {xs : List α} {E : Nat → World → Prop} {w0 : World} (hseq : SeqR (n - 1) P gf fb lb encs n₀ ok xs E w0)
    (hn₀ : n₀ ≤ w.heap.size) (hb0 : Below w0.heap.size w0 w) (hps : ∀ x, (encs x).size = ps.size)
    (hok : ∀ R W1 X, W1.heap.size = w.heap.size + 2 → ok R W1 X → R ≠ w.heap.size ∧ R ≠ w.heap.size + 1)
    (hE : ∀ R X l o', R ≠ l → E R X → E R (X.putObj l o'))
    (I : Nat → List α → World → Prop) (Ix : Nat → Code → List α → World → Prop)
    (hI : ∀ R t X Y row, I R t X → X.grownBy Y row → AbR R w.heap.size X row → I R t Y) (hIx : ∀ R c, OwnFrom w.heap.size (Ix R c))
    (h0 : ∀ R W1 X, Below w.heap.size w W1 → W1.heap.size = w.heap.size + 2 → ok R W1 X → Below W1.heap.size W1 X → I R [] X)
    (Ax : α → Act → World → Prop) (hAx : ∀ x a', OwnFrom w.heap.size (fun (_ : Unit) W => Ax x a' W))
    (hassign : ∀ (l R : Nat) (pre : List α) (x : α) (W : World) (K : Act → World → Prop), I R pre W → (∀ a' W', KeepsFrom w.heap.size W W' → Kps n₀ R W W' → I R pre W' → Ax x a' W' → K a' W') →
      assign.wpIn (Fence.wide.inRound l) (n - 1 - 1) P (Exit.then K (fun _ _ _ => False)) { tmps := (ps.zip (encs x)).foldl (fun t (p, v) => t.setIfInBounds p v) a.tmps, defers := [] } W)
    (hbody : ∀ (l R : Nat) (pre : List α) (x : α) (a' : Act) (W : World), w.heap.size ≤ l → R ≠ l → (∃ r, W.heap[l]? = some (.loop r)) → I R pre W → Ax x a' W → (pre ++ [x]) <+: xs → body.wpIn (Fence.wide.inRound l) (n - 1 - 1) P (ownPostG w.heap.size (Kps n₀ R) (I R) (Ix R) (pre ++ [x]) W) a' W)
    (hdone : ∀ (D R : Nat) (W : World), w.heap.size ≤ D → R ≠ D → I R xs W → E R W → W.heap[D]? = some (.deferred (some [])) → Q .normal { a with defers := { target := .collected D, args := #[] } :: a.defers } W)
    (hstop : ∀ (D R : Nat) (c : Code) (pre : List α) (W : World), w.heap.size ≤ D → pre <+: xs → Ix R c pre W → W.heap[D]? = some (.deferred (some [])) → c.wpIn Fence.wide n P Q { a with defers := { target := .collected D, args := #[] } :: a.defers } W) :
    (Code.rangeFunc g ps assign body).wpIn Fence.wide n P Q a w := by
  refine wpIn_rangeFunc ?_
  intro fn hfn
  rw [show Fence.wide.round = none from rfl]
  obtain ⟨rec, hrec⟩ : ∃ rec : LoopState → Option Code → Loop, rec = fun st pe => { state := st, pending := pe, fn, tmps := a.tmps, params := ps, assign, body, defers := w.heap.size } := ⟨_, rfl⟩
  obtain ⟨W1, hW1⟩ : ∃ W1, (w.alloc (.deferred (some []))).alloc (.loop (rec .ready none)) = W1 := ⟨_, rfl⟩
  have hL1 : W1.heap[w.heap.size + 1]? = some (.loop (rec .ready none)) := by
    rw [← hW1]; have := World.alloc_heap_new (w.alloc (.deferred (some []))) (.loop (rec .ready none)); rwa [World.size_alloc] at this
  have hK1 : W1.heap[w.heap.size]? = some (.deferred (some [])) := by
    rw [← hW1]; exact (Below.heap_alloc _ _ _ (by simp)).trans (World.alloc_heap_new w _)
  have hs1 : W1.heap.size = w.heap.size + 2 := by rw [← hW1]; simp
  have hbw : Below w.heap.size w W1 := by rw [← hW1]; exact ((Below.refl _ w).alloc (Nat.le_refl _) _).alloc (by simp) _
  have hb1 : Below w0.heap.size w0 W1 := hb0.trans (hbw.mono hb0.size)
  refine ⟨w.heap.size + 1, [{ target := .collected w.heap.size, args := #[] }], W1, { target := .fn (.func gf) lb, args := fb ++ #[.func (.yield (w.heap.size + 1)) #[] #[]] }, W1, gf,
    fb ++ #[.func (.yield (w.heap.size + 1)) #[] #[]] ++ lb, W1, ?_, ?_, ?_, ?_, fun _ => h1, ?_⟩
  · rw [← hW1, hrec]; exact run_enterLoop_outer _ _ _ _ _
  · simp only [resolve, hg]
    simp [go_sem]
  · intro f' hf'; trivial
  · simp [invoke, go_sem, eg]
  · have hrk : ∀ {R k : Nat} {A B : World} {row : Option Nat} {o : Obj}, R ≠ k → k < W1.heap.size → A.grownBy B row → AbR R W1.heap.size A row → A.heap[k]? = some o → B.heap[k]? = some o := fun hne hk hg' hr ho => by
      refine (hg'.block _ (Array.getElem?_eq_some_iff.1 ho).1 (fun e => ?_)).trans ho
      rcases hr _ e.symm with h | ⟨h, _⟩
      · exact hne h.symm
      · omega
    refine (hseq (w.heap.size + 1)
      (fun R pre W => I R pre W ∧ (R ≠ w.heap.size ∧ R ≠ w.heap.size + 1) ∧ W.heap[w.heap.size + 1]? = some (.loop (rec .ready none)) ∧ W.heap[w.heap.size]? = some (.deferred (some [])))
      (fun R pre W => ∃ c, Ix R c pre W ∧ W.heap[w.heap.size + 1]? = some (.loop (rec .done (some c))) ∧ W.heap[w.heap.size]? = some (.deferred (some [])))
      W1 hb1
      (fun R s A B row hs hg' hr => ⟨hI R s A B row hs.1 hg' (abR_up (by omega) hr), hs.2.1, hrk hs.2.1.2 (by omega) hg' hr hs.2.2.1, hrk hs.2.1.1 (by omega) hg' hr hs.2.2.2⟩)
      ?_ (fun R X hk hb => ⟨h0 R W1 X hbw hs1 hk hb, hok R W1 X hs1 hk, (hb.block _ (by omega)).trans hL1, (hb.block _ (by omega)).trans hK1⟩)).mono ?_
    · rintro R pre x W ⟨hi, ⟨hr0, hr1⟩, hl, hk⟩ hpx
      have hlt : w.heap.size + 1 < W.heap.size := (Array.getElem?_eq_some_iff.1 hl).1
      have hy := run_yield (P := P) (args := encs x) hl (by rw [hrec]; exact hps x)
      rw [hrec] at hy
      refine ⟨fn, _, assign, body, hy, roundIn_of_wpIn hfn (hassign _ R pre x W _ hi ?_)⟩
      clear hy
      intro a' Wa hkfa hkpa hia hax
      replace hl := hkfa.same _ _ (by omega) hl rfl
      replace hk := hkfa.same _ _ (Nat.le_refl _) hk rfl
      replace hlt : w.heap.size + 1 < Wa.heap.size := (Array.getElem?_eq_some_iff.1 hl).1
      replace hi := hia
      clear hia
      revert hkpa hkfa
      generalize W = Wb
      intro hkfa hkpa
      obtain ⟨W, rfl⟩ : ∃ W, W = Wa := ⟨_, rfl⟩
      refine ⟨_, run_beginRound hl (by rw [hrec]), ?_⟩
      have hl2 : (W.putObj (w.heap.size + 1) (.loop { rec .ready none with state := .busy })).heap[w.heap.size + 1]? = some (.loop { rec .ready none with state := .busy }) := World.putObj_heap_same hlt
      have hk2 : (W.putObj (w.heap.size + 1) (.loop { rec .ready none with state := .busy })).heap[w.heap.size]? = some (.deferred (some [])) := (World.putObj_heap_other (by omega)).trans hk
      have hw2 : Kps n₀ R W (W.putObj (w.heap.size + 1) (.loop { rec .ready none with state := .busy })) := kps_put _ (by omega) hl rfl hr1
      have hput : ∀ {t : List α} {A : World} {o : Obj} (o' : Obj), I R t A → A.heap[w.heap.size + 1]? = some o → o.isCells = false → I R t (A.putObj (w.heap.size + 1) o') := fun o' h hl ho => hI R _ _ _ (some _) h (grownBy_putObj' _ _ _) (abR_put hl (by omega) ho)
      refine wpIn_mono (hbody _ R pre x a' _ (by omega) hr1 ⟨_, hl2⟩ (hput _ hi hl rfl) ((hAx x a').putObj (s := ()) _ hax (by omega) hl rfl) hpx) ?_
      have fin : ∀ (jump : Option Code) (W3 : World), KeepsFrom w.heap.size (W.putObj (w.heap.size + 1) (.loop { rec .ready none with state := .busy })) W3 →
          (Instr.endRound (w.heap.size + 1) jump).run P W3 = .ok (.bool jump.isNone) (W3.putObj (w.heap.size + 1) (.loop (rec (if jump.isNone then .ready else .done) jump))) ∧
          W3.heap[w.heap.size + 1]? = some (.loop { rec .ready none with state := .busy }) ∧
          (W3.putObj (w.heap.size + 1) (.loop (rec (if jump.isNone then .ready else .done) jump))).heap[w.heap.size + 1]? = some (.loop (rec (if jump.isNone then .ready else .done) jump)) ∧
          (W3.putObj (w.heap.size + 1) (.loop (rec (if jump.isNone then .ready else .done) jump))).heap[w.heap.size]? = some (.deferred (some [])) := fun jump W3 hk3 => by
        have hl3 := hk3.same _ _ (by omega) hl2 rfl
        have := run_endRound (P := P) jump hl3
        rw [hrec] at this ⊢
        exact ⟨this, by rw [hrec] at hl3; exact hl3, World.putObj_heap_same (Array.getElem?_eq_some_iff.1 hl3).1, (World.putObj_heap_other (by omega)).trans (hk3.same _ _ (Nat.le_refl _) hk2 rfl)⟩
      rintro e a3 W3 hp
      cases e with
      | normal =>
        obtain ⟨hk3, hkp3, hi3⟩ := hp
        obtain ⟨hr, hl3, hl4, hk4⟩ := fin none W3 hk3
        exact ⟨_, _, hr, .inl ⟨rfl, ⟨hput _ hi3 hl3 rfl, ⟨hr0, hr1⟩, hl4, hk4⟩, kps_trans hkpa (kps_trans (kps_trans hw2 hkp3) (kps_put _ (by omega) hl3 rfl hr1))⟩⟩
      | ret =>
        obtain ⟨hk3, hi3⟩ := hp
        obtain ⟨hr, hl3, hl4, hk4⟩ := fin (some .ret) W3 hk3
        exact ⟨_, _, hr, .inr ⟨rfl, .ret, (hIx _ _).putObj _ hi3 (by omega) hl3 rfl, hl4, hk4⟩⟩
      | exit id =>
        obtain ⟨hk3, hi3⟩ := hp
        obtain ⟨hr, hl3, hl4, hk4⟩ := fin (some (.exit id)) W3 hk3
        exact ⟨_, _, hr, .inr ⟨rfl, .exit id, (hIx _ _).putObj _ hi3 (by omega) hl3 rfl, hl4, hk4⟩⟩
      | goto t =>
        obtain ⟨hk3, hi3⟩ := hp
        obtain ⟨hr, hl3, hl4, hk4⟩ := fin (some (.goto t)) W3 hk3
        exact ⟨_, _, hr, .inr ⟨rfl, .goto t, (hIx _ _).putObj _ hi3 (by omega) hl3 rfl, hl4, hk4⟩⟩
      | panic ch => exact hp.elim
      | outgrown => exact hp.elim
    · rintro e W2 ⟨⟨v, rfl⟩, R, (⟨⟨hi, hne, hl, hk⟩, hEE⟩ | ⟨pre, hpre, c, hi, hl, hk⟩)⟩
      · exact ⟨none, _, by have := run_endLoop (P := P) hl (by rw [hrec]; simp); rw [hrec] at this; exact this, hdone _ R _ (Nat.le_refl _) hne.1 (hI R _ _ _ (some _) hi (grownBy_putObj' _ _ _) (abR_put hl (by omega) rfl)) (hE R _ _ _ hne.2 hEE) ((World.putObj_heap_other (by omega)).trans hk)⟩
      · exact ⟨some c, _, by have := run_endLoop (P := P) hl (by rw [hrec]; simp); rw [hrec] at this; exact this, hstop _ R c pre _ (Nat.le_refl _) hpre ((hIx R _).putObj _ hi (by omega) hl rfl) ((World.putObj_heap_other (by omega)).trans hk)⟩
end Sn
end Go.Proofs.YtaocplcmmpbjjaaDoor
