/- A region that draws its order, inside a wide fence, in which one more operation floats (the taking apart of a call's answer): it may be held to its place. -/
import Derived.Test.YtdklchejnpaenaaDoorStillIn
namespace Go.Proofs.YtdklchejnpaenaaDoor
open Go Go.RowKit
namespace Sti
set_option linter.unusedVariables false

section
variable {F : Fence} {n : Nat} {P : Program} {md : Region.Mode}

/-- the same operation, behind number p too -/
def behind (o : Oper) (p : Nat) : Oper := { o with after := o.after.push { on := p, ground := .data } }
def hold : List Oper → Nat → Nat → List Oper
  | [], _, _ => []
  | o :: l, 0, p => behind o p :: l
  | o :: l, t + 1, p => o :: hold l t p
theorem hold_length (l : List Oper) (t p : Nat) : (hold l t p).length = l.length := by
  induction l generalizing t with
  | nil => rfl
  | cons o l ih => cases t <;> simp [hold, ih]
theorem hold_ne (l : List Oper) (t p j : Nat) (h : j ≠ t) : (hold l t p)[j]? = l[j]? := by
  induction l generalizing t j with
  | nil => rfl
  | cons o l ih =>
    cases t with
    | zero => cases j with
      | zero => exact absurd rfl h
      | succ j => rfl
    | succ t => cases j with
      | zero => rfl
      | succ j => simp only [hold, List.getElem?_cons_succ]; exact ih t j (by omega)
theorem hold_at (l : List Oper) (t p : Nat) : (hold l t p)[t]? = (l[t]?).map (behind · p) := by
  induction l generalizing t with
  | nil => rfl
  | cons o l ih =>
    cases t with
    | zero => rfl
    | succ t => simp only [hold, List.getElem?_cons_succ]; exact ih t

theorem wanted_none {o : Oper} (h : o.guard = none) (y : _) : Region.wanted o y = true := by simp [Region.wanted, h]

theorem promote (hro : F.round = none) {ops ops' : Array Oper} {p t : Nat} {op ot : Oper} {Q : Exit → Act → World → Prop} (hg : ∀ (j : Nat) (o : Oper), ops[j]? = some o → o.guard = none)
    (hp : ops[p]? = some op) (ht : ops[t]? = some ot) (hne : p ≠ t) (hops : ∀ j, j ≠ t → ops'[j]? = ops[j]?) (hot : ops'[t]? = some (behind ot p))
    (hdep : ∀ e ∈ op.after, Region.binds md e = true → ∃ e' ∈ ot.after, Region.binds md e' = true ∧ e'.on = e.on) (hsel : ∀ (j : Nat) (o : Oper) cs b, ops[j]? = some o → o.op ≠ .select cs b)
    (hfree : ∀ (j : Nat) (oj : Oper), ops[j]? = some oj → j ≠ p → (∀ e ∈ op.after, Region.binds md e = true → e.on ≠ j) → (∀ e ∈ oj.after, Region.binds md e = true → e.on ≠ p) → op.apart ops oj = true)
    (hQ : ∀ c a w, ¬ Q (.panic c) a w)
    (hpure : ∀ (a : Act) (w : World) (K : Act → World → Prop), op.wpIn F n P a w K Q → ∃ v, YieldsFenced P ops op v a ∧ K (a.put op.dst v) w) :
    ∀ (fuel : Nat) (listed : Array Bool) (a : Act) (w : World), listed.size = ops.size → wpAnyIn F n P md ops' Q fuel listed a w → wpAnyIn F n P md ops Q fuel listed a w := by
  have sub : ∀ (listed : Array Bool) (i : Nat), i ∈ Region.ready md ops' listed → i ∈ Region.ready md ops listed := by
    intro listed i hi
    obtain ⟨h1, o, ho, hall⟩ := mem_ready.1 hi
    by_cases hit : i = t
    · subst hit
      rw [hot] at ho
      injection ho with ho
      subst ho
      exact mem_ready.2 ⟨h1, ot, ht, fun e he hb => hall e (by simp only [behind, Array.mem_push]; exact .inl he) hb⟩
    · exact mem_ready.2 ⟨h1, o, by rw [← hops i hit]; exact ho, hall⟩
  have same : ∀ (listed : Array Bool) (i : Nat), i ≠ t → i ∈ Region.ready md ops listed → i ∈ Region.ready md ops' listed := by
    intro listed i hit hi
    obtain ⟨h1, o, ho, hall⟩ := mem_ready.1 hi
    exact mem_ready.2 ⟨h1, o, by rw [hops i hit]; exact ho, hall⟩
  have hplt : p < ops.size := (Array.getElem?_eq_some_iff.1 hp).1
  have late : ∀ (listed : Array Bool), listed.size = ops.size → t ∈ Region.ready md ops listed → p ∉ Region.ready md ops listed → t ∈ Region.ready md ops' listed := by
    intro listed hs hi hnp
    obtain ⟨h1, o, ho, hall⟩ := mem_ready.1 hi
    rw [ht] at ho
    injection ho with ho
    subst ho
    refine mem_ready.2 ⟨h1, _, hot, fun e he hb => ?_⟩
    simp only [behind, Array.mem_push] at he
    rcases he with he | rfl
    · exact hall e he hb
    · by_cases hl : listed.getD p false = true
      · exact hl
      · exfalso
        refine hnp (mem_ready.2 ⟨?_, op, hp, fun e he hb => ?_⟩)
        · have h2 : listed.getD p false = false := by simpa using hl
          have h' : p < listed.size := by omega
          simp [h'] at h2 ⊢; exact h2
        · obtain ⟨e', he', hb', hon⟩ := hdep e he hb
          rw [← hon]; exact hall e' he' hb'
  have opsame : ∀ (i : Nat) (K : Act → World → Prop) (a : Act) (w : World), wpOpIn F n P ops' Q i K a w → wpOpIn F n P ops Q i K a w := by
    intro i K a w h
    by_cases hit : i = t
    · subst hit
      unfold wpOpIn at h ⊢
      rw [hot] at h
      rw [ht]
      simp only [wanted_none (hg i ot ht), wanted_none (show (behind ot p).guard = none from hg i ot ht), if_true] at h ⊢
      exact h
    · unfold wpOpIn at h ⊢
      rw [hops i hit] at h
      cases ho : ops[i]? with
      | none => rw [ho] at h; exact h
      | some o =>
        rw [ho] at h
        simp only [wanted_none (hg i o ho), if_true] at h ⊢
        exact h
  intro fuel
  induction fuel with
  | zero =>
    intro listed a w hs h
    refine ⟨?_, h.2⟩
    rcases hr : Region.ready md ops listed with _ | ⟨i, is⟩
    · rfl
    · exfalso
      have hi : i ∈ Region.ready md ops listed := by rw [hr]; exact List.mem_cons_self ..
      by_cases hpr : p ∈ Region.ready md ops listed
      · have := same listed p hne hpr
        rw [h.1] at this; cases this
      · have : i ∈ Region.ready md ops' listed := by
          by_cases hit : i = t
          · subst hit; exact late listed hs hi hpr
          · exact same listed i hit hi
        rw [h.1] at this; cases this
  | succ fuel ih =>
    intro listed a w hs h
    by_cases hpr : p ∈ Region.ready md ops listed
    · have h1 := h.2 p (same listed p hne hpr)
      have h2 : op.wpIn F n P a w (wpAnyIn F n P md ops' Q fuel (listed.setIfInBounds p true)) Q := by
        have := opsame p _ a w h1
        unfold wpOpIn at this
        simp only [hp, wanted_none (hg p op hp), if_true] at this
        exact this
      obtain ⟨v, hy, hK⟩ := hpure a w _ h2
      exact wpAnyIn_first hro hp hsel (fun c a w hc => absurd hc (hQ c _ w)) fuel listed a w (fun j oj hj hne' hun hno => hfree j oj hj hne' (fun e he hb heq => by
        obtain ⟨_, o', ho', hall⟩ := mem_ready.1 hpr
        rw [hp] at ho'
        injection ho' with ho'
        subst ho'
        have h3 := hall e he hb
        rw [heq] at h3
        rcases Nat.lt_or_ge j listed.size with h' | h'
        · simp [h'] at h3 hun; rw [h3] at hun; cases hun
        · simp [Array.getElem?_eq_none h'] at h3) hno) hpr hy (ih _ _ _ (by simpa using hs) hK)
    · refine ⟨fun h0 => h.1 ?_, fun i hi => ?_⟩
      · rcases hr : Region.ready md ops' listed with _ | ⟨i, is⟩
        · rfl
        · have hi : i ∈ Region.ready md ops' listed := by rw [hr]; exact List.mem_cons_self ..
          have := sub listed i hi
          rw [h0] at this; cases this
      · have hi' : i ∈ Region.ready md ops' listed := by
          by_cases hit : i = t
          · subst hit; exact late listed hs hi hpr
          · exact same listed i hit hi
        exact wpOpIn_mono (fun a' w' h' => ih _ a' w' (by simpa using hs) h') (opsame i _ a w (h.2 i hi'))

/-- what is asked of the region, by computing: no guards, no deferred calls; number p takes a call's answer apart, and is apart from all that is not bound to it; it waits for nothing that t does not wait for -/
def holdOk (md : Region.Mode) (l : List Oper) (t p : Nat) : Bool :=
  noDefer l && Region.noSelect l.toArray && l.all (fun o => o.guard.isNone) && decide (p ≠ t) &&
  (match l[p]?, l[t]? with
   | some op, some ot => (match op.op with | .extract .. => true | _ => false) && op.dst.isSome &&
      op.after.all (fun e => !Region.binds md e || ot.after.any (fun e' => Region.binds md e' && e'.on == e.on)) &&
      (List.range l.length).all (fun j => j == p || op.after.any (fun e => Region.binds md e && e.on == j) ||
        (match l[j]? with
         | some oj => oj.after.any (fun e => Region.binds md e && e.on == p) || op.apart l.toArray oj
         | none => true))
   | _, _ => false)

theorem extract_pure (hro : F.round = none) {ops : Array Oper} {o : Oper} {x : Operand} {i : Nat} (ho : o.op = .extract x i) (hg : o.guard = none) {Q : Exit → Act → World → Prop} (hQ : ∀ c a w, ¬ Q (.panic c) a w) (a : Act) (w : World) (K : Act → World → Prop)
    (h : o.wpIn F n P a w K Q) : ∃ v, YieldsFenced P ops o v a ∧ K (a.put o.dst v) w := by
  have hab : ∀ w, o.about P w a.eval = none := fun w => by simp [Oper.about, ho]
  obtain ⟨_, h⟩ := h
  rw [hro, Oper.semAt_none] at h
  have key : (∃ v, ∀ w, (execOp a.eval o).run P w = .ok (.value v) w) ∨ (∀ K, ¬ o.uponIn F n P a K Q ((execOp a.eval o).run P w)) := by
    simp only [execOp, ho]
    unfold Instr.extract
    split
    · split
      · rename_i v _
        exact .inl ⟨v, fun w => rfl⟩
      · refine .inr fun K hK => ?_
        simp only [Sem.run_bind, stuck, Sem.run] at hK
        exact hK
    · refine .inr fun K hK => ?_
      simp only [Sem.run_bind, stuck, Sem.run] at hK
      exact hK
  rcases key with ⟨v, hv⟩ | hn
  · refine ⟨v, ⟨.inl ⟨wanted_none hg _, hv⟩, hab⟩, ?_⟩
    rw [hv w] at h
    exact h
  · exact absurd h (hn K)

theorem upon_inRound {o : Oper} {a : Act} {K : Act → World → Prop} {Q : Exit → Act → World → Prop} {r : Result Next} (l : Nat) (h : o.uponIn F n P a K Q r) : o.uponIn (F.inRound l) n P a K Q r := h
theorem anyIn_inRound {ops : Array Oper} {Q : Exit → Act → World → Prop} (l : Nat) (hnd : ∀ (i : Nat) (o : Oper), ops[i]? = some o → ∀ c, o.op ≠ .defer c) : ∀ (fuel : Nat) (listed : Array Bool) (a : Act) (w : World),
    wpAnyIn F n P md ops Q fuel listed a w → wpAnyIn (F.inRound l) n P md ops Q fuel listed a w := by
  intro fuel
  induction fuel with
  | zero => exact fun _ _ _ h => h
  | succ fuel ih =>
    intro listed a w h
    refine ⟨h.1, fun i hi => ?_⟩
    have h1 := wpOpIn_mono (fun a' w' h' => ih _ a' w' h') (h.2 i hi)
    unfold wpOpIn at h1 ⊢
    cases ho : ops[i]? with
    | none => rw [ho] at h1; exact h1
    | some o =>
      rw [ho] at h1
      dsimp only at h1 ⊢
      split
      · rename_i hw
        rw [if_pos hw] at h1
        refine ⟨h1.1, ?_⟩
        have h2 := h1.2
        rw [Oper.semAt_plain F _ _ (hnd i o ho)] at h2
        rw [Oper.semAt_plain (F.inRound l) _ _ (hnd i o ho)]
        exact upon_inRound l h2
      · rename_i hw
        rw [if_neg hw] at h1
        exact h1

/-- what stands behind the region is asked where it ends off its end alone -/
theorem any_hold (hF : Wide F P) (hro : F.round = none) {Q : Exit → Act → World → Prop} {a : Act} {w : World} {l : List Oper} (m t p : Nat) (hH : holdOk .any l t p = true) (hB : Region.lexTailB .any (hold l t p).toArray m = true)
    (h : wpStill P (hold l t p).toArray w (fun a' => wpListIn F n P (hold l t p).toArray (fun e a w => e = .normal ∧ Q .normal a w) ((hold l t p).drop m) a' w) ((hold l t p).take m) a) :
    wpAnyIn F n P .any l.toArray (fun e a w => e = .normal ∧ Q .normal a w) l.toArray.size (Array.replicate l.toArray.size false) a w := by
  simp only [Region.lexTailB, Bool.and_eq_true, decide_eq_true_eq] at hB
  obtain ⟨⟨⟨⟨hsel, hn⟩, hs⟩, hc⟩, hlex⟩ := hB
  obtain ⟨L, hL⟩ : ∃ L, L = hold l t p := ⟨_, rfl⟩
  have hlen : L.length = l.length := by rw [hL]; exact hold_length l t p
  rw [← hL] at hsel hn hs hc hlex h
  simp only [holdOk, Bool.and_eq_true, decide_eq_true_eq] at hH
  obtain ⟨⟨⟨⟨hd, hsel'⟩, hgd⟩, hne⟩, hpt⟩ := hH
  have hg : ∀ (j : Nat) (o : Oper), l.toArray[j]? = some o → o.guard = none := fun j o ho => by
    have hm : o ∈ l := List.mem_of_getElem? (by simpa using ho)
    have := List.all_eq_true.1 hgd o hm
    simpa using this
  have hndL : ∀ (i : Nat) (o : Oper), L.toArray[i]? = some o → ∀ c, o.op ≠ .defer c := fun i o ho => by
    by_cases hit : i = t
    · subst hit
      have ho' : (hold l i p)[i]? = some o := by rw [← hL]; simpa using ho
      rw [hold_at] at ho'
      cases hx : l[i]? with
      | none => rw [hx] at ho'; cases ho'
      | some o' =>
        rw [hx] at ho'
        injection ho' with ho'
        subst ho'
        exact noDefer_spec hd i o' (by simpa using hx)
    · have ho' : (hold l t p)[i]? = some o := by rw [← hL]; simpa using ho
      rw [hold_ne _ _ _ _ hit] at ho'
      exact noDefer_spec hd i o (by simpa using ho')
  have hn' : m < L.length := by simpa using hn
  have htl : (L.take m).length = m := by simp; omega
  have hdl : (L.drop m).length = L.toArray.size - m := by simp
  have inv0 : HeadInv .any L.toArray m (Array.replicate L.toArray.size false) :=
    ⟨by simp, fun j oj _ hl => (by rw [getD_replicate_false] at hl; cases hl), fun t _ ht => getD_in (by simpa using ht) (getD_replicate_false _ _)⟩
  have H := wpAnyL_lex (md := .any) (g := L.toArray.size - m) hsel hs hc hn (L.take m) 0 _ a (fun j hj => by
    have hj' : j < m := by rw [htl] at hj; exact hj
    simp [hj']) (by simpa using htl) inv0 (by rw [htl]; exact hlex) h
  have H2 := wpAnyIn_of_head (n := n) hF (Q' := fun e a w => e = .normal ∧ Q .normal a w) (g := L.toArray.size - m) hndL (fun listed a' hL' => by
    have := wpAnyIn_of_seq (F := F) (n := n) (P := P) (md := .any) (Q' := fun e a w => e = .normal ∧ Q .normal a w) (L.drop m) m listed a' w (fun j => by simp [List.getElem?_drop]) (by rw [hdl]; exact hL'.1) hL'.2
    rwa [hdl] at this) _ _ _ H
  rw [htl, show m + (L.toArray.size - m) = L.toArray.size by omega] at H2
  have hsz : L.toArray.size = l.toArray.size := by simpa using hlen
  rw [hsz] at H2
  cases hpo : l[p]? with
  | none => rw [hpo] at hpt; cases hpt
  | some op =>
    cases hto : l[t]? with
    | none => rw [hpo, hto] at hpt; cases hpt
    | some ot =>
      rw [hpo, hto] at hpt
      simp only [Bool.and_eq_true] at hpt
      obtain ⟨⟨⟨hex, _⟩, hdep⟩, hfree⟩ := hpt
      have hp' : l.toArray[p]? = some op := by simpa using hpo
      have ht' : l.toArray[t]? = some ot := by simpa using hto
      obtain ⟨x, i, hxi⟩ : ∃ x i, op.op = .extract x i := by
        cases ho : op.op <;> rw [ho] at hex <;> first | exact ⟨_, _, rfl⟩ | cases hex
      refine promote hro (ops := l.toArray) (ops' := L.toArray) (p := p) (t := t) hg hp' ht' hne (fun j hj => ?_) ?_ (fun e he hb => ?_) (Region.noSelect_spec hsel') (fun j oj hj hne' hnd hno => ?_) (fun c a w hh => by cases hh.1)
        (fun a w K hh => extract_pure hro hxi (hg p op hp') (fun c a w hh => by cases hh.1) a w K hh) _ _ _ _ (by simp) H2
      · have := hold_ne l t p j hj
        rw [hL]; simpa using this
      · have := hold_at l t p
        rw [hto] at this
        rw [hL]; simpa using this
      · have := (Array.all_eq_true_iff_forall_mem.1 hdep) e he
        rw [hb] at this
        simp only [Bool.not_true, Bool.false_or] at this
        obtain ⟨e', he', hh⟩ := Array.any_eq_true'.1 this
        simp only [Bool.and_eq_true, beq_iff_eq] at hh
        exact ⟨e', he', hh.1, hh.2⟩
      · have hj' : l[j]? = some oj := by simpa using hj
        have hjl : j < l.length := (List.getElem?_eq_some_iff.1 hj').1
        have h1 := List.all_eq_true.1 hfree j (List.mem_range.2 hjl)
        rw [hj'] at h1
        simp only [Bool.or_eq_true, beq_iff_eq, hne', false_or] at h1
        rcases h1 with h1 | h1 | h1
        · obtain ⟨e, he, hh⟩ := Array.any_eq_true'.1 h1
          simp only [Bool.and_eq_true, beq_iff_eq] at hh
          exact absurd hh.2 (hnd e he hh.1)
        · obtain ⟨e, he, hh⟩ := Array.any_eq_true'.1 h1
          simp only [Bool.and_eq_true, beq_iff_eq] at hh
          exact absurd hh.2 (hno e he hh.1)
        · exact h1

theorem wpIn_region_hold (hF : Wide F P) (hro : F.round = none) {id : Nat} {Q : Exit → Act → World → Prop} {a : Act} {w : World} {l : List Oper} (m t p : Nat) (hm : P.follows .mixedOrders = true) (hH : holdOk .any l t p = true)
    (hB : Region.lexTailB .any (hold l t p).toArray m = true)
    (h : wpStill P (hold l t p).toArray w.drew (fun a' => wpListIn F n P (hold l t p).toArray (fun e a w => e = .normal ∧ Q .normal a w) ((hold l t p).drop m) a' w.drew) ((hold l t p).take m) a) :
    (Code.region id l.toArray true).wpIn F n P Q a w :=
  wpIn_mono (wpIn_region_any (Q := fun e a w => e = .normal ∧ Q .normal a w) hm (any_hold hF hro m t p hH hB h)) (fun e a w hh => by rw [hh.1]; exact hh.2)

/-- the same in a round -/
theorem wpIn_region_holdR (hF : Wide F P) (hro : F.round = none) (r : Nat) {id : Nat} {Q : Exit → Act → World → Prop} {a : Act} {w : World} {l : List Oper} (m t p : Nat) (hm : P.follows .mixedOrders = true) (hH : holdOk .any l t p = true)
    (hB : Region.lexTailB .any (hold l t p).toArray m = true)
    (h : wpStill P (hold l t p).toArray w.drew (fun a' => wpListIn F n P (hold l t p).toArray (fun e a w => e = .normal ∧ Q .normal a w) ((hold l t p).drop m) a' w.drew) ((hold l t p).take m) a) :
    (Code.region id l.toArray true).wpIn (F.inRound r) n P Q a w := by
  have hd : noDefer l = true := by
    simp only [holdOk, Bool.and_eq_true] at hH
    exact hH.1.1.1.1
  exact wpIn_mono (wpIn_region_any (Q := fun e a w => e = .normal ∧ Q .normal a w) hm (anyIn_inRound r (noDefer_spec hd) _ _ _ _ (any_hold hF hro m t p hH hB h))) (fun e a w hh => by rw [hh.1]; exact hh.2)
end
end Sti
end Go.Proofs.YtdklchejnpaenaaDoor
