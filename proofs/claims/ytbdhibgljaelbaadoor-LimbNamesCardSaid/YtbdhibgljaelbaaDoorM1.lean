/- Rows of one's own of things of any kind: one stored anew, the last left out, one put behind. | Plain: what a program that may be keeps to; how deep its loops are. -/
import Derived.Test.YtbdhibgljaelbaaDoorM0
namespace Go.Proofs.YtbdhibgljaelbaaDoor
open Go Go.RowKit
namespace Gr
open Nt
set_option linter.unusedVariables false
set_option linter.unusedSimpArgs false
section
variable {T : Type} [Sh T]
theorem row_set {xs : List T} {j d : Nat} {x y : T} {u : Value} (h : xs[j]? = some x) (hd : d < Sh.k T) (hy : (Sh.vs x).set d u = Sh.vs y) : (row xs).set (j * Sh.k T + d) u = row (xs.set j y) := by
  induction xs generalizing j with
  | nil => cases h
  | cons p xs ih =>
    show (Sh.vs p ++ row xs).set (j * Sh.k T + d) u = _
    cases j with
    | zero =>
      obtain rfl : p = x := by simpa using h
      rw [Nat.zero_mul, Nat.zero_add, List.set_append_left _ _ (by rw [Sh.len]; exact hd), hy]
      rfl
    | succ j =>
      have h' : xs[j]? = some x := by simpa using h
      rw [Nat.add_mul, Nat.one_mul, List.set_append_right _ _ (by rw [Sh.len]; omega), Sh.len, show j * Sh.k T + Sh.k T + d - Sh.k T = j * Sh.k T + d by omega, ih h']
      rfl
variable {w W : World} {B n c : Nat} {e : TypeId} {A : Option Addr} {xs : List T}
theorem own_blk (h : Rws e B (.slice A n c) xs w) (hn : 0 < xs.length) : ∃ g, A = some ⟨g, 0, none⟩ ∧ B ≤ g ∧ g < w.heap.size ∧ n = xs.length ∧ n ≤ c := by
  rcases h.2 with ⟨e1, h0⟩ | ⟨g, cap, cur, e1, h2, h3, h4, _⟩
  · omega
  · cases e1
    exact ⟨g, rfl, h2, (Array.getElem?_eq_some_iff.1 h3).1, rfl, h4⟩
theorem own_put {gl : Nat} {j d : Nat} {x y : T} {u : Value} (h : Rws e B (.slice (some ⟨gl, 0, none⟩) n c) xs w) (hn : n = xs.length) (hx : xs[j]? = some x) (hd : d < Sh.k T) (hy : (Sh.vs x).set d u = Sh.vs y) :
    Rws e B (.slice (some ⟨gl, 0, none⟩) n c) (xs.set j y) (w.setCell ⟨gl, j * Sh.k T + d, none⟩ u) := by
  subst hn
  have h1 := (World.ownsRow.stored h (j * Sh.k T + d) u).1
  rw [row_set hx hd hy] at h1
  unfold Rws
  rw [List.length_set]
  exact h1
theorem own_init {gl m : Nat} (h : Rws e B (.slice (some ⟨gl, 0, none⟩) n c) xs w) (hl : xs.length = m + 1) : Rws e B (.slice (some ⟨gl, 0, none⟩) m c) xs.dropLast w := by
  have hl2 : xs.dropLast.length = m := by rw [List.length_dropLast, hl]; rfl
  rcases h.2 with ⟨e1, _⟩ | ⟨g', cap, cur, e1, h2, h3, h4, h5, h6, h7⟩
  · cases e1
  · cases e1
    unfold Rws
    rw [hl2]
    refine ⟨by rw [row_len, hl2], .inr ⟨gl, c, cur, rfl, h2, h3, by omega, h5, h6, ?_⟩⟩
    have e2 : row xs = row xs.dropLast ++ row [xs.getLast (by intro e; rw [e] at hl; cases hl)] := by rw [← row_app, List.dropLast_concat_getLast]
    have e3 : (row xs.dropLast).length = m * Sh.k T := by rw [row_len, hl2]
    have h8 := congrArg (List.take (m * Sh.k T)) h7
    rw [List.take_take, hl, Nat.min_eq_left (Nat.mul_le_mul_right _ (Nat.le_succ m)), e2, List.take_left' e3] at h8
    exact h8
theorem own_far {g i : Nat} {u : Value} {t : TypeId} {cs : Array Value} {v : Value} {s m : Nat} {ys : List Value} (h : w.ownsRow B e s v m ys) (hb : Bk w g t cs) (hne : e ≠ t) : (w.setCell ⟨g, i, none⟩ u).ownsRow B e s v m ys := by
  refine h.kept (row := some g) (only_setCell _ _ _ _) ?_
  rcases h.2 with ⟨e1, _⟩ | ⟨g', cap, cur, e1, _, hg, _⟩
  · exact .inl (by rw [e1]; rfl)
  · refine .inr (fun e' => ?_)
    rw [e1] at e'
    simp [Value.ownBlock] at e'
    subst e'
    unfold Bk at hb
    rw [hb] at hg
    injection hg with hg
    injection hg with _ h2
    exact hne h2.symm
/-- a block of another kind is not the row's own -/
theorem own_other {g : Nat} {t : TypeId} {cs : Array Value} {v : Value} {s m : Nat} {ys : List Value} {w' : World} (h : w.ownsRow B e s v m ys) (hb : Bk w g t cs) (hne : e ≠ t) (hgr : w.grownBy w' v.ownBlock) : Bk w' g t cs := by
  refine (hgr.block g hb.lt ?_).trans hb
  intro e'
  rcases h.2 with ⟨e1, _⟩ | ⟨g', cap, cur, e1, _, hg, _⟩
  · rw [e1] at e'; cases e'
  · rw [e1] at e'
    simp [Value.ownBlock] at e'
    subst e'
    unfold Bk at hb
    rw [hb] at hg
    injection hg with hg
    injection hg with _ h2
    exact hne h2.symm
theorem own_grown {a w' : World} {v : Value} {s m C : Nat} {ys : List Value} (h : w.ownsRow B e s v m ys) (hgr : w.grownBy w' v.ownBlock) (hb : Below C a w) (hC : C ≤ B) (hCw : C ≤ w.heap.size) : Below C a w' :=
  hb.grown hgr hCw (fun k e' => by
    rcases h.2 with ⟨e1, _⟩ | ⟨g', cap, cur, e1, hBg, hg, _⟩
    · rw [e1] at e'; cases e'
    · rw [e1] at e'
      simp [Value.ownBlock] at e'
      omega)
theorem own_below {w' : World} {v : Value} {s m : Nat} {ys : List Value} (h : w.ownsRow B e s v m ys) (hb : Below w.heap.size w w') : w'.ownsRow B e s v m ys :=
  h.kept (row := none) ⟨hb.os, hb.tape, hb.output, hb.size, fun k hk _ => hb.block k hk⟩ (by cases hv : v.ownBlock <;> simp)
/-- one more, out of a block that is just it -/
theorem app_one {g2 : Nat} {v : Value} {z : T} (t ty : TypeId) (i : TypeInfo) (zv : Value) (bytes : Nat) (ht : Tryd.prog.underlying t = some (.slice e)) (hi : Tryd.prog.info? e = some i) (hz : i.zero = some zv) (hs1 : i.size = Sh.k T) (hb1 : i.bytes = bytes) (hzs : zv.cells.size = Sh.k T)
    (ho : Rws e B v xs W) (hs : Bk W g2 e (Sh.vs z).toArray) (hk : (xs.length + 1) * bytes ≤ 140737488355328) (hl : xs.length + 1 ≤ maxLen) (hB : B ≤ W.heap.size) :
    ∃ A c w', (Builtin.append_ #[t, t] ty #[v, .slice (some ⟨g2, 0, none⟩) 1 1]).run Tryd.prog W = .ok (.slice A (xs.length + 1) c) w' ∧ Rws e B (.slice A (xs.length + 1) c) (xs ++ [z]) w' ∧ W.grownBy w' v.ownBlock ∧ ((Value.slice A (xs.length + 1) c).ownBlock = v.ownBlock ∨ (Value.slice A (xs.length + 1) c).ownBlock = some W.heap.size) := by
  obtain ⟨v', w3, hrun, h4, h5, _, h7⟩ := run_append_own_at (P := Tryd.prog) (w := W) B t ty e i zv (Sh.k T) bytes ht hi hz hs1 hb1 hzs Sh.pos _ _ _ ho ⟨g2, 0, none⟩ 1 1 (Sh.vs z) (by rw [Sh.len, Nat.one_mul]) (fun j u hu => by
    rw [add_at, Nat.zero_add, hs.cell, List.getElem?_toArray]
    exact hu) (Sh.one z) hl hk hB
  have h6 : Rws e B v' (xs ++ [z]) w3 := by
    unfold Rws
    rw [List.length_append, row_app, row_one]
    exact h4
  obtain ⟨A, c, rfl, _⟩ := rws_form h6
  have e1 : (xs ++ [z]).length = xs.length + 1 := by simp
  rw [e1] at hrun h6 h7
  exact ⟨A, c, w3, hrun, h6, h5, h7⟩
end
end Gr
end Go.Proofs.YtbdhibgljaelbaaDoor
namespace Go.Proofs.YtbdhibgljaelbaaDoor
open Go Go.RowKit
namespace Lb
open Wd Nt Gr
set_option linter.unusedVariables false
set_option linter.unusedSimpArgs false
/-- what stands ahead of operation k -/
def sAt (ops : List Op) (k : Nat) : Ah := (ops.take k).foldl adv ah0
theorem take_op {ops : List Op} {k : Nat} {o : Op} (h : ops[k]? = some o) : ops.take (k + 1) = ops.take k ++ [o] := by rw [List.take_add_one, h]; rfl
theorem sAt_succ {ops : List Op} {k : Nat} {o : Op} (h : ops[k]? = some o) : sAt ops (k + 1) = adv (sAt ops k) o := by
  unfold sAt
  rw [take_op h, List.foldl_append]
  rfl
structure Ok (p : Pg) : Prop where
  ref : refP p = 0
  flt : ∀ k o, p.op[k]? = some o → fltO p.rg p.bf (sAt p.op k) o = 0
  fin : (sAt p.op p.op.length).lp = []
  len : (chkP p).1 = p.op.length
theorem ok_of {p : Pg} (h : (chkP p).2 = 0) : Ok p := by
  unfold chkP at h
  by_cases h0 : refP p = 0
  · have hc : chkP p = chkG p.rg p.bf p.op ah0 0 := by unfold chkP; rw [if_neg (by simpa using h0)]
    rw [if_neg (by simpa using h0)] at h
    have key : ∀ (m k : Nat), k + m = p.op.length → (chkG p.rg p.bf (p.op.drop k) (sAt p.op k) k).2 = 0 → (∀ j o, k ≤ j → p.op[j]? = some o → fltO p.rg p.bf (sAt p.op j) o = 0) ∧ (sAt p.op p.op.length).lp = [] ∧ (chkG p.rg p.bf (p.op.drop k) (sAt p.op k) k).1 = p.op.length := by
      intro m
      induction m with
      | zero =>
        intro k hk he
        obtain rfl : k = p.op.length := by omega
        rw [List.drop_of_length_le (Nat.le_refl _)] at he ⊢
        unfold chkG at he ⊢
        refine ⟨fun j o hj ho => absurd (List.getElem?_eq_some_iff.1 ho).1 (by omega), ?_, rfl⟩
        cases hl : (sAt p.op p.op.length).lp with
        | nil => rfl
        | cons a l => rw [hl] at he; cases he
      | succ m ih =>
        intro k hk he
        obtain ⟨o, ho⟩ : ∃ o, p.op[k]? = some o := ⟨_, List.getElem?_eq_getElem (by omega)⟩
        rw [chkG_at ho] at he ⊢
        by_cases hf : fltO p.rg p.bf (sAt p.op k) o = 0
        · rw [if_neg (by simpa using hf)] at he ⊢
          rw [← sAt_succ ho] at he ⊢
          obtain ⟨h1, h2, h3⟩ := ih (k + 1) (by omega) he
          refine ⟨fun j o' hj ho' => ?_, h2, h3⟩
          rcases Nat.eq_or_lt_of_le hj with rfl | hj
          · rw [ho] at ho'
            cases ho'
            exact hf
          · exact h1 j o' hj ho'
        · rw [if_pos hf] at he
          exact absurd he hf
    obtain ⟨h1, h2, h3⟩ := key p.op.length 0 (by omega) h
    exact ⟨h0, fun k o ho => h1 k o (Nat.zero_le _) ho, h2, by rw [hc]; exact h3⟩
  · rw [if_pos h0] at h
    exact absurd h h0
theorem Ok.chk {p : Pg} (h : (chkP p).2 = 0) : chkP p = (p.op.length, 0) := Prod.ext (ok_of h).len h
section
variable {p : Pg} (H : Ok p)
include H
theorem Ok.rgs {k : Nat} {o : Op} (h : p.op[k]? = some o) : Rgs o ∧ 1 ≤ o.k ∧ o.k ≤ 17 ∧ (hD o.k = true → 0 ≤ o.d) ∧ (hD o.k = false → o.d = -1) ∧ (hE o.k = false → o.e = -1) := opOk_rg (ref_zero H.ref).1 (flt_zero (H.flt k o h)).1
theorem Ok.lpne {k : Nat} {o : Op} (h : p.op[k]? = some o) (h17 : o.k = 17) : (sAt p.op k).lp ≠ [] := mis_17 (flt_zero (H.flt k o h)).2.1 h17
theorem Ok.dep8 : ∀ k, k ≤ p.op.length → (sAt p.op k).lp.length ≤ 8
  | 0, _ => Nat.zero_le _
  | k + 1, h => by
    obtain ⟨o, ho⟩ : ∃ o, p.op[k]? = some o := ⟨_, List.getElem?_eq_getElem (by omega)⟩
    rw [sAt_succ ho]
    exact adv_len (H.flt k o ho) (Ok.dep8 k (by omega))
theorem Ok.imm {k : Nat} {o : Op} (h : p.op[k]? = some o) (h16 : o.k = 16) : 1 ≤ o.im ∧ o.im ≤ 1048576 := by
  have h1 := (flt_zero (H.flt k o h)).1
  unfold opOk at h1
  rw [h16] at h1
  simp only [Bool.and_eq_true, decide_eq_true_eq] at h1
  have h2 := h1.2.1.2
  have h3 := h1.2.2
  rw [show leI 16 = 1 from rfl] at h2
  rw [show moI 16 = 1048576 from rfl] at h3
  exact ⟨h2, h3⟩
end
theorem adv_dep {s : Ah} {o : Op} (h : o.k = 17 → s.lp ≠ []) : (adv s o).lp.length = if o.k = 16 then s.lp.length + 1 else if o.k = 17 then s.lp.length - 1 else s.lp.length := by
  unfold adv
  by_cases h17 : o.k = 17
  · rw [if_pos h17, if_neg (by omega), if_pos h17]
    exact List.length_dropLast
  · rw [if_neg h17, if_neg h17]
    by_cases h16 : o.k = 16
    · rw [if_pos h16, if_pos h16]
      show (s.lp ++ [o.d]).length = _
      simp
    · rw [if_neg h16, if_neg h16]
/-! ### events -/
def eAt (ops : List Op) (k : Nat) : List (Nat × Nat) := evF (ops.take k)
theorem eAt_succ {ops : List Op} {k : Nat} {o : Op} (h : ops[k]? = some o) : eAt ops (k + 1) = evO (eAt ops k) o := by
  unfold eAt evF
  rw [take_op h, List.foldl_append]
  rfl
theorem Ok.elen {p : Pg} (H : Ok p) : ∀ k, k ≤ p.op.length → (eAt p.op k).length = (sAt p.op k).lp.length + 1
  | 0, _ => rfl
  | k + 1, h => by
    obtain ⟨o, ho⟩ : ∃ o, p.op[k]? = some o := ⟨_, List.getElem?_eq_getElem (by omega)⟩
    have ih := Ok.elen H k (by omega)
    rw [eAt_succ ho, sAt_succ ho, adv_dep (fun e => H.lpne ho e)]
    unfold evO
    by_cases h16 : o.k = 16
    · rw [if_pos h16, if_pos h16, List.length_cons, ih]
    · rw [if_neg h16, if_neg h16]
      by_cases h17 : o.k = 17
      · rw [if_pos h17, if_pos h17]
        have hne := List.length_pos_iff.2 (H.lpne ho h17)
        match he : eAt p.op k with
        | [] => rw [he] at ih; simp at ih
        | [a] => exact absurd (show 1 = (sAt p.op k).lp.length + 1 by rw [he] at ih; exact ih) (by omega)
        | (t, e) :: (t', e') :: r => rw [he] at ih; simp at ih ⊢; omega
      · rw [if_neg h17, if_neg h17]
        match he : eAt p.op k with
        | [] => rw [he] at ih; simp at ih
        | (t, e) :: r => rw [he] at ih; simp at ih ⊢; omega
/-- frames that may be -/
def FrOk (fr : List (Nat × Nat)) : Prop := ∀ x ∈ fr, x.1 ≤ 1048576 ∧ x.2 ≤ 1125899906842624
theorem capN_le (n : Nat) : capN n ≤ 1125899906842624 := Nat.min_le_right _ _
theorem frOk_step {fr : List (Nat × Nat)} {o : Op} (h : FrOk fr) (hi : o.k = 16 → 1 ≤ o.im ∧ o.im ≤ 1048576) : FrOk (evO fr o) := by
  unfold evO
  by_cases h16 : o.k = 16
  · rw [if_pos h16]
    intro x hx
    rcases List.mem_cons.1 hx with rfl | hx
    · have := hi h16
      exact ⟨by show o.im.toNat ≤ 1048576; omega, by show (1 : Nat) ≤ 1125899906842624; decide⟩
    · exact h x hx
  · rw [if_neg h16]
    by_cases h17 : o.k = 17
    · rw [if_pos h17]
      match fr, h with
      | [], h => exact h
      | [a], h => exact h
      | (t, e) :: (t', e') :: r, h =>
        intro x hx
        rcases List.mem_cons.1 hx with rfl | hx
        · exact ⟨(h (t', e') (by simp)).1, capN_le _⟩
        · exact h x (by simp [hx])
    · rw [if_neg h17]
      match fr, h with
      | [], h => exact h
      | (t, e) :: r, h =>
        intro x hx
        rcases List.mem_cons.1 hx with rfl | hx
        · exact ⟨(h (t, e) (by simp)).1, capN_le _⟩
        · exact h x (by simp [hx])
theorem Ok.frOk {p : Pg} (H : Ok p) : ∀ k, k ≤ p.op.length → FrOk (eAt p.op k)
  | 0, _ => fun x hx => by
    have : x = (1, 0) := by simpa [eAt, evF] using hx
    subst this
    exact ⟨by decide, by decide⟩
  | k + 1, h => by
    obtain ⟨o, ho⟩ : ∃ o, p.op[k]? = some o := ⟨_, List.getElem?_eq_getElem (by omega)⟩
    rw [eAt_succ ho]
    exact frOk_step (Ok.frOk H k (by omega)) (fun e => H.imm ho e)
end Lb
end Go.Proofs.YtbdhibgljaelbaaDoor
