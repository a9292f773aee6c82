/- Plain: the document's own look at a program is the same. -/
import Derived.Test.YtbdhibgljaelbaaDoorR2
import Derived.Test.YtbdhibgljaelbaaDoorS5
namespace Go.Proofs.YtbdhibgljaelbaaDoor
open Go Go.RowKit
namespace Lb
open Wd Nt Gr
set_option linter.unusedVariables false
set_option linter.unusedSimpArgs false
def refF (s : Ah) (o : Op) : Int :=
  if o.k = 17 then (if s.lp.isEmpty then 9 else 0) else if (mkL o).any (fun x => s.lp.contains x) then 9 else if o.k = 16 ∧ s.md o.d.toNat = true then 9
  else if o.k = 16 ∧ s.lp.length = 8 then 10 else if (tkL o).all (fun t => s.md t.toNat) then 0 else 5
structure InvA (rg : Int) (s : Ah) : Prop where
  le : s.lp.length ≤ 8
  each : ∀ d ∈ s.lp, 0 ≤ d ∧ d < rg ∧ s.md d.toNat = true
  nd : s.lp.Nodup
theorem invA_0 (rg : Int) : InvA rg ah0 := ⟨by decide, (fun d h => by cases h), List.nodup_nil⟩
/-- what registers an operation that fits has -/
structure OpG (rg : Int) (o : Op) : Prop where
  k1 : 1 ≤ o.k ∧ o.k ≤ 17
  d : if hD o.k then 0 ≤ o.d ∧ o.d < rg else o.d = -1
  e : if hE o.k then 0 ≤ o.e ∧ o.e < rg else o.e = -1
  a : if hA o.k then (0 ≤ o.a ∧ o.a < rg) ∨ (mm o.k = true ∧ o.a = -1) else o.a = -1
  b : if hB o.k then 0 ≤ o.b ∧ o.b < rg else o.b = -1
  c : if hC o.k then 0 ≤ o.c ∧ o.c < rg else o.c = -1
theorem rOk_if {has : Bool} {r rg : Int} (h : rOk has r rg = true) : if has then 0 ≤ r ∧ r < rg else r = -1 := by
  unfold rOk at h
  cases has
  · simpa using h
  · simpa using h
theorem opOk_g {rg : Int} {bufs : List Bf} {o : Op} (h : opOk rg bufs o = true) : OpG rg o := by
  unfold opOk at h
  rw [rgOk_eq _ _ _ _ _ _ (fun h => mm_hA h)] at h
  simp only [Bool.and_eq_true, decide_eq_true_eq] at h
  obtain ⟨⟨h1, h2⟩, ⟨⟨⟨h3, h4, h5, h6, h7, h8⟩, _⟩, _⟩, _⟩ := h
  refine ⟨⟨h1, h2⟩, rOk_if h3, rOk_if h4, ?_, rOk_if h6, rOk_if h7⟩
  simp only [Bool.or_eq_true, Bool.and_eq_true, decide_eq_true_eq] at h5
  rcases h5 with h5 | h5
  · have := rOk_if h5
    split
    · rename_i ha; rw [ha, if_pos rfl] at this; exact .inl this
    · rename_i ha
      have ha' : hA o.k = false := by simpa using ha
      rw [ha', if_neg (by decide)] at this
      exact this
  · rw [mm_hA h5.1, if_pos rfl]
    exact .inr h5
theorem not_in_lp {rg : Int} {s : Ah} (h : InvA rg s) {r : Int} (hr : r = -1) : s.lp.contains r = false := by
  rw [Bool.eq_false_iff]
  intro hc
  have := (h.each r (List.contains_iff_mem.1 hc)).1
  omega
theorem hasR_of {mk : Nat → Bool} {r : Int} (h : 0 ≤ r) : hasR mk r = mk r.toNat := by
  unfold hasR
  rw [decide_eq_false (by omega), Bool.false_or]
theorem hasR_no {mk : Nat → Bool} {r : Int} (h : r = -1) : hasR mk r = true := by
  unfold hasR
  rw [decide_eq_true h, Bool.true_or]
theorem ref_eq {rg : Int} {bufs : List Bf} {s : Ah} {o : Op} (hi : InvA rg s) (h : opOk rg bufs o = true) : fltO rg bufs s o = refF s o := by
  obtain ⟨hk, hd, he, ha, hb, hc⟩ := opOk_g h
  unfold fltO
  rw [if_neg (by rw [h]; decide)]
  obtain ⟨k, d, e, a, b, c, bf, im⟩ := o
  dsimp only at *
  clear h
  unfold refF misP mkL tkL
  dsimp only
  have hlp : s.lp.contains (-1) = false := not_in_lp hi rfl
  have n1 : hasR s.md (-1) = true := hasR_no rfl
  have hlp2 : ¬ (-1 : Int) ∈ s.lp := fun hx => by have := (hi.each _ hx).1; omega
  rcases (by omega : k = 17 ∨ k = 16 ∨ k = 1 ∨ k = 2 ∨ k = 3 ∨ k = 4 ∨ k = 5 ∨ k = 6 ∨ k = 7 ∨ k = 8 ∨ k = 9 ∨ k = 10 ∨ k = 11 ∨ k = 12 ∨ k = 13 ∨ k = 14 ∨ k = 15) with rfl | rfl | rfl | rfl | rfl | rfl | rfl | rfl | rfl | rfl | rfl | rfl | rfl | rfl | rfl | rfl | rfl
  · simp only [hA, hB, hC] at ha hb hc
    simp at ha hb hc
    subst ha hb hc
    simp [n1]
  · simp only [hD, hA, hB, hC] at hd ha hb hc
    simp at hd ha hb hc
    subst ha hb hc
    rw [hasR_of hd.1]
    simp [n1]
    by_cases hm : s.md d.toNat = true
    · simp [hm]
    · have : ¬ d ∈ s.lp := fun hx => hm (hi.each d hx).2.2
      simp [hm, this]
  · simp only [hD, hE, hA, hB, hC, mm] at hd he ha hb hc
    simp at hd he ha hb hc
    subst he hb hc ha
    simp [n1, hlp, hlp2, Bool.and_assoc]
  · simp only [hD, hE, hA, hB, hC, mm] at hd he ha hb hc
    simp at hd he ha hb hc
    subst he hb hc
    rw [hasR_of ha.1]
    simp [n1, hlp, hlp2, Bool.and_assoc]
  · simp only [hD, hE, hA, hB, hC, mm] at hd he ha hb hc
    simp at hd he ha hb hc
    subst he hc
    rw [hasR_of ha.1, hasR_of hb.1]
    simp [n1, hlp, hlp2, Bool.and_assoc]
  · simp only [hD, hE, hA, hB, hC, mm] at hd he ha hb hc
    simp at hd he ha hb hc
    subst he hc
    rw [hasR_of ha.1, hasR_of hb.1]
    simp [n1, hlp, hlp2, Bool.and_assoc]
  · simp only [hD, hE, hA, hB, hC, mm] at hd he ha hb hc
    simp at hd he ha hb hc
    subst he hc
    rw [hasR_of ha.1, hasR_of hb.1]
    simp [n1, hlp, hlp2, Bool.and_assoc]
  · simp only [hD, hE, hA, hB, hC, mm] at hd he ha hb hc
    simp at hd he ha hb hc
    subst he hc
    rw [hasR_of ha.1, hasR_of hb.1]
    simp [n1, hlp, hlp2, Bool.and_assoc]
  · simp only [hD, hE, hA, hB, hC, mm] at hd he ha hb hc
    simp at hd he ha hb hc
    subst he hc
    rw [hasR_of ha.1, hasR_of hb.1]
    simp [n1, hlp, hlp2, Bool.and_assoc]
  · simp only [hD, hE, hA, hB, hC, mm] at hd he ha hb hc
    simp at hd he ha hb hc
    subst he hb hc
    rw [hasR_of ha.1]
    simp [n1, hlp, hlp2, Bool.and_assoc]
  · simp only [hD, hE, hA, hB, hC, mm] at hd he ha hb hc
    simp at hd he ha hb hc
    subst he hb hc
    rw [hasR_of ha.1]
    simp [n1, hlp, hlp2, Bool.and_assoc]
  · simp only [hD, hE, hA, hB, hC, mm] at hd he ha hb hc
    simp at hd he ha hb hc
    subst hc
    rw [hasR_of ha.1, hasR_of hb.1]
    simp [n1, hlp, hlp2, Bool.and_assoc]
  · simp only [hD, hE, hA, hB, hC, mm] at hd he ha hb hc
    simp at hd he ha hb hc
    rw [hasR_of ha.1, hasR_of hb.1, hasR_of hc.1]
    simp [n1, hlp, hlp2, Bool.and_assoc]
  · simp only [hD, hE, hA, hB, hC, mm] at hd he ha hb hc
    simp at hd he ha hb hc
    rw [hasR_of ha.1, hasR_of hb.1, hasR_of hc.1]
    simp [n1, hlp, hlp2, Bool.and_assoc]
  · simp only [hD, hE, hA, hB, hC, mm] at hd he ha hb hc
    simp at hd he ha hb hc
    subst he
    rw [hasR_of ha.1, hasR_of hb.1, hasR_of hc.1]
    simp [n1, hlp, hlp2, Bool.and_assoc]
  · simp only [hD, hE, hA, hB, hC, mm] at hd he ha hb hc
    simp at hd he ha hb hc
    subst he hb hc
    rcases ha with ha | ha
    · skip
      rw [hasR_of ha.1]
      simp [n1, hlp, hlp2, show ¬ a = -1 from by omega, Bool.and_assoc]
    · subst ha
      simp [n1, hlp, hlp2, Bool.and_assoc]
  · simp only [hD, hE, hA, hB, hC, mm] at hd he ha hb hc
    simp at hd he ha hb hc
    subst hd he hc
    rcases ha with ha | ha
    · skip
      rw [hasR_of ha.1, hasR_of hb.1]
      simp [n1, hlp, hlp2, show ¬ a = -1 from by omega, Bool.and_assoc]
    · subst ha
      rw [hasR_of hb.1]
      simp [n1, hlp, hlp2, Bool.and_assoc]
/-! ### what stands ahead, as a row -/
def mdR (n : Nat) (md : Nat → Bool) : List Bool := (List.range n).map md
theorem mdR_len (n : Nat) (md : Nat → Bool) : (mdR n md).length = n := by unfold mdR; simp
theorem mdR_get {n : Nat} {md : Nat → Bool} {i : Nat} (h : i < n) : (mdR n md)[i]? = some (md i) := by unfold mdR; simp [h]
theorem mdR_set {n : Nat} {md : Nat → Bool} {r : Int} {v : Bool} (h0 : 0 ≤ r) (h1 : r < n) : (mdR n md).set r.toNat v = mdR n (setR md r v) := by
  apply List.ext_getElem?
  intro j
  rcases Nat.lt_or_ge j n with hj | hj
  · rw [mdR_get hj]
    unfold setR
    by_cases he : j = r.toNat
    · subst he
      rw [List.getElem?_set_self (by rw [mdR_len]; exact hj), if_pos ⟨by omega, rfl⟩]
    · rw [List.getElem?_set_ne (Ne.symm he), mdR_get hj, if_neg (fun h => he h.2)]
  · rw [List.getElem?_eq_none (by rw [List.length_set, mdR_len]; exact hj), List.getElem?_eq_none (by rw [mdR_len]; exact hj)]
theorem setR_no (md : Nat → Bool) {r : Int} (h : r = -1) (v : Bool) : setR md r v = md := by
  funext i
  unfold setR
  rw [if_neg (fun hh => hh.1 h)]
def mkS (md : Nat → Bool) (l : List Int) : Nat → Bool := l.foldl (fun f r => setR f r true) md
theorem mkS_snoc (md : Nat → Bool) (l : List Int) (x : Int) : mkS md (l ++ [x]) = setR (mkS md l) x true := by unfold mkS; rw [List.foldl_append]; rfl
theorem mkL_in {rg : Int} {o : Op} (h : OpG rg o) (h17 : o.k ≠ 17) : ∀ x ∈ mkL o, 0 ≤ x ∧ x < rg := by
  obtain ⟨hk, hd, he, ha, hb, hc⟩ := h
  obtain ⟨k, d, e, a, b, c, bf, im⟩ := o
  dsimp only at *
  unfold mkL
  dsimp only
  intro x hx
  rcases (by omega : (k = 10 ∨ k = 11 ∨ k = 12) ∨ k = 15 ∨ (k ≠ 10 ∧ k ≠ 11 ∧ k ≠ 12 ∧ k ≠ 15)) with h | h | h
  · have hD1 : hD k = true := by rcases h with rfl | rfl | rfl <;> rfl
    have hE1 : hE k = true := by rcases h with rfl | rfl | rfl <;> rfl
    rw [hD1, if_pos rfl] at hd
    rw [hE1, if_pos rfl] at he
    rw [if_pos h] at hx
    simp only [List.mem_cons, List.not_mem_nil, or_false] at hx
    rcases hx with rfl | rfl
    · exact hd
    · exact he
  · rw [if_neg (by omega), if_pos (by omega)] at hx
    cases hx
  · have hD1 : hD k = true := by unfold hD; simp; omega
    rw [hD1, if_pos rfl] at hd
    rw [if_neg (by omega), if_neg (by omega)] at hx
    obtain rfl := List.mem_singleton.1 hx
    exact hd
theorem adv_md {rg : Int} {s : Ah} {o : Op} (h : OpG rg o) (h17 : o.k ≠ 17) : (adv s o).md = mkS s.md (mkL o) := by
  obtain ⟨hk, hd, he, ha, hb, hc⟩ := h
  obtain ⟨k, d, e, a, b, c, bf, im⟩ := o
  dsimp only at *
  unfold adv mkL
  dsimp only
  rw [if_neg h17]
  show setR (setR s.md d true) e true = _
  rcases (by omega : (k = 10 ∨ k = 11 ∨ k = 12) ∨ k = 15 ∨ (k ≠ 10 ∧ k ≠ 11 ∧ k ≠ 12 ∧ k ≠ 15)) with h | h | h
  · rw [if_pos h]; rfl
  · subst h
    rw [if_neg (by decide), if_pos (by decide)]
    simp only [hD, hE] at hd he
    simp at hd he
    rw [setR_no _ he, setR_no _ hd]; rfl
  · rw [if_neg (by omega), if_neg (by omega)]
    have hE1 : hE k = false := by unfold hE; simp; omega
    rw [hE1, if_neg (by decide)] at he
    rw [setR_no _ he]; rfl
theorem mkS_keep {l : List Int} : ∀ {md : Nat → Bool} {i : Nat}, md i = true → mkS md l i = true := by
  induction l with
  | nil => exact fun h => h
  | cons x l ih => exact fun h => ih (setR_keep h)
theorem inv_adv {rg : Int} {bufs : List Bf} {s : Ah} {o : Op} (hi : InvA rg s) (hg : OpG rg o) (h : refF s o = 0) : InvA rg (adv s o) := by
  by_cases h17 : o.k = 17
  · have hne : s.lp ≠ [] := by
      unfold refF at h
      rw [if_pos h17] at h
      intro e
      rw [e] at h
      cases h
    rw [adv_17 h17]
    obtain ⟨l, x, hlx⟩ : ∃ l x, s.lp = l ++ [x] := ⟨_, _, (List.dropLast_concat_getLast hne).symm⟩
    have hnd := hi.nd
    rw [hlx, List.nodup_append] at hnd
    refine ⟨by have := hi.le; rw [List.length_dropLast]; omega, fun d hd => ?_, ?_⟩
    · have hd' := List.dropLast_subset _ hd
      obtain ⟨h1, h2, h3⟩ := hi.each d hd'
      refine ⟨h1, h2, ?_⟩
      have hgl : s.lp.getLast?.getD (-1) = x := by rw [hlx]; simp
      have hxm := (hi.each x (by rw [hlx]; simp)).1
      show setR s.md (s.lp.getLast?.getD (-1)) false d.toNat = true
      rw [hgl]
      unfold setR
      rw [if_neg]
      · exact h3
      · intro hh
        have hdl : d ∈ l := by rw [hlx, List.dropLast_concat] at hd; exact hd
        have : d = x := by omega
        exact hnd.2.2 d hdl x (by simp) this
    · show s.lp.dropLast.Nodup
      rw [hlx, List.dropLast_concat]
      exact hnd.1
  · have hmd := adv_md (s := s) hg h17
    by_cases h16 : o.k = 16
    · have hd := hg.d
      rw [show hD o.k = true by rw [h16]; rfl, if_pos rfl] at hd
      have hmk : mkL o = [o.d] := by unfold mkL; rw [if_neg (by omega), if_neg (by omega)]
      unfold refF at h
      rw [if_neg h17, hmk] at h
      have hlp : (adv s o).lp = s.lp ++ [o.d] := by rw [adv_16 h16]
      by_cases hc : o.d ∈ s.lp
      · rw [if_pos (by simp [hc])] at h; cases h
      rw [if_neg (by simp [hc])] at h
      by_cases hm : o.k = 16 ∧ s.md o.d.toNat = true
      · rw [if_pos hm] at h; cases h
      rw [if_neg hm] at h
      by_cases h8 : o.k = 16 ∧ s.lp.length = 8
      · rw [if_pos h8] at h; cases h
      refine ⟨by rw [hlp, List.length_append]; have := hi.le; have : s.lp.length ≠ 8 := fun e => h8 ⟨h16, e⟩; simp; omega, fun d hdm => ?_, ?_⟩
      · rw [hlp] at hdm
        rw [hmd, hmk]
        rcases List.mem_append.1 hdm with h1 | h1
        · obtain ⟨q1, q2, q3⟩ := hi.each d h1
          exact ⟨q1, q2, mkS_keep q3⟩
        · obtain rfl := List.mem_singleton.1 h1
          refine ⟨hd.1, hd.2, ?_⟩
          show setR s.md o.d true o.d.toNat = true
          unfold setR
          rw [if_pos ⟨by omega, rfl⟩]
      · rw [hlp, List.nodup_append]
        refine ⟨hi.nd, by simp, fun a ha b hb => ?_⟩
        obtain rfl := List.mem_singleton.1 hb
        exact fun e => hc (e ▸ ha)
    · have hlp : (adv s o).lp = s.lp := by rw [adv_pl h16 h17]
      refine ⟨by rw [hlp]; exact hi.le, fun d hdm => ?_, by rw [hlp]; exact hi.nd⟩
      rw [hlp] at hdm
      obtain ⟨q1, q2, q3⟩ := hi.each d hdm
      exact ⟨q1, q2, by rw [hmd]; exact mkS_keep q3⟩
end Lb
end Go.Proofs.YtbdhibgljaelbaaDoor
