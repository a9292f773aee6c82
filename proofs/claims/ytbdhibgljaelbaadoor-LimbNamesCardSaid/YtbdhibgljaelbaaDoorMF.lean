/- Plain: what a run tells: how many events, which, how long the rows are, what stays. -/
import Derived.Test.YtbdhibgljaelbaaDoorMD
namespace Go.Proofs.YtbdhibgljaelbaaDoor
open Go Go.RowKit
namespace Lb
open Wd Nt Gr
set_option linter.unusedVariables false
set_option linter.unusedSimpArgs false
theorem runF_det {ops : List Op} {ends : List Int} {r r' : Bool × St} : ∀ {N N' : Nat} {s : St}, runF ops ends N s = some r → runF ops ends N' s = some r' → r = r'
  | 0, _, _, h, _ => by cases h
  | _ + 1, 0, _, _, h => by cases h
  | N + 1, N' + 1, s, h, h' => by
    unfold runF at h h'
    split at h
    · rename_i hlt
      rw [if_pos hlt] at h'
      split at h
      · rename_i hs
        rw [hs] at h'
        rw [← Option.some.inj h, ← Option.some.inj h']
      · rename_i s2 hs
        rw [hs] at h'
        exact runF_det h h'
    · rename_i hlt
      rw [if_neg hlt] at h'
      rw [← Option.some.inj h, ← Option.some.inj h']
/-- a run ends: with all its events, or with fewer -/
theorem Ok.run2 {p : Pg} (H : Ok p) (h24 : evP p.op ≤ 16777216) {s : St} (hs : s.at_ = 0) (h0 : s.seen = []) {N : Nat} {f : Bool} {s' : St} (hr : runF p.op (enP p.op) N s = some (f, s')) : (f = true → s'.seen.length = evP p.op) ∧ (f = false → s'.seen.length < evP p.op) := by
  obtain ⟨n, hb, he⟩ := H.blk
  have hn : n = evP p.op := by rw [he] at h24 ⊢; unfold capN at h24 ⊢; omega
  have hsl : s.seen.length = 0 := by rw [h0]; rfl
  obtain ⟨c, h | h⟩ := hb.does s hs
  · obtain ⟨s2, h1, h2⟩ := h
    have := runF_det hr (h2 0)
    cases this
    exact ⟨fun e => (by cases e), fun _ => by omega⟩
  · obtain ⟨s2, h1, h2, h3, h4⟩ := h
    have hx := h3 1
    have hy : runF p.op (enP p.op) 1 s2 = some (true, s2) := by unfold runF; rw [if_neg (by omega)]
    rw [hy] at hx
    have := runF_det hr hx
    cases this
    exact ⟨fun _ => by omega, fun e => (by cases e)⟩
def GoodEv (p : Pg) (e : Ev) : Prop := ∃ (k : Nat) (o : Op), e.1 = (k : Int) ∧ p.op[k]? = some o ∧ o.k ≠ 17 ∧ (mm o.k = true → ∃ (i : Nat) (b : Bf), o.bf = (i : Int) ∧ p.bf[i]? = some b ∧ 0 ≤ e.2 ∧ e.2 < b.sz) ∧ (mm o.k = false → e.2 = -1)
structure GoodS (p : Pg) (h : List (List Int)) (s : St) : Prop where
  ev : ∀ e ∈ s.seen, GoodEv p e
  rl : s.rows.length = p.bf.length
  row : ∀ (i : Nat) (b : Bf), p.bf[i]? = some b → ∃ y : List Int, s.rows[i]? = some y ∧ (y.length : Int) = b.sz ∧ (b.kd = 1 → h[i]? = some y)
theorem good_app {p : Pg} {seen : List Ev} {e : Ev} (h : ∀ x ∈ seen, GoodEv p x) (he : GoodEv p e) : ∀ x ∈ seen ++ [e], GoodEv p x := by
  intro x hx
  rcases List.mem_append.1 hx with hx | hx
  · exact h x hx
  · obtain rfl := List.mem_singleton.1 hx
    exact he
theorem Ok.not_in {p : Pg} (H : Ok p) {k i : Nat} {o : Op} {b : Bf} (ho : p.op[k]? = some o) (h15 : o.k = 15) (hi : o.bf = (i : Int)) (hb : p.bf[i]? = some b) : b.kd ≠ 1 := by
  have f1 := (flt_zero (H.flt k o ho)).1
  unfold opOk plOk at f1
  rw [show mm o.k = true by rw [h15]; rfl, if_pos rfl] at f1
  simp only [Bool.and_eq_true, Bool.not_eq_true'] at f1
  have h2 := f1.2.1.1.2.1.2
  rw [h15] at h2
  have hba : bfAt p.bf o.bf = b := by unfold bfAt; rw [hi, Int.toNat_natCast, hb]; rfl
  rw [hba] at h2
  intro e
  rw [e] at h2
  cases h2
theorem GoodS.step {p : Pg} {h : List (List Int)} {s s' : St} {o : Op} (H : Ok p) (hp : p.wf) (hg : GoodS p h s) (ho : p.op[s.at_]? = some o) (hs : stp p.op (enP p.op) s = some s') : GoodS p h s' := by
  have hst := H.stOk hp _ _ ho
  obtain ⟨k, rg, rows, seen⟩ := s
  obtain ⟨g1, g2, g3⟩ := hg
  dsimp only at *
  unfold stp turnS at hs
  dsimp only at hs
  rw [opAt_of ho] at hs
  by_cases h16 : o.k = 16
  · rw [if_pos h16] at hs
    cases hs
    exact ⟨good_app g1 ⟨k, o, rfl, ho, by omega, fun e => (by rw [h16] at e; cases e), fun _ => rfl⟩, g2, g3⟩
  rw [if_neg h16] at hs
  by_cases h17 : o.k = 17
  · rw [if_pos h17] at hs
    have hk := (List.getElem?_eq_some_iff.1 ho).1
    have ht := H.top ho h17
    obtain ⟨lo, h1, h2⟩ := (H.li k (by omega)).loops _ ht
    rw [H.en_of ho h17] at hs
    simp only [Int.toNat_natCast] at hs
    split at hs
    · cases hs
      exact ⟨good_app g1 ⟨_, lo, rfl, h1, by omega, fun e => (by rw [h2] at e; cases e), fun _ => rfl⟩, g2, g3⟩
    · cases hs
      exact ⟨g1, g2, g3⟩
  rw [if_neg h17] at hs
  cases hm : mm o.k
  · rw [hm, if_neg (by decide)] at hs
    cases hs
    exact ⟨good_app g1 ⟨k, o, rfl, ho, h17, fun e => (by rw [hm] at e; cases e), fun _ => rfl⟩, g2, g3⟩
  · rw [hm, if_pos rfl] at hs
    have h1415 : o.k = 14 ∨ o.k = 15 := by
      unfold mm at hm
      simp only [Bool.or_eq_true, decide_eq_true_eq] at hm
      exact hm
    obtain ⟨i, hi, hin⟩ := hst.bf h1415
    obtain ⟨b, hb⟩ : ∃ b, p.bf[i]? = some b := ⟨_, List.getElem?_eq_getElem hin⟩
    obtain ⟨y, y1, y2, y3⟩ := g3 i b hb
    have hrow : rowAt rows o.bf = y := by unfold rowAt; rw [hi, Int.toNat_natCast, y1]; rfl
    rw [hrow] at hs
    obtain ⟨q, hq⟩ : ∃ q : Nat, (o.im + hld rg o.a) % 18446744073709551616 = (q : Int) := ⟨((o.im + hld rg o.a) % 18446744073709551616).toNat, by omega⟩
    rw [hq] at hs
    split at hs
    · cases hs
    · rename_i hlt
      have hev : GoodEv p ((k : Int), (q : Int)) := ⟨k, o, rfl, ho, h17, fun _ => ⟨i, b, hi, hb, by show (0 : Int) ≤ (q : Int); omega, by show (q : Int) < b.sz; omega⟩, fun e => (by rw [hm] at e; cases e)⟩
      split at hs
      · rename_i h15
        cases hs
        refine ⟨good_app g1 hev, by show (rows.set _ _).length = _; rw [List.length_set]; exact g2, fun j b2 hj => ?_⟩
        show ∃ z, (rows.set o.bf.toNat (y.set _ _))[j]? = some z ∧ _
        rw [hi, Int.toNat_natCast]
        by_cases hji : j = i
        · subst hji
          rw [hb] at hj
          cases hj
          refine ⟨_, by rw [List.getElem?_set_self (List.getElem?_eq_some_iff.1 y1).1], by rw [List.length_set]; exact y2, fun e => absurd e (H.not_in ho h15 hi hb)⟩
        · rw [List.getElem?_set_ne (Ne.symm hji)]
          exact g3 j b2 hj
      · cases hs
        exact ⟨good_app g1 hev, g2, g3⟩
theorem GoodS.run {p : Pg} {h : List (List Int)} (H : Ok p) (hp : p.wf) {f : Bool} {s' : St} : ∀ {N : Nat} {s : St}, GoodS p h s → runF p.op (enP p.op) N s = some (f, s') → GoodS p h s'
  | 0, _, _, hr => by cases hr
  | N + 1, s, hg, hr => by
    unfold runF at hr
    split at hr
    · rename_i hlt
      split at hr
      · cases hr
        exact hg
      · rename_i s2 hs
        exact GoodS.run H hp (hg.step H hp (List.getElem?_eq_getElem hlt) hs) hr
    · cases hr
      exact hg
theorem good_0 {p : Pg} {h : List (List Int)} (H : Ok p) (hf : fitP p.bf h = true) : GoodS p h (st0 p h) := by
  have hz := (ref_zero H.ref).2.2.2.2
  have hlen : p.bf.length = h.length := by
    rw [fitP_eq, Bool.and_eq_true] at hf
    exact of_decide_eq_true hf.1
  refine ⟨fun e he => absurd he List.not_mem_nil, rows0_len hf, fun i b hb => ?_⟩
  have hi := (List.getElem?_eq_some_iff.1 hb).1
  have hba : bfAt p.bf (i : Int) = b := by unfold bfAt; rw [Int.toNat_natCast, hb]; rfl
  have hfb : fitB b (rowAt h (i : Int)) = true := by
    rw [fitP_eq, Bool.and_eq_true, List.all_eq_true] at hf
    have := hf.2 i (List.mem_range.2 hi)
    rw [hba] at this
    exact this
  have hs := hz b (List.mem_of_getElem? hb)
  have hle := fit_len hfb hs.1
  refine ⟨row0 b (rowAt h (i : Int)), ?_, ?_, fun hk => ?_⟩
  · show (rows0 p.bf h)[i]? = _
    rw [rows0_get hf hi, hba]
  · rw [row0_len hle]
    omega
  · unfold fitB at hfb
    rw [if_neg (by omega)] at hfb
    have h2 := of_decide_eq_true hfb
    rw [row0_eq hle, List.drop_of_length_le (by rw [List.length_replicate]; omega), List.append_nil]
    unfold rowAt
    rw [Int.toNat_natCast, List.getElem?_eq_getElem (by omega)]
    rfl
end Lb
end Go.Proofs.YtbdhibgljaelbaaDoor
