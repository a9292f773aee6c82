/- Plain: two runs that agree on all that is public see the same, end alike, and agree on all that is public. -/
import Derived.Test.YtbdhibgljaelbaaDoorS1
namespace Go.Proofs.YtbdhibgljaelbaaDoor
open Go Go.RowKit
namespace Lb
open Wd Nt Gr
set_option linter.unusedVariables false
set_option linter.unusedSimpArgs false
structure Sim (p : Pg) (s : Nat) (x y : St) : Prop where
  at_ : x.at_ = y.at_
  seen : x.seen = y.seen
  rg : ∀ i, s.testBit i = false → x.rg i = y.rg i
  row : ∀ i : Nat, (rowAt x.rows (i : Int)).length = (rowAt y.rows (i : Int)).length ∧ ((bfAt p.bf (i : Int)).sec = false → rowAt x.rows (i : Int) = rowAt y.rows (i : Int))
  len : x.rows.length = y.rows.length
theorem rowAt_set (rows : List (List Int)) (i j : Nat) (r : List Int) : rowAt (rows.set i r) (j : Int) = if i = j ∧ i < rows.length then r else rowAt rows (j : Int) := by
  unfold rowAt
  rw [Int.toNat_natCast]
  by_cases h : i = j
  · subst h
    by_cases h2 : i < rows.length
    · rw [List.getElem?_set_self h2, if_pos ⟨rfl, h2⟩]; rfl
    · rw [if_neg (by omega), List.getElem?_eq_none (by rw [List.length_set]; omega), List.getElem?_eq_none (by omega)]
  · rw [List.getElem?_set_ne h, if_neg (by omega)]
theorem hld_eq {s : Nat} {rg rg' : Nat → Int} (h : ∀ i, s.testBit i = false → rg i = rg' i) {r : Int} (hr : -1 ≤ r) (hn : hasN s r = false) : hld rg r = hld rg' r := by
  unfold hld
  split
  · rfl
  · refine h _ ?_
    unfold hasN at hn
    rw [decide_eq_true (by omega), Bool.true_and] at hn
    exact hn
theorem put_eq {s : Nat} {rg rg' : Nat → Int} (h : ∀ i, s.testBit i = false → rg i = rg' i) {r v v' : Int} (hr : -1 ≤ r) (hv : v = v' ∨ (0 ≤ r → hasN s r = true)) : ∀ i, s.testBit i = false → put rg r v i = put rg' r v' i := by
  intro i hi
  unfold put
  split
  · rename_i hc
    rcases hv with hv | hv
    · exact hv
    · have := hv (by omega)
      unfold hasN at this
      rw [Bool.and_eq_true, ← hc.2, hi] at this
      exact absurd this.2 (by decide)
  · exact h i hi
theorem feeds_off {bufs : List Bf} {s : Nat} {o : Op} (h : feedsN bufs s o = false) : (o.k = 14 → (bfAt bufs o.bf).sec = false) ∧ hasN s o.a = false ∧ hasN s o.b = false ∧ hasN s o.c = false := by
  unfold feedsN at h
  simp only [Bool.or_eq_false_iff] at h
  refine ⟨fun h14 => ?_, h.2.1.1, h.2.1.2, h.2.2⟩
  have := h.1
  rw [decide_eq_true h14, Bool.true_and] at this
  exact this
theorem feeds_on {bufs : List Bf} {ops : List Op} {s : Nat} (hc : Closed bufs ops (fun q => hasN s q = true)) {o : Op} (ho : o ∈ ops) (h : feedsN bufs s o = true) : (0 ≤ o.d → hasN s o.d = true) ∧ (0 ≤ o.e → hasN s o.e = true) := by
  refine hc o ho ?_
  rw [feeds_iff] at h
  rcases h with h | h | h | h
  · exact .inl h
  · exact .inr (.inl ⟨has_neg h, h⟩)
  · exact .inr (.inr (.inl ⟨has_neg h, h⟩))
  · exact .inr (.inr (.inr ⟨has_neg h, h⟩))
theorem rgs_ge {r : Int} (h : Rg r) : -1 ≤ r := by unfold Rg at h; omega
/-- what both steps come to -/
def Same2 (p : Pg) (s : Nat) : Option St → Option St → Prop
  | none, none => True
  | some x, some y => Sim p s x y
  | _, _ => False
theorem Sim.step {p : Pg} {s : Nat} (H : Ok p) (hp : p.wf) (hc : Closed p.bf p.op (fun q => hasN s q = true)) (hal : ∀ o ∈ p.op, allowsN p.bf s o = true) {x y : St} (h : Sim p s x y) {o : Op} (ho : p.op[x.at_]? = some o) :
    Same2 p s (stp p.op (enP p.op) x) (stp p.op (enP p.op) y) := by
  obtain ⟨k, rg, rows, seen⟩ := x
  obtain ⟨k', rg', rows', seen'⟩ := y
  obtain ⟨h1, h2, h3, h4, h5⟩ := h
  dsimp only at h1 h2 h3 h4 h5 ho
  subst h1 h2
  have hst := H.stOk hp _ _ ho
  have hmem := List.mem_of_getElem? ho
  have hao := hal o hmem
  unfold allowsN at hao
  simp only [Bool.and_eq_true] at hao
  obtain ⟨⟨al1, al2⟩, al3⟩ := hao
  obtain ⟨gd, ge, ga, gb, gc⟩ : Rg o.d ∧ Rg o.e ∧ Rg o.a ∧ Rg o.b ∧ Rg o.c := ⟨hst.rg.d, hst.rg.e, hst.rg.a, hst.rg.b, hst.rg.c⟩
  unfold stp turnS
  dsimp only
  rw [opAt_of ho]
  by_cases h16 : o.k = 16
  · rw [if_pos h16, if_pos h16]
    exact ⟨rfl, rfl, put_eq h3 (rgs_ge gd) (.inl rfl), h4, h5⟩
  rw [if_neg h16, if_neg h16]
  by_cases h17 : o.k = 17
  · rw [if_pos h17, if_pos h17]
    obtain ⟨l, lo, e1, e2, e3, e4, e5⟩ := hst.en h17
    rw [e1]
    simp only [Int.toNat_natCast]
    rw [opAt_of e3]
    have hk := (List.getElem?_eq_some_iff.1 ho).1
    have ht := H.top ho h17
    obtain ⟨lo', j1, j2⟩ := (H.li k (by omega)).loops _ ht
    have e6 : ((l : Nat) : Int) = (((nAt p.op k).2.getLast?.getD 0 : Nat) : Int) := by rw [← e1, H.en_of ho h17]
    have e7 : l = (nAt p.op k).2.getLast?.getD 0 := by omega
    rw [← e7, e3] at j1
    cases j1
    have hl := hal lo (List.mem_of_getElem? e3)
    unfold allowsN at hl
    simp only [Bool.and_eq_true] at hl
    have hl3 := hl.2
    rw [decide_eq_false (by omega), Bool.false_or, Bool.not_eq_true'] at hl3
    have hrg : rg lo.d.toNat = rg' lo.d.toNat := by
      refine h3 _ ?_
      unfold hasN at hl3
      rw [decide_eq_true e4, Bool.true_and] at hl3
      exact hl3
    rw [hrg]
    by_cases h7 : (rg' lo.d.toNat + 1) % 18446744073709551616 < lo.im
    · rw [if_pos h7, if_pos h7]
      exact ⟨rfl, rfl, put_eq h3 (by omega) (.inl rfl), h4, h5⟩
    · rw [if_neg h7, if_neg h7]
      exact ⟨rfl, rfl, h3, h4, h5⟩
  rw [if_neg h17, if_neg h17]
  cases hm : mm o.k
  · rw [if_neg (by decide), if_neg (by decide)]
    by_cases hf : feedsN p.bf s o = true
    · have hon := feeds_on hc hmem hf
      exact ⟨rfl, rfl, put_eq (put_eq h3 (rgs_ge gd) (.inr hon.1)) (rgs_ge ge) (.inr hon.2), h4, h5⟩
    · have hof := feeds_off (by simpa using hf)
      rw [hld_eq h3 (rgs_ge ga) hof.2.1, hld_eq h3 (rgs_ge gb) hof.2.2.1, hld_eq h3 (rgs_ge gc) hof.2.2.2]
      exact ⟨rfl, rfl, put_eq (put_eq h3 (rgs_ge gd) (.inl rfl)) (rgs_ge ge) (.inl rfl), h4, h5⟩
  · rw [if_pos rfl, if_pos rfl]
    have h1415 : o.k = 14 ∨ o.k = 15 := by
      unfold mm at hm
      simp only [Bool.or_eq_true, decide_eq_true_eq] at hm
      exact hm
    obtain ⟨i, hi, hin⟩ := hst.bf h1415
    have hna : hasN s o.a = false := by
      have : (decide (o.k = 14) || decide (o.k = 15)) = true := hm
      rw [this] at al1
      simpa using al1
    rw [hld_eq h3 (rgs_ge ga) hna, hi]
    obtain ⟨r1, r2⟩ := h4 i
    obtain ⟨q, hq⟩ : ∃ q : Nat, (o.im + hld rg' o.a) % 18446744073709551616 = (q : Int) := ⟨((o.im + hld rg' o.a) % 18446744073709551616).toNat, by omega⟩
    rw [hq, r1]
    by_cases hlt : ((rowAt rows' (i : Int)).length : Int) ≤ (q : Int)
    · rw [if_pos hlt, if_pos hlt]
      trivial
    · rw [if_neg hlt, if_neg hlt]
      by_cases h15 : o.k = 15
      · rw [if_pos h15, if_pos h15]
        simp only [Int.toNat_natCast]
        refine ⟨rfl, rfl, h3, fun j => ?_, by rw [List.length_set, List.length_set]; exact h5⟩
        show (rowAt (rows.set i _) (j : Int)).length = (rowAt (rows'.set i _) (j : Int)).length ∧ (_ → rowAt (rows.set i _) (j : Int) = rowAt (rows'.set i _) (j : Int))
        rw [rowAt_set, rowAt_set, h5]
        by_cases hij : i = j ∧ i < rows'.length
        · rw [if_pos hij, if_pos hij]
          obtain ⟨rfl, _⟩ := hij
          refine ⟨by rw [List.length_set, List.length_set]; exact r1, fun hs => ?_⟩
          rw [decide_eq_false (by omega), hi, hs, Bool.false_or, Bool.false_or, Bool.not_eq_true'] at al2
          have hb0 := hst.b h15
          have hrg : rg o.b.toNat = rg' o.b.toNat := by
            refine h3 _ ?_
            unfold hasN at al2
            rw [decide_eq_true hb0, Bool.true_and] at al2
            exact al2
          rw [hrg, r2 hs]
        · rw [if_neg hij, if_neg hij]
          exact h4 j
      · rw [if_neg h15, if_neg h15]
        refine ⟨rfl, rfl, put_eq h3 (rgs_ge gd) ?_, h4, h5⟩
        by_cases hf : feedsN p.bf s o = true
        · exact .inr (feeds_on hc hmem hf).1
        · have hof := feeds_off (by simpa using hf)
          have := hof.1 (by omega)
          rw [hi] at this
          exact .inl (by rw [r2 this])
theorem Sim.run {p : Pg} {s : Nat} (H : Ok p) (hp : p.wf) (hc : Closed p.bf p.op (fun q => hasN s q = true)) (hal : ∀ o ∈ p.op, allowsN p.bf s o = true) {f : Bool} {x' : St} : ∀ {N : Nat} {x y : St}, Sim p s x y → runF p.op (enP p.op) N x = some (f, x') → ∃ y', runF p.op (enP p.op) N y = some (f, y') ∧ Sim p s x' y'
  | 0, _, _, _, hr => by cases hr
  | N + 1, x, y, h, hr => by
    unfold runF at hr ⊢
    rw [← h.at_]
    split at hr
    · rename_i hlt
      rw [if_pos hlt]
      have hs := h.step H hp hc hal (List.getElem?_eq_getElem hlt)
      cases hx : stp p.op (enP p.op) x with
      | none =>
        rw [hx] at hr hs
        cases hy : stp p.op (enP p.op) y with
        | none =>
          cases hr
          exact ⟨y, rfl, h⟩
        | some _ => rw [hy] at hs; exact hs.elim
      | some x2 =>
        rw [hx] at hr hs
        cases hy : stp p.op (enP p.op) y with
        | none => rw [hy] at hs; exact hs.elim
        | some y2 =>
          rw [hy] at hs
          exact Sim.run H hp hc hal hs hr
    · rename_i hlt
      rw [if_neg hlt]
      cases hr
      exact ⟨y, rfl, h⟩
end Lb
end Go.Proofs.YtbdhibgljaelbaaDoor
