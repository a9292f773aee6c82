/- Plain: a program that may be is a block; so its run ends. What its operations keep to. -/
import Derived.Test.YtbdhibgljaelbaaDoorMC
namespace Go.Proofs.YtbdhibgljaelbaaDoor
open Go Go.RowKit
namespace Lb
open Wd Nt Gr
set_option linter.unusedVariables false
set_option linter.unusedSimpArgs false
theorem adv_17 {s : Ah} {o : Op} (h : o.k = 17) : adv s o = ⟨setR s.md (s.lp.getLast?.getD (-1)) false, s.lp.dropLast⟩ := by unfold adv; rw [if_pos h]
theorem adv_16 {s : Ah} {o : Op} (h : o.k = 16) : adv s o = ⟨setR (setR s.md o.d true) o.e true, s.lp ++ [o.d]⟩ := by unfold adv; rw [if_neg (by omega), if_pos h]
theorem adv_pl {s : Ah} {o : Op} (h : o.k ≠ 16) (h' : o.k ≠ 17) : adv s o = ⟨setR (setR s.md o.d true) o.e true, s.lp⟩ := by unfold adv; rw [if_neg h', if_neg h]
theorem setR_keep {mk : Nat → Bool} {r : Int} {i : Nat} (h : mk i = true) : setR mk r true i = true := by
  unfold setR
  split
  · rfl
  · exact h
/-- what the loops without an end keep to -/
structure LI (p : Pg) (k : Nat) : Prop where
  loops : ∀ q ∈ (nAt p.op k).2, ∃ lo, p.op[q]? = some lo ∧ lo.k = 16
  lp : (sAt p.op k).lp = (nAt p.op k).2.map fun q => (opAt p.op q).d
  made : ∀ d ∈ (sAt p.op k).lp, 0 ≤ d ∧ (sAt p.op k).md d.toNat = true
  nodup : (sAt p.op k).lp.Nodup
  fr : ∀ q ∈ (nAt p.op k).2, Fr p.op (opAt p.op q).d.toNat (q + 1) k
theorem off_ne {d r : Int} (h : r ≠ d) (hr : -1 ≤ r) (hd : 0 ≤ d) : r = -1 ∨ r.toNat ≠ d.toNat := by omega
theorem mis_pl {s : Ah} {o : Op} (h : misP s o = false) (h16 : o.k ≠ 16) (h17 : o.k ≠ 17) : ∀ d ∈ s.lp, o.d ≠ d ∧ o.e ≠ d := by
  unfold misP at h
  rw [if_neg h17, if_neg h16] at h
  intro d hd
  have h1 := (Bool.or_eq_false_iff.1 h).1
  have h2 := (Bool.or_eq_false_iff.1 h).2
  refine ⟨fun e => ?_, fun e => ?_⟩
  · rw [e, List.contains_iff_mem.2 hd] at h1
    cases h1
  · rw [e, List.contains_iff_mem.2 hd] at h2
    cases h2
theorem mis_16 {s : Ah} {o : Op} (h : misP s o = false) (h16 : o.k = 16) : o.d ≠ -1 ∧ s.md o.d.toNat = false := by
  unfold misP at h
  rw [if_neg (by omega), if_pos h16] at h
  unfold hasR at h
  have h1 := Bool.or_eq_false_iff.1 h
  exact ⟨of_decide_eq_false h1.1, h1.2⟩
theorem Fr.more {ops : List Op} {r a k : Nat} {o : Op} (h : Fr ops r a k) (ho : ops[k]? = some o) (h1 : o.k ≠ 17 → Off r o) : Fr ops r a (k + 1) := by
  intro i o' ha hk ho' h17
  rcases Nat.lt_or_ge i k with hi | hi
  · exact h i o' ha hi ho' h17
  · obtain rfl : i = k := by omega
    rw [ho] at ho'
    cases ho'
    exact h1 h17
theorem Rg.ge {r : Int} (h : Rg r) : -1 ≤ r := by unfold Rg at h; omega
theorem Ok.li {p : Pg} (H : Ok p) : ∀ k, k ≤ p.op.length → LI p k
  | 0, _ => ⟨fun q hq => absurd hq List.not_mem_nil, rfl, fun d hd => absurd hd List.not_mem_nil, List.nodup_nil, fun q hq => absurd hq List.not_mem_nil⟩
  | k + 1, h => by
    obtain ⟨o, ho⟩ : ∃ o, p.op[k]? = some o := ⟨_, List.getElem?_eq_getElem (by omega)⟩
    have hI := Ok.li H k (by omega)
    have hN := H.nok k (by omega)
    obtain ⟨f1, f2, f3, _⟩ := flt_zero (H.flt k o ho)
    obtain ⟨g1, g2, g3, g4, g5, g6⟩ := H.rgs ho
    -- an operation that is no end keeps off the registers of the loops
    have hoff : o.k ≠ 17 → ∀ d ∈ (sAt p.op k).lp, o.d ≠ d ∧ o.e ≠ d := by
      intro h17 d hd
      by_cases h16 : o.k = 16
      · obtain ⟨m1, m2⟩ := mis_16 f2 h16
        obtain ⟨d0, dm⟩ := hI.made d hd
        refine ⟨fun e => ?_, fun e => ?_⟩
        · rw [e, dm] at m2; cases m2
        · have := g6 (by rw [h16]; rfl)
          omega
      · exact mis_pl f2 h16 h17 d hd
    have hfr : ∀ q ∈ (nAt p.op k).2, Fr p.op (opAt p.op q).d.toNat (q + 1) (k + 1) := by
      intro q hq
      refine (hI.fr q hq).more ho fun h17 => ?_
      have hm : (opAt p.op q).d ∈ (sAt p.op k).lp := by rw [hI.lp]; exact List.mem_map.2 ⟨q, hq, rfl⟩
      obtain ⟨e1, e2⟩ := hoff h17 _ hm
      have h0 := (hI.made _ hm).1
      exact ⟨off_ne e1 g1.d.ge h0, off_ne e2 g1.e.ge h0⟩
    by_cases h17 : o.k = 17
    · have hne := H.lpne ho h17
      have e1 : (nAt p.op (k + 1)).2 = (nAt p.op k).2.dropLast := by rw [nAt_succ ho, enO_17 h17]
      have e2 : (sAt p.op (k + 1)).lp = (sAt p.op k).lp.dropLast := by rw [sAt_succ ho, adv_17 h17]
      have e3 : (sAt p.op (k + 1)).md = setR (sAt p.op k).md ((sAt p.op k).lp.getLast?.getD (-1)) false := by rw [sAt_succ ho, adv_17 h17]
      obtain ⟨xs, z, hx⟩ : ∃ xs z, (sAt p.op k).lp = xs ++ [z] := ⟨_, _, (List.dropLast_concat_getLast hne).symm⟩
      have hnd := hI.nodup
      have hmd := hI.made
      rw [hx] at hnd hmd e2 e3
      rw [List.dropLast_concat] at e2
      rw [List.getLast?_concat] at e3
      have hnd2 := List.nodup_append.1 hnd
      refine ⟨fun q hq => ?_, ?_, fun d hd => ?_, ?_, fun q hq => ?_⟩
      · rw [e1] at hq
        exact hI.loops q (List.dropLast_subset _ hq)
      · rw [e1, sAt_succ ho, adv_17 h17]
        show (sAt p.op k).lp.dropLast = _
        rw [hI.lp, List.map_dropLast]
      · rw [e2] at hd
        obtain ⟨d0, dm⟩ := hmd d (List.mem_append_left _ hd)
        obtain ⟨z0, _⟩ := hmd z (by simp)
        refine ⟨d0, ?_⟩
        rw [e3]
        unfold setR
        rw [if_neg, dm]
        rintro ⟨_, hc⟩
        exact hnd2.2.2 d hd z (by simp) (by have : d.toNat = z.toNat := hc; omega)
      · rw [e2]
        exact hnd2.1
      · rw [e1] at hq
        exact hfr q (List.dropLast_subset _ hq)
    · by_cases h16 : o.k = 16
      · have e1 : (nAt p.op (k + 1)).2 = (nAt p.op k).2 ++ [k] := by rw [nAt_succ ho, enO_16 h16, hN.l1]
        have e2 : sAt p.op (k + 1) = ⟨setR (setR (sAt p.op k).md o.d true) o.e true, (sAt p.op k).lp ++ [o.d]⟩ := by rw [sAt_succ ho, adv_16 h16]
        obtain ⟨m1, m2⟩ := mis_16 f2 h16
        have hd0 : 0 ≤ o.d := g4 (by rw [h16]; rfl)
        refine ⟨fun q hq => ?_, ?_, fun d hd => ?_, ?_, fun q hq => ?_⟩
        · rw [e1] at hq
          rcases List.mem_append.1 hq with hq | hq
          · exact hI.loops q hq
          · obtain rfl := List.mem_singleton.1 hq
            exact ⟨o, ho, h16⟩
        · rw [e1, e2]
          show (sAt p.op k).lp ++ [o.d] = _
          rw [hI.lp, List.map_append, List.map_singleton, opAt_of ho]
        · rw [e2] at hd ⊢
          show 0 ≤ d ∧ setR (setR (sAt p.op k).md o.d true) o.e true d.toNat = true
          rcases List.mem_append.1 hd with hd | hd
          · obtain ⟨d0, dm⟩ := hI.made d hd
            exact ⟨d0, setR_keep (setR_keep dm)⟩
          · obtain rfl := List.mem_singleton.1 hd
            refine ⟨hd0, setR_keep ?_⟩
            unfold setR
            rw [if_pos ⟨m1, rfl⟩]
        · rw [e2]
          show ((sAt p.op k).lp ++ [o.d]).Nodup
          refine List.nodup_append.2 ⟨hI.nodup, by simp, fun a ha b hb e => ?_⟩
          obtain rfl := List.mem_singleton.1 hb
          exact (hoff h17 a ha).1 e.symm
        · rw [e1] at hq
          rcases List.mem_append.1 hq with hq | hq
          · exact hfr q hq
          · obtain rfl := List.mem_singleton.1 hq
            intro i o' h1 h2
            omega
      · have e1 : (nAt p.op (k + 1)).2 = (nAt p.op k).2 := by rw [nAt_succ ho, enO_pl h16 h17]
        have e2 : sAt p.op (k + 1) = ⟨setR (setR (sAt p.op k).md o.d true) o.e true, (sAt p.op k).lp⟩ := by rw [sAt_succ ho, adv_pl h16 h17]
        refine ⟨fun q hq => ?_, ?_, fun d hd => ?_, ?_, fun q hq => ?_⟩
        · rw [e1] at hq
          exact hI.loops q hq
        · rw [e1, e2]
          exact hI.lp
        · rw [e2] at hd ⊢
          obtain ⟨d0, dm⟩ := hI.made d hd
          exact ⟨d0, setR_keep (setR_keep dm)⟩
        · rw [e2]
          exact hI.nodup
        · rw [e1] at hq
          exact hfr q hq
theorem Ok.top {p : Pg} (H : Ok p) {k : Nat} {o : Op} (ho : p.op[k]? = some o) (h17 : o.k = 17) : (nAt p.op k).2.getLast?.getD 0 ∈ (nAt p.op k).2 := by
  have hk := (List.getElem?_eq_some_iff.1 ho).1
  refine getLast_mem fun e => ?_
  have := (H.nok k (by omega)).l2
  rw [e] at this
  exact H.lpne ho h17 (List.eq_nil_of_length_eq_zero this.symm)
theorem Ok.en_keep {p : Pg} (H : Ok p) {e : Nat} {eo : Op} (he : p.op[e]? = some eo) (h17 : eo.k = 17) : ∀ m, e + 1 + m ≤ p.op.length → (nAt p.op (e + 1 + m)).1[e]? = some (((nAt p.op e).2.getLast?.getD 0 : Nat) : Int)
  | 0, h => by
    have hN := H.nok e (by omega)
    have ht := hN.lt _ (H.top he h17)
    rw [Nat.add_zero, nAt_succ he, enO_17 h17]
    show (((nAt p.op e).1 ++ [_]).set _ _)[e]? = _
    rw [List.getElem?_set_ne (by omega), List.getElem?_append_right (by rw [hN.l1]; exact Nat.le_refl _), hN.l1, Nat.sub_self]
    rfl
  | m + 1, h => by
    have ih := Ok.en_keep H he h17 m (by omega)
    obtain ⟨o, ho⟩ : ∃ o, p.op[e + 1 + m]? = some o := ⟨_, List.getElem?_eq_getElem (by omega)⟩
    have hN := H.nok (e + 1 + m) (by omega)
    rw [show e + 1 + (m + 1) = e + 1 + m + 1 by omega, nAt_succ ho]
    by_cases h' : o.k = 17
    · rw [enO_17 h']
      have ht := H.top ho h'
      obtain ⟨lo, h1, h2⟩ := (H.li (e + 1 + m) (by omega)).loops _ ht
      show (((nAt p.op (e + 1 + m)).1 ++ [_]).set _ _)[e]? = _
      rw [List.getElem?_set_ne, List.getElem?_append_left (by rw [hN.l1]; omega), ih]
      intro hc
      rw [hc, he] at h1
      cases h1
      omega
    · by_cases h16 : o.k = 16
      · rw [enO_16 h16]
        show ((nAt p.op (e + 1 + m)).1 ++ [_])[e]? = _
        rw [List.getElem?_append_left (by rw [hN.l1]; omega), ih]
      · rw [enO_pl h16 h']
        show ((nAt p.op (e + 1 + m)).1 ++ [_])[e]? = _
        rw [List.getElem?_append_left (by rw [hN.l1]; omega), ih]
theorem enP_at (ops : List Op) : enP ops = (nAt ops ops.length).1 := by unfold enP nAt; rw [List.take_length]
theorem Ok.en_of {p : Pg} (H : Ok p) {e : Nat} {eo : Op} (he : p.op[e]? = some eo) (h17 : eo.k = 17) : enAt (enP p.op) e = (((nAt p.op e).2.getLast?.getD 0 : Nat) : Int) := by
  have hk := (List.getElem?_eq_some_iff.1 he).1
  have h := H.en_keep he h17 (p.op.length - (e + 1)) (by omega)
  rw [show e + 1 + (p.op.length - (e + 1)) = p.op.length by omega] at h
  unfold enAt
  rw [enP_at, h]
  rfl
theorem Ok.enlen {p : Pg} (H : Ok p) : (enP p.op).length = p.op.length := by rw [enP_at]; exact (H.nok _ (Nat.le_refl _)).l1
/-- the blocks that are open at k, the innermost first -/
def Opn (ops : List Op) (ends : List Int) : Nat → List Nat → List (Nat × Nat) → Prop
  | k, [], fr => ∃ n, Blk ops ends 0 k n ∧ fr = [(1, capN n)]
  | k, l :: ps, fr => ∃ n lo fr', fr = (lo.im.toNat, capN (1 + n)) :: fr' ∧ ops[l]? = some lo ∧ lo.k = 16 ∧ 0 ≤ lo.d ∧ 1 ≤ lo.im ∧ lo.im ≤ 1048576 ∧ Blk ops ends (l + 1) k n ∧ Opn ops ends l ps fr'
theorem capN_1 (a b : Nat) : capN (capN a + b) = capN (a + b) := by unfold capN; omega
theorem capN_2 (a b t : Nat) (ht : 1 ≤ t) : capN (capN a + capN (capN b * t)) = capN (a + t * b) := by
  rw [Nat.mul_comm t b]
  by_cases hb : b ≤ 1125899906842624
  · rw [show capN b = b by unfold capN; omega]
    generalize b * t = q
    unfold capN
    omega
  · rw [show capN b = 1125899906842624 by unfold capN; omega]
    have h1 : 1125899906842624 * 1 ≤ 1125899906842624 * t := Nat.mul_le_mul_left _ ht
    have h2 : b * 1 ≤ b * t := Nat.mul_le_mul_left _ ht
    generalize b * t = q at *
    generalize 1125899906842624 * t = q' at *
    unfold capN
    omega
theorem opn_pl {ops : List Op} {ends : List Int} {k : Nat} {ps : List Nat} {fr : List (Nat × Nat)} {o : Op} (h : Opn ops ends k ps fr) (ho : ops[k]? = some o) (h16 : o.k ≠ 16) (h17 : o.k ≠ 17) : Opn ops ends (k + 1) ps (evO fr o) := by
  cases ps with
  | nil =>
    obtain ⟨n, hb, rfl⟩ := h
    refine ⟨n + 1, .op hb ho h16 h17, ?_⟩
    unfold evO
    rw [if_neg h16, if_neg h17]
    show [(1, capN (capN n + 1))] = _
    rw [capN_1]
  | cons l ps =>
    obtain ⟨n, lo, fr', rfl, h1, h2, h3, h4, h5, hb, h6⟩ := h
    refine ⟨n + 1, lo, fr', ?_, h1, h2, h3, h4, h5, .op hb ho h16 h17, h6⟩
    unfold evO
    rw [if_neg h16, if_neg h17]
    show (lo.im.toNat, capN (capN (1 + n) + 1)) :: fr' = _
    rw [capN_1, Nat.add_assoc]
theorem opn_16 {ops : List Op} {ends : List Int} {k : Nat} {ps : List Nat} {fr : List (Nat × Nat)} {o : Op} (h : Opn ops ends k ps fr) (ho : ops[k]? = some o) (h16 : o.k = 16) (hd : 0 ≤ o.d) (hi : 1 ≤ o.im ∧ o.im ≤ 1048576) : Opn ops ends (k + 1) (k :: ps) (evO fr o) := by
  refine ⟨0, o, fr, ?_, ho, h16, hd, hi.1, hi.2, .nil _, h⟩
  unfold evO
  rw [if_pos h16]
  rfl
theorem opn_17 {ops : List Op} {ends : List Int} {k l : Nat} {ps : List Nat} {fr : List (Nat × Nat)} {o : Op} (h : Opn ops ends k (l :: ps) fr) (ho : ops[k]? = some o) (h17 : o.k = 17) (hen : enAt ends k = (l : Int)) (hfr : Fr ops (opAt ops l).d.toNat (l + 1) k) : Opn ops ends (k + 1) ps (evO fr o) := by
  obtain ⟨n, lo, fr', rfl, h1, h2, h3, h4, h5, hb, h6⟩ := h
  rw [opAt_of h1] at hfr
  have ht : 1 ≤ lo.im.toNat := by omega
  cases ps with
  | nil =>
    obtain ⟨m, hb2, rfl⟩ := h6
    refine ⟨_, .loop hb2 h1 h2 h3 h4 h5 hb hfr ho h17 hen, ?_⟩
    unfold evO
    rw [if_neg (by omega), if_pos h17]
    show [(1, capN (capN m + capN (capN (1 + n) * lo.im.toNat)))] = _
    rw [capN_2 _ _ _ ht]
  | cons l2 ps =>
    obtain ⟨m, lo2, fr2, rfl, k1, k2, k3, k4, k5, hb2, k6⟩ := h6
    refine ⟨_, lo2, fr2, ?_, k1, k2, k3, k4, k5, .loop hb2 h1 h2 h3 h4 h5 hb hfr ho h17 hen, k6⟩
    unfold evO
    rw [if_neg (by omega), if_pos h17]
    show (lo2.im.toNat, capN (capN (1 + m) + capN (capN (1 + n) * lo.im.toNat))) :: fr2 = _
    rw [capN_2 _ _ _ ht, Nat.add_assoc]
theorem Ok.opn {p : Pg} (H : Ok p) : ∀ k, k ≤ p.op.length → Opn p.op (enP p.op) k (nAt p.op k).2.reverse (eAt p.op k)
  | 0, _ => ⟨0, .nil 0, rfl⟩
  | k + 1, h => by
    obtain ⟨o, ho⟩ : ∃ o, p.op[k]? = some o := ⟨_, List.getElem?_eq_getElem (by omega)⟩
    have ih := Ok.opn H k (by omega)
    have hN := H.nok k (by omega)
    obtain ⟨g1, g2, g3, g4, g5, g6⟩ := H.rgs ho
    rw [eAt_succ ho, nAt_succ ho]
    by_cases h17 : o.k = 17
    · rw [enO_17 h17]
      have ht := H.top ho h17
      have hen := H.en_of ho h17
      have hfr := (H.li k (by omega)).fr _ ht
      obtain ⟨xs, z, hx⟩ : ∃ xs z, (nAt p.op k).2 = xs ++ [z] := ⟨_, _, (List.dropLast_concat_getLast (List.ne_nil_of_mem ht)).symm⟩
      rw [hx] at ih hen hfr
      rw [List.getLast?_concat] at hen hfr
      show Opn p.op (enP p.op) (k + 1) ((nAt p.op k).2.dropLast).reverse (evO (eAt p.op k) o)
      rw [hx, List.dropLast_concat]
      rw [List.reverse_append] at ih
      exact opn_17 ih ho h17 hen hfr
    · by_cases h16 : o.k = 16
      · rw [enO_16 h16]
        show Opn p.op (enP p.op) (k + 1) ((nAt p.op k).2 ++ [(nAt p.op k).1.length]).reverse (evO (eAt p.op k) o)
        rw [List.reverse_append, hN.l1]
        exact opn_16 ih ho h16 (g4 (by rw [h16]; rfl)) (H.imm ho h16)
      · rw [enO_pl h16 h17]
        exact opn_pl ih ho h16 h17
theorem Ok.blk {p : Pg} (H : Ok p) : ∃ n, Blk p.op (enP p.op) 0 p.op.length n ∧ evP p.op = capN n := by
  have h := H.opn p.op.length (Nat.le_refl _)
  have hN := H.nok p.op.length (Nat.le_refl _)
  have hz : (nAt p.op p.op.length).2 = [] := List.eq_nil_of_length_eq_zero (by rw [hN.l2, H.fin]; rfl)
  rw [hz] at h
  obtain ⟨n, hb, he⟩ := h
  refine ⟨n, hb, ?_⟩
  unfold evP
  have : evF p.op = eAt p.op p.op.length := by unfold eAt; rw [List.take_length]
  rw [this, he]
  rfl
/-- a run ends, with no more events than were reckoned -/
theorem Ok.run {p : Pg} (H : Ok p) (h24 : evP p.op ≤ 16777216) (s : St) (hs : s.at_ = 0) (h0 : s.seen = []) : ∃ N f s', runF p.op (enP p.op) N s = some (f, s') ∧ s'.seen.length ≤ evP p.op := by
  obtain ⟨n, hb, he⟩ := H.blk
  have hn : n = evP p.op := by rw [he] at h24 ⊢; unfold capN at h24 ⊢; omega
  have hsl : s.seen.length = 0 := by rw [h0]; rfl
  obtain ⟨c, h | h⟩ := hb.does s hs
  · obtain ⟨s', h1, h2⟩ := h
    exact ⟨0 + c + 1, false, s', h2 0, by omega⟩
  · obtain ⟨s', h1, h2, h3, h4⟩ := h
    refine ⟨1 + c, true, s', ?_, by omega⟩
    rw [h3]
    unfold runF
    rw [if_neg (by omega)]
theorem Ok.stOk {p : Pg} (H : Ok p) (hp : p.wf) (k : Nat) (o : Op) (ho : p.op[k]? = some o) : StOk p.op (enP p.op) p.bf.length k o := by
  have hk := (List.getElem?_eq_some_iff.1 ho).1
  obtain ⟨g1, g2, g3, g4, g5, g6⟩ := H.rgs ho
  have f1 := (flt_zero (H.flt k o ho)).1
  have hr := (ref_zero H.ref).1
  unfold opOk rgOk at f1
  simp only [Bool.and_eq_true, decide_eq_true_eq] at f1
  obtain ⟨⟨k1, k2⟩, ⟨⟨⟨_, ⟨⟨⟨⟨hd, he⟩, ha⟩, hb⟩, hc⟩⟩, hpl⟩, hle⟩, hmo⟩ := f1
  refine ⟨g1, ⟨k1, k2⟩, fun h15 h17 => ?_, fun h15 => ?_, (hp.op o (List.mem_of_getElem? ho)).im, fun h89 => ?_, fun hm => ?_, fun h17 => ?_⟩
  · refine g4 ?_
    unfold hD
    rw [decide_eq_false h15, decide_eq_false h17]
    rfl
  · rw [h15] at hb
    unfold rOk at hb
    rw [show hB 15 = true from rfl, if_pos rfl] at hb
    simp only [Bool.and_eq_true, decide_eq_true_eq] at hb
    exact hb.1
  · unfold leI at hle
    unfold moI at hmo
    rw [if_pos (by omega)] at hle
    rw [if_neg (by omega), if_pos h89] at hmo
    exact ⟨hle, hmo⟩
  · unfold plOk at hpl
    rw [show mm o.k = true by unfold mm; rcases hm with h | h <;> rw [h] <;> rfl, if_pos rfl] at hpl
    simp only [Bool.and_eq_true, decide_eq_true_eq] at hpl
    exact ⟨o.bf.toNat, by omega, by omega⟩
  · have ht := H.top ho h17
    obtain ⟨lo, h1, h2⟩ := (H.li k (by omega)).loops _ ht
    obtain ⟨q1, q2, q3, q4, q5, q6⟩ := H.rgs h1
    have q7 := q1.d
    unfold Rg at q7
    exact ⟨_, lo, H.en_of ho h17, (H.nok k (by omega)).lt _ ht, h1, q4 (by rw [h2]; rfl), by omega⟩
end Lb
end Go.Proofs.YtbdhibgljaelbaaDoor
