/- None of the bytes begin another's. -/
import Derived.Test.YtblmagcekfbgdaaGreatDoorG1
namespace Go.Proofs.YtblmagcekfbgdaaGreatDoor
open Go Go.RowKit
namespace Is
set_option linter.unusedVariables false
set_option linter.unusedSimpArgs false
theorem md_b (i : Ins) : 0 ≤ mdI i ∧ mdI i ≤ 2 := by unfold mdI; split <;> (try split) <;> omega
theorem dn_md (i : Ins) : dnI i = if mdI i = 0 then 0 else if mdI i = 1 then 1 else 4 := by
  unfold dnI mdI
  split
  · rfl
  · split <;> rfl
theorem sc_b (z : Int) : 0 ≤ scI z ∧ scI z ≤ 3 := by unfold scI; split <;> (try split) <;> (try split) <;> omega
theorem sc_inj {z z' : Int} (h : z = 1 ∨ z = 2 ∨ z = 4 ∨ z = 8) (h' : z' = 1 ∨ z' = 2 ∨ z' = 4 ∨ z' = 8) (e : scI z = scI z') : z = z' := by
  rcases h with rfl | rfl | rfl | rfl <;> rcases h' with rfl | rfl | rfl | rfl <;> first | rfl | exact absurd e (by decide)
theorem xi_b {x : Int} (h : -1 ≤ x) : 0 ≤ xiI x ∧ xiI x ≤ 7 := by unfold xiI; split <;> omega
/-- a register among those of rex -/
theorem rex_inj {m x l m' x' l' : Int} (hm : 0 ≤ hiR m ∧ hiR m ≤ 1) (hx : 0 ≤ hiR x ∧ hiR x ≤ 1) (hl : 0 ≤ hiR l ∧ hiR l ≤ 1) (hm' : 0 ≤ hiR m' ∧ hiR m' ≤ 1) (hx' : 0 ≤ hiR x' ∧ hiR x' ≤ 1) (hl' : 0 ≤ hiR l' ∧ hiR l' ≤ 1)
    (h : rexI m x l = rexI m' x' l') : hiR m = hiR m' ∧ hiR x = hiR x' ∧ hiR l = hiR l' := by unfold rexI at h; omega
theorem Pl.hx {i : Ins} (p : Pl i) : -1 ≤ i.x ∧ i.x ≤ 15 ∧ i.x ≠ 4 ∧ (i.sc = 1 ∨ i.sc = 2 ∨ i.sc = 4 ∨ i.sc = 8) ∧ (i.x = -1 → i.sc = 1) := by
  obtain ⟨_, _, h⟩ := p
  unfold R16 at h
  rcases h with ⟨h1, h2⟩ | ⟨⟨h1, h2⟩, h3, h4⟩
  · exact ⟨by omega, by omega, by omega, .inl h2, fun _ => h2⟩
  · exact ⟨by omega, by omega, h3, h4, fun h => absurd h (by omega)⟩
theorem reg_of {r r' : Int} (h : R16 r) (h' : R16 r') (e1 : hiR r = hiR r') (e2 : r % 8 = r' % 8) : r = r' := by
  rw [hi_reg h.1, hi_reg h'.1] at e1; omega
theorem ind_of {x x' : Int} (h1 : -1 ≤ x) (h4 : x ≠ 4) (h1' : -1 ≤ x') (h4' : x' ≠ 4) (e1 : hiR x = hiR x') (e2 : xiI x = xiI x') : x = x' := by
  unfold hiR at e1
  unfold xiI at e2
  split at e1 <;> split at e1 <;> split at e2 <;> split at e2 <;> omega
theorem disp_of {i i' : Ins} (p : Pl i) (p' : Pl i') (e : mdI i = mdI i') {r r' : List Int} (h : ltl i.di (dnI i) ++ r = ltl i'.di (dnI i') ++ r') : i.di = i'.di := by
  obtain ⟨_, ⟨l1, l2⟩, _⟩ := p
  obtain ⟨_, ⟨l1', l2'⟩, _⟩ := p'
  have hd : dnI i = dnI i' := by rw [dn_md, dn_md, e]
  rw [hd] at h
  have h2 := ltl_inj _ _ _ (app_eq (by rw [ltl_len, ltl_len]) h)
  unfold mdI at e
  unfold dnI at h2
  split at e
  · split at e
    · omega
    · split at e <;> omega
  · split at e
    · rw [if_neg (by omega), if_pos (by omega)] at h2
      simp only [Int.pow_one] at h2
      split at e
      · omega
      · split at e
        · omega
        · omega
    · split at e
      · omega
      · split at e
        · omega
        · rw [if_neg (by assumption), if_neg (by assumption)] at h2
          have e4 : (256 : Int) ^ 4 = 4294967296 := by decide
          rw [e4] at h2
          omega
theorem plc_inj {m m' : Int} {i i' : Ins} (hm : R16 m) (hm' : R16 m') (p : Pl i) (p' : Pl i') (hr : rexI m i.x i.b = rexI m' i'.x i'.b) {r r' : List Int} (h : plcL m i ++ r = plcL m' i' ++ r') :
    m = m' ∧ i.b = i'.b ∧ i.x = i'.x ∧ i.sc = i'.sc ∧ i.di = i'.di := by
  obtain ⟨x1, x2, x4, xs, xn⟩ := p.hx
  obtain ⟨x1', x2', x4', xs', xn'⟩ := p'.hx
  have hb := p.1
  have hb' := p'.1
  obtain ⟨r1, r2, r3⟩ := rex_inj (hi_b (by have := hm.1; omega) hm.2) (hi_b x1 x2) (hi_b (by have := hb.1; omega) hb.2) (hi_b (by have := hm'.1; omega) hm'.2) (hi_b x1' x2') (hi_b (by have := hb'.1; omega) hb'.2) hr
  unfold plcL at h
  simp only [List.cons_append, List.cons.injEq] at h
  obtain ⟨h1, h2⟩ := h
  have m1 := md_b i
  have m2 := md_b i'
  have k1 : m % 8 = m' % 8 ∧ mdI i = mdI i' ∧ (if i.x = -1 ∧ i.b % 8 ≠ 4 then i.b % 8 else 4) = (if i'.x = -1 ∧ i'.b % 8 ≠ 4 then i'.b % 8 else 4) := by
    have q : ∀ j : Ins, 0 ≤ (if j.x = -1 ∧ j.b % 8 ≠ 4 then j.b % 8 else 4) ∧ (if j.x = -1 ∧ j.b % 8 ≠ 4 then j.b % 8 else 4) ≤ 7 := fun j => by split <;> omega
    have q1 := q i
    have q2 := q i'
    generalize (if i.x = -1 ∧ i.b % 8 ≠ 4 then i.b % 8 else 4) = z at *
    generalize (if i'.x = -1 ∧ i'.b % 8 ≠ 4 then i'.b % 8 else 4) = z' at *
    omega
  obtain ⟨k2, k3, k4⟩ := k1
  have hmm := reg_of hm hm' r1 k2
  unfold sibL at h2
  by_cases c : i.x = -1 ∧ i.b % 8 ≠ 4 <;> by_cases c' : i'.x = -1 ∧ i'.b % 8 ≠ 4
  · rw [if_pos c, if_pos c'] at k4 h2
    simp only [List.nil_append] at h2
    exact ⟨hmm, reg_of hb hb' r3 k4, by rw [c.1, c'.1], by rw [xn c.1, xn' c'.1], disp_of p p' k3 h2⟩
  · rw [if_pos c, if_neg c'] at k4
    exact absurd k4 c.2
  · rw [if_neg c, if_pos c'] at k4
    exact absurd k4.symm c'.2
  · rw [if_neg c, if_neg c'] at h2
    simp only [List.cons_append, List.nil_append, List.append_assoc, List.cons.injEq] at h2
    obtain ⟨h3, h4⟩ := h2
    have q1 := sc_b i.sc
    have q2 := sc_b i'.sc
    have q3 := xi_b x1
    have q4 := xi_b x1'
    have q5 : scI i.sc = scI i'.sc ∧ xiI i.x = xiI i'.x ∧ i.b % 8 = i'.b % 8 := by omega
    exact ⟨hmm, reg_of hb hb' r3 q5.2.2, ind_of x1 x4 x1' x4' r2 q5.2.1, sc_inj xs xs' q5.1, disp_of p p' k3 h4⟩
theorem rm_of {m l m' l' : Int} (h : rmI m l = rmI m' l') : m % 8 = m' % 8 ∧ l % 8 = l' % 8 := by unfold rmI at h; omega
theorem h0b : 0 ≤ hiR 0 ∧ hiR 0 ≤ 1 := by decide
theorem R16.hb {r : Int} (h : R16 r) : 0 ≤ hiR r ∧ hiR r ≤ 1 := hi_b (by have := h.1; omega) h.2
theorem im4_of {n n' : Int} (h1 : -2147483648 ≤ n ∧ n < 2147483648) (h2 : -2147483648 ≤ n' ∧ n' < 2147483648) {r r' : List Int} (h : ltl n 4 ++ r = ltl n' 4 ++ r') : n = n' := by
  have h3 := ltl_inj _ _ _ (app_eq (by rw [ltl_len, ltl_len]) h)
  rw [show (256 : Int) ^ 4 = 4294967296 by decide] at h3
  omega
theorem im8_of {n n' : Int} (h1 : I64 n) (h2 : I64 n') {r r' : List Int} (h : ltl n 8 ++ r = ltl n' 8 ++ r') : n = n' := by
  have h3 := ltl_inj _ _ _ (app_eq (by rw [ltl_len, ltl_len]) h)
  rw [show (256 : Int) ^ 8 = 18446744073709551616 by decide] at h3
  unfold I64 at h1 h2
  omega

theorem inj_1 (i i' : Ins) (hk : OkP i .ds) (hk' : OkP i' .ds) (hw : i.wf) (hw' : i'.wf) (ho : i.op = 1) (ho' : i'.op = 1) (r r' : List Int) (h : encL i ++ r = encL i' ++ r') : i = i' := by
  clear hw hw'
  obtain ⟨op, d, s, t, b, x, sc, di, im⟩ := i
  obtain ⟨op', d', s', t', b', x', sc', di', im'⟩ := i'
  dsimp only at ho ho'
  subst ho
  subst ho'
  obtain ⟨⟨d1, d2⟩, ⟨s1, s2⟩, t0, ⟨b0, x0, c0, i0⟩, m0⟩ := hk
  obtain ⟨⟨d1', d2'⟩, ⟨s1', s2'⟩, t0', ⟨b0', x0', c0', i0'⟩, m0'⟩ := hk'
  dsimp only at *
  have h1 : rexI s 0 d :: 137 :: [rmI s d] ++ r = rexI s' 0 d' :: 137 :: [rmI s' d'] ++ r' := h
  simp only [List.cons_append, List.cons.injEq, List.nil_append] at h1
  obtain ⟨e1, _, e2, _⟩ := h1
  obtain ⟨e3, _, e4⟩ := rex_inj (R16.hb ⟨s1, s2⟩) h0b (R16.hb ⟨d1, d2⟩) (R16.hb ⟨s1', s2'⟩) h0b (R16.hb ⟨d1', d2'⟩) e1
  obtain ⟨e5, e6⟩ := rm_of e2
  have e7 := reg_of ⟨s1, s2⟩ ⟨s1', s2'⟩ e3 e5
  have e8 := reg_of ⟨d1, d2⟩ ⟨d1', d2'⟩ e4 e6
  simp only [Ins.mk.injEq]
  refine ⟨?_, ?_, ?_, ?_, ?_, ?_, ?_, ?_, ?_⟩ <;> first | trivial | omega

theorem inj_2 (i i' : Ins) (hk : OkP i .di) (hk' : OkP i' .di) (hw : i.wf) (hw' : i'.wf) (ho : i.op = 2) (ho' : i'.op = 2) (r r' : List Int) (h : encL i ++ r = encL i' ++ r') : i = i' := by
  have w1 := hw.im
  have w2 := hw'.im
  clear hw hw'
  obtain ⟨op, d, s, t, b, x, sc, di, im⟩ := i
  obtain ⟨op', d', s', t', b', x', sc', di', im'⟩ := i'
  dsimp only at ho ho'
  subst ho
  subst ho'
  obtain ⟨⟨d1, d2⟩, s0, t0, ⟨b0, x0, c0, i0⟩⟩ := hk
  obtain ⟨⟨d1', d2'⟩, s0', t0', ⟨b0', x0', c0', i0'⟩⟩ := hk'
  dsimp only at *
  have h1 : rexI 0 0 d :: (184 + d % 8) :: ltl im 8 ++ r = rexI 0 0 d' :: (184 + d' % 8) :: ltl im' 8 ++ r' := h
  simp only [List.cons_append, List.cons.injEq] at h1
  obtain ⟨e1, e2, e3⟩ := h1
  obtain ⟨_, _, e4⟩ := rex_inj h0b h0b (R16.hb ⟨d1, d2⟩) h0b h0b (R16.hb ⟨d1', d2'⟩) e1
  have e5 := reg_of ⟨d1, d2⟩ ⟨d1', d2'⟩ e4 (by omega)
  have e6 := im8_of w1 w2 e3
  simp only [Ins.mk.injEq]
  refine ⟨?_, ?_, ?_, ?_, ?_, ?_, ?_, ?_, ?_⟩ <;> first | trivial | omega

theorem inj_3 (i i' : Ins) (hk : OkP i .dm) (hk' : OkP i' .dm) (hw : i.wf) (hw' : i'.wf) (ho : i.op = 3) (ho' : i'.op = 3) (r r' : List Int) (h : encL i ++ r = encL i' ++ r') : i = i' := by
  clear hw hw'
  obtain ⟨op, d, s, t, b, x, sc, di, im⟩ := i
  obtain ⟨op', d', s', t', b', x', sc', di', im'⟩ := i'
  dsimp only at ho ho'
  subst ho
  subst ho'
  obtain ⟨⟨d1, d2⟩, s0, t0, pl, m0⟩ := hk
  obtain ⟨⟨d1', d2'⟩, s0', t0', pl', m0'⟩ := hk'
  dsimp only at *
  have h1 : rexI d x b :: 139 :: plcL d ⟨3, d, s, t, b, x, sc, di, im⟩ ++ r = rexI d' x' b' :: 139 :: plcL d' ⟨3, d', s', t', b', x', sc', di', im'⟩ ++ r' := h
  simp only [List.cons_append, List.cons.injEq] at h1
  obtain ⟨e1, _, e2⟩ := h1
  obtain ⟨e3, e4, e5, e6, e7⟩ := plc_inj (i := ⟨3, d, s, t, b, x, sc, di, im⟩) (i' := ⟨3, d', s', t', b', x', sc', di', im'⟩) ⟨d1, d2⟩ ⟨d1', d2'⟩ pl pl' e1 e2
  simp only [Ins.mk.injEq]
  exact ⟨trivial, by omega, by omega, by omega, e4, e5, e6, e7, by omega⟩

theorem inj_4 (i i' : Ins) (hk : OkP i .sm) (hk' : OkP i' .sm) (hw : i.wf) (hw' : i'.wf) (ho : i.op = 4) (ho' : i'.op = 4) (r r' : List Int) (h : encL i ++ r = encL i' ++ r') : i = i' := by
  clear hw hw'
  obtain ⟨op, d, s, t, b, x, sc, di, im⟩ := i
  obtain ⟨op', d', s', t', b', x', sc', di', im'⟩ := i'
  dsimp only at ho ho'
  subst ho
  subst ho'
  obtain ⟨d0, ⟨s1, s2⟩, t0, pl, m0⟩ := hk
  obtain ⟨d0', ⟨s1', s2'⟩, t0', pl', m0'⟩ := hk'
  dsimp only at *
  have h1 : rexI s x b :: 137 :: plcL s ⟨4, d, s, t, b, x, sc, di, im⟩ ++ r = rexI s' x' b' :: 137 :: plcL s' ⟨4, d', s', t', b', x', sc', di', im'⟩ ++ r' := h
  simp only [List.cons_append, List.cons.injEq] at h1
  obtain ⟨e1, _, e2⟩ := h1
  obtain ⟨e3, e4, e5, e6, e7⟩ := plc_inj (i := ⟨4, d, s, t, b, x, sc, di, im⟩) (i' := ⟨4, d', s', t', b', x', sc', di', im'⟩) ⟨s1, s2⟩ ⟨s1', s2'⟩ pl pl' e1 e2
  simp only [Ins.mk.injEq]
  exact ⟨trivial, by omega, by omega, by omega, e4, e5, e6, e7, by omega⟩

theorem inj_5 (i i' : Ins) (hk : OkP i .dm) (hk' : OkP i' .dm) (hw : i.wf) (hw' : i'.wf) (ho : i.op = 5) (ho' : i'.op = 5) (r r' : List Int) (h : encL i ++ r = encL i' ++ r') : i = i' := by
  clear hw hw'
  obtain ⟨op, d, s, t, b, x, sc, di, im⟩ := i
  obtain ⟨op', d', s', t', b', x', sc', di', im'⟩ := i'
  dsimp only at ho ho'
  subst ho
  subst ho'
  obtain ⟨⟨d1, d2⟩, s0, t0, pl, m0⟩ := hk
  obtain ⟨⟨d1', d2'⟩, s0', t0', pl', m0'⟩ := hk'
  dsimp only at *
  have h1 : rexI d x b :: 141 :: plcL d ⟨5, d, s, t, b, x, sc, di, im⟩ ++ r = rexI d' x' b' :: 141 :: plcL d' ⟨5, d', s', t', b', x', sc', di', im'⟩ ++ r' := h
  simp only [List.cons_append, List.cons.injEq] at h1
  obtain ⟨e1, _, e2⟩ := h1
  obtain ⟨e3, e4, e5, e6, e7⟩ := plc_inj (i := ⟨5, d, s, t, b, x, sc, di, im⟩) (i' := ⟨5, d', s', t', b', x', sc', di', im'⟩) ⟨d1, d2⟩ ⟨d1', d2'⟩ pl pl' e1 e2
  simp only [Ins.mk.injEq]
  exact ⟨trivial, by omega, by omega, by omega, e4, e5, e6, e7, by omega⟩

theorem inj_6 (i i' : Ins) (hk : OkP i .ds) (hk' : OkP i' .ds) (hw : i.wf) (hw' : i'.wf) (ho : i.op = 6) (ho' : i'.op = 6) (r r' : List Int) (h : encL i ++ r = encL i' ++ r') : i = i' := by
  clear hw hw'
  obtain ⟨op, d, s, t, b, x, sc, di, im⟩ := i
  obtain ⟨op', d', s', t', b', x', sc', di', im'⟩ := i'
  dsimp only at ho ho'
  subst ho
  subst ho'
  obtain ⟨⟨d1, d2⟩, ⟨s1, s2⟩, t0, ⟨b0, x0, c0, i0⟩, m0⟩ := hk
  obtain ⟨⟨d1', d2'⟩, ⟨s1', s2'⟩, t0', ⟨b0', x0', c0', i0'⟩, m0'⟩ := hk'
  dsimp only at *
  have h1 : rexI s 0 d :: 1 :: [rmI s d] ++ r = rexI s' 0 d' :: 1 :: [rmI s' d'] ++ r' := h
  simp only [List.cons_append, List.cons.injEq, List.nil_append] at h1
  obtain ⟨e1, _, e2, _⟩ := h1
  obtain ⟨e3, _, e4⟩ := rex_inj (R16.hb ⟨s1, s2⟩) h0b (R16.hb ⟨d1, d2⟩) (R16.hb ⟨s1', s2'⟩) h0b (R16.hb ⟨d1', d2'⟩) e1
  obtain ⟨e5, e6⟩ := rm_of e2
  have e7 := reg_of ⟨s1, s2⟩ ⟨s1', s2'⟩ e3 e5
  have e8 := reg_of ⟨d1, d2⟩ ⟨d1', d2'⟩ e4 e6
  simp only [Ins.mk.injEq]
  refine ⟨?_, ?_, ?_, ?_, ?_, ?_, ?_, ?_, ?_⟩ <;> first | trivial | omega

theorem inj_7 (i i' : Ins) (hk : OkP i .ds) (hk' : OkP i' .ds) (hw : i.wf) (hw' : i'.wf) (ho : i.op = 7) (ho' : i'.op = 7) (r r' : List Int) (h : encL i ++ r = encL i' ++ r') : i = i' := by
  clear hw hw'
  obtain ⟨op, d, s, t, b, x, sc, di, im⟩ := i
  obtain ⟨op', d', s', t', b', x', sc', di', im'⟩ := i'
  dsimp only at ho ho'
  subst ho
  subst ho'
  obtain ⟨⟨d1, d2⟩, ⟨s1, s2⟩, t0, ⟨b0, x0, c0, i0⟩, m0⟩ := hk
  obtain ⟨⟨d1', d2'⟩, ⟨s1', s2'⟩, t0', ⟨b0', x0', c0', i0'⟩, m0'⟩ := hk'
  dsimp only at *
  have h1 : rexI s 0 d :: 17 :: [rmI s d] ++ r = rexI s' 0 d' :: 17 :: [rmI s' d'] ++ r' := h
  simp only [List.cons_append, List.cons.injEq, List.nil_append] at h1
  obtain ⟨e1, _, e2, _⟩ := h1
  obtain ⟨e3, _, e4⟩ := rex_inj (R16.hb ⟨s1, s2⟩) h0b (R16.hb ⟨d1, d2⟩) (R16.hb ⟨s1', s2'⟩) h0b (R16.hb ⟨d1', d2'⟩) e1
  obtain ⟨e5, e6⟩ := rm_of e2
  have e7 := reg_of ⟨s1, s2⟩ ⟨s1', s2'⟩ e3 e5
  have e8 := reg_of ⟨d1, d2⟩ ⟨d1', d2'⟩ e4 e6
  simp only [Ins.mk.injEq]
  refine ⟨?_, ?_, ?_, ?_, ?_, ?_, ?_, ?_, ?_⟩ <;> first | trivial | omega

theorem inj_8 (i i' : Ins) (hk : OkP i .ds) (hk' : OkP i' .ds) (hw : i.wf) (hw' : i'.wf) (ho : i.op = 8) (ho' : i'.op = 8) (r r' : List Int) (h : encL i ++ r = encL i' ++ r') : i = i' := by
  clear hw hw'
  obtain ⟨op, d, s, t, b, x, sc, di, im⟩ := i
  obtain ⟨op', d', s', t', b', x', sc', di', im'⟩ := i'
  dsimp only at ho ho'
  subst ho
  subst ho'
  obtain ⟨⟨d1, d2⟩, ⟨s1, s2⟩, t0, ⟨b0, x0, c0, i0⟩, m0⟩ := hk
  obtain ⟨⟨d1', d2'⟩, ⟨s1', s2'⟩, t0', ⟨b0', x0', c0', i0'⟩, m0'⟩ := hk'
  dsimp only at *
  have h1 : rexI s 0 d :: 41 :: [rmI s d] ++ r = rexI s' 0 d' :: 41 :: [rmI s' d'] ++ r' := h
  simp only [List.cons_append, List.cons.injEq, List.nil_append] at h1
  obtain ⟨e1, _, e2, _⟩ := h1
  obtain ⟨e3, _, e4⟩ := rex_inj (R16.hb ⟨s1, s2⟩) h0b (R16.hb ⟨d1, d2⟩) (R16.hb ⟨s1', s2'⟩) h0b (R16.hb ⟨d1', d2'⟩) e1
  obtain ⟨e5, e6⟩ := rm_of e2
  have e7 := reg_of ⟨s1, s2⟩ ⟨s1', s2'⟩ e3 e5
  have e8 := reg_of ⟨d1, d2⟩ ⟨d1', d2'⟩ e4 e6
  simp only [Ins.mk.injEq]
  refine ⟨?_, ?_, ?_, ?_, ?_, ?_, ?_, ?_, ?_⟩ <;> first | trivial | omega

theorem inj_9 (i i' : Ins) (hk : OkP i .ds) (hk' : OkP i' .ds) (hw : i.wf) (hw' : i'.wf) (ho : i.op = 9) (ho' : i'.op = 9) (r r' : List Int) (h : encL i ++ r = encL i' ++ r') : i = i' := by
  clear hw hw'
  obtain ⟨op, d, s, t, b, x, sc, di, im⟩ := i
  obtain ⟨op', d', s', t', b', x', sc', di', im'⟩ := i'
  dsimp only at ho ho'
  subst ho
  subst ho'
  obtain ⟨⟨d1, d2⟩, ⟨s1, s2⟩, t0, ⟨b0, x0, c0, i0⟩, m0⟩ := hk
  obtain ⟨⟨d1', d2'⟩, ⟨s1', s2'⟩, t0', ⟨b0', x0', c0', i0'⟩, m0'⟩ := hk'
  dsimp only at *
  have h1 : rexI s 0 d :: 25 :: [rmI s d] ++ r = rexI s' 0 d' :: 25 :: [rmI s' d'] ++ r' := h
  simp only [List.cons_append, List.cons.injEq, List.nil_append] at h1
  obtain ⟨e1, _, e2, _⟩ := h1
  obtain ⟨e3, _, e4⟩ := rex_inj (R16.hb ⟨s1, s2⟩) h0b (R16.hb ⟨d1, d2⟩) (R16.hb ⟨s1', s2'⟩) h0b (R16.hb ⟨d1', d2'⟩) e1
  obtain ⟨e5, e6⟩ := rm_of e2
  have e7 := reg_of ⟨s1, s2⟩ ⟨s1', s2'⟩ e3 e5
  have e8 := reg_of ⟨d1, d2⟩ ⟨d1', d2'⟩ e4 e6
  simp only [Ins.mk.injEq]
  refine ⟨?_, ?_, ?_, ?_, ?_, ?_, ?_, ?_, ?_⟩ <;> first | trivial | omega

theorem inj_10 (i i' : Ins) (hk : OkP i .ds) (hk' : OkP i' .ds) (hw : i.wf) (hw' : i'.wf) (ho : i.op = 10) (ho' : i'.op = 10) (r r' : List Int) (h : encL i ++ r = encL i' ++ r') : i = i' := by
  clear hw hw'
  obtain ⟨op, d, s, t, b, x, sc, di, im⟩ := i
  obtain ⟨op', d', s', t', b', x', sc', di', im'⟩ := i'
  dsimp only at ho ho'
  subst ho
  subst ho'
  obtain ⟨⟨d1, d2⟩, ⟨s1, s2⟩, t0, ⟨b0, x0, c0, i0⟩, m0⟩ := hk
  obtain ⟨⟨d1', d2'⟩, ⟨s1', s2'⟩, t0', ⟨b0', x0', c0', i0'⟩, m0'⟩ := hk'
  dsimp only at *
  have h1 : rexI s 0 d :: 33 :: [rmI s d] ++ r = rexI s' 0 d' :: 33 :: [rmI s' d'] ++ r' := h
  simp only [List.cons_append, List.cons.injEq, List.nil_append] at h1
  obtain ⟨e1, _, e2, _⟩ := h1
  obtain ⟨e3, _, e4⟩ := rex_inj (R16.hb ⟨s1, s2⟩) h0b (R16.hb ⟨d1, d2⟩) (R16.hb ⟨s1', s2'⟩) h0b (R16.hb ⟨d1', d2'⟩) e1
  obtain ⟨e5, e6⟩ := rm_of e2
  have e7 := reg_of ⟨s1, s2⟩ ⟨s1', s2'⟩ e3 e5
  have e8 := reg_of ⟨d1, d2⟩ ⟨d1', d2'⟩ e4 e6
  simp only [Ins.mk.injEq]
  refine ⟨?_, ?_, ?_, ?_, ?_, ?_, ?_, ?_, ?_⟩ <;> first | trivial | omega

theorem inj_11 (i i' : Ins) (hk : OkP i .ds) (hk' : OkP i' .ds) (hw : i.wf) (hw' : i'.wf) (ho : i.op = 11) (ho' : i'.op = 11) (r r' : List Int) (h : encL i ++ r = encL i' ++ r') : i = i' := by
  clear hw hw'
  obtain ⟨op, d, s, t, b, x, sc, di, im⟩ := i
  obtain ⟨op', d', s', t', b', x', sc', di', im'⟩ := i'
  dsimp only at ho ho'
  subst ho
  subst ho'
  obtain ⟨⟨d1, d2⟩, ⟨s1, s2⟩, t0, ⟨b0, x0, c0, i0⟩, m0⟩ := hk
  obtain ⟨⟨d1', d2'⟩, ⟨s1', s2'⟩, t0', ⟨b0', x0', c0', i0'⟩, m0'⟩ := hk'
  dsimp only at *
  have h1 : rexI s 0 d :: 9 :: [rmI s d] ++ r = rexI s' 0 d' :: 9 :: [rmI s' d'] ++ r' := h
  simp only [List.cons_append, List.cons.injEq, List.nil_append] at h1
  obtain ⟨e1, _, e2, _⟩ := h1
  obtain ⟨e3, _, e4⟩ := rex_inj (R16.hb ⟨s1, s2⟩) h0b (R16.hb ⟨d1, d2⟩) (R16.hb ⟨s1', s2'⟩) h0b (R16.hb ⟨d1', d2'⟩) e1
  obtain ⟨e5, e6⟩ := rm_of e2
  have e7 := reg_of ⟨s1, s2⟩ ⟨s1', s2'⟩ e3 e5
  have e8 := reg_of ⟨d1, d2⟩ ⟨d1', d2'⟩ e4 e6
  simp only [Ins.mk.injEq]
  refine ⟨?_, ?_, ?_, ?_, ?_, ?_, ?_, ?_, ?_⟩ <;> first | trivial | omega

theorem inj_12 (i i' : Ins) (hk : OkP i .ds) (hk' : OkP i' .ds) (hw : i.wf) (hw' : i'.wf) (ho : i.op = 12) (ho' : i'.op = 12) (r r' : List Int) (h : encL i ++ r = encL i' ++ r') : i = i' := by
  clear hw hw'
  obtain ⟨op, d, s, t, b, x, sc, di, im⟩ := i
  obtain ⟨op', d', s', t', b', x', sc', di', im'⟩ := i'
  dsimp only at ho ho'
  subst ho
  subst ho'
  obtain ⟨⟨d1, d2⟩, ⟨s1, s2⟩, t0, ⟨b0, x0, c0, i0⟩, m0⟩ := hk
  obtain ⟨⟨d1', d2'⟩, ⟨s1', s2'⟩, t0', ⟨b0', x0', c0', i0'⟩, m0'⟩ := hk'
  dsimp only at *
  have h1 : rexI s 0 d :: 49 :: [rmI s d] ++ r = rexI s' 0 d' :: 49 :: [rmI s' d'] ++ r' := h
  simp only [List.cons_append, List.cons.injEq, List.nil_append] at h1
  obtain ⟨e1, _, e2, _⟩ := h1
  obtain ⟨e3, _, e4⟩ := rex_inj (R16.hb ⟨s1, s2⟩) h0b (R16.hb ⟨d1, d2⟩) (R16.hb ⟨s1', s2'⟩) h0b (R16.hb ⟨d1', d2'⟩) e1
  obtain ⟨e5, e6⟩ := rm_of e2
  have e7 := reg_of ⟨s1, s2⟩ ⟨s1', s2'⟩ e3 e5
  have e8 := reg_of ⟨d1, d2⟩ ⟨d1', d2'⟩ e4 e6
  simp only [Ins.mk.injEq]
  refine ⟨?_, ?_, ?_, ?_, ?_, ?_, ?_, ?_, ?_⟩ <;> first | trivial | omega

theorem inj_13 (i i' : Ins) (hk : OkP i .ds) (hk' : OkP i' .ds) (hw : i.wf) (hw' : i'.wf) (ho : i.op = 13) (ho' : i'.op = 13) (r r' : List Int) (h : encL i ++ r = encL i' ++ r') : i = i' := by
  clear hw hw'
  obtain ⟨op, d, s, t, b, x, sc, di, im⟩ := i
  obtain ⟨op', d', s', t', b', x', sc', di', im'⟩ := i'
  dsimp only at ho ho'
  subst ho
  subst ho'
  obtain ⟨⟨d1, d2⟩, ⟨s1, s2⟩, t0, ⟨b0, x0, c0, i0⟩, m0⟩ := hk
  obtain ⟨⟨d1', d2'⟩, ⟨s1', s2'⟩, t0', ⟨b0', x0', c0', i0'⟩, m0'⟩ := hk'
  dsimp only at *
  have h1 : rexI s 0 d :: 57 :: [rmI s d] ++ r = rexI s' 0 d' :: 57 :: [rmI s' d'] ++ r' := h
  simp only [List.cons_append, List.cons.injEq, List.nil_append] at h1
  obtain ⟨e1, _, e2, _⟩ := h1
  obtain ⟨e3, _, e4⟩ := rex_inj (R16.hb ⟨s1, s2⟩) h0b (R16.hb ⟨d1, d2⟩) (R16.hb ⟨s1', s2'⟩) h0b (R16.hb ⟨d1', d2'⟩) e1
  obtain ⟨e5, e6⟩ := rm_of e2
  have e7 := reg_of ⟨s1, s2⟩ ⟨s1', s2'⟩ e3 e5
  have e8 := reg_of ⟨d1, d2⟩ ⟨d1', d2'⟩ e4 e6
  simp only [Ins.mk.injEq]
  refine ⟨?_, ?_, ?_, ?_, ?_, ?_, ?_, ?_, ?_⟩ <;> first | trivial | omega

theorem inj_14 (i i' : Ins) (hk : OkP i .ds) (hk' : OkP i' .ds) (hw : i.wf) (hw' : i'.wf) (ho : i.op = 14) (ho' : i'.op = 14) (r r' : List Int) (h : encL i ++ r = encL i' ++ r') : i = i' := by
  clear hw hw'
  obtain ⟨op, d, s, t, b, x, sc, di, im⟩ := i
  obtain ⟨op', d', s', t', b', x', sc', di', im'⟩ := i'
  dsimp only at ho ho'
  subst ho
  subst ho'
  obtain ⟨⟨d1, d2⟩, ⟨s1, s2⟩, t0, ⟨b0, x0, c0, i0⟩, m0⟩ := hk
  obtain ⟨⟨d1', d2'⟩, ⟨s1', s2'⟩, t0', ⟨b0', x0', c0', i0'⟩, m0'⟩ := hk'
  dsimp only at *
  have h1 : rexI s 0 d :: 133 :: [rmI s d] ++ r = rexI s' 0 d' :: 133 :: [rmI s' d'] ++ r' := h
  simp only [List.cons_append, List.cons.injEq, List.nil_append] at h1
  obtain ⟨e1, _, e2, _⟩ := h1
  obtain ⟨e3, _, e4⟩ := rex_inj (R16.hb ⟨s1, s2⟩) h0b (R16.hb ⟨d1, d2⟩) (R16.hb ⟨s1', s2'⟩) h0b (R16.hb ⟨d1', d2'⟩) e1
  obtain ⟨e5, e6⟩ := rm_of e2
  have e7 := reg_of ⟨s1, s2⟩ ⟨s1', s2'⟩ e3 e5
  have e8 := reg_of ⟨d1, d2⟩ ⟨d1', d2'⟩ e4 e6
  simp only [Ins.mk.injEq]
  refine ⟨?_, ?_, ?_, ?_, ?_, ?_, ?_, ?_, ?_⟩ <;> first | trivial | omega

theorem inj_15 (i i' : Ins) (hk : OkP i .dj) (hk' : OkP i' .dj) (hw : i.wf) (hw' : i'.wf) (ho : i.op = 15) (ho' : i'.op = 15) (r r' : List Int) (h : encL i ++ r = encL i' ++ r') : i = i' := by
  clear hw hw'
  obtain ⟨op, d, s, t, b, x, sc, di, im⟩ := i
  obtain ⟨op', d', s', t', b', x', sc', di', im'⟩ := i'
  dsimp only at ho ho'
  subst ho
  subst ho'
  obtain ⟨⟨d1, d2⟩, s0, t0, ⟨b0, x0, c0, i0⟩, m1, m2⟩ := hk
  obtain ⟨⟨d1', d2'⟩, s0', t0', ⟨b0', x0', c0', i0'⟩, m1', m2'⟩ := hk'
  dsimp only at *
  have h1 : rexI 0 0 d :: 129 :: rmI 0 d :: ltl im 4 ++ r = rexI 0 0 d' :: 129 :: rmI 0 d' :: ltl im' 4 ++ r' := h
  simp only [List.cons_append, List.cons.injEq, List.nil_append] at h1
  obtain ⟨e1, _, e2, e3⟩ := h1
  obtain ⟨_, _, e4⟩ := rex_inj h0b h0b (R16.hb ⟨d1, d2⟩) h0b h0b (R16.hb ⟨d1', d2'⟩) e1
  have e5 := reg_of ⟨d1, d2⟩ ⟨d1', d2'⟩ e4 (rm_of e2).2
  have e6 := im4_of ⟨m1, m2⟩ ⟨m1', m2'⟩ e3
  simp only [Ins.mk.injEq]
  refine ⟨?_, ?_, ?_, ?_, ?_, ?_, ?_, ?_, ?_⟩ <;> first | trivial | omega

theorem inj_16 (i i' : Ins) (hk : OkP i .dj) (hk' : OkP i' .dj) (hw : i.wf) (hw' : i'.wf) (ho : i.op = 16) (ho' : i'.op = 16) (r r' : List Int) (h : encL i ++ r = encL i' ++ r') : i = i' := by
  clear hw hw'
  obtain ⟨op, d, s, t, b, x, sc, di, im⟩ := i
  obtain ⟨op', d', s', t', b', x', sc', di', im'⟩ := i'
  dsimp only at ho ho'
  subst ho
  subst ho'
  obtain ⟨⟨d1, d2⟩, s0, t0, ⟨b0, x0, c0, i0⟩, m1, m2⟩ := hk
  obtain ⟨⟨d1', d2'⟩, s0', t0', ⟨b0', x0', c0', i0'⟩, m1', m2'⟩ := hk'
  dsimp only at *
  have h1 : rexI 0 0 d :: 129 :: rmI 4 d :: ltl im 4 ++ r = rexI 0 0 d' :: 129 :: rmI 4 d' :: ltl im' 4 ++ r' := h
  simp only [List.cons_append, List.cons.injEq, List.nil_append] at h1
  obtain ⟨e1, _, e2, e3⟩ := h1
  obtain ⟨_, _, e4⟩ := rex_inj h0b h0b (R16.hb ⟨d1, d2⟩) h0b h0b (R16.hb ⟨d1', d2'⟩) e1
  have e5 := reg_of ⟨d1, d2⟩ ⟨d1', d2'⟩ e4 (rm_of e2).2
  have e6 := im4_of ⟨m1, m2⟩ ⟨m1', m2'⟩ e3
  simp only [Ins.mk.injEq]
  refine ⟨?_, ?_, ?_, ?_, ?_, ?_, ?_, ?_, ?_⟩ <;> first | trivial | omega

theorem inj_17 (i i' : Ins) (hk : OkP i .dj) (hk' : OkP i' .dj) (hw : i.wf) (hw' : i'.wf) (ho : i.op = 17) (ho' : i'.op = 17) (r r' : List Int) (h : encL i ++ r = encL i' ++ r') : i = i' := by
  clear hw hw'
  obtain ⟨op, d, s, t, b, x, sc, di, im⟩ := i
  obtain ⟨op', d', s', t', b', x', sc', di', im'⟩ := i'
  dsimp only at ho ho'
  subst ho
  subst ho'
  obtain ⟨⟨d1, d2⟩, s0, t0, ⟨b0, x0, c0, i0⟩, m1, m2⟩ := hk
  obtain ⟨⟨d1', d2'⟩, s0', t0', ⟨b0', x0', c0', i0'⟩, m1', m2'⟩ := hk'
  dsimp only at *
  have h1 : rexI 0 0 d :: 129 :: rmI 5 d :: ltl im 4 ++ r = rexI 0 0 d' :: 129 :: rmI 5 d' :: ltl im' 4 ++ r' := h
  simp only [List.cons_append, List.cons.injEq, List.nil_append] at h1
  obtain ⟨e1, _, e2, e3⟩ := h1
  obtain ⟨_, _, e4⟩ := rex_inj h0b h0b (R16.hb ⟨d1, d2⟩) h0b h0b (R16.hb ⟨d1', d2'⟩) e1
  have e5 := reg_of ⟨d1, d2⟩ ⟨d1', d2'⟩ e4 (rm_of e2).2
  have e6 := im4_of ⟨m1, m2⟩ ⟨m1', m2'⟩ e3
  simp only [Ins.mk.injEq]
  refine ⟨?_, ?_, ?_, ?_, ?_, ?_, ?_, ?_, ?_⟩ <;> first | trivial | omega

theorem inj_18 (i i' : Ins) (hk : OkP i .dj) (hk' : OkP i' .dj) (hw : i.wf) (hw' : i'.wf) (ho : i.op = 18) (ho' : i'.op = 18) (r r' : List Int) (h : encL i ++ r = encL i' ++ r') : i = i' := by
  clear hw hw'
  obtain ⟨op, d, s, t, b, x, sc, di, im⟩ := i
  obtain ⟨op', d', s', t', b', x', sc', di', im'⟩ := i'
  dsimp only at ho ho'
  subst ho
  subst ho'
  obtain ⟨⟨d1, d2⟩, s0, t0, ⟨b0, x0, c0, i0⟩, m1, m2⟩ := hk
  obtain ⟨⟨d1', d2'⟩, s0', t0', ⟨b0', x0', c0', i0'⟩, m1', m2'⟩ := hk'
  dsimp only at *
  have h1 : rexI 0 0 d :: 129 :: rmI 7 d :: ltl im 4 ++ r = rexI 0 0 d' :: 129 :: rmI 7 d' :: ltl im' 4 ++ r' := h
  simp only [List.cons_append, List.cons.injEq, List.nil_append] at h1
  obtain ⟨e1, _, e2, e3⟩ := h1
  obtain ⟨_, _, e4⟩ := rex_inj h0b h0b (R16.hb ⟨d1, d2⟩) h0b h0b (R16.hb ⟨d1', d2'⟩) e1
  have e5 := reg_of ⟨d1, d2⟩ ⟨d1', d2'⟩ e4 (rm_of e2).2
  have e6 := im4_of ⟨m1, m2⟩ ⟨m1', m2'⟩ e3
  simp only [Ins.mk.injEq]
  refine ⟨?_, ?_, ?_, ?_, ?_, ?_, ?_, ?_, ?_⟩ <;> first | trivial | omega

theorem inj_19 (i i' : Ins) (hk : OkP i .dst) (hk' : OkP i' .dst) (hw : i.wf) (hw' : i'.wf) (ho : i.op = 19) (ho' : i'.op = 19) (r r' : List Int) (h : encL i ++ r = encL i' ++ r') : i = i' := by
  clear hw hw'
  obtain ⟨op, d, s, t, b, x, sc, di, im⟩ := i
  obtain ⟨op', d', s', t', b', x', sc', di', im'⟩ := i'
  dsimp only at ho ho'
  subst ho
  subst ho'
  obtain ⟨⟨d1, d2⟩, ⟨s1, s2⟩, ⟨t1, t2⟩, ⟨b0, x0, c0, i0⟩, m0⟩ := hk
  obtain ⟨⟨d1', d2'⟩, ⟨s1', s2'⟩, ⟨t1', t2'⟩, ⟨b0', x0', c0', i0'⟩, m0'⟩ := hk'
  dsimp only at *
  have h1 : [196, 66 + 128 * (1 - hiR d) + 32 * (1 - hiR t), 131 + 8 * (15 - s), 246, rmI d t] ++ r = [196, 66 + 128 * (1 - hiR d') + 32 * (1 - hiR t'), 131 + 8 * (15 - s'), 246, rmI d' t'] ++ r' := h
  simp only [List.cons_append, List.cons.injEq, List.nil_append] at h1
  obtain ⟨_, e1, e2, _, e3, _⟩ := h1
  have a1 := R16.hb ⟨d1, d2⟩
  have a2 := R16.hb ⟨t1, t2⟩
  have a3 := R16.hb ⟨d1', d2'⟩
  have a4 := R16.hb ⟨t1', t2'⟩
  obtain ⟨e4, e5⟩ := rm_of e3
  have e6 := reg_of ⟨d1, d2⟩ ⟨d1', d2'⟩ (by omega) e4
  have e7 := reg_of ⟨t1, t2⟩ ⟨t1', t2'⟩ (by omega) e5
  simp only [Ins.mk.injEq]
  refine ⟨?_, ?_, ?_, ?_, ?_, ?_, ?_, ?_, ?_⟩ <;> first | trivial | omega

theorem inj_20 (i i' : Ins) (hk : OkP i .ds) (hk' : OkP i' .ds) (hw : i.wf) (hw' : i'.wf) (ho : i.op = 20) (ho' : i'.op = 20) (r r' : List Int) (h : encL i ++ r = encL i' ++ r') : i = i' := by
  clear hw hw'
  obtain ⟨op, d, s, t, b, x, sc, di, im⟩ := i
  obtain ⟨op', d', s', t', b', x', sc', di', im'⟩ := i'
  dsimp only at ho ho'
  subst ho
  subst ho'
  obtain ⟨⟨d1, d2⟩, ⟨s1, s2⟩, t0, ⟨b0, x0, c0, i0⟩, m0⟩ := hk
  obtain ⟨⟨d1', d2'⟩, ⟨s1', s2'⟩, t0', ⟨b0', x0', c0', i0'⟩, m0'⟩ := hk'
  dsimp only at *
  have h1 : 102 :: rexI d 0 s :: 15 :: 56 :: 246 :: [rmI d s] ++ r = 102 :: rexI d' 0 s' :: 15 :: 56 :: 246 :: [rmI d' s'] ++ r' := h
  simp only [List.cons_append, List.cons.injEq, List.nil_append] at h1
  obtain ⟨_, e1, _, _, _, e2, _⟩ := h1
  obtain ⟨e3, _, e4⟩ := rex_inj (R16.hb ⟨d1, d2⟩) h0b (R16.hb ⟨s1, s2⟩) (R16.hb ⟨d1', d2'⟩) h0b (R16.hb ⟨s1', s2'⟩) e1
  obtain ⟨e5, e6⟩ := rm_of e2
  have e7 := reg_of ⟨d1, d2⟩ ⟨d1', d2'⟩ e3 e5
  have e8 := reg_of ⟨s1, s2⟩ ⟨s1', s2'⟩ e4 e6
  simp only [Ins.mk.injEq]
  refine ⟨?_, ?_, ?_, ?_, ?_, ?_, ?_, ?_, ?_⟩ <;> first | trivial | omega

theorem inj_21 (i i' : Ins) (hk : OkP i .ds) (hk' : OkP i' .ds) (hw : i.wf) (hw' : i'.wf) (ho : i.op = 21) (ho' : i'.op = 21) (r r' : List Int) (h : encL i ++ r = encL i' ++ r') : i = i' := by
  clear hw hw'
  obtain ⟨op, d, s, t, b, x, sc, di, im⟩ := i
  obtain ⟨op', d', s', t', b', x', sc', di', im'⟩ := i'
  dsimp only at ho ho'
  subst ho
  subst ho'
  obtain ⟨⟨d1, d2⟩, ⟨s1, s2⟩, t0, ⟨b0, x0, c0, i0⟩, m0⟩ := hk
  obtain ⟨⟨d1', d2'⟩, ⟨s1', s2'⟩, t0', ⟨b0', x0', c0', i0'⟩, m0'⟩ := hk'
  dsimp only at *
  have h1 : 243 :: rexI d 0 s :: 15 :: 56 :: 246 :: [rmI d s] ++ r = 243 :: rexI d' 0 s' :: 15 :: 56 :: 246 :: [rmI d' s'] ++ r' := h
  simp only [List.cons_append, List.cons.injEq, List.nil_append] at h1
  obtain ⟨_, e1, _, _, _, e2, _⟩ := h1
  obtain ⟨e3, _, e4⟩ := rex_inj (R16.hb ⟨d1, d2⟩) h0b (R16.hb ⟨s1, s2⟩) (R16.hb ⟨d1', d2'⟩) h0b (R16.hb ⟨s1', s2'⟩) e1
  obtain ⟨e5, e6⟩ := rm_of e2
  have e7 := reg_of ⟨d1, d2⟩ ⟨d1', d2'⟩ e3 e5
  have e8 := reg_of ⟨s1, s2⟩ ⟨s1', s2'⟩ e4 e6
  simp only [Ins.mk.injEq]
  refine ⟨?_, ?_, ?_, ?_, ?_, ?_, ?_, ?_, ?_⟩ <;> first | trivial | omega

theorem inj_22 (i i' : Ins) (hk : OkP i .d) (hk' : OkP i' .d) (hw : i.wf) (hw' : i'.wf) (ho : i.op = 22) (ho' : i'.op = 22) (r r' : List Int) (h : encL i ++ r = encL i' ++ r') : i = i' := by
  clear hw hw'
  obtain ⟨op, d, s, t, b, x, sc, di, im⟩ := i
  obtain ⟨op', d', s', t', b', x', sc', di', im'⟩ := i'
  dsimp only at ho ho'
  subst ho
  subst ho'
  obtain ⟨⟨d1, d2⟩, s0, t0, ⟨b0, x0, c0, i0⟩, m0⟩ := hk
  obtain ⟨⟨d1', d2'⟩, s0', t0', ⟨b0', x0', c0', i0'⟩, m0'⟩ := hk'
  dsimp only at *
  have h1 : rexI 0 0 d :: 247 :: rmI 3 d :: [] ++ r = rexI 0 0 d' :: 247 :: rmI 3 d' :: [] ++ r' := h
  simp only [List.cons_append, List.cons.injEq, List.nil_append] at h1
  obtain ⟨e1, _, e2, e3⟩ := h1
  obtain ⟨_, _, e4⟩ := rex_inj h0b h0b (R16.hb ⟨d1, d2⟩) h0b h0b (R16.hb ⟨d1', d2'⟩) e1
  have e5 := reg_of ⟨d1, d2⟩ ⟨d1', d2'⟩ e4 (rm_of e2).2
  simp only [Ins.mk.injEq]
  refine ⟨?_, ?_, ?_, ?_, ?_, ?_, ?_, ?_, ?_⟩ <;> first | trivial | omega

theorem inj_23 (i i' : Ins) (hk : OkP i .d) (hk' : OkP i' .d) (hw : i.wf) (hw' : i'.wf) (ho : i.op = 23) (ho' : i'.op = 23) (r r' : List Int) (h : encL i ++ r = encL i' ++ r') : i = i' := by
  clear hw hw'
  obtain ⟨op, d, s, t, b, x, sc, di, im⟩ := i
  obtain ⟨op', d', s', t', b', x', sc', di', im'⟩ := i'
  dsimp only at ho ho'
  subst ho
  subst ho'
  obtain ⟨⟨d1, d2⟩, s0, t0, ⟨b0, x0, c0, i0⟩, m0⟩ := hk
  obtain ⟨⟨d1', d2'⟩, s0', t0', ⟨b0', x0', c0', i0'⟩, m0'⟩ := hk'
  dsimp only at *
  have h1 : rexI 0 0 d :: 247 :: rmI 2 d :: [] ++ r = rexI 0 0 d' :: 247 :: rmI 2 d' :: [] ++ r' := h
  simp only [List.cons_append, List.cons.injEq, List.nil_append] at h1
  obtain ⟨e1, _, e2, e3⟩ := h1
  obtain ⟨_, _, e4⟩ := rex_inj h0b h0b (R16.hb ⟨d1, d2⟩) h0b h0b (R16.hb ⟨d1', d2'⟩) e1
  have e5 := reg_of ⟨d1, d2⟩ ⟨d1', d2'⟩ e4 (rm_of e2).2
  simp only [Ins.mk.injEq]
  refine ⟨?_, ?_, ?_, ?_, ?_, ?_, ?_, ?_, ?_⟩ <;> first | trivial | omega

theorem inj_24 (i i' : Ins) (hk : OkP i .db) (hk' : OkP i' .db) (hw : i.wf) (hw' : i'.wf) (ho : i.op = 24) (ho' : i'.op = 24) (r r' : List Int) (h : encL i ++ r = encL i' ++ r') : i = i' := by
  clear hw hw'
  obtain ⟨op, d, s, t, b, x, sc, di, im⟩ := i
  obtain ⟨op', d', s', t', b', x', sc', di', im'⟩ := i'
  dsimp only at ho ho'
  subst ho
  subst ho'
  obtain ⟨⟨d1, d2⟩, s0, t0, ⟨b0, x0, c0, i0⟩, m1, m2⟩ := hk
  obtain ⟨⟨d1', d2'⟩, s0', t0', ⟨b0', x0', c0', i0'⟩, m1', m2'⟩ := hk'
  dsimp only at *
  have h1 : rexI 0 0 d :: 193 :: rmI 4 d :: [im] ++ r = rexI 0 0 d' :: 193 :: rmI 4 d' :: [im'] ++ r' := h
  simp only [List.cons_append, List.cons.injEq, List.nil_append] at h1
  obtain ⟨e1, _, e2, e3, _⟩ := h1
  obtain ⟨_, _, e4⟩ := rex_inj h0b h0b (R16.hb ⟨d1, d2⟩) h0b h0b (R16.hb ⟨d1', d2'⟩) e1
  have e5 := reg_of ⟨d1, d2⟩ ⟨d1', d2'⟩ e4 (rm_of e2).2
  simp only [Ins.mk.injEq]
  refine ⟨?_, ?_, ?_, ?_, ?_, ?_, ?_, ?_, ?_⟩ <;> first | trivial | omega

theorem inj_25 (i i' : Ins) (hk : OkP i .db) (hk' : OkP i' .db) (hw : i.wf) (hw' : i'.wf) (ho : i.op = 25) (ho' : i'.op = 25) (r r' : List Int) (h : encL i ++ r = encL i' ++ r') : i = i' := by
  clear hw hw'
  obtain ⟨op, d, s, t, b, x, sc, di, im⟩ := i
  obtain ⟨op', d', s', t', b', x', sc', di', im'⟩ := i'
  dsimp only at ho ho'
  subst ho
  subst ho'
  obtain ⟨⟨d1, d2⟩, s0, t0, ⟨b0, x0, c0, i0⟩, m1, m2⟩ := hk
  obtain ⟨⟨d1', d2'⟩, s0', t0', ⟨b0', x0', c0', i0'⟩, m1', m2'⟩ := hk'
  dsimp only at *
  have h1 : rexI 0 0 d :: 193 :: rmI 5 d :: [im] ++ r = rexI 0 0 d' :: 193 :: rmI 5 d' :: [im'] ++ r' := h
  simp only [List.cons_append, List.cons.injEq, List.nil_append] at h1
  obtain ⟨e1, _, e2, e3, _⟩ := h1
  obtain ⟨_, _, e4⟩ := rex_inj h0b h0b (R16.hb ⟨d1, d2⟩) h0b h0b (R16.hb ⟨d1', d2'⟩) e1
  have e5 := reg_of ⟨d1, d2⟩ ⟨d1', d2'⟩ e4 (rm_of e2).2
  simp only [Ins.mk.injEq]
  refine ⟨?_, ?_, ?_, ?_, ?_, ?_, ?_, ?_, ?_⟩ <;> first | trivial | omega

theorem inj_26 (i i' : Ins) (hk : OkP i .ds) (hk' : OkP i' .ds) (hw : i.wf) (hw' : i'.wf) (ho : i.op = 26) (ho' : i'.op = 26) (r r' : List Int) (h : encL i ++ r = encL i' ++ r') : i = i' := by
  clear hw hw'
  obtain ⟨op, d, s, t, b, x, sc, di, im⟩ := i
  obtain ⟨op', d', s', t', b', x', sc', di', im'⟩ := i'
  dsimp only at ho ho'
  subst ho
  subst ho'
  obtain ⟨⟨d1, d2⟩, ⟨s1, s2⟩, t0, ⟨b0, x0, c0, i0⟩, m0⟩ := hk
  obtain ⟨⟨d1', d2'⟩, ⟨s1', s2'⟩, t0', ⟨b0', x0', c0', i0'⟩, m0'⟩ := hk'
  dsimp only at *
  have h1 : rexI d 0 s :: 15 :: 66 :: [rmI d s] ++ r = rexI d' 0 s' :: 15 :: 66 :: [rmI d' s'] ++ r' := h
  simp only [List.cons_append, List.cons.injEq, List.nil_append] at h1
  obtain ⟨e1, _, _, e2, _⟩ := h1
  obtain ⟨e3, _, e4⟩ := rex_inj (R16.hb ⟨d1, d2⟩) h0b (R16.hb ⟨s1, s2⟩) (R16.hb ⟨d1', d2'⟩) h0b (R16.hb ⟨s1', s2'⟩) e1
  obtain ⟨e5, e6⟩ := rm_of e2
  have e7 := reg_of ⟨d1, d2⟩ ⟨d1', d2'⟩ e3 e5
  have e8 := reg_of ⟨s1, s2⟩ ⟨s1', s2'⟩ e4 e6
  simp only [Ins.mk.injEq]
  refine ⟨?_, ?_, ?_, ?_, ?_, ?_, ?_, ?_, ?_⟩ <;> first | trivial | omega

theorem inj_27 (i i' : Ins) (hk : OkP i .ds) (hk' : OkP i' .ds) (hw : i.wf) (hw' : i'.wf) (ho : i.op = 27) (ho' : i'.op = 27) (r r' : List Int) (h : encL i ++ r = encL i' ++ r') : i = i' := by
  clear hw hw'
  obtain ⟨op, d, s, t, b, x, sc, di, im⟩ := i
  obtain ⟨op', d', s', t', b', x', sc', di', im'⟩ := i'
  dsimp only at ho ho'
  subst ho
  subst ho'
  obtain ⟨⟨d1, d2⟩, ⟨s1, s2⟩, t0, ⟨b0, x0, c0, i0⟩, m0⟩ := hk
  obtain ⟨⟨d1', d2'⟩, ⟨s1', s2'⟩, t0', ⟨b0', x0', c0', i0'⟩, m0'⟩ := hk'
  dsimp only at *
  have h1 : rexI d 0 s :: 15 :: 69 :: [rmI d s] ++ r = rexI d' 0 s' :: 15 :: 69 :: [rmI d' s'] ++ r' := h
  simp only [List.cons_append, List.cons.injEq, List.nil_append] at h1
  obtain ⟨e1, _, _, e2, _⟩ := h1
  obtain ⟨e3, _, e4⟩ := rex_inj (R16.hb ⟨d1, d2⟩) h0b (R16.hb ⟨s1, s2⟩) (R16.hb ⟨d1', d2'⟩) h0b (R16.hb ⟨s1', s2'⟩) e1
  obtain ⟨e5, e6⟩ := rm_of e2
  have e7 := reg_of ⟨d1, d2⟩ ⟨d1', d2'⟩ e3 e5
  have e8 := reg_of ⟨s1, s2⟩ ⟨s1', s2'⟩ e4 e6
  simp only [Ins.mk.injEq]
  refine ⟨?_, ?_, ?_, ?_, ?_, ?_, ?_, ?_, ?_⟩ <;> first | trivial | omega

theorem inj_28 (i i' : Ins) (hk : OkP i .s) (hk' : OkP i' .s) (hw : i.wf) (hw' : i'.wf) (ho : i.op = 28) (ho' : i'.op = 28) (r r' : List Int) (h : encL i ++ r = encL i' ++ r') : i = i' := by
  clear hw hw'
  obtain ⟨op, d, s, t, b, x, sc, di, im⟩ := i
  obtain ⟨op', d', s', t', b', x', sc', di', im'⟩ := i'
  dsimp only at ho ho'
  subst ho
  subst ho'
  obtain ⟨d0, ⟨s1, s2⟩, t0, ⟨b0, x0, c0, i0⟩, m0⟩ := hk
  obtain ⟨d0', ⟨s1', s2'⟩, t0', ⟨b0', x0', c0', i0'⟩, m0'⟩ := hk'
  dsimp only at *
  have e : ∀ (u v : Int) (l : List Int), (if u > 7 then [65, 80 + u % 8] else [80 + u]) ++ l = (if u > 7 then 65 :: (80 + u % 8) :: l else (80 + u) :: l) := fun u v l => by split <;> rfl
  have h1 : (if s > 7 then [65, 80 + s % 8] else [80 + s]) ++ r = (if s' > 7 then [65, 80 + s' % 8] else [80 + s']) ++ r' := h
  rw [e s 0, e s' 0] at h1
  have e9 : s = s' := by
    split at h1 <;> split at h1 <;> simp only [List.cons.injEq] at h1 <;> omega
  simp only [Ins.mk.injEq]
  refine ⟨?_, ?_, ?_, ?_, ?_, ?_, ?_, ?_, ?_⟩ <;> first | trivial | omega

theorem inj_29 (i i' : Ins) (hk : OkP i .d) (hk' : OkP i' .d) (hw : i.wf) (hw' : i'.wf) (ho : i.op = 29) (ho' : i'.op = 29) (r r' : List Int) (h : encL i ++ r = encL i' ++ r') : i = i' := by
  clear hw hw'
  obtain ⟨op, d, s, t, b, x, sc, di, im⟩ := i
  obtain ⟨op', d', s', t', b', x', sc', di', im'⟩ := i'
  dsimp only at ho ho'
  subst ho
  subst ho'
  obtain ⟨⟨d1, d2⟩, s0, t0, ⟨b0, x0, c0, i0⟩, m0⟩ := hk
  obtain ⟨⟨d1', d2'⟩, s0', t0', ⟨b0', x0', c0', i0'⟩, m0'⟩ := hk'
  dsimp only at *
  have e : ∀ (u v : Int) (l : List Int), (if u > 7 then [65, 88 + u % 8] else [88 + u]) ++ l = (if u > 7 then 65 :: (88 + u % 8) :: l else (88 + u) :: l) := fun u v l => by split <;> rfl
  have h1 : (if d > 7 then [65, 88 + d % 8] else [88 + d]) ++ r = (if d' > 7 then [65, 88 + d' % 8] else [88 + d']) ++ r' := h
  rw [e d 0, e d' 0] at h1
  have e9 : d = d' := by
    split at h1 <;> split at h1 <;> simp only [List.cons.injEq] at h1 <;> omega
  simp only [Ins.mk.injEq]
  refine ⟨?_, ?_, ?_, ?_, ?_, ?_, ?_, ?_, ?_⟩ <;> first | trivial | omega

theorem inj_30 (i i' : Ins) (hk : OkP i .j) (hk' : OkP i' .j) (hw : i.wf) (hw' : i'.wf) (ho : i.op = 30) (ho' : i'.op = 30) (r r' : List Int) (h : encL i ++ r = encL i' ++ r') : i = i' := by
  clear hw hw'
  obtain ⟨op, d, s, t, b, x, sc, di, im⟩ := i
  obtain ⟨op', d', s', t', b', x', sc', di', im'⟩ := i'
  dsimp only at ho ho'
  subst ho
  subst ho'
  obtain ⟨d0, s0, t0, ⟨b0, x0, c0, i0⟩, m1, m2⟩ := hk
  obtain ⟨d0', s0', t0', ⟨b0', x0', c0', i0'⟩, m1', m2'⟩ := hk'
  dsimp only at *
  have h1 : 233 :: ltl im 4 ++ r = 233 :: ltl im' 4 ++ r' := h
  simp only [List.cons_append, List.cons.injEq, true_and] at h1
  have e1 := im4_of ⟨m1, m2⟩ ⟨m1', m2'⟩ h1
  simp only [Ins.mk.injEq]
  refine ⟨?_, ?_, ?_, ?_, ?_, ?_, ?_, ?_, ?_⟩ <;> first | trivial | omega

theorem inj_31 (i i' : Ins) (hk : OkP i .j) (hk' : OkP i' .j) (hw : i.wf) (hw' : i'.wf) (ho : i.op = 31) (ho' : i'.op = 31) (r r' : List Int) (h : encL i ++ r = encL i' ++ r') : i = i' := by
  clear hw hw'
  obtain ⟨op, d, s, t, b, x, sc, di, im⟩ := i
  obtain ⟨op', d', s', t', b', x', sc', di', im'⟩ := i'
  dsimp only at ho ho'
  subst ho
  subst ho'
  obtain ⟨d0, s0, t0, ⟨b0, x0, c0, i0⟩, m1, m2⟩ := hk
  obtain ⟨d0', s0', t0', ⟨b0', x0', c0', i0'⟩, m1', m2'⟩ := hk'
  dsimp only at *
  have h1 : 15 :: 133 :: ltl im 4 ++ r = 15 :: 133 :: ltl im' 4 ++ r' := h
  simp only [List.cons_append, List.cons.injEq, true_and] at h1
  have e1 := im4_of ⟨m1, m2⟩ ⟨m1', m2'⟩ h1
  simp only [Ins.mk.injEq]
  refine ⟨?_, ?_, ?_, ?_, ?_, ?_, ?_, ?_, ?_⟩ <;> first | trivial | omega

theorem inj_32 (i i' : Ins) (hk : OkP i .j) (hk' : OkP i' .j) (hw : i.wf) (hw' : i'.wf) (ho : i.op = 32) (ho' : i'.op = 32) (r r' : List Int) (h : encL i ++ r = encL i' ++ r') : i = i' := by
  clear hw hw'
  obtain ⟨op, d, s, t, b, x, sc, di, im⟩ := i
  obtain ⟨op', d', s', t', b', x', sc', di', im'⟩ := i'
  dsimp only at ho ho'
  subst ho
  subst ho'
  obtain ⟨d0, s0, t0, ⟨b0, x0, c0, i0⟩, m1, m2⟩ := hk
  obtain ⟨d0', s0', t0', ⟨b0', x0', c0', i0'⟩, m1', m2'⟩ := hk'
  dsimp only at *
  have h1 : 15 :: 130 :: ltl im 4 ++ r = 15 :: 130 :: ltl im' 4 ++ r' := h
  simp only [List.cons_append, List.cons.injEq, true_and] at h1
  have e1 := im4_of ⟨m1, m2⟩ ⟨m1', m2'⟩ h1
  simp only [Ins.mk.injEq]
  refine ⟨?_, ?_, ?_, ?_, ?_, ?_, ?_, ?_, ?_⟩ <;> first | trivial | omega

theorem inj_33 (i i' : Ins) (hk : OkP i .r) (hk' : OkP i' .r) (hw : i.wf) (hw' : i'.wf) (ho : i.op = 33) (ho' : i'.op = 33) (r r' : List Int) (h : encL i ++ r = encL i' ++ r') : i = i' := by
  clear hw hw'
  obtain ⟨op, d, s, t, b, x, sc, di, im⟩ := i
  obtain ⟨op', d', s', t', b', x', sc', di', im'⟩ := i'
  dsimp only at ho ho'
  subst ho
  subst ho'
  obtain ⟨d0, s0, t0, ⟨b0, x0, c0, i0⟩, m0⟩ := hk
  obtain ⟨d0', s0', t0', ⟨b0', x0', c0', i0'⟩, m0'⟩ := hk'
  dsimp only at *
  simp only [Ins.mk.injEq]
  refine ⟨?_, ?_, ?_, ?_, ?_, ?_, ?_, ?_, ?_⟩ <;> first | trivial | omega

/-- THE STAGE'S THEOREM, plainly: no instruction's bytes begin another one's -/
theorem enc_inj (i i' : Ins) (h : okI i = true) (h' : okI i' = true) (hw : i.wf) (hw' : i'.wf) (r r' : List Int) (e : encL i ++ r = encL i' ++ r') : i = i' := by
  have ho : i.op = i'.op := by rw [← op_enc i h r, e, op_enc i' h' r']
  have hk := okI_iff h
  have hk' := okI_iff h'
  rcases op_cases i.op with q | q | q | q | q | q | q | q | q | q | q | q | q | q | q | q | q | q | q | q | q | q | q | q | q | q | q | q | q | q | q | q | q | q
  · have q' := ho.symm.trans q; rw [q] at hk; rw [q'] at hk'; exact inj_1 i i' hk hk' hw hw' q q' r r' e
  · have q' := ho.symm.trans q; rw [q] at hk; rw [q'] at hk'; exact inj_2 i i' hk hk' hw hw' q q' r r' e
  · have q' := ho.symm.trans q; rw [q] at hk; rw [q'] at hk'; exact inj_3 i i' hk hk' hw hw' q q' r r' e
  · have q' := ho.symm.trans q; rw [q] at hk; rw [q'] at hk'; exact inj_4 i i' hk hk' hw hw' q q' r r' e
  · have q' := ho.symm.trans q; rw [q] at hk; rw [q'] at hk'; exact inj_5 i i' hk hk' hw hw' q q' r r' e
  · have q' := ho.symm.trans q; rw [q] at hk; rw [q'] at hk'; exact inj_6 i i' hk hk' hw hw' q q' r r' e
  · have q' := ho.symm.trans q; rw [q] at hk; rw [q'] at hk'; exact inj_7 i i' hk hk' hw hw' q q' r r' e
  · have q' := ho.symm.trans q; rw [q] at hk; rw [q'] at hk'; exact inj_8 i i' hk hk' hw hw' q q' r r' e
  · have q' := ho.symm.trans q; rw [q] at hk; rw [q'] at hk'; exact inj_9 i i' hk hk' hw hw' q q' r r' e
  · have q' := ho.symm.trans q; rw [q] at hk; rw [q'] at hk'; exact inj_10 i i' hk hk' hw hw' q q' r r' e
  · have q' := ho.symm.trans q; rw [q] at hk; rw [q'] at hk'; exact inj_11 i i' hk hk' hw hw' q q' r r' e
  · have q' := ho.symm.trans q; rw [q] at hk; rw [q'] at hk'; exact inj_12 i i' hk hk' hw hw' q q' r r' e
  · have q' := ho.symm.trans q; rw [q] at hk; rw [q'] at hk'; exact inj_13 i i' hk hk' hw hw' q q' r r' e
  · have q' := ho.symm.trans q; rw [q] at hk; rw [q'] at hk'; exact inj_14 i i' hk hk' hw hw' q q' r r' e
  · have q' := ho.symm.trans q; rw [q] at hk; rw [q'] at hk'; exact inj_15 i i' hk hk' hw hw' q q' r r' e
  · have q' := ho.symm.trans q; rw [q] at hk; rw [q'] at hk'; exact inj_16 i i' hk hk' hw hw' q q' r r' e
  · have q' := ho.symm.trans q; rw [q] at hk; rw [q'] at hk'; exact inj_17 i i' hk hk' hw hw' q q' r r' e
  · have q' := ho.symm.trans q; rw [q] at hk; rw [q'] at hk'; exact inj_18 i i' hk hk' hw hw' q q' r r' e
  · have q' := ho.symm.trans q; rw [q] at hk; rw [q'] at hk'; exact inj_19 i i' hk hk' hw hw' q q' r r' e
  · have q' := ho.symm.trans q; rw [q] at hk; rw [q'] at hk'; exact inj_20 i i' hk hk' hw hw' q q' r r' e
  · have q' := ho.symm.trans q; rw [q] at hk; rw [q'] at hk'; exact inj_21 i i' hk hk' hw hw' q q' r r' e
  · have q' := ho.symm.trans q; rw [q] at hk; rw [q'] at hk'; exact inj_22 i i' hk hk' hw hw' q q' r r' e
  · have q' := ho.symm.trans q; rw [q] at hk; rw [q'] at hk'; exact inj_23 i i' hk hk' hw hw' q q' r r' e
  · have q' := ho.symm.trans q; rw [q] at hk; rw [q'] at hk'; exact inj_24 i i' hk hk' hw hw' q q' r r' e
  · have q' := ho.symm.trans q; rw [q] at hk; rw [q'] at hk'; exact inj_25 i i' hk hk' hw hw' q q' r r' e
  · have q' := ho.symm.trans q; rw [q] at hk; rw [q'] at hk'; exact inj_26 i i' hk hk' hw hw' q q' r r' e
  · have q' := ho.symm.trans q; rw [q] at hk; rw [q'] at hk'; exact inj_27 i i' hk hk' hw hw' q q' r r' e
  · have q' := ho.symm.trans q; rw [q] at hk; rw [q'] at hk'; exact inj_28 i i' hk hk' hw hw' q q' r r' e
  · have q' := ho.symm.trans q; rw [q] at hk; rw [q'] at hk'; exact inj_29 i i' hk hk' hw hw' q q' r r' e
  · have q' := ho.symm.trans q; rw [q] at hk; rw [q'] at hk'; exact inj_30 i i' hk hk' hw hw' q q' r r' e
  · have q' := ho.symm.trans q; rw [q] at hk; rw [q'] at hk'; exact inj_31 i i' hk hk' hw hw' q q' r r' e
  · have q' := ho.symm.trans q; rw [q] at hk; rw [q'] at hk'; exact inj_32 i i' hk hk' hw hw' q q' r r' e
  · have q' := ho.symm.trans q; rw [q] at hk; rw [q'] at hk'; exact inj_33 i i' hk hk' hw hw' q q' r r' e
  · exfalso
    have e2 : formOf i.op = .no := by
      unfold formOf
      rw [if_neg (by omega), if_neg (by omega), if_neg (by omega), if_neg (by omega), if_neg (by omega), if_neg (by omega), if_neg (by omega), if_neg (by omega), if_neg (by omega), if_neg (by omega), if_neg (by omega)]
    rw [e2] at hk
    exact hk


end Is
end Go.Proofs.YtblmagcekfbgdaaGreatDoor
