/- Plain: rows of operations without a loop go alike in two programs, wherever they stand; a loop, and its rounds written out. -/
import Derived.Test.YtfemoipbphianaaDoorMF
import Derived.Test.YtfemoipbphianaaDoorM7
namespace Go.Proofs.YtfemoipbphianaaDoor
open Go Go.RowKit
namespace Lb
open Wd Nt Gr
set_option linter.unusedVariables false
set_option linter.unusedSimpArgs false
/-- alike, but for where they stand and which operations were seen -/
structure Al (s t : St) : Prop where
  rg : s.rg = t.rg
  rows : s.rows = t.rows
  ats : s.seen.map (·.2) = t.seen.map (·.2)
theorem stp_al {ops ops' : List Op} {ends ends' : List Int} {o : Op} {s t : St} (h : ops[s.at_]? = some o) (h' : ops'[t.at_]? = some o) (h16 : o.k ≠ 16) (h17 : o.k ≠ 17) (ha : Al s t) :
    (stp ops ends s = none ∧ stp ops' ends' t = none) ∨ ∃ s' t', stp ops ends s = some s' ∧ stp ops' ends' t = some t' ∧ Al s' t' ∧ s'.at_ = s.at_ + 1 ∧ t'.at_ = t.at_ + 1 := by
  obtain ⟨a, rg, rows, seen⟩ := s
  obtain ⟨b, rg', rows', seen'⟩ := t
  obtain ⟨e1, e2, e3⟩ := ha
  dsimp only at e1 e2 e3 h h'
  subst e1 e2
  have o1 : opAt ops a = o := by unfold opAt; rw [h]; rfl
  have o2 : opAt ops' b = o := by unfold opAt; rw [h']; rfl
  unfold stp
  dsimp only
  rw [o1, o2, if_neg h16, if_neg h17, if_neg h16, if_neg h17]
  by_cases hm : mm o.k = true
  · rw [if_pos hm, if_pos hm]
    by_cases hq : ((rowAt rows o.bf).length : Int) ≤ (o.im + hld rg o.a) % 18446744073709551616
    · rw [if_pos hq, if_pos hq]
      exact .inl ⟨rfl, rfl⟩
    · rw [if_neg hq, if_neg hq]
      by_cases h15 : o.k = 15
      · rw [if_pos h15, if_pos h15]
        exact .inr ⟨_, _, rfl, rfl, ⟨rfl, rfl, by simp [e3]⟩, rfl, rfl⟩
      · rw [if_neg h15, if_neg h15]
        exact .inr ⟨_, _, rfl, rfl, ⟨rfl, rfl, by simp [e3]⟩, rfl, rfl⟩
  · rw [if_neg hm, if_neg hm]
    exact .inr ⟨_, _, rfl, rfl, ⟨rfl, rfl, by simp [e3]⟩, rfl, rfl⟩
/-- what two runs come to over a row -/
def LineA (ops ops' : List Op) (ends ends' : List Int) (a b : Nat) (L : List Op) (s t : St) : Prop :=
  (∃ n s' t', (∀ K, runF ops ends (K + n) s = some (false, s')) ∧ (∀ K, runF ops' ends' (K + n) t = some (false, t')) ∧ Al s' t') ∨
  (∃ n s' t', (∀ K, runF ops ends (K + n) s = runF ops ends K s') ∧ (∀ K, runF ops' ends' (K + n) t = runF ops' ends' K t') ∧ Al s' t' ∧ s'.at_ = a + L.length ∧ t'.at_ = b + L.length ∧ ∀ r, (∀ o ∈ L, Off r o) → s'.rg r = s.rg r)
theorem line_al {ops ops' : List Op} {ends ends' : List Int} : ∀ (L : List Op) (a b : Nat) (s t : St), (∀ o ∈ L, o.k ≠ 16 ∧ o.k ≠ 17) → (∀ i o, L[i]? = some o → ops[a + i]? = some o ∧ ops'[b + i]? = some o) → s.at_ = a → t.at_ = b → Al s t → LineA ops ops' ends ends' a b L s t
  | [], a, b, s, t, _, _, hs, ht, ha => .inr ⟨0, s, t, fun _ => rfl, fun _ => rfl, ha, hs, ht, fun _ _ => rfl⟩
  | o :: L, a, b, s, t, hk, hL, hs, ht, ha => by
    have h0 := hL 0 o rfl
    rw [Nat.add_zero, Nat.add_zero, ← hs, ← ht] at h0
    have hk0 := hk o (by simp)
    rcases stp_al (ends := ends) (ends' := ends') h0.1 h0.2 hk0.1 hk0.2 ha with ⟨e1, e2⟩ | ⟨s', t', e1, e2, ha', ea, eb⟩
    · exact .inl ⟨1, s, t, fun K => runF_flt h0.1 e1 K, fun K => runF_flt h0.2 e2 K, ha⟩
    · have hst := stp_plain h0.1 hk0.1 hk0.2 e1
      rcases line_al L (a + 1) (b + 1) s' t' (fun x hx => hk x (by simp [hx])) (fun i x hx => by
        have := hL (i + 1) x (by rw [List.getElem?_cons_succ]; exact hx)
        rw [show a + 1 + i = a + (i + 1) by omega, show b + 1 + i = b + (i + 1) by omega]
        exact this) (by omega) (by omega) ha' with ⟨n, s2, t2, k1, k2, k3⟩ | ⟨n, s2, t2, k1, k2, k3, k4, k5, k6⟩
      · exact .inl ⟨n + 1, s2, t2, fun K => by rw [← Nat.add_assoc, runF_step h0.1 e1, k1], fun K => by rw [← Nat.add_assoc, runF_step h0.2 e2, k2], k3⟩
      · refine .inr ⟨n + 1, s2, t2, fun K => by rw [← Nat.add_assoc, runF_step h0.1 e1, k1], fun K => by rw [← Nat.add_assoc, runF_step h0.2 e2, k2], k3, by rw [k4, List.length_cons]; omega, by rw [k5, List.length_cons]; omega, fun r hr => ?_⟩
        rw [k6 r (fun x hx => hr x (by simp [hx])), hst.2.2 r (hr o (by simp))]
/-- a loop over L, T times, its number in register r -/
structure LoopAt (ops : List Op) (ends : List Int) (l : Nat) (L : List Op) (r : Nat) (T : Nat) : Prop where
  lo : ∃ o, ops[l]? = some o ∧ o.k = 16 ∧ o.d = (r : Int) ∧ o.im = (T : Int)
  body : ∀ i o, L[i]? = some o → ops[l + 1 + i]? = some o
  en : ∃ o, ops[l + 1 + L.length]? = some o ∧ o.k = 17
  ends : enAt ends (l + 1 + L.length) = (l : Int)
  len : ops.length = l + 2 + L.length
/-- its rounds written out -/
structure OutAt (ops : List Op) (b : Nat) (L : List Op) (r : Nat) (T : Nat) : Prop where
  cst : ∀ i, i < T → ∃ o, ops[b + i * (1 + L.length)]? = some o ∧ o.k = 1 ∧ o.d = (r : Int) ∧ o.e = -1 ∧ o.im = (i : Int)
  body : ∀ i, i < T → ∀ j o, L[j]? = some o → ops[b + i * (1 + L.length) + 1 + j]? = some o
  len : ops.length = b + T * (1 + L.length)
theorem turn_at {ops : List Op} {ends : List Int} {s : St} {o : Op} (h : ops[s.at_]? = some o) (h16 : o.k = 16) : stp ops ends s = some (turnS ops s.at_ 0 s) := by
  have o1 : opAt ops s.at_ = o := by unfold opAt; rw [h]; rfl
  unfold stp
  dsimp only
  rw [o1, if_pos h16]
theorem const_at {ops : List Op} {ends : List Int} {s : St} {o : Op} (h : ops[s.at_]? = some o) (h1 : o.k = 1) (he : o.e = -1) : stp ops ends s = some ⟨s.at_ + 1, put s.rg o.d o.im, s.rows, s.seen ++ [((s.at_ : Int), -1)]⟩ := by
  have o1 : opAt ops s.at_ = o := by unfold opAt; rw [h]; rfl
  unfold stp
  dsimp only
  rw [o1, if_neg (by omega), if_neg (by omega), if_neg (by rw [h1]; decide), he, put_none]
  have : resD o.k o.im (hld s.rg o.a) (hld s.rg o.b) (hld s.rg o.c) = o.im := by unfold resD; rw [if_pos h1]
  rw [this]
/-- from a round's body on -/
theorem rounds_al {ops ops' : List Op} {ends ends' : List Int} {l b r T : Nat} {L : List Op} (hT : T ≤ 1000) (hA : LoopAt ops ends l L r T) (hB : OutAt ops' b L r T) (hk : ∀ o ∈ L, o.k ≠ 16 ∧ o.k ≠ 17) (hoff : ∀ o ∈ L, Off r o) :
    ∀ (m i : Nat) (s t : St), i + m + 1 = T → s.at_ = l + 1 → t.at_ = b + i * (1 + L.length) + 1 → s.rg r = (i : Int) → Al s t →
      ∃ N N' f s' t', runF ops ends N s = some (f, s') ∧ runF ops' ends' N' t = some (f, t') ∧ Al s' t' := by
  intro m
  induction m with
  | zero =>
    intro i s t hm hs ht hr ha
    rcases line_al (ends := ends) (ends' := ends') L (l + 1) (b + i * (1 + L.length) + 1) s t hk (fun j o ho => ⟨hA.body j o ho, hB.body i (by omega) j o ho⟩) hs ht ha with ⟨n, s2, t2, k1, k2, k3⟩ | ⟨n, s2, t2, k1, k2, k3, k4, k5, k6⟩
    · exact ⟨0 + n, 0 + n, false, s2, t2, k1 0, k2 0, k3⟩
    · obtain ⟨eo, heo, hek⟩ := hA.en
      obtain ⟨lo, hlo, hlk, hld_, hli⟩ := hA.lo
      have hrg : s2.rg r = (i : Int) := by rw [k6 r hoff, hr]
      have oe : opAt ops (l + 1 + L.length) = eo := by unfold opAt; rw [heo]; rfl
      have ol : opAt ops l = lo := by unfold opAt; rw [hlo]; rfl
      have hstp : stp ops ends s2 = some { s2 with at_ := s2.at_ + 1 } := by
        unfold stp
        dsimp only
        rw [k4, oe, if_neg (by omega), if_pos hek, hA.ends, Int.toNat_natCast, ol, hld_, Int.toNat_natCast, hrg, hli, if_neg (by omega)]
      have e1 : ∀ K, runF ops ends (K + 1) s2 = runF ops ends K { s2 with at_ := s2.at_ + 1 } := fun K => runF_step (by rw [k4]; exact heo) hstp K
      have e2 : runF ops ends 1 { s2 with at_ := s2.at_ + 1 } = some (true, { s2 with at_ := s2.at_ + 1 }) := by
        unfold runF
        rw [if_neg (by show ¬ s2.at_ + 1 < ops.length; rw [k4, hA.len]; omega)]
      have e3 : runF ops' ends' 1 t2 = some (true, t2) := by
        unfold runF
        have : (i + 1) * (1 + L.length) = i * (1 + L.length) + (1 + L.length) := by rw [Nat.add_mul, Nat.one_mul]
        rw [if_neg (by rw [k5, hB.len, ← hm, Nat.add_zero, this]; omega)]
      exact ⟨1 + 1 + n, 1 + n, true, { s2 with at_ := s2.at_ + 1 }, t2, by rw [k1, e1, e2], by rw [k2, e3], ⟨k3.rg, k3.rows, k3.ats⟩⟩
  | succ m ih =>
    intro i s t hm hs ht hr ha
    rcases line_al (ends := ends) (ends' := ends') L (l + 1) (b + i * (1 + L.length) + 1) s t hk (fun j o ho => ⟨hA.body j o ho, hB.body i (by omega) j o ho⟩) hs ht ha with ⟨n, s2, t2, k1, k2, k3⟩ | ⟨n, s2, t2, k1, k2, k3, k4, k5, k6⟩
    · exact ⟨0 + n, 0 + n, false, s2, t2, k1 0, k2 0, k3⟩
    · obtain ⟨eo, heo, hek⟩ := hA.en
      obtain ⟨lo, hlo, hlk, hld_, hli⟩ := hA.lo
      obtain ⟨co, hco, hck, hcd, hce, hci⟩ := hB.cst (i + 1) (by omega)
      have hrg : s2.rg r = (i : Int) := by rw [k6 r hoff, hr]
      have oe : opAt ops (l + 1 + L.length) = eo := by unfold opAt; rw [heo]; rfl
      have ol : opAt ops l = lo := by unfold opAt; rw [hlo]; rfl
      have hmod : ((i : Int) + 1) % 18446744073709551616 = (i : Int) + 1 := Int.emod_eq_of_lt (by omega) (by omega)
      have hstp : stp ops ends s2 = some (turnS ops l ((i : Int) + 1) s2) := by
        unfold stp
        dsimp only
        rw [k4, oe, if_neg (by omega), if_pos hek, hA.ends, Int.toNat_natCast, ol, hld_, Int.toNat_natCast, hrg, hmod, hli, if_pos (by omega)]
      have ht2 : t2.at_ = b + (i + 1) * (1 + L.length) := by rw [k5, Nat.add_mul, Nat.one_mul]; omega
      have hcst := const_at (ends := ends') (by rw [ht2]; exact hco) hck hce
      have e1 : ∀ K, runF ops ends (K + 1) s2 = runF ops ends K (turnS ops l ((i : Int) + 1) s2) := fun K => runF_step (by rw [k4]; exact heo) hstp K
      have e2 : ∀ K, runF ops' ends' (K + 1) t2 = runF ops' ends' K ⟨t2.at_ + 1, put t2.rg co.d co.im, t2.rows, t2.seen ++ [((t2.at_ : Int), -1)]⟩ := fun K => runF_step (by rw [ht2]; exact hco) hcst K
      obtain ⟨N, N', f, s3, t3, f1, f2, f3⟩ := ih (i + 1) (turnS ops l ((i : Int) + 1) s2) ⟨t2.at_ + 1, put t2.rg co.d co.im, t2.rows, t2.seen ++ [((t2.at_ : Int), -1)]⟩ (by omega) rfl (by show t2.at_ + 1 = _; rw [ht2]) (by
        show put s2.rg (opAt ops l).d ((i : Int) + 1) r = _
        rw [ol, hld_]
        unfold put
        rw [if_pos ⟨by omega, by rw [Int.toNat_natCast]⟩]
        omega) ⟨by
        show put s2.rg (opAt ops l).d ((i : Int) + 1) = put t2.rg co.d co.im
        rw [ol, hld_, hcd, hci, k3.rg]
        congr 1, k3.rows, by
        show List.map (fun x : Ev => x.2) (s2.seen ++ [((l : Int), -1)]) = List.map (fun x : Ev => x.2) (t2.seen ++ [((t2.at_ : Int), -1)])
        rw [List.map_append, List.map_append, k3.ats]
        rfl⟩
      exact ⟨N + 1 + n, N' + 1 + n, f, s3, t3, by rw [k1, e1, f1], by rw [k2, e2, f2], f3⟩
/-- a loop, and its rounds written out: they end alike -/
theorem loop_al {ops ops' : List Op} {ends ends' : List Int} {l b r T : Nat} {L : List Op} (h0 : 0 < T) (hT : T ≤ 1000) (hA : LoopAt ops ends l L r T) (hB : OutAt ops' b L r T) (hk : ∀ o ∈ L, o.k ≠ 16 ∧ o.k ≠ 17) (hoff : ∀ o ∈ L, Off r o) {s t : St} (hs : s.at_ = l) (ht : t.at_ = b) (ha : Al s t) :
    ∃ N N' f s' t', runF ops ends N s = some (f, s') ∧ runF ops' ends' N' t = some (f, t') ∧ Al s' t' := by
  obtain ⟨lo, hlo, hlk, hld_, hli⟩ := hA.lo
  obtain ⟨co, hco, hck, hcd, hce, hci⟩ := hB.cst 0 h0
  rw [Nat.zero_mul, Nat.add_zero] at hco
  have ol : opAt ops l = lo := by unfold opAt; rw [hlo]; rfl
  have hstp := turn_at (ends := ends) (by rw [hs]; exact hlo) hlk
  have hcst := const_at (ends := ends') (by rw [ht]; exact hco) hck hce
  obtain ⟨N, N', f, s3, t3, f1, f2, f3⟩ := rounds_al (ends' := ends') hT hA hB hk hoff (T - 1) 0 (turnS ops s.at_ 0 s) ⟨t.at_ + 1, put t.rg co.d co.im, t.rows, t.seen ++ [((t.at_ : Int), -1)]⟩ (by omega) (by show s.at_ + 1 = _; rw [hs]) (by show t.at_ + 1 = _; rw [ht, Nat.zero_mul, Nat.add_zero]) (by
    show put s.rg (opAt ops s.at_).d 0 r = _
    rw [hs, ol, hld_]
    unfold put
    rw [if_pos ⟨by omega, by rw [Int.toNat_natCast]⟩]
    rfl) ⟨by
    show put s.rg (opAt ops s.at_).d 0 = put t.rg co.d co.im
    rw [hs, ol, hld_, hcd, hci, ha.rg]
    rfl, ha.rows, by
    show List.map (fun x : Ev => x.2) (s.seen ++ [((s.at_ : Int), -1)]) = List.map (fun x : Ev => x.2) (t.seen ++ [((t.at_ : Int), -1)])
    rw [List.map_append, List.map_append, ha.ats]
    rfl⟩
  exact ⟨N + 1, N' + 1, f, s3, t3, by rw [runF_step (by rw [hs]; exact hlo) hstp, f1], by rw [runF_step (by rw [ht]; exact hco) hcst, f2], f3⟩
end Lb
end Go.Proofs.YtfemoipbphianaaDoor
