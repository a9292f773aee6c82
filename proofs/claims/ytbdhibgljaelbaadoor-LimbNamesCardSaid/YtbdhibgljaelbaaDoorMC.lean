/- Plain: a program that may be is made of blocks; its runs end, and how many events they have. -/
import Derived.Test.YtbdhibgljaelbaaDoorMB
namespace Go.Proofs.YtbdhibgljaelbaaDoor
open Go Go.RowKit
namespace Lb
open Wd Nt Gr
set_option linter.unusedVariables false
set_option linter.unusedSimpArgs false
/-- operation o does not turn register r -/
def Off (r : Nat) (o : Op) : Prop := (o.d = -1 ∨ o.d.toNat ≠ r) ∧ (o.e = -1 ∨ o.e.toNat ≠ r)
/-- no operation from a up to b turns register r (ends aside) -/
def Fr (ops : List Op) (r a b : Nat) : Prop := ∀ i o, a ≤ i → i < b → ops[i]? = some o → o.k ≠ 17 → Off r o
theorem put_off {rg : Nat → Int} {d : Int} {r : Nat} {v : Int} (h : d = -1 ∨ d.toNat ≠ r) : Lb.put rg d v r = rg r := by
  unfold Lb.put
  rw [if_neg]
  rintro ⟨h1, h2⟩
  rcases h with h | h
  · exact h1 h
  · exact h h2.symm
inductive Blk (ops : List Op) (ends : List Int) : Nat → Nat → Nat → Prop
  | nil (a : Nat) : Blk ops ends a a 0
  | op {a b n : Nat} {o : Op} : Blk ops ends a b n → ops[b]? = some o → o.k ≠ 16 → o.k ≠ 17 → Blk ops ends a (b + 1) (n + 1)
  | loop {a l e n m : Nat} {lo eo : Op} : Blk ops ends a l n → ops[l]? = some lo → lo.k = 16 → 0 ≤ lo.d → 1 ≤ lo.im → lo.im ≤ 1048576 → Blk ops ends (l + 1) e m → Fr ops lo.d.toNat (l + 1) e → ops[e]? = some eo → eo.k = 17 → enAt ends e = (l : Int) → Blk ops ends a (e + 1) (n + lo.im.toNat * (1 + m))
/-- what a block does, from state s on -/
def Does (ops : List Op) (ends : List Int) (a b n : Nat) (s : St) : Prop :=
  ∃ c, (∃ s', s'.seen.length < s.seen.length + n ∧ ∀ K, runF ops ends (K + c + 1) s = some (false, s')) ∨
    (∃ s', s'.at_ = b ∧ s'.seen.length = s.seen.length + n ∧ (∀ K, runF ops ends (K + c) s = runF ops ends K s') ∧ ∀ r, Fr ops r a b → s'.rg r = s.rg r)
theorem runF_step {ops : List Op} {ends : List Int} {s s' : St} {o : Op} (h : ops[s.at_]? = some o) (hs : stp ops ends s = some s') (K : Nat) : runF ops ends (K + 1) s = runF ops ends K s' := by
  obtain ⟨k, rg, rows, seen⟩ := s
  exact runF_lt h hs
theorem runF_flt {ops : List Op} {ends : List Int} {s : St} {o : Op} (h : ops[s.at_]? = some o) (hs : stp ops ends s = none) (K : Nat) : runF ops ends (K + 1) s = some (false, s) := by
  obtain ⟨k, rg, rows, seen⟩ := s
  exact runF_lt h hs
/-- a plain operation's step -/
theorem stp_plain {ops : List Op} {ends : List Int} {s s' : St} {o : Op} (h : ops[s.at_]? = some o) (h16 : o.k ≠ 16) (h17 : o.k ≠ 17) (hs : stp ops ends s = some s') : s'.at_ = s.at_ + 1 ∧ s'.seen.length = s.seen.length + 1 ∧ ∀ r, Off r o → s'.rg r = s.rg r := by
  unfold stp at hs
  dsimp only at hs
  rw [opAt_of h, if_neg h16, if_neg h17] at hs
  split at hs
  · split at hs
    · cases hs
    · split at hs
      · cases hs
        exact ⟨rfl, by simp, fun r _ => rfl⟩
      · cases hs
        exact ⟨rfl, by simp, fun r hr => put_off hr.1⟩
  · cases hs
    refine ⟨rfl, by simp, fun r hr => ?_⟩
    show Lb.put (Lb.put _ _ _) _ _ r = _
    rw [put_off hr.2, put_off hr.1]
theorem Fr.left {ops : List Op} {r a b c : Nat} (h : Fr ops r a c) (hb : b ≤ c) : Fr ops r a b := fun i o h1 h2 => h i o h1 (by omega)
theorem Fr.right {ops : List Op} {r a b c : Nat} (h : Fr ops r a c) (hb : a ≤ b) : Fr ops r b c := fun i o h1 h2 => h i o (by omega) h2
theorem Blk.le {ops : List Op} {ends : List Int} {a b n : Nat} (h : Blk ops ends a b n) : a ≤ b := by
  induction h with
  | nil a => exact Nat.le_refl _
  | op _ _ _ _ ih => omega
  | loop _ _ _ _ _ _ _ _ _ _ _ ih1 ih2 => omega
theorem Does.then_ {ops : List Op} {ends : List Int} {a b n b2 n2 : Nat} {s : St} (h : Does ops ends a b n s) (h2 : ∀ s', s'.at_ = b → Does ops ends b b2 n2 s') (hab : a ≤ b) (hb : b ≤ b2) : Does ops ends a b2 (n + n2) s := by
  obtain ⟨c, h | h⟩ := h
  · obtain ⟨s', h1, h3⟩ := h
    exact ⟨c, .inl ⟨s', by omega, h3⟩⟩
  · obtain ⟨s', h1, h3, h4, h5⟩ := h
    obtain ⟨c2, h6 | h6⟩ := h2 s' h1
    · obtain ⟨s2, h7, h8⟩ := h6
      refine ⟨c2 + c, .inl ⟨s2, by omega, fun K => ?_⟩⟩
      rw [show K + (c2 + c) + 1 = (K + c2 + 1) + c by omega, h4]
      exact h8 K
    · obtain ⟨s2, h7, h8, h9, h10⟩ := h6
      refine ⟨c2 + c, .inr ⟨s2, h7, by omega, fun K => ?_, fun r hr => ?_⟩⟩
      · rw [show K + (c2 + c) = (K + c2) + c by omega, h4, h9]
      · rw [h10 r (hr.right hab), h5 r (hr.left hb)]
theorem Does.one {ops : List Op} {ends : List Int} {b : Nat} {o : Op} {s : St} (hb : s.at_ = b) (h : ops[b]? = some o) (h16 : o.k ≠ 16) (h17 : o.k ≠ 17) : Does ops ends b (b + 1) 1 s := by
  subst hb
  cases hs : stp ops ends s with
  | none => exact ⟨0, .inl ⟨s, by omega, fun K => runF_flt h hs K⟩⟩
  | some s' =>
    obtain ⟨h1, h2, h3⟩ := stp_plain h h16 h17 hs
    exact ⟨1, .inr ⟨s', h1, h2, fun K => runF_step h hs K, fun r hr => h3 r (hr _ _ (Nat.le_refl _) (by omega) h h17)⟩⟩
/-- the rounds of a loop from number j on, ahead of its body -/
theorem Does.rounds {ops : List Op} {ends : List Int} {l e m : Nat} {lo eo : Op} (hl : ops[l]? = some lo) (h0 : 0 ≤ lo.d) (hi : lo.im ≤ 1048576) (hle : l + 1 ≤ e)
    (body : ∀ s, s.at_ = l + 1 → Does ops ends (l + 1) e m s) (hfr : Fr ops lo.d.toNat (l + 1) e) (he : ops[e]? = some eo) (hk : eo.k = 17) (hen : enAt ends e = (l : Int)) (hk16 : lo.k = 16) :
    ∀ (q j : Nat) (s : St), (j : Int) + q + 1 = lo.im → s.at_ = l + 1 → s.rg lo.d.toNat = (j : Int) →
      ∃ c, (∃ s', s'.seen.length < s.seen.length + (m + q * (1 + m)) ∧ ∀ K, runF ops ends (K + c + 1) s = some (false, s')) ∨
        (∃ s', s'.at_ = e + 1 ∧ s'.seen.length = s.seen.length + (m + q * (1 + m)) ∧ (∀ K, runF ops ends (K + c) s = runF ops ends K s') ∧ ∀ r, Fr ops r l (e + 1) → s'.rg r = s.rg r) := by
  intro q
  induction q with
  | zero =>
    intro j s hj hs hr
    obtain ⟨c, h | h⟩ := body s hs
    · obtain ⟨s', h1, h3⟩ := h
      exact ⟨c, .inl ⟨s', by omega, h3⟩⟩
    · obtain ⟨s', h1, h3, h4, h5⟩ := h
      have hrg : s'.rg lo.d.toNat = (j : Int) := by rw [h5 _ hfr, hr]
      have hst : stp ops ends s' = some ⟨s'.at_ + 1, s'.rg, s'.rows, s'.seen⟩ := by
        obtain ⟨k, rg, rows, seen⟩ := s'
        dsimp only at h1 hrg
        subst h1
        exact stp_17f he hk hen hl (by rw [hrg]; omega)
      refine ⟨1 + c, .inr ⟨⟨s'.at_ + 1, s'.rg, s'.rows, s'.seen⟩, by show s'.at_ + 1 = e + 1; rw [h1], by show s'.seen.length = _; omega, fun K => ?_, fun r hr2 => ?_⟩⟩
      · rw [show K + (1 + c) = (K + 1) + c by omega, h4, runF_step (by rw [h1]; exact he) hst]
      · exact h5 r ((hr2.right (by omega)).left (by omega))
  | succ q ih =>
    intro j s hj hs hr
    obtain ⟨c, h | h⟩ := body s hs
    · obtain ⟨s', h1, h3⟩ := h
      refine ⟨c, .inl ⟨s', ?_, h3⟩⟩
      rw [Nat.add_mul]
      omega
    · obtain ⟨s', h1, h3, h4, h5⟩ := h
      have hrg : s'.rg lo.d.toNat = (j : Int) := by rw [h5 _ hfr, hr]
      have hst : stp ops ends s' = some ⟨l + 1, Lb.put s'.rg lo.d (((j + 1 : Nat) : Int)), s'.rows, s'.seen ++ [((l : Int), -1)]⟩ := by
        obtain ⟨k, rg, rows, seen⟩ := s'
        dsimp only at h1 hrg
        subst h1
        have h := stp_17t (rg := rg) (rows := rows) (seen := seen) he hk hen hl (by rw [hrg]; omega)
        rw [hrg, show ((j : Int) + 1) % 18446744073709551616 = ((j + 1 : Nat) : Int) by omega] at h
        exact h
      obtain ⟨dn, hdn⟩ : ∃ dn : Nat, lo.d = (dn : Int) := ⟨lo.d.toNat, by omega⟩
      obtain ⟨c2, h6⟩ := ih (j + 1) ⟨l + 1, Lb.put s'.rg lo.d (((j + 1 : Nat) : Int)), s'.rows, s'.seen ++ [((l : Int), -1)]⟩ (by push_cast; omega) rfl (by
        show Lb.put s'.rg lo.d _ lo.d.toNat = _
        rw [hdn, put_nat, Int.toNat_natCast]
        simp)
      have hsn : (⟨l + 1, Lb.put s'.rg lo.d (((j + 1 : Nat) : Int)), s'.rows, s'.seen ++ [((l : Int), -1)]⟩ : St).seen.length = s'.seen.length + 1 := by simp
      rw [hsn] at h6
      have hmul : (q + 1) * (1 + m) = q * (1 + m) + (1 + m) := by rw [Nat.add_mul, Nat.one_mul]
      rcases h6 with h6 | h6
      · obtain ⟨s2, h7, h8⟩ := h6
        refine ⟨c2 + 1 + c, .inl ⟨s2, by omega, fun K => ?_⟩⟩
        rw [show K + (c2 + 1 + c) + 1 = ((K + c2 + 1) + 1) + c by omega, h4, runF_step (by rw [h1]; exact he) hst]
        exact h8 K
      · obtain ⟨s2, h7, h8, h9, h10⟩ := h6
        refine ⟨c2 + 1 + c, .inr ⟨s2, h7, by omega, fun K => ?_, fun r hr2 => ?_⟩⟩
        · rw [show K + (c2 + 1 + c) = ((K + c2) + 1) + c by omega, h4, runF_step (by rw [h1]; exact he) hst, h9]
        · rw [h10 r hr2]
          show Lb.put s'.rg lo.d _ r = _
          rw [put_off (hr2 l lo (Nat.le_refl _) (by omega) hl (by omega)).1]
          exact h5 r ((hr2.right (by omega)).left (by omega))
theorem Blk.does {ops : List Op} {ends : List Int} {a b n : Nat} (h : Blk ops ends a b n) : ∀ s, s.at_ = a → Does ops ends a b n s := by
  induction h with
  | nil a => exact fun s hs => ⟨0, .inr ⟨s, hs, rfl, fun K => rfl, fun r _ => rfl⟩⟩
  | op h1 ho h16 h17 ih =>
    intro s hs
    exact Does.then_ (ih s hs) (fun s' hs' => Does.one hs' ho h16 h17) h1.le (by omega)
  | @loop a l e n m lo eo h1 hl h16 h0 hi1 hi h2 hfr he hk hen ih1 ih2 =>
    intro s hs
    have hle := h2.le
    refine Does.then_ (ih1 s hs) (fun s' hs' => ?_) h1.le (by omega)
    have hst : stp ops ends s' = some ⟨l + 1, Lb.put s'.rg lo.d 0, s'.rows, s'.seen ++ [((l : Int), -1)]⟩ := by
      obtain ⟨k, rg, rows, seen⟩ := s'
      dsimp only at hs'
      subst hs'
      exact stp_16 hl h16
    obtain ⟨dn, hdn⟩ : ∃ dn : Nat, lo.d = (dn : Int) := ⟨lo.d.toNat, by omega⟩
    obtain ⟨q, hq⟩ : ∃ q : Nat, lo.im = (q : Int) + 1 := ⟨(lo.im - 1).toNat, by omega⟩
    obtain ⟨c, h6⟩ := Does.rounds hl h0 hi hle ih2 hfr he hk hen h16 q 0 ⟨l + 1, Lb.put s'.rg lo.d 0, s'.rows, s'.seen ++ [((l : Int), -1)]⟩ (by omega) rfl (by
      show Lb.put s'.rg lo.d _ lo.d.toNat = _
      rw [hdn, put_nat, Int.toNat_natCast]
      simp)
    have hsn : (⟨l + 1, Lb.put s'.rg lo.d 0, s'.rows, s'.seen ++ [((l : Int), -1)]⟩ : St).seen.length = s'.seen.length + 1 := by simp
    rw [hsn] at h6
    have hmul : lo.im.toNat * (1 + m) = q * (1 + m) + (1 + m) := by rw [hq, show ((q : Int) + 1).toNat = q + 1 by omega, Nat.add_mul, Nat.one_mul]
    rcases h6 with h6 | h6
    · obtain ⟨s2, h7, h8⟩ := h6
      refine ⟨c + 1, .inl ⟨s2, by omega, fun K => ?_⟩⟩
      rw [show K + (c + 1) + 1 = (K + c + 1) + 1 by omega, runF_step (by rw [hs']; exact hl) hst]
      exact h8 K
    · obtain ⟨s2, h7, h8, h9, h10⟩ := h6
      refine ⟨c + 1, .inr ⟨s2, h7, by omega, fun K => ?_, fun r hr2 => ?_⟩⟩
      · rw [show K + (c + 1) = (K + c) + 1 by omega, runF_step (by rw [hs']; exact hl) hst, h9]
      · rw [h10 r hr2]
        show Lb.put s'.rg lo.d _ r = _
        exact put_off (hr2 l lo (Nat.le_refl _) (by omega) hl (by omega)).1
end Lb
end Go.Proofs.YtbdhibgljaelbaaDoor
