/- Plain reckoning of what is secret in a limb program: the least set of registers that is closed; which operations may be. -/
import Derived.Test.YtbdhibgljaelbaaDoorMF
import Derived.Laws.BitsAllLaws
namespace Go.Proofs.YtbdhibgljaelbaaDoor
open Go Go.RowKit
namespace Lb
open Wd Nt Gr
set_option linter.unusedVariables false
set_option linter.unusedSimpArgs false
def hasN (s : Nat) (r : Int) : Bool := decide (0 ≤ r) && s.testBit r.toNat
def withN (s : Nat) (r : Int) : Nat := if r < 0 then s else s ||| 2 ^ r.toNat
def feedsN (bufs : List Bf) (s : Nat) (o : Op) : Bool := (decide (o.k = 14) && (bfAt bufs o.bf).sec) || (hasN s o.a || hasN s o.b || hasN s o.c)
def grow1 (bufs : List Bf) (s : Nat) (o : Op) : Nat := if feedsN bufs s o then withN (withN s o.d) o.e else s
def grown (bufs : List Bf) (ops : List Op) (s : Nat) : Nat := ops.foldl (grow1 bufs) s
def itr (bufs : List Bf) (ops : List Op) : Nat → Nat
  | 0 => 0
  | n + 1 => grown bufs ops (itr bufs ops n)
/-- what is secret: nothing more comes, and all comes out of nothing -/
structure IsSec (bufs : List Bf) (ops : List Op) (s : Nat) : Prop where
  fix : grown bufs ops s = s
  of_ : ∃ n, s = itr bufs ops n
theorem itr_stay {bufs : List Bf} {ops : List Op} {n : Nat} (h : grown bufs ops (itr bufs ops n) = itr bufs ops n) : ∀ d, itr bufs ops (n + d) = itr bufs ops n
  | 0 => rfl
  | d + 1 => by
    show grown bufs ops (itr bufs ops (n + d)) = _
    rw [itr_stay h d, h]
theorem IsSec.uniq {bufs : List Bf} {ops : List Op} {s s' : Nat} (h : IsSec bufs ops s) (h' : IsSec bufs ops s') : s = s' := by
  obtain ⟨f, n, rfl⟩ := h
  obtain ⟨f', m, rfl⟩ := h'
  rcases Nat.le_total n m with hl | hl
  · obtain ⟨d, rfl⟩ := Nat.exists_eq_add_of_le hl
    exact (itr_stay f d).symm
  · obtain ⟨d, rfl⟩ := Nat.exists_eq_add_of_le hl
    exact itr_stay f' d
theorem has_with (s : Nat) (r q : Int) (hq : 0 ≤ q) : hasN (withN s r) q = (hasN s q || decide (q = r)) := by
  unfold hasN withN
  rw [decide_eq_true hq, Bool.true_and, Bool.true_and]
  split
  · rw [decide_eq_false (by omega), Bool.or_false]
  · rw [Nat.testBit_or, Nat.testBit_two_pow]
    congr 1
    rw [decide_eq_decide]
    omega
theorem has_neg {s : Nat} {q : Int} (h : hasN s q = true) : 0 ≤ q := by
  unfold hasN at h
  rw [Bool.and_eq_true] at h
  exact of_decide_eq_true h.1
theorem with_le (s : Nat) (r : Int) : s ≤ withN s r := by
  unfold withN
  split
  · exact Nat.le_refl _
  · exact Nat.left_le_or
theorem grow1_le (bufs : List Bf) (s : Nat) (o : Op) : s ≤ grow1 bufs s o := by
  unfold grow1
  split
  · exact Nat.le_trans (with_le s o.d) (with_le _ o.e)
  · exact Nat.le_refl _
theorem grown_le (bufs : List Bf) : ∀ (ops : List Op) (s : Nat), s ≤ grown bufs ops s
  | [], s => Nat.le_refl _
  | o :: ops, s => Nat.le_trans (grow1_le bufs s o) (grown_le bufs ops (grow1 bufs s o))
theorem with_lt {s : Nat} {r : Int} (h : s < 2 ^ 64) (hr : r < 64) : withN s r < 2 ^ 64 := by
  unfold withN
  split
  · exact h
  · exact Nat.or_lt_two_pow h (Nat.pow_lt_pow_right (by omega) (by omega))
theorem grow1_lt {bufs : List Bf} {s : Nat} {o : Op} (h : s < 2 ^ 64) (hd : o.d < 64) (he : o.e < 64) : grow1 bufs s o < 2 ^ 64 := by
  unfold grow1
  split
  · exact with_lt (with_lt h hd) he
  · exact h
theorem grown_lt {bufs : List Bf} : ∀ {ops : List Op} {s : Nat}, s < 2 ^ 64 → (∀ o ∈ ops, o.d < 64 ∧ o.e < 64) → grown bufs ops s < 2 ^ 64
  | [], s, h, _ => h
  | o :: ops, s, h, hr => grown_lt (ops := ops) (grow1_lt h (hr o (by simp)).1 (hr o (by simp)).2) (fun x hx => hr x (by simp [hx]))
theorem itr_lt {bufs : List Bf} {ops : List Op} (hr : ∀ o ∈ ops, o.d < 64 ∧ o.e < 64) : ∀ n, itr bufs ops n < 2 ^ 64
  | 0 => by show (0 : Nat) < 2 ^ 64; decide
  | n + 1 => grown_lt (itr_lt hr n) hr
/-- a set of registers: one more is in it, if something in it feeds it -/
def InS (S : Int → Prop) (r : Int) : Prop := 0 ≤ r ∧ S r
def Closed (bufs : List Bf) (ops : List Op) (S : Int → Prop) : Prop := ∀ o ∈ ops, ((o.k = 14 ∧ (bfAt bufs o.bf).sec = true) ∨ InS S o.a ∨ InS S o.b ∨ InS S o.c) → (0 ≤ o.d → S o.d) ∧ (0 ≤ o.e → S o.e)
theorem feeds_iff (bufs : List Bf) (s : Nat) (o : Op) : feedsN bufs s o = true ↔ ((o.k = 14 ∧ (bfAt bufs o.bf).sec = true) ∨ hasN s o.a = true ∨ hasN s o.b = true ∨ hasN s o.c = true) := by
  unfold feedsN
  simp only [Bool.or_eq_true, Bool.and_eq_true, decide_eq_true_eq, or_assoc]
theorem grow1_sub {bufs : List Bf} {ops : List Op} {S : Int → Prop} (hc : Closed bufs ops S) {s : Nat} (hs : ∀ q, hasN s q = true → S q) {o : Op} (ho : o ∈ ops) : ∀ q, hasN (grow1 bufs s o) q = true → S q := by
  intro q hq
  have q0 := has_neg hq
  unfold grow1 at hq
  split at hq
  · rename_i hf
    rw [feeds_iff] at hf
    have hh := hc o ho (by
      rcases hf with h | h | h | h
      · exact .inl h
      · exact .inr (.inl ⟨has_neg h, hs _ h⟩)
      · exact .inr (.inr (.inl ⟨has_neg h, hs _ h⟩))
      · exact .inr (.inr (.inr ⟨has_neg h, hs _ h⟩)))
    rw [has_with _ _ _ q0, has_with _ _ _ q0, Bool.or_eq_true, Bool.or_eq_true, decide_eq_true_eq, decide_eq_true_eq] at hq
    rcases hq with (h | h) | h
    · exact hs q h
    · rw [h]; exact hh.1 (by omega)
    · rw [h]; exact hh.2 (by omega)
  · exact hs q hq
theorem fold_sub {bufs : List Bf} {ops : List Op} {S : Int → Prop} (hc : Closed bufs ops S) : ∀ (l : List Op), (∀ o ∈ l, o ∈ ops) → ∀ s : Nat, (∀ q, hasN s q = true → S q) → ∀ q, hasN (l.foldl (grow1 bufs) s) q = true → S q
  | [], _, s, hs => hs
  | o :: l, hl, s, hs => fold_sub hc l (fun x hx => hl x (by simp [hx])) _ (grow1_sub hc hs (hl o (by simp)))
theorem has_zero (q : Int) : hasN 0 q = false := by
  unfold hasN
  rw [Nat.zero_testBit, Bool.and_false]
theorem itr_sub {bufs : List Bf} {ops : List Op} {S : Int → Prop} (hc : Closed bufs ops S) : ∀ n q, hasN (itr bufs ops n) q = true → S q
  | 0, q, h => by rw [show itr bufs ops 0 = 0 from rfl, has_zero] at h; cases h
  | n + 1, q, h => fold_sub hc ops (fun _ h => h) _ (itr_sub hc n) q h
/-- it is the least closed one -/
theorem IsSec.least {bufs : List Bf} {ops : List Op} {s : Nat} (h : IsSec bufs ops s) {S : Int → Prop} (hc : Closed bufs ops S) {q : Int} (hq : hasN s q = true) : S q := by
  obtain ⟨_, n, rfl⟩ := h
  exact itr_sub hc n q hq
theorem fold_fix {bufs : List Bf} : ∀ (l : List Op) (s : Nat), l.foldl (grow1 bufs) s = s → ∀ o ∈ l, grow1 bufs s o = s
  | [], _, _, o, ho => by cases ho
  | x :: l, s, h, o, ho => by
    have h1 := grow1_le bufs s x
    have h2 := grown_le bufs l (grow1 bufs s x)
    have h3 : grown bufs l (grow1 bufs s x) = s := h
    have h4 : grow1 bufs s x = s := by omega
    rcases List.mem_cons.1 ho with rfl | ho
    · exact h4
    · refine fold_fix l s ?_ o ho
      have h5 : l.foldl (grow1 bufs) (grow1 bufs s x) = s := h
      rw [h4] at h5
      exact h5
theorem IsSec.closed {bufs : List Bf} {ops : List Op} {s : Nat} (h : IsSec bufs ops s) : Closed bufs ops (fun q => hasN s q = true) := by
  intro o ho hf
  have h1 := fold_fix ops s h.fix o ho
  have h2 : feedsN bufs s o = true := by
    rw [feeds_iff]
    rcases hf with h | h | h | h
    · exact .inl h
    · exact .inr (.inl h.2)
    · exact .inr (.inr (.inl h.2))
    · exact .inr (.inr (.inr h.2))
  unfold grow1 at h1
  rw [if_pos h2] at h1
  refine ⟨fun h0 => ?_, fun h0 => ?_⟩
  · have := has_with (withN s o.d) o.e o.d h0
    rw [h1, has_with _ _ _ h0, decide_eq_true rfl, Bool.or_true, Bool.true_or] at this
    exact this
  · have := has_with (withN s o.d) o.e o.e h0
    rw [h1, decide_eq_true rfl, Bool.or_true] at this
    exact this
/-! ### which operations may be -/
def allowsN (bufs : List Bf) (s : Nat) (o : Op) : Bool :=
  (!(decide (o.k = 14) || decide (o.k = 15)) || !hasN s o.a) && (decide (o.k ≠ 15) || (bfAt bufs o.bf).sec || !hasN s o.b) && (decide (o.k ≠ 16) || !hasN s o.d)
def chkL (bufs : List Bf) (s : Nat) : List Op → Nat → Nat × Int
  | [], n => (n, 0)
  | o :: ops, n => if allowsN bufs s o then chkL bufs s ops (n + 1) else (n, 12)
def secC (p : Pg) (s : Nat) : Nat × Int := if (chkP p).2 ≠ 0 then chkP p else chkL p.bf s p.op 0
def secL (p : Pg) (s : Nat) : List Bool := if (chkP p).2 ≠ 0 then [] else (List.range p.rg.toNat).map fun i => s.testBit i
theorem chkL_ok {bufs : List Bf} {s : Nat} : ∀ {ops : List Op} {n : Nat}, (chkL bufs s ops n).2 = 0 ↔ ∀ o ∈ ops, allowsN bufs s o = true
  | [], n => by simp [chkL]
  | o :: ops, n => by
    unfold chkL
    split
    · rename_i h
      rw [chkL_ok (ops := ops)]
      simp [h]
    · rename_i h
      simp [h]
theorem chkL_end {bufs : List Bf} {s : Nat} : ∀ {ops : List Op} {n : Nat}, (∀ o ∈ ops, allowsN bufs s o = true) → chkL bufs s ops n = (n + ops.length, 0)
  | [], n, _ => rfl
  | o :: ops, n, h => by
    unfold chkL
    rw [if_pos (h o (by simp)), chkL_end (fun x hx => h x (by simp [hx]))]
    rw [List.length_cons]
    congr 1
    omega
def agreeP (bufs : List Bf) (a b : List (List Int)) : Bool := (List.range bufs.length).all fun j => (bfAt bufs (j : Int)).sec || decide (rowAt a (j : Int) = rowAt b (j : Int))
def pubP (p : Pg) (a b : List (List Int)) : Bool := decide ((chkP p).2 = 0) && fitP p.bf a && fitP p.bf b && agreeP p.bf a b
end Lb
end Go.Proofs.YtbdhibgljaelbaaDoor
