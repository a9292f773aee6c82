/- The contracts of the naturals in one shape: an answer, and nothing below the heap's end has turned. For walks that are written by program. -/
import Derived.Test.YtdklchejnpaenaaDoorLives02
namespace Go.Proofs.YtdklchejnpaenaaDoor
open Go Go.RowKit
namespace Nt
open Wd Sti
set_option linter.unusedVariables false

/-- a natural at hand -/
def At (w : World) (A : Option Addr) (n : Nat) (xs : List Int) : Prop := Rd w w.heap.size A n xs
theorem At.step {w w' : World} {A : Option Addr} {n : Nat} {xs : List Int} (h : Hid (At w A n xs)) (hb : Below w.heap.size w w') : Hid (At w' A n xs) := Lib.hid ((Rd.below h.out hb).more hb.size)
theorem bel_step {w0 w w' : World} (h : Hid (Below w0.heap.size w0 w)) (hb : Below w.heap.size w w') : Hid (Below w0.heap.size w0 w') := Lib.hid (below_trans h.out hb)
theorem Is.uniq' {xs ys : List Int} {n m : Int} (h : Is xs n) (g : Is ys m) (e : n = m) : xs = ys := by subst e; exact h.uniq g
/-- a new natural -/
def New (w w' : World) (v : Value) (N : Int) (K : Nat) : Prop := ∃ A n c zs, v = .slice A n c ∧ Hid (Is zs N) ∧ Hid (At w' A n zs) ∧ n ≤ c ∧ c ≤ K ∧ Below w.heap.size w w'
theorem New.of {w w' : World} {v : Value} {N : Int} {m K : Nat} (h : Ans w w' v N m) (hK : m ≤ K) : New w w' v N K := by
  obtain ⟨A, n, c, zs, h1, h2, h3, h4, h5, h6⟩ := h
  exact ⟨A, n, c, zs, h1, Lib.hid h2, Lib.hid h3, h4, Nat.le_trans h5 hK, h6⟩
section
variable {w : World} {A B : Option Addr} {na ca nb cb : Nat} {xs ys : List Int}
theorem add_u (K : Nat) (ha : Hid (At w A na xs)) (hb : Hid (At w B nb ys)) (la : na ≤ 1048576) (lb : nb ≤ 1048576) (hK : max na nb + 1 ≤ K) :
    Calls Tryd.prog 18 #[.slice A na ca, .slice B nb cb] w fun e w' => ∃ v, e = .returned v ∧ New w w' v (V xs + V ys) K :=
  (add_n A B na ca nb cb xs ys w ha.out hb.out (by omega) (by omega)).mono fun e w' ⟨v, h, g⟩ => ⟨v, h, New.of g hK⟩
theorem mul_u (K : Nat) (ha : Hid (At w A na xs)) (hb : Hid (At w B nb ys)) (la : na ≤ 1048576) (lb : nb ≤ 1048576) (hA : na ≤ ca) (hB : nb ≤ cb) (hA' : ca ≤ 9223372036854775807) (hB' : cb ≤ 9223372036854775807) (hK : na + nb ≤ K) :
    Calls Tryd.prog 19 #[.slice A na ca, .slice B nb cb] w fun e w' => ∃ v, e = .returned v ∧ New w w' v (V xs * V ys) K :=
  (mul_n A B na ca nb cb xs ys w ha.out hb.out ⟨hA, by omega⟩ hA' ⟨hB, by omega⟩ hB').mono fun e w' ⟨v, h, g⟩ => ⟨v, h, New.of g hK⟩
theorem sub_u (K : Nat) (ha : Hid (At w A na xs)) (hb : Hid (At w B nb ys)) (la : na ≤ 1048576) (lb : nb ≤ 1048576) (hK : max na nb ≤ K) (h : V ys ≤ V xs) :
    Calls Tryd.prog 11 #[.slice A na ca, .slice B nb cb] w fun e w' => ∃ v, e = .returned (.tuple #[v, .int .i64 0]) ∧ New w w' v (V xs - V ys) K :=
  (sub_n A B na ca nb cb xs ys w ha.out hb.out (by omega) (by omega)).mono fun e w' hh => by obtain ⟨v, h, g⟩ := hh.1 h; exact ⟨v, h, New.of g hK⟩
theorem subE_u (ha : Hid (At w A na xs)) (hb : Hid (At w B nb ys)) (la : na ≤ 1048576) (lb : nb ≤ 1048576) (h : V xs < V ys) :
    Calls Tryd.prog 11 #[.slice A na ca, .slice B nb cb] w fun e w' => e = .returned (.tuple #[.slice none 0 0, .int .i64 2]) ∧ Below w.heap.size w w' :=
  (sub_n A B na ca nb cb xs ys w ha.out hb.out (by omega) (by omega)).mono fun e w' hh => hh.2 h
theorem trim_u (K : Nat) (ha : Hid (At w A na xs)) (la : na ≤ 1048576) (hA : na ≤ ca) (hA' : ca ≤ 9223372036854775807) (hK : na ≤ K) :
    Calls Tryd.prog 22 #[.slice A na ca] w fun e w' => ∃ v, e = .returned v ∧ New w w' v (V xs) K :=
  (trim_n A na ca w.heap.size xs w ha.out (Nat.le_refl _) ⟨hA, by omega⟩ hA').mono fun e w' ⟨v, h, g⟩ => ⟨v, h, New.of g hK⟩
theorem cmp_u (ha : Hid (At w A na xs)) (hb : Hid (At w B nb ys)) (la : na ≤ 1048576) (lb : nb ≤ 1048576) :
    Calls Tryd.prog 21 #[.slice A na ca, .slice B nb cb] w fun e w' => e = .returned (.int .i64 (cmpN (V xs) (V ys))) ∧ Below w.heap.size w w' :=
  compare_n A B na ca nb cb w.heap.size w.heap.size xs ys w ha.out (Nat.le_refl _) hb.out (Nat.le_refl _) (by omega) (by omega)
theorem same_u (ha : Hid (At w A na xs)) (hb : Hid (At w B nb ys)) (la : na ≤ 1048576) (lb : nb ≤ 1048576) (b : Bool) (h : decide (xs = ys) = b) :
    Calls Tryd.prog 20 #[.slice A na ca, .slice B nb cb] w fun e w' => e = .returned (.bool b) ∧ Below w.heap.size w w' := by
  rw [← h]
  exact (same_c A B na ca nb cb w.heap.size w.heap.size xs ys w ha.out hb.out (by omega) (by omega)).mono fun e w' ⟨h, q, g⟩ => ⟨h, by rw [g]; exact below_drewN (Below.refl _ _) q⟩
theorem nat_u (ha : Hid (At w A na xs)) (hb : Hid (At w B nb ys)) (la : na ≤ 1048576) (lb : nb ≤ 1048576) (b : Bool) (h : decide (V xs = V ys) = b) :
    Calls Tryd.prog 40 #[.slice A na ca, .slice B nb cb] w fun e w' => e = .returned (.bool b) ∧ Below w.heap.size w w' := by
  rw [← h]
  exact (natural_c A B na ca nb cb w.heap.size w.heap.size xs ys w ha.out hb.out (by omega) (by omega)).mono fun e w' ⟨h, g⟩ => ⟨h, by rw [g]; exact Below.refl _ _⟩
theorem trimd_u (ha : Hid (At w A na xs)) (la : na ≤ 1048576) (b : Bool) (h : decide (trim xs = xs) = b) :
    Calls Tryd.prog 39 #[.slice A na ca] w fun e w' => e = .returned (.bool b) ∧ Below w.heap.size w w' := by
  rw [← h]
  exact (trimd_c A na ca w.heap.size xs w ha.out (by omega)).mono fun e w' ⟨h, g⟩ => ⟨h, by rw [g]; exact Below.refl _ _⟩
theorem bits_u (ha : Hid (At w A na xs)) (la : na ≤ 1048576) (hA : na ≤ ca) (hA' : ca ≤ 9223372036854775807) :
    Calls Tryd.prog 23 #[.slice A na ca] w fun e w' => e = .returned (.int .i64 (nbits (trim xs))) ∧ Below w.heap.size w w' :=
  (bits_n A na ca w.heap.size xs w ha.out ⟨hA, by omega⟩ hA').mono fun e w' ⟨h, g⟩ => ⟨h, by rw [g]; exact Below.refl _ _⟩
theorem light_u (n c m d : Nat) (hn : n ≤ 9223372036854775807) (hm : m ≤ 9223372036854775807) (b : Bool) (h : (decide (n ≤ 12) && decide (m ≤ 12)) = b) :
    Calls Tryd.prog 26 #[.slice A n c, .slice B m d] w fun e w' => e = .returned (.bool b) ∧ Below w.heap.size w w' := by
  subst h
  by_cases h1 : n ≤ 12
  · by_cases h2 : m ≤ 12
    · rw [decide_eq_true h1, decide_eq_true h2]
      go_enter Tryd.func26, Tryd.ntmps26
      go_wp2_with fail
      go_ret
      exact ⟨ret_b (show decide ((m : Int) ≤ 12) = (true && true) by simp; omega), Below.refl _ _⟩
    · rw [decide_eq_true h1, decide_eq_false h2]
      have h2' : 12 < m := by omega
      clear h2
      go_enter Tryd.func26, Tryd.ntmps26
      go_wp2_with fail
      go_ret
      exact ⟨ret_b (show decide ((m : Int) ≤ 12) = (true && false) by simp; omega), Below.refl _ _⟩
  · rw [decide_eq_false h1, Bool.false_and]
    have h1' : 12 < n := by omega
    clear h1
    go_enter Tryd.func26, Tryd.ntmps26
    go_wp2_with fail
    go_ret
    exact ⟨rfl, Below.refl _ _⟩
end
end Nt
end Go.Proofs.YtdklchejnpaenaaDoor
