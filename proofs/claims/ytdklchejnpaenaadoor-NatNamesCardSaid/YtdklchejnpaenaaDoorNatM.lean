/- Plain arithmetic of naturals in limbs of 64 bits, over Int: value, trimming, limbs; no program in it. -/
import Derived.Test.YtdklchejnpaenaaDoorWordM
namespace Go.Proofs.YtdklchejnpaenaaDoor
open Go.RowKit
namespace Nt
open Wd
set_option linter.unusedVariables false

/-- the value of limbs, the least first -/
def V : List Int → Int
  | [] => 0
  | x :: xs => x + 18446744073709551616 * V xs
def Ws (xs : List Int) : Prop := ∀ x ∈ xs, W x
/-- 2^(64 k) -/
def P : Nat → Int
  | 0 => 1
  | k + 1 => 18446744073709551616 * P k
theorem P_pos (k : Nat) : 1 ≤ P k := by
  induction k with
  | zero => exact Int.le_refl _
  | succ k ih => unfold P; omega
theorem P_succ (k : Nat) : P (k + 1) = 18446744073709551616 * P k := rfl
theorem P_zero : P 0 = 1 := rfl
theorem P_add (a b : Nat) : P (a + b) = P a * P b := by
  induction a with
  | zero => simp [P]
  | succ k ih => rw [show k + 1 + b = (k + b) + 1 by omega, P_succ, P_succ, ih, Int.mul_assoc]
theorem W_zero : W 0 := by unfold W; omega
theorem Ws.nil : Ws [] := by intro x h; cases h
theorem Ws.tail {x : Int} {xs : List Int} (h : Ws (x :: xs)) : Ws xs := fun y hy => h y (List.mem_cons_of_mem _ hy)
theorem Ws.head {x : Int} {xs : List Int} (h : Ws (x :: xs)) : W x := h x (List.mem_cons_self ..)
theorem Ws.cons {x : Int} {xs : List Int} (hx : W x) (h : Ws xs) : Ws (x :: xs) := by
  intro y hy
  rcases List.mem_cons.1 hy with rfl | hy
  · exact hx
  · exact h y hy
theorem Ws.append {xs ys : List Int} (h : Ws xs) (g : Ws ys) : Ws (xs ++ ys) := by
  intro y hy
  rcases List.mem_append.1 hy with hy | hy
  · exact h y hy
  · exact g y hy
theorem Ws.take {xs : List Int} (h : Ws xs) (k : Nat) : Ws (xs.take k) := fun y hy => h y (List.mem_of_mem_take hy)
theorem Ws.drop {xs : List Int} (h : Ws xs) (k : Nat) : Ws (xs.drop k) := fun y hy => h y (List.mem_of_mem_drop hy)
theorem Ws.set {xs : List Int} (h : Ws xs) (k : Nat) {v : Int} (hv : W v) : Ws (xs.set k v) := by
  intro y hy
  rcases List.mem_or_eq_of_mem_set hy with hy | rfl
  · exact h y hy
  · exact hv
theorem Ws.zeros (k : Nat) : Ws (List.replicate k 0) := fun y hy => by rw [(List.mem_replicate.1 hy).2]; exact W_zero
/-- limb k, or nought -/
def at_ (xs : List Int) (k : Nat) : Int := xs[k]?.getD 0
theorem Ws.at_ {xs : List Int} (h : Ws xs) (k : Nat) : W (at_ xs k) := by
  unfold Nt.at_
  rcases Nat.lt_or_ge k xs.length with hk | hk
  · rw [List.getElem?_eq_getElem hk]; exact h _ (List.getElem_mem hk)
  · rw [List.getElem?_eq_none hk]; exact W_zero
theorem at_ge {xs : List Int} {k : Nat} (h : xs.length ≤ k) : at_ xs k = 0 := by unfold at_; rw [List.getElem?_eq_none h]; rfl
theorem at_lt {xs : List Int} {k : Nat} (h : k < xs.length) : xs[k]? = some (at_ xs k) := by unfold at_; rw [List.getElem?_eq_getElem h]; rfl
theorem at_cons_zero (x : Int) (xs : List Int) : at_ (x :: xs) 0 = x := rfl
theorem at_cons_succ (x : Int) (xs : List Int) (k : Nat) : at_ (x :: xs) (k + 1) = at_ xs k := rfl
/-- the lower and the upper limbs -/
def lo (xs : List Int) (k : Nat) : Int := V (xs.take k)
def hi (xs : List Int) (k : Nat) : Int := V (xs.drop k)
theorem V_nonneg {xs : List Int} (h : Ws xs) : 0 ≤ V xs := by
  induction xs with
  | nil => exact Int.le_refl _
  | cons x xs ih => have := ih h.tail; have := h.head; unfold W at this; unfold V; omega
theorem V_lt {xs : List Int} (h : Ws xs) : V xs < P xs.length := by
  induction xs with
  | nil => simp [V, P]
  | cons x xs ih =>
    have := ih h.tail
    have hx := h.head
    unfold W at hx
    simp only [V, List.length_cons, P_succ]
    omega
theorem lo_zero (xs : List Int) : lo xs 0 = 0 := by simp [lo, V]
theorem hi_zero (xs : List Int) : hi xs 0 = V xs := by simp [hi]
theorem lo_all {xs : List Int} {k : Nat} (h : xs.length ≤ k) : lo xs k = V xs := by unfold lo; rw [List.take_of_length_le h]
theorem hi_all {xs : List Int} {k : Nat} (h : xs.length ≤ k) : hi xs k = 0 := by unfold hi; rw [List.drop_of_length_le h]; rfl
theorem lo_succ (xs : List Int) (k : Nat) : lo xs (k + 1) = lo xs k + P k * at_ xs k := by
  induction xs generalizing k with
  | nil => simp [lo, V, at_]
  | cons x xs ih =>
    cases k with
    | zero => simp [lo, V, at_, P]
    | succ k =>
      have := ih k
      simp only [lo, List.take_succ_cons, V, at_cons_succ, P_succ] at this ⊢
      rw [this, Int.mul_add, Int.mul_assoc, Int.add_assoc]
theorem hi_succ (xs : List Int) (k : Nat) : hi xs k = at_ xs k + 18446744073709551616 * hi xs (k + 1) := by
  rcases Nat.lt_or_ge k xs.length with h | h
  · unfold hi
    rw [List.drop_eq_getElem_cons h]
    simp [V, at_, h]
  · rw [hi_all h, hi_all (by omega), at_ge h]; omega
theorem V_split (xs : List Int) (k : Nat) : V xs = lo xs k + P k * hi xs k := by
  induction k with
  | zero => rw [lo_zero, hi_zero, P_zero]; omega
  | succ k ih => rw [ih, lo_succ, hi_succ xs k, P_succ, Int.mul_add, Int.add_assoc, ← Int.mul_assoc, Int.mul_comm (P k) 18446744073709551616]
theorem lo_nonneg {xs : List Int} (h : Ws xs) (k : Nat) : 0 ≤ lo xs k := V_nonneg (h.take k)
theorem hi_nonneg {xs : List Int} (h : Ws xs) (k : Nat) : 0 ≤ hi xs k := V_nonneg (h.drop k)
theorem P_mono {a b : Nat} (h : a ≤ b) : P a ≤ P b := by
  obtain ⟨c, rfl⟩ := Nat.exists_eq_add_of_le h
  rw [P_add]
  have ha := P_pos a
  have hc := P_pos c
  have := Int.mul_le_mul_of_nonneg_left hc (show (0 : Int) ≤ P a by omega)
  omega
theorem lo_lt {xs : List Int} (h : Ws xs) (k : Nat) : lo xs k < P k := by
  have h1 := V_lt (h.take k)
  have h2 : P (xs.take k).length ≤ P k := P_mono (by rw [List.length_take]; omega)
  unfold lo; omega
theorem V_append (xs ys : List Int) : V (xs ++ ys) = V xs + P xs.length * V ys := by
  induction xs with
  | nil => simp [V, P]
  | cons x xs ih => simp only [List.cons_append, V, List.length_cons, P_succ, ih, Int.mul_add, Int.mul_assoc, Int.add_assoc]
theorem V_zeros (k : Nat) : V (List.replicate k 0) = 0 := by
  induction k with
  | zero => rfl
  | succ k ih => simp [List.replicate_succ, V, ih]
theorem V_at (xs : List Int) (h : Ws xs) (k : Nat) : at_ xs k = V xs / P k % 18446744073709551616 := by
  have hp := P_pos k
  have h1 := lo_nonneg h k
  have h2 := lo_lt h k
  have e : V xs / P k = hi xs k := by
    rw [V_split xs k, Int.add_mul_ediv_left _ _ (by omega), Int.ediv_eq_zero_of_lt h1 h2]; omega
  rw [e, hi_succ]
  have := h.at_ k
  unfold W at this
  omega
theorem hi_V {xs : List Int} (h : Ws xs) (k : Nat) : hi xs k = V xs / P k := by
  have hp := P_pos k
  rw [V_split xs k, Int.add_mul_ediv_left _ _ (by omega), Int.ediv_eq_zero_of_lt (lo_nonneg h k) (lo_lt h k)]; omega
theorem lo_V {xs : List Int} (h : Ws xs) (k : Nat) : lo xs k = V xs % P k := by
  have hp := P_pos k
  rw [V_split xs k, Int.add_mul_emod_self_left, Int.emod_eq_of_lt (lo_nonneg h k) (lo_lt h k)]

/-! ### set -/
theorem at_set (xs : List Int) (k j : Nat) (v : Int) (hk : k < xs.length) : at_ (xs.set k v) j = if j = k then v else at_ xs j := by
  unfold at_
  rw [List.getElem?_set]
  by_cases h : k = j
  · subst h; simp [hk]
  · rw [if_neg h, if_neg (fun e => h e.symm)]
theorem lo_set_ge (xs : List Int) (k j : Nat) (v : Int) (h : j ≤ k) : lo (xs.set k v) j = lo xs j := by
  unfold lo
  rw [List.take_set]
  rw [List.set_eq_of_length_le (by rw [List.length_take]; omega)]
theorem hi_set_lt (xs : List Int) (k j : Nat) (v : Int) (h : k < j) : hi (xs.set k v) j = hi xs j := by
  unfold hi
  rw [List.drop_set, if_pos h]
theorem V_set (xs : List Int) (k : Nat) (v : Int) (hk : k < xs.length) : V (xs.set k v) = V xs + P k * (v - at_ xs k) := by
  rw [V_split (xs.set k v) k, V_split xs k, lo_set_ge xs k k v (Nat.le_refl _), hi_succ (xs.set k v), hi_succ xs k, hi_set_lt xs k (k + 1) v (by omega), at_set xs k k v hk, if_pos rfl,
    Int.mul_add, Int.mul_add, Int.mul_sub]
  omega

/-! ### trimming -/
def trim : List Int → List Int
  | [] => []
  | x :: xs => if x = 0 ∧ trim xs = [] then [] else x :: trim xs
theorem V_trim (xs : List Int) : V (trim xs) = V xs := by
  induction xs with
  | nil => rfl
  | cons x xs ih =>
    unfold trim
    split
    · rename_i h
      rw [h.2] at ih
      simp only [V] at ih ⊢
      omega
    · simp only [V, ih]
theorem trim_take (xs : List Int) : trim xs = xs.take (trim xs).length := by
  induction xs with
  | nil => rfl
  | cons x xs ih =>
    unfold trim
    split
    · rfl
    · simp only [List.length_cons, List.take_succ_cons]; rw [← ih]
theorem trim_le (xs : List Int) : (trim xs).length ≤ xs.length := by
  have := congrArg List.length (trim_take xs)
  rw [List.length_take] at this
  omega
theorem Ws.trim {xs : List Int} (h : Ws xs) : Ws (trim xs) := by rw [trim_take]; exact h.take _
theorem trim_trim (xs : List Int) : trim (trim xs) = trim xs := by
  induction xs with
  | nil => rfl
  | cons x xs ih =>
    by_cases h : x = 0 ∧ trim xs = []
    · have : trim (x :: xs) = [] := by unfold trim; rw [if_pos h]
      rw [this]; rfl
    · have : trim (x :: xs) = x :: trim xs := by conv => lhs; unfold trim; rw [if_neg h]
      rw [this]
      conv => lhs; unfold trim
      rw [ih, if_neg h]
theorem trim_nil_V {xs : List Int} (h : Ws xs) (hv : V xs = 0) : trim xs = [] := by
  induction xs with
  | nil => rfl
  | cons x xs ih =>
    have hx := h.head
    have := V_nonneg h.tail
    unfold W at hx
    unfold V at hv
    unfold trim
    rw [if_pos ⟨by omega, ih h.tail (by omega)⟩]
/-- naturals of one value are the same, trimmed -/
theorem trim_of_V {xs ys : List Int} (h : Ws xs) (g : Ws ys) (e : V xs = V ys) : trim xs = trim ys := by
  induction xs generalizing ys with
  | nil => exact (trim_nil_V g (by rw [← e]; rfl)).symm
  | cons x xs ih =>
    cases ys with
    | nil => exact trim_nil_V h (by rw [e]; rfl)
    | cons y ys =>
      have hx := h.head
      have hy := g.head
      unfold W at hx hy
      simp only [V] at e
      obtain rfl : x = y := by omega
      have := ih h.tail g.tail (by omega)
      simp only [trim, this]
/-- a trimmed natural of that value -/
structure Is (zs : List Int) (n : Int) : Prop where
  ws : Ws zs
  tr : trim zs = zs
  v : V zs = n
theorem Is.of_trim {xs : List Int} (h : Ws xs) : Is (trim xs) (V xs) := ⟨h.trim, trim_trim _, V_trim _⟩
theorem Is.uniq {xs ys : List Int} {n : Int} (h : Is xs n) (g : Is ys n) : xs = ys := by
  rw [← h.tr, ← g.tr]; exact trim_of_V h.ws g.ws (by rw [h.v, g.v])
theorem Is.nonneg {zs : List Int} {n : Int} (h : Is zs n) : 0 ≤ n := by rw [← h.v]; exact V_nonneg h.ws
theorem Is.nil : Is [] 0 := ⟨Ws.nil, rfl, rfl⟩
/-- the last limb of a trimmed one is none that is 0 -/
theorem trim_last {xs : List Int} (h : trim xs = xs) (hn : xs ≠ []) : at_ xs (xs.length - 1) ≠ 0 := by
  induction xs with
  | nil => exact absurd rfl hn
  | cons x xs ih =>
    by_cases hx : xs = []
    · subst hx
      intro e
      simp only [at_, List.length_cons, List.length_nil] at e
      simp [trim] at h
      exact h (by simpa using e)
    · have ht : trim xs = xs := by
        unfold trim at h
        split at h
        · cases h
        · injection h
      have := ih ht hx
      have hl : xs.length ≠ 0 := fun e => hx (List.eq_nil_of_length_eq_zero e)
      rw [show (x :: xs).length - 1 = (xs.length - 1) + 1 by simp only [List.length_cons]; omega, at_cons_succ]
      exact this
theorem trim_of_last {xs : List Int} (h : xs = [] ∨ at_ xs (xs.length - 1) ≠ 0) : trim xs = xs := by
  induction xs with
  | nil => rfl
  | cons x xs ih =>
    rcases h with h | h
    · cases h
    · by_cases hx : xs = []
      · subst hx
        simp only [at_, List.length_cons, List.length_nil] at h
        simp only [trim]
        rw [if_neg (fun e => h (by simpa using e.1))]
      · have hl : xs.length ≠ 0 := fun e => hx (List.eq_nil_of_length_eq_zero e)
        rw [show (x :: xs).length - 1 = (xs.length - 1) + 1 by simp only [List.length_cons]; omega, at_cons_succ] at h
        have := ih (.inr h)
        unfold trim
        rw [this, if_neg (fun e => hx e.2)]
/-- cut where all that is above is nought, and the limb below is none: trimmed -/
theorem trim_cut {xs : List Int} {k : Nat} (hk : k ≤ xs.length) (ha : ∀ j, k ≤ j → at_ xs j = 0) (hl : k = 0 ∨ at_ xs (k - 1) ≠ 0) (h : Ws xs) : trim xs = xs.take k := by
  have hv : V xs = V (xs.take k) := by
    have e : ∀ m, V (xs.take k) = lo xs (k + m) := by
      intro m
      induction m with
      | zero => rfl
      | succ m ih => rw [ih, ← Nat.add_assoc, lo_succ, ha _ (by omega)]; omega
    rw [e (xs.length - k), lo_all (by omega)]
  rw [trim_of_V h (h.take k) hv]
  apply trim_of_last
  rcases hl with h0 | h0
  · left; rw [h0]; rfl
  · by_cases hk0 : k = 0
    · left; rw [hk0]; rfl
    · right
      rw [List.length_take, Nat.min_eq_left hk]
      unfold at_ at h0 ⊢
      rw [List.getElem?_take, if_pos (by omega)]
      exact h0
end Nt
end Go.Proofs.YtdklchejnpaenaaDoor
