/- Plain arithmetic of words of 64 bits, over Int: sums, rests, products, quotients, inverses; no program in it. | Plain arithmetic of naturals in limbs of 64 bits, over Int: value, trimming, limbs; no program in it. | Contracts of package word: what each function answers, as arithmetic. | A region that draws its order, inside a wide fence (a round of a range over a function, too): all but its tail only reads; one walk in the order of the text serves. | Slices of words that read as limbs; the smallest functions of package nat. | A law for a range over a function whose iterator reads what the caller's invariant says, round by round (so the body may write what is read later). | The iterator of pairs: what it hands to the rounds. | Blocks that the call itself made, known whole. | The statements' own Pick: n modulo m, from 0 on; 0 of m below 1. -/
import Derived.Test.YtaocplcmmpbjjaaDoorRows
import Derived.WalkKit
import Derived.ProofKit
import Derived.Lib.Hide
import Derived.StillTail
import Derived.StillTactics
import Derived.RangeFuncNested
import Derived.RangeFuncCalls
import Derived.OrdersIn
import Derived.OwnWalkIn
import Derived.Below
import Derived.Laws.OwnMore
import Derived.Deep.AppendLies
import Derived.Deep.Draws
import Derived.LoopTactic
import Derived.RangeFuncBound
import Derived.RangeFuncLeaves
import Derived.Shelf.Abstract
import Derived.Shelf.RegionOpen
import Derived.TacticsInMore
import Derived.LoopNIn
import Derived.LoopIn
import Derived.Laws.MakeOwn
import Derived.Laws.Rows
import Derived.RangeFuncBox
import Derived.OpenShut
namespace Go.Proofs.YtaocplcmmpbjjaaDoor
open Go.RowKit
namespace Wd
set_option linter.unusedVariables false
def b1 (c : Bool) : Int := if c then 1 else 0
def add (a b : Int) (c : Bool) : Int := (a + b + b1 c) % 18446744073709551616
def addO (a b : Int) (c : Bool) : Bool := decide (18446744073709551616 ≤ a + b + b1 c)
def sub (a b : Int) (c : Bool) : Int := (a - b - b1 c) % 18446744073709551616
def subO (a b : Int) (c : Bool) : Bool := decide (a - b - b1 c < 0)
def mulH (a b : Int) : Int := a * b / 18446744073709551616
def mulL (a b : Int) : Int := a * b % 18446744073709551616
def divQ (h l y : Int) : Int := (h * 18446744073709551616 + l) / y
def divR (h l y : Int) : Int := (h * 18446744073709551616 + l) % y

/-- a word -/
def W (a : Int) : Prop := 0 ≤ a ∧ a ≤ 18446744073709551615
theorem W_wf {a : Int} (h : (Lit.int .u64 a).wf = true) : W a := by
  simp [Lit.wf, IntKind.min, IntKind.max, IntKind.signed, IntKind.bits] at h; unfold W; omega
theorem W_mod (a : Int) : W (a % 18446744073709551616) := by unfold W; omega
theorem W_add (a b : Int) (c : Bool) : W (add a b c) := W_mod _
theorem W_sub (a b : Int) (c : Bool) : W (sub a b c) := W_mod _
theorem W_mulL (a b : Int) : W (mulL a b) := W_mod _
theorem mul_le {a b : Int} (ha : W a) (hb : W b) : 0 ≤ a * b ∧ a * b ≤ 340282366920938463426481119284349108225 := by
  obtain ⟨h0, h1⟩ := ha
  obtain ⟨g0, g1⟩ := hb
  refine ⟨Int.mul_nonneg h0 g0, ?_⟩
  have := Int.mul_le_mul h1 g1 g0 (by omega)
  omega
theorem W_mulH {a b : Int} (ha : W a) (hb : W b) : W (mulH a b) := by
  have := mul_le ha hb
  unfold W mulH; omega
theorem b1_t : b1 true = 1 := rfl
theorem b1_f : b1 false = 0 := rfl
theorem b1_01 (c : Bool) : 0 ≤ b1 c ∧ b1 c ≤ 1 := by cases c <;> simp [b1]
/-- sum and carry together are the sum -/
theorem add_eq {a b : Int} (ha : W a) (hb : W b) (c : Bool) : add a b c + 18446744073709551616 * b1 (addO a b c) = a + b + b1 c := by
  have := b1_01 c
  unfold W at ha hb
  unfold add addO
  generalize b1 c = d at *
  by_cases h : 18446744073709551616 ≤ a + b + d
  · simp only [h, decide_true, b1_t]; omega
  · simp only [h, decide_false, b1_f]; omega
theorem sub_eq {a b : Int} (ha : W a) (hb : W b) (c : Bool) : sub a b c - 18446744073709551616 * b1 (subO a b c) = a - b - b1 c := by
  have := b1_01 c
  unfold W at ha hb
  unfold sub subO
  generalize b1 c = d at *
  by_cases h : a - b - d < 0
  · simp only [h, decide_true, b1_t]; omega
  · simp only [h, decide_false, b1_f]; omega
/-- what was added is taken away again -/
theorem sub_add {a b : Int} (ha : W a) (hb : W b) (c : Bool) : sub (add a b c) b c = a ∧ subO (add a b c) b c = addO a b c := by
  have := b1_01 c
  unfold W at ha hb
  unfold sub subO add addO
  generalize b1 c = d at *
  refine ⟨by omega, ?_⟩
  rw [decide_eq_decide]; omega
theorem mul_eq (a b : Int) : mulH a b * 18446744073709551616 + mulL a b = a * b := by unfold mulH mulL; omega

/-! ### what the walks leave -/
theorem ret_ib {k : IntKind} {a a' : Int} {b b' : Bool} (h : a = a') (g : b = b') : Ending.returned (.tuple #[.int k a, .bool b]) = .returned (.tuple #[.int k a', .bool b']) := by rw [h, g]
theorem ret_ii {k : IntKind} {a a' b b' : Int} (h : a = a') (g : b = b') : Ending.returned (.tuple #[.int k a, .int k b]) = .returned (.tuple #[.int k a', .int k b']) := by rw [h, g]
theorem ret_i {k : IntKind} {a a' : Int} (h : a = a') : Ending.returned (.int k a) = .returned (.int k a') := by rw [h]
theorem ret_b {a a' : Bool} (h : a = a') : Ending.returned (.bool a) = .returned (.bool a') := by rw [h]

theorem and_low (a : Int) (h : 0 ≤ a) (h' : a ≤ 18446744073709551615) : bits .and .u64 a 4294967295 = a % 4294967296 := by
  obtain ⟨n, rfl⟩ := Int.eq_ofNat_of_zero_le h
  have e : (4294967295 : Int) = ((4294967295 : Nat) : Int) := rfl
  rw [e, u64_and_nat n 4294967295 (by omega) (by omega), Nat.and_two_pow_sub_one_eq_mod n 32]
  rfl
theorem and_one (a : Int) (h : 0 ≤ a) (h' : a ≤ 18446744073709551615) : bits .and .u64 a 1 = a % 2 := by
  obtain ⟨n, rfl⟩ := Int.eq_ofNat_of_zero_le h
  have e : (1 : Int) = ((1 : Nat) : Int) := rfl
  rw [e, u64_and_nat n 1 (by omega) (by omega), nat_mask1]
  rfl
/-- a number whose lower half is empty, or-ed with a half -/
theorem or_half (a b : Int) (h0 : 0 ≤ a) (h1 : a ≤ 18446744073709551615) (hm : a % 4294967296 = 0) (h2 : 0 ≤ b) (h3 : b < 4294967296) : bits .or .u64 a b = a + b := by
  obtain ⟨n, rfl⟩ := Int.eq_ofNat_of_zero_le h0
  obtain ⟨m, rfl⟩ := Int.eq_ofNat_of_zero_le h2
  rw [u64_or_nat n m (by omega) (by omega), nat_join 32 n m (by omega) (by omega)]
  rfl

/-! ### products of halves -/
theorem half_mul {x y : Int} (hx0 : 0 ≤ x) (hx : x < 4294967296) (hy0 : 0 ≤ y) (hy : y < 4294967296) : 0 ≤ x * y ∧ x * y ≤ 18446744065119617025 :=
  prod_bound x y hx0 (by omega) hy0 (by omega)
/-- the product of two words out of four products of halves -/
theorem mul_halves (x1 x0 y1 y0 : Int) (a0 : 0 ≤ x1) (a1 : x1 < 4294967296) (b0 : 0 ≤ x0) (b1 : x0 < 4294967296) (c0 : 0 ≤ y1) (c1 : y1 < 4294967296) (d0 : 0 ≤ y0) (d1 : y0 < 4294967296) :
    ((x1 * 4294967296 + x0) * (y1 * 4294967296 + y0)) / 18446744073709551616 =
      x1 * y1 + (x1 * y0 + x0 * y0 / 4294967296) / 4294967296 + (x0 * y1 + (x1 * y0 + x0 * y0 / 4294967296) % 4294967296) / 4294967296 ∧
    ((x1 * 4294967296 + x0) * (y1 * 4294967296 + y0)) % 18446744073709551616 =
      (x0 * y1 + (x1 * y0 + x0 * y0 / 4294967296) % 4294967296) % 4294967296 * 4294967296 + x0 * y0 % 4294967296 := by
  rw [split_mul]
  have p1 := half_mul a0 a1 c0 c1
  have p2 := half_mul a0 a1 d0 d1
  have p3 := half_mul b0 b1 c0 c1
  have p4 := half_mul b0 b1 d0 d1
  generalize x1 * y1 = p at *
  generalize x1 * y0 = q at *
  generalize x0 * y1 = r at *
  generalize x0 * y0 = s at *
  omega
end Wd
end Go.Proofs.YtaocplcmmpbjjaaDoor
namespace Go.Proofs.YtaocplcmmpbjjaaDoor
open Go.RowKit
namespace Nt
open Wd
set_option linter.unusedVariables false
/-- the value of limbs, the least first -/
def V : List Int → Int
  | [] => 0
  | x :: xs => x + 18446744073709551616 * V xs
def Ws (xs : List Int) : Prop := ∀ x ∈ xs, W x
/-- 2^(64 k) -/
def P : Nat → Int
  | 0 => 1
  | k + 1 => 18446744073709551616 * P k
theorem P_pos (k : Nat) : 1 ≤ P k := by
  induction k with
  | zero => exact Int.le_refl _
  | succ k ih => unfold P; omega
theorem P_succ (k : Nat) : P (k + 1) = 18446744073709551616 * P k := rfl
theorem P_zero : P 0 = 1 := rfl
theorem P_add (a b : Nat) : P (a + b) = P a * P b := by
  induction a with
  | zero => simp [P]
  | succ k ih => rw [show k + 1 + b = (k + b) + 1 by omega, P_succ, P_succ, ih, Int.mul_assoc]
theorem W_zero : W 0 := by unfold W; omega
theorem Ws.nil : Ws [] := by intro x h; cases h
theorem Ws.tail {x : Int} {xs : List Int} (h : Ws (x :: xs)) : Ws xs := fun y hy => h y (List.mem_cons_of_mem _ hy)
theorem Ws.head {x : Int} {xs : List Int} (h : Ws (x :: xs)) : W x := h x (List.mem_cons_self ..)
theorem Ws.cons {x : Int} {xs : List Int} (hx : W x) (h : Ws xs) : Ws (x :: xs) := by
  intro y hy
  rcases List.mem_cons.1 hy with rfl | hy
  · exact hx
  · exact h y hy
theorem Ws.append {xs ys : List Int} (h : Ws xs) (g : Ws ys) : Ws (xs ++ ys) := by
  intro y hy
  rcases List.mem_append.1 hy with hy | hy
  · exact h y hy
  · exact g y hy
theorem Ws.take {xs : List Int} (h : Ws xs) (k : Nat) : Ws (xs.take k) := fun y hy => h y (List.mem_of_mem_take hy)
theorem Ws.drop {xs : List Int} (h : Ws xs) (k : Nat) : Ws (xs.drop k) := fun y hy => h y (List.mem_of_mem_drop hy)
theorem Ws.set {xs : List Int} (h : Ws xs) (k : Nat) {v : Int} (hv : W v) : Ws (xs.set k v) := by
  intro y hy
  rcases List.mem_or_eq_of_mem_set hy with hy | rfl
  · exact h y hy
  · exact hv
theorem Ws.zeros (k : Nat) : Ws (List.replicate k 0) := fun y hy => by rw [(List.mem_replicate.1 hy).2]; exact W_zero
/-- limb k, or nought -/
def at_ (xs : List Int) (k : Nat) : Int := xs[k]?.getD 0
theorem Ws.at_ {xs : List Int} (h : Ws xs) (k : Nat) : W (at_ xs k) := by
  unfold Nt.at_
  rcases Nat.lt_or_ge k xs.length with hk | hk
  · rw [List.getElem?_eq_getElem hk]; exact h _ (List.getElem_mem hk)
  · rw [List.getElem?_eq_none hk]; exact W_zero
theorem at_ge {xs : List Int} {k : Nat} (h : xs.length ≤ k) : at_ xs k = 0 := by unfold at_; rw [List.getElem?_eq_none h]; rfl
theorem at_lt {xs : List Int} {k : Nat} (h : k < xs.length) : xs[k]? = some (at_ xs k) := by unfold at_; rw [List.getElem?_eq_getElem h]; rfl
theorem at_cons_zero (x : Int) (xs : List Int) : at_ (x :: xs) 0 = x := rfl
theorem at_cons_succ (x : Int) (xs : List Int) (k : Nat) : at_ (x :: xs) (k + 1) = at_ xs k := rfl
/-- the lower and the upper limbs -/
def lo (xs : List Int) (k : Nat) : Int := V (xs.take k)
def hi (xs : List Int) (k : Nat) : Int := V (xs.drop k)
theorem V_nonneg {xs : List Int} (h : Ws xs) : 0 ≤ V xs := by
  induction xs with
  | nil => exact Int.le_refl _
  | cons x xs ih => have := ih h.tail; have := h.head; unfold W at this; unfold V; omega
theorem V_lt {xs : List Int} (h : Ws xs) : V xs < P xs.length := by
  induction xs with
  | nil => simp [V, P]
  | cons x xs ih =>
    have := ih h.tail
    have hx := h.head
    unfold W at hx
    simp only [V, List.length_cons, P_succ]
    omega
theorem lo_zero (xs : List Int) : lo xs 0 = 0 := by simp [lo, V]
theorem hi_zero (xs : List Int) : hi xs 0 = V xs := by simp [hi]
theorem lo_all {xs : List Int} {k : Nat} (h : xs.length ≤ k) : lo xs k = V xs := by unfold lo; rw [List.take_of_length_le h]
theorem hi_all {xs : List Int} {k : Nat} (h : xs.length ≤ k) : hi xs k = 0 := by unfold hi; rw [List.drop_of_length_le h]; rfl
theorem lo_succ (xs : List Int) (k : Nat) : lo xs (k + 1) = lo xs k + P k * at_ xs k := by
  induction xs generalizing k with
  | nil => simp [lo, V, at_]
  | cons x xs ih =>
    cases k with
    | zero => simp [lo, V, at_, P]
    | succ k =>
      have := ih k
      simp only [lo, List.take_succ_cons, V, at_cons_succ, P_succ] at this ⊢
      rw [this, Int.mul_add, Int.mul_assoc, Int.add_assoc]
theorem hi_succ (xs : List Int) (k : Nat) : hi xs k = at_ xs k + 18446744073709551616 * hi xs (k + 1) := by
  rcases Nat.lt_or_ge k xs.length with h | h
  · unfold hi
    rw [List.drop_eq_getElem_cons h]
    simp [V, at_, h]
  · rw [hi_all h, hi_all (by omega), at_ge h]; omega
theorem V_split (xs : List Int) (k : Nat) : V xs = lo xs k + P k * hi xs k := by
  induction k with
  | zero => rw [lo_zero, hi_zero, P_zero]; omega
  | succ k ih => rw [ih, lo_succ, hi_succ xs k, P_succ, Int.mul_add, Int.add_assoc, ← Int.mul_assoc, Int.mul_comm (P k) 18446744073709551616]
theorem lo_nonneg {xs : List Int} (h : Ws xs) (k : Nat) : 0 ≤ lo xs k := V_nonneg (h.take k)
theorem hi_nonneg {xs : List Int} (h : Ws xs) (k : Nat) : 0 ≤ hi xs k := V_nonneg (h.drop k)
theorem P_mono {a b : Nat} (h : a ≤ b) : P a ≤ P b := by
  obtain ⟨c, rfl⟩ := Nat.exists_eq_add_of_le h
  rw [P_add]
  have ha := P_pos a
  have hc := P_pos c
  have := Int.mul_le_mul_of_nonneg_left hc (show (0 : Int) ≤ P a by omega)
  omega
theorem lo_lt {xs : List Int} (h : Ws xs) (k : Nat) : lo xs k < P k := by
  have h1 := V_lt (h.take k)
  have h2 : P (xs.take k).length ≤ P k := P_mono (by rw [List.length_take]; omega)
  unfold lo; omega
theorem V_append (xs ys : List Int) : V (xs ++ ys) = V xs + P xs.length * V ys := by
  induction xs with
  | nil => simp [V, P]
  | cons x xs ih => simp only [List.cons_append, V, List.length_cons, P_succ, ih, Int.mul_add, Int.mul_assoc, Int.add_assoc]
theorem V_zeros (k : Nat) : V (List.replicate k 0) = 0 := by
  induction k with
  | zero => rfl
  | succ k ih => simp [List.replicate_succ, V, ih]
theorem V_at (xs : List Int) (h : Ws xs) (k : Nat) : at_ xs k = V xs / P k % 18446744073709551616 := by
  have hp := P_pos k
  have h1 := lo_nonneg h k
  have h2 := lo_lt h k
  have e : V xs / P k = hi xs k := by
    rw [V_split xs k, Int.add_mul_ediv_left _ _ (by omega), Int.ediv_eq_zero_of_lt h1 h2]; omega
  rw [e, hi_succ]
  have := h.at_ k
  unfold W at this
  omega
theorem hi_V {xs : List Int} (h : Ws xs) (k : Nat) : hi xs k = V xs / P k := by
  have hp := P_pos k
  rw [V_split xs k, Int.add_mul_ediv_left _ _ (by omega), Int.ediv_eq_zero_of_lt (lo_nonneg h k) (lo_lt h k)]; omega
theorem lo_V {xs : List Int} (h : Ws xs) (k : Nat) : lo xs k = V xs % P k := by
  have hp := P_pos k
  rw [V_split xs k, Int.add_mul_emod_self_left, Int.emod_eq_of_lt (lo_nonneg h k) (lo_lt h k)]

/-! ### set -/
theorem at_set (xs : List Int) (k j : Nat) (v : Int) (hk : k < xs.length) : at_ (xs.set k v) j = if j = k then v else at_ xs j := by
  unfold at_
  rw [List.getElem?_set]
  by_cases h : k = j
  · subst h; simp [hk]
  · rw [if_neg h, if_neg (fun e => h e.symm)]
theorem lo_set_ge (xs : List Int) (k j : Nat) (v : Int) (h : j ≤ k) : lo (xs.set k v) j = lo xs j := by
  unfold lo
  rw [List.take_set]
  rw [List.set_eq_of_length_le (by rw [List.length_take]; omega)]
theorem hi_set_lt (xs : List Int) (k j : Nat) (v : Int) (h : k < j) : hi (xs.set k v) j = hi xs j := by
  unfold hi
  rw [List.drop_set, if_pos h]
theorem V_set (xs : List Int) (k : Nat) (v : Int) (hk : k < xs.length) : V (xs.set k v) = V xs + P k * (v - at_ xs k) := by
  rw [V_split (xs.set k v) k, V_split xs k, lo_set_ge xs k k v (Nat.le_refl _), hi_succ (xs.set k v), hi_succ xs k, hi_set_lt xs k (k + 1) v (by omega), at_set xs k k v hk, if_pos rfl,
    Int.mul_add, Int.mul_add, Int.mul_sub]
  omega

/-! ### trimming -/
def trim : List Int → List Int
  | [] => []
  | x :: xs => if x = 0 ∧ trim xs = [] then [] else x :: trim xs
theorem V_trim (xs : List Int) : V (trim xs) = V xs := by
  induction xs with
  | nil => rfl
  | cons x xs ih =>
    unfold trim
    split
    · rename_i h
      rw [h.2] at ih
      simp only [V] at ih ⊢
      omega
    · simp only [V, ih]
theorem trim_take (xs : List Int) : trim xs = xs.take (trim xs).length := by
  induction xs with
  | nil => rfl
  | cons x xs ih =>
    unfold trim
    split
    · rfl
    · simp only [List.length_cons, List.take_succ_cons]; rw [← ih]
theorem trim_le (xs : List Int) : (trim xs).length ≤ xs.length := by
  have := congrArg List.length (trim_take xs)
  rw [List.length_take] at this
  omega
theorem Ws.trim {xs : List Int} (h : Ws xs) : Ws (trim xs) := by rw [trim_take]; exact h.take _
theorem trim_trim (xs : List Int) : trim (trim xs) = trim xs := by
  induction xs with
  | nil => rfl
  | cons x xs ih =>
    by_cases h : x = 0 ∧ trim xs = []
    · have : trim (x :: xs) = [] := by unfold trim; rw [if_pos h]
      rw [this]; rfl
    · have : trim (x :: xs) = x :: trim xs := by conv => lhs; unfold trim; rw [if_neg h]
      rw [this]
      conv => lhs; unfold trim
      rw [ih, if_neg h]
theorem trim_nil_V {xs : List Int} (h : Ws xs) (hv : V xs = 0) : trim xs = [] := by
  induction xs with
  | nil => rfl
  | cons x xs ih =>
    have hx := h.head
    have := V_nonneg h.tail
    unfold W at hx
    unfold V at hv
    unfold trim
    rw [if_pos ⟨by omega, ih h.tail (by omega)⟩]
/-- naturals of one value are the same, trimmed -/
theorem trim_of_V {xs ys : List Int} (h : Ws xs) (g : Ws ys) (e : V xs = V ys) : trim xs = trim ys := by
  induction xs generalizing ys with
  | nil => exact (trim_nil_V g (by rw [← e]; rfl)).symm
  | cons x xs ih =>
    cases ys with
    | nil => exact trim_nil_V h (by rw [e]; rfl)
    | cons y ys =>
      have hx := h.head
      have hy := g.head
      unfold W at hx hy
      simp only [V] at e
      obtain rfl : x = y := by omega
      have := ih h.tail g.tail (by omega)
      simp only [trim, this]
/-- a trimmed natural of that value -/
structure Is (zs : List Int) (n : Int) : Prop where
  ws : Ws zs
  tr : trim zs = zs
  v : V zs = n
theorem Is.of_trim {xs : List Int} (h : Ws xs) : Is (trim xs) (V xs) := ⟨h.trim, trim_trim _, V_trim _⟩
theorem Is.uniq {xs ys : List Int} {n : Int} (h : Is xs n) (g : Is ys n) : xs = ys := by
  rw [← h.tr, ← g.tr]; exact trim_of_V h.ws g.ws (by rw [h.v, g.v])
theorem Is.nonneg {zs : List Int} {n : Int} (h : Is zs n) : 0 ≤ n := by rw [← h.v]; exact V_nonneg h.ws
theorem Is.nil : Is [] 0 := ⟨Ws.nil, rfl, rfl⟩
/-- the last limb of a trimmed one is none that is 0 -/
theorem trim_last {xs : List Int} (h : trim xs = xs) (hn : xs ≠ []) : at_ xs (xs.length - 1) ≠ 0 := by
  induction xs with
  | nil => exact absurd rfl hn
  | cons x xs ih =>
    by_cases hx : xs = []
    · subst hx
      intro e
      simp only [at_, List.length_cons, List.length_nil] at e
      simp [trim] at h
      exact h (by simpa using e)
    · have ht : trim xs = xs := by
        unfold trim at h
        split at h
        · cases h
        · injection h
      have := ih ht hx
      have hl : xs.length ≠ 0 := fun e => hx (List.eq_nil_of_length_eq_zero e)
      rw [show (x :: xs).length - 1 = (xs.length - 1) + 1 by simp only [List.length_cons]; omega, at_cons_succ]
      exact this
theorem trim_of_last {xs : List Int} (h : xs = [] ∨ at_ xs (xs.length - 1) ≠ 0) : trim xs = xs := by
  induction xs with
  | nil => rfl
  | cons x xs ih =>
    rcases h with h | h
    · cases h
    · by_cases hx : xs = []
      · subst hx
        simp only [at_, List.length_cons, List.length_nil] at h
        simp only [trim]
        rw [if_neg (fun e => h (by simpa using e.1))]
      · have hl : xs.length ≠ 0 := fun e => hx (List.eq_nil_of_length_eq_zero e)
        rw [show (x :: xs).length - 1 = (xs.length - 1) + 1 by simp only [List.length_cons]; omega, at_cons_succ] at h
        have := ih (.inr h)
        unfold trim
        rw [this, if_neg (fun e => hx e.2)]
/-- cut where all that is above is nought, and the limb below is none: trimmed -/
theorem trim_cut {xs : List Int} {k : Nat} (hk : k ≤ xs.length) (ha : ∀ j, k ≤ j → at_ xs j = 0) (hl : k = 0 ∨ at_ xs (k - 1) ≠ 0) (h : Ws xs) : trim xs = xs.take k := by
  have hv : V xs = V (xs.take k) := by
    have e : ∀ m, V (xs.take k) = lo xs (k + m) := by
      intro m
      induction m with
      | zero => rfl
      | succ m ih => rw [ih, ← Nat.add_assoc, lo_succ, ha _ (by omega)]; omega
    rw [e (xs.length - k), lo_all (by omega)]
  rw [trim_of_V h (h.take k) hv]
  apply trim_of_last
  rcases hl with h0 | h0
  · left; rw [h0]; rfl
  · by_cases hk0 : k = 0
    · left; rw [hk0]; rfl
    · right
      rw [List.length_take, Nat.min_eq_left hk]
      unfold at_ at h0 ⊢
      rw [List.getElem?_take, if_pos (by omega)]
      exact h0
end Nt
end Go.Proofs.YtaocplcmmpbjjaaDoor
namespace Go.Proofs.YtaocplcmmpbjjaaDoor
open Go.RowKit
namespace Wd
set_option linter.unusedVariables false
def choose (m a b : Int) : Int := bits .or .u64 (bits .and .u64 a m) (bits .andNot .u64 b m)
end Wd
end Go.Proofs.YtaocplcmmpbjjaaDoor
namespace Go.Proofs.YtaocplcmmpbjjaaDoor
open Go Go.RowKit
namespace Sti
/-- a fence that lets everything by: the wide one, or a round within it -/
structure Wide (F : Fence) (P : Program) : Prop where
  fn : ∀ f, F.fn f
  depth : F.depth = none
  calls : ∀ {m : Nat} {f : FuncId} {args : Array Value} {w : World} {R : Ending → World → Prop}, Calls P f args w R → CallsIn F m P f args w R
theorem wide (P : Program) : Wide Fence.wide P := ⟨fun _ => trivial, rfl, fun h => callsIn_wide.2 h⟩
theorem Wide.inRound {F : Fence} {P : Program} (h : Wide F P) (l : Nat) : Wide (F.inRound l) P := ⟨h.fn, h.depth, fun c => CallsIn.inRound l (h.calls c)⟩

section
variable {F : Fence} {n : Nat} {P : Program} {ops : Array Oper} {md : Region.Mode} {w : World}
theorem wpIn_of_still (hF : Wide F P) {o : Oper} {a : Act} {K : Act → Prop} {K' : Act → World → Prop} {Q' : Exit → Act → World → Prop} (hnd : ∀ c, o.op ≠ .defer c)
    (h : ∀ a, K a → K' a w) (hh : o.still P a w K) : o.wpIn F n P a w K' Q' := by
  unfold Oper.still at hh
  unfold Oper.wpIn
  refine ⟨fun f _ => hF.fn f, ?_⟩
  rw [Oper.semAt_plain F _ _ hnd]
  generalize (execOp a.eval o).run P w = r at *
  cases r with
  | ok x w' =>
    cases x <;> simp only [Oper.stillUpon] at hh <;> simp only [Oper.uponIn]
    case enter f args =>
      obtain ⟨rfl, v, hc, hn⟩ := hh
      refine ⟨fun hd => (by rw [hF.depth] at hd; cases hd), (hF.calls hc).mono ?_⟩
      rintro e w'' ⟨rfl, rfl⟩
      exact h _ hn
    all_goals (obtain ⟨rfl, h2⟩ := hh; exact h _ h2)
  | halt x w' => simp only [Oper.stillUpon] at hh

theorem wpOpIn_of_stOp (hF : Wide F P) {i : Nat} {a : Act} {K : Act → Prop} {K' : Act → World → Prop} {Q' : Exit → Act → World → Prop} (hnd : ∀ o, ops[i]? = some o → ∀ c, o.op ≠ .defer c)
    (h : ∀ a, K a → K' a w) (hh : stOp P ops w i K a) : wpOpIn F n P ops Q' i K' a w := by
  unfold stOp at hh
  unfold wpOpIn
  split
  · rename_i ho; simp only [ho] at hh; exact h _ hh
  · rename_i o ho
    simp only [ho] at hh
    split
    · rename_i hw; simp only [hw, if_true] at hh; exact wpIn_of_still hF (hnd o ho) h hh
    · rename_i hw; simp only [hw] at hh; exact ⟨fun f _ => hF.fn f, h _ hh⟩

theorem wpAnyIn_of_head (hF : Wide F P) {m g : Nat} {L : Array Bool → Act → Prop} {Q' : Exit → Act → World → Prop} (hnd : ∀ (i : Nat) (o : Oper), ops[i]? = some o → ∀ c, o.op ≠ .defer c)
    (hL : ∀ listed a, L listed a → wpAnyIn F n P md ops Q' g listed a w) :
    ∀ (f : Nat) (listed : Array Bool) (a : Act), wpAnyL P md ops w m L f listed a → wpAnyIn F n P md ops Q' (f + g) listed a w
  | 0, listed, a, h => by rw [Nat.zero_add]; exact hL _ _ h
  | f + 1, listed, a, h => by
    rw [show f + 1 + g = (f + g) + 1 by omega]
    exact ⟨fun h0 => absurd h0 h.1, fun i hi => wpOpIn_of_stOp hF (hnd i) (fun a' h' => wpAnyIn_of_head hF hnd hL f _ a' h') (h.2 i hi).2⟩

theorem wpAnyIn_of_seq {Q' : Exit → Act → World → Prop} : ∀ (l : List Oper) (k : Nat) (listed : Array Bool) (a : Act) (w : World), (∀ j, l[j]? = ops[k + j]?) →
    Region.seqB md ops l.length k listed = true → wpListIn F n P ops Q' l a w → wpAnyIn F n P md ops Q' l.length listed a w
  | [], _, _, _, _, _, hB, h => ⟨by simpa [Region.seqB] using hB, h⟩
  | o :: l, k, listed, a, w, hl, hB, h => by
    have h0 : ops[k]? = some o := by simpa using (hl 0).symm
    simp only [List.length_cons, Region.seqB, Bool.and_eq_true, decide_eq_true_eq] at hB
    refine ⟨fun h1 => (by rw [hB.1] at h1; cases h1), fun i hi => ?_⟩
    rw [hB.1] at hi
    have hik : i = k := by simpa using hi
    subst hik
    have hw : wpOpIn F n P ops Q' i (wpListIn F n P ops Q' l) a w := by unfold wpOpIn; simp only [h0]; exact h
    exact wpOpIn_mono (fun a' w' h' => wpAnyIn_of_seq l (i + 1) _ a' w' (fun j => by have := hl (j + 1); simpa [Nat.add_assoc, Nat.add_comm 1 j] using this) hB.2 h') hw

def noDefer (l : List Oper) : Bool := l.all fun o => match o.op with | .defer _ => false | _ => true
theorem noDefer_spec {l : List Oper} (h : noDefer l = true) (i : Nat) (o : Oper) (ho : l.toArray[i]? = some o) (c : _) : o.op ≠ .defer c := by
  have hm : o ∈ l := by
    have : l[i]? = some o := by simpa using ho
    exact List.mem_of_getElem? this
  have := List.all_eq_true.1 h o hm
  intro e
  rw [e] at this
  cases this

/-- one walk of the head, in the order of the text; the tail in its one order -/
theorem wpIn_region_still_tail (hF : Wide F P) {id : Nat} {Q : Exit → Act → World → Prop} {a : Act} {w : World} {l : List Oper} (m : Nat) (hm : P.follows .mixedOrders = true) (hd : noDefer l = true)
    (hB : Region.lexTailB .any l.toArray m = true)
    (h : wpStill P l.toArray w.drew (fun a' => wpListIn F n P l.toArray Q (l.drop m) a' w.drew) (l.take m) a) : (Code.region id l.toArray true).wpIn F n P Q a w := by
  simp only [Region.lexTailB, Bool.and_eq_true, decide_eq_true_eq] at hB
  obtain ⟨⟨⟨⟨hsel, hn⟩, hs⟩, hc⟩, hlex⟩ := hB
  have hn' : m < l.length := by simpa using hn
  have htl : (l.take m).length = m := by simp; omega
  have hdl : (l.drop m).length = l.toArray.size - m := by simp
  have inv0 : HeadInv .any l.toArray m (Array.replicate l.toArray.size false) :=
    ⟨by simp, fun j oj _ hl => (by rw [getD_replicate_false] at hl; cases hl), fun t _ ht => getD_in (by simpa using ht) (getD_replicate_false _ _)⟩
  have H := wpAnyL_lex (md := .any) (g := l.toArray.size - m) hsel hs hc hn (l.take m) 0 _ a (fun j hj => by
    have hj' : j < m := by rw [htl] at hj; exact hj
    simp [hj']) (by simpa using htl) inv0 (by rw [htl]; exact hlex) h
  refine wpIn_region_any hm ?_
  have := wpAnyIn_of_head (n := n) hF (Q' := Q) (g := l.toArray.size - m) (noDefer_spec hd) (fun listed a' hL => by
    have := wpAnyIn_of_seq (F := F) (n := n) (P := P) (md := .any) (Q' := Q) (l.drop m) m listed a' w.drew (fun j => by simp [List.getElem?_drop]) (by rw [hdl]; exact hL.1) hL.2
    rwa [hdl] at this) _ _ _ H
  rw [htl, show m + (l.toArray.size - m) = l.toArray.size by omega] at this
  exact this

/-- the same where the whole region only reads: outside of a fence's rounds, too -/
theorem wpIn_region_still (hF : Wide F P) {id : Nat} {Q : Exit → Act → World → Prop} {a : Act} {w : World} {l : List Oper} (hm : P.follows .mixedOrders = true) (hd : noDefer l = true)
    (hB : Region.lexB .any l.toArray = true) (h : wpStill P l.toArray w.drew (fun a' => Q .normal a' w.drew) l a) : (Code.region id l.toArray true).wpIn F n P Q a w := by
  refine wpIn_region_any hm ?_
  simp only [Region.lexB, Bool.and_eq_true] at hB
  have H := wpAnyS_lex (P := P) (w := w.drew) (md := .any) (ops := l.toArray) hB.1 l 0 (Array.replicate l.toArray.size false) a (by simp) (by simpa using hB.2) h
  have key : ∀ (fuel : Nat) (listed : Array Bool) (a : Act), wpAnyS P .any l.toArray w.drew (fun a' => Q .normal a' w.drew) fuel listed a → wpAnyIn F n P .any l.toArray Q fuel listed a w.drew := by
    intro fuel
    induction fuel with
    | zero => exact fun _ _ h => ⟨h.1, h.2⟩
    | succ f ih => exact fun listed a h => ⟨fun h0 => h.1 h0, fun i hi => wpOpIn_of_stOp hF (noDefer_spec hd i) (fun a' h' => ih _ a' h') (h.2 i hi)⟩
  have := key _ _ _ H
  simpa using this
end
end Sti
end Go.Proofs.YtaocplcmmpbjjaaDoor
namespace Go.Proofs.YtaocplcmmpbjjaaDoor
open Go.RowKit
namespace Nt
open Wd
set_option linter.unusedVariables false
theorem block_add (a : Addr) (n : Nat) : (a.add n).block = a.block := by unfold Addr.add; split <;> rfl
theorem add_add (a : Addr) (i j : Nat) : (a.add i).add j = a.add (i + j) := by
  unfold Addr.add
  by_cases hi : i = 0 <;> by_cases hj : j = 0 <;> simp [hi, hj, Nat.add_assoc]
/-- the slice value '.slice A n c' reads as the limbs xs, below block B -/
structure Rd (w : World) (B : Nat) (A : Option Addr) (n : Nat) (xs : List Int) : Prop where
  len : xs.length = n
  ws : Ws xs
  rd : 0 < n → ∃ ad, A = some ad ∧ ad.block < B ∧ ∀ j, j < n → w.cell? (ad.add j) = some (.int .u64 (at_ xs j))
section
variable {w w' : World} {B B' n : Nat} {A : Option Addr} {xs : List Int}
theorem Rd.nil : Rd w B A 0 [] := ⟨rfl, Ws.nil, fun h => absurd h (by omega)⟩
theorem Rd.at_ {k : Nat} (h : Rd w B A n xs) (hk : k < n) : ∃ ad, A = some ad ∧ ad.block < B ∧ w.cell? (ad.add k) = some (.int .u64 (at_ xs k)) := by
  obtain ⟨ad, e, hb, hc⟩ := h.rd (by omega)
  exact ⟨ad, e, hb, hc k hk⟩
theorem Rd.keep (h : Rd w B A n xs) (hk : ∀ p : Addr, p.block < B → w'.cell? p = w.cell? p) : Rd w' B A n xs :=
  ⟨h.len, h.ws, fun hn => by
    obtain ⟨ad, e, hb, hc⟩ := h.rd hn
    exact ⟨ad, e, hb, fun j hj => (hk _ (by rw [block_add]; exact hb)).trans (hc j hj)⟩⟩
theorem Rd.more (h : Rd w B A n xs) (hB : B ≤ B') : Rd w B' A n xs :=
  ⟨h.len, h.ws, fun hn => by
    obtain ⟨ad, e, hb, hc⟩ := h.rd hn
    exact ⟨ad, e, by omega, hc⟩⟩
theorem Rd.below (h : Rd w B A n xs) (hb : Below B w w') : Rd w' B A n xs := h.keep fun _ hp => hb.cell hp
theorem Rd.drew (h : Rd w B A n xs) : Rd w.drew B A n xs := ⟨h.len, h.ws, h.rd⟩
theorem Rd.drewN (h : Rd w B A n xs) (k : Nat) : Rd (w.drewN k) B A n xs := ⟨h.len, h.ws, h.rd⟩
theorem Rd.take {k : Nat} (h : Rd w B A n xs) (hk : k ≤ n) : Rd w B A k (xs.take k) :=
  ⟨by rw [List.length_take, h.len]; omega, h.ws.take k, fun hn => by
    obtain ⟨ad, e, hb, hc⟩ := h.rd (by omega)
    refine ⟨ad, e, hb, fun j hj => ?_⟩
    rw [hc j (by omega)]
    unfold Nt.at_
    rw [List.getElem?_take, if_pos hj]⟩
theorem Rd.trim (h : Rd w B A n xs) : Rd w B A (trim xs).length (trim xs) := by
  have := h.take (k := (Nt.trim xs).length) (by rw [← h.len]; exact trim_le xs)
  rwa [← trim_take] at this
end
/-! ### limb -/
end Nt
end Go.Proofs.YtaocplcmmpbjjaaDoor
namespace Go.Proofs.YtaocplcmmpbjjaaDoor
open Go Go.RowKit Go.Shelf
namespace Sti
/-- what an iterator promises: N rounds, round k being handed 'encs k', as long as the caller's invariant says, ahead of each, that what is read reads so -/
def Gives (F : Fence) (n : Nat) (P : Program) (g : Nat) (lb : Array Value) (encs : Nat → Array Value) (N : Nat) (Rdy : Nat → World → Prop) : Prop :=
  ∀ (l : Nat) (J : Nat → World → Prop) (Jx : World → Prop) (W : World), (∀ k A B, J k A → A.grownBy B none → J k B) → (∀ k A, J k A → Rdy k A) →
    (∀ k W1, J k W1 → k < N → YieldAt F (n - 1) P l (encs k) W1 fun e W' => (e = .returned (.bool true) ∧ J (k + 1) W') ∨ (e = .returned (.bool false) ∧ Jx W')) →
    J 0 W → CallsIn F n P g (#[.func (.yield l) #[] #[]] ++ lb) W fun e W' => (∃ v, e = .returned v) ∧ (J N W' ∨ Jx W')

/-- how a round's body may be left -/
def roundEnd (B : Nat) (I : World → Prop) (Ix : Code → World → Prop) (W : World) : Exit → Act → World → Prop
  | .normal, _, W' => KeepsFrom B W W' ∧ I W'
  | .ret, _, W' => KeepsFrom B W W' ∧ Ix .ret W'
  | .exit id, _, W' => KeepsFrom B W W' ∧ Ix (.exit id) W'
  | .goto t, _, W' => KeepsFrom B W W' ∧ Ix (.goto t) W'
  | .panic _, _, _ => False
  | .outgrown, _, _ => False

variable {F : Fence} {n : Nat} {P : Program}
theorem wpIn_range {g : Operand} {ps : Array Tmp} {assign body : Code} {Q : Exit → Act → World → Prop} {a : Act} {w : World}
    (hro : F.round = none) (hn : F.depth.isSome = true → 1 ≤ n) {gf : Nat} {lb : Array Value} (hg : a.eval g = .func (.func gf) #[] lb) (hFg : F.fn gf)
    (eg : ∀ args w, (callFunc gf args).run P w = .ok (.enter gf args) w) {encs : Nat → Array Value} {N : Nat} {Rdy : Nat → World → Prop} (hseq : Gives F (n - 1) P gf lb encs N Rdy)
    (hps : ∀ k, (encs k).size = ps.size) (I : Nat → World → Prop) (Ix : Code → World → Prop) (hI : OwnFrom w.heap.size I) (hIx : OwnFrom w.heap.size Ix) (hRdy : ∀ k W, I k W → Rdy k W) (h0 : I 0 w)
    (Ax : Nat → Act → World → Prop) (hAx : ∀ k a', OwnFrom w.heap.size (fun (_ : Unit) W => Ax k a' W))
    (hassign : ∀ (l k : Nat) (W : World) (K : Act → World → Prop), I k W → (∀ a' W', KeepsFrom w.heap.size W W' → I k W' → Ax k a' W' → K a' W') →
      assign.wpIn (F.inRound l) (n - 1 - 1) P (Exit.then K (fun _ _ _ => False)) { tmps := (ps.zip (encs k)).foldl (fun t (p, v) => t.setIfInBounds p v) a.tmps, defers := [] } W)
    (hbody : ∀ (l k : Nat) (a' : Act) (W : World), w.heap.size ≤ l → I k W → Ax k a' W → k < N → body.wpIn (F.inRound l) (n - 1 - 1) P (roundEnd w.heap.size (I (k + 1)) Ix W) a' W)
    (hdone : ∀ (D : Nat) (W : World), w.heap.size ≤ D → I N W → W.heap[D]? = some (.deferred (some [])) → Q .normal { a with defers := { target := .collected D, args := #[] } :: a.defers } W)
    (hstop : ∀ (D : Nat) (c : Code) (W : World), w.heap.size ≤ D → Ix c W → W.heap[D]? = some (.deferred (some [])) → c.wpIn F n P Q { a with defers := { target := .collected D, args := #[] } :: a.defers } W) :
    (Code.rangeFunc g ps assign body).wpIn F n P Q a w := by
  refine wpIn_rangeFunc ?_
  intro fn hfn
  rw [hro]
  obtain ⟨rec, hrec⟩ : ∃ rec : LoopState → Option Code → Loop, rec = fun st pe => { state := st, pending := pe, fn, tmps := a.tmps, params := ps, assign, body, defers := w.heap.size } := ⟨_, rfl⟩
  obtain ⟨B, hB⟩ : ∃ B, B = w.heap.size := ⟨_, rfl⟩
  obtain ⟨W1, hW1⟩ : ∃ W1, (w.alloc (.deferred (some []))).alloc (.loop (rec .ready none)) = W1 := ⟨_, rfl⟩
  have hL1 : W1.heap[w.heap.size + 1]? = some (.loop (rec .ready none)) := by
    rw [← hW1]; have := World.alloc_heap_new (w.alloc (.deferred (some []))) (.loop (rec .ready none)); rwa [World.size_alloc] at this
  have hK1 : W1.heap[w.heap.size]? = some (.deferred (some [])) := by
    rw [← hW1]; exact (Below.heap_alloc _ _ _ (by simp)).trans (World.alloc_heap_new w _)
  have hI1 : I 0 W1 := by rw [← hW1]; exact hI.alloc _ (hI.alloc _ h0)
  refine ⟨w.heap.size + 1, [{ target := .collected w.heap.size, args := #[] }], W1, { target := .fn (.func gf) lb, args := #[.func (.yield (w.heap.size + 1)) #[] #[]] }, W1, gf,
    #[.func (.yield (w.heap.size + 1)) #[] #[]] ++ lb, W1, ?_, ?_, ?_, ?_, hn, ?_⟩
  · rw [← hW1, hrec]; exact run_enterLoop_outer _ _ _ _ _
  · simp only [resolve, hg]
    simp [go_sem]
  · intro f' hf'; simp [Target.leads] at hf'; subst hf'; exact hFg
  · simp [invoke, go_sem, eg]
  have nonewalk : ∀ (A A' : World), A.grownBy A' none → ∀ (k : Nat) (o : Obj), A.heap[k]? = some o → A'.heap[k]? = some o := fun A A' hg k o ho =>
    (hg.block k (Array.getElem?_eq_some_iff.1 ho).1 (by simp)).trans ho
  refine (hseq (w.heap.size + 1)
      (fun k W => I k W ∧ W.heap[w.heap.size + 1]? = some (.loop (rec .ready none)) ∧ W.heap[w.heap.size]? = some (.deferred (some [])))
      (fun W => ∃ c, Ix c W ∧ W.heap[w.heap.size + 1]? = some (.loop (rec .done (some c))) ∧ W.heap[w.heap.size]? = some (.deferred (some [])))
      W1
      (fun k A A' hs hg => ⟨hI k A A' none hs.1 hg (fun r e => by cases e), nonewalk A A' hg _ _ hs.2.1, nonewalk A A' hg _ _ hs.2.2⟩)
      (fun k A hs => hRdy k A hs.1)
      ?_ ⟨hI1, hL1, hK1⟩).mono ?_
  · rintro k W ⟨hi, hl, hk⟩ hlen
    have hy := run_yield (P := P) (args := encs k) hl (by rw [hrec]; exact hps k)
    rw [hrec] at hy
    refine ⟨fn, _, assign, body, hy, roundIn_of_wpIn hfn (hassign _ k W _ hi ?_)⟩
    clear hy
    intro a' Wa hkfa hia hax
    have hla := hkfa.same _ _ (by omega) hl rfl
    have hka := hkfa.same _ _ (Nat.le_refl _) hk rfl
    have hlt : w.heap.size + 1 < Wa.heap.size := (Array.getElem?_eq_some_iff.1 hla).1
    refine ⟨_, run_beginRound hla (by rw [hrec]), ?_⟩
    have hl2 : (Wa.putObj (w.heap.size + 1) (.loop { rec .ready none with state := .busy })).heap[w.heap.size + 1]? = some (.loop { rec .ready none with state := .busy }) := World.putObj_heap_same hlt
    have hk2 : (Wa.putObj (w.heap.size + 1) (.loop { rec .ready none with state := .busy })).heap[w.heap.size]? = some (.deferred (some [])) := (World.putObj_heap_other (by omega)).trans hka
    refine wpIn_mono (hbody _ k a' _ (by omega) (hI.putObj _ hia (by omega) hla rfl) ((hAx k a').putObj (s := ()) _ hax (by omega) hla rfl) hlen) ?_
    have fin : ∀ (jump : Option Code) (W3 : World), KeepsFrom w.heap.size (Wa.putObj (w.heap.size + 1) (.loop { rec .ready none with state := .busy })) W3 →
        (Instr.endRound (w.heap.size + 1) jump).run P W3 = .ok (.bool jump.isNone) (W3.putObj (w.heap.size + 1) (.loop (rec (if jump.isNone then .ready else .done) jump))) ∧
        W3.heap[w.heap.size + 1]? = some (.loop { rec .ready none with state := .busy }) ∧
        (W3.putObj (w.heap.size + 1) (.loop (rec (if jump.isNone then .ready else .done) jump))).heap[w.heap.size + 1]? = some (.loop (rec (if jump.isNone then .ready else .done) jump)) ∧
        (W3.putObj (w.heap.size + 1) (.loop (rec (if jump.isNone then .ready else .done) jump))).heap[w.heap.size]? = some (.deferred (some [])) := fun jump W3 hk3 => by
      have hl3 := hk3.same _ _ (by omega) hl2 rfl
      have := run_endRound (P := P) jump hl3
      rw [hrec] at this ⊢
      exact ⟨this, by rw [hrec] at hl3; exact hl3, World.putObj_heap_same (Array.getElem?_eq_some_iff.1 hl3).1, (World.putObj_heap_other (by omega)).trans (hk3.same _ _ (Nat.le_refl _) hk2 rfl)⟩
    rintro e a3 W3 hp
    cases e with
    | normal =>
      obtain ⟨hk3, hi3⟩ := hp
      obtain ⟨hr, hl3, hl4, hk4⟩ := fin none W3 hk3
      exact ⟨_, _, hr, .inl ⟨rfl, hI.putObj _ hi3 (by omega) hl3 rfl, hl4, hk4⟩⟩
    | ret =>
      obtain ⟨hk3, hi3⟩ := hp
      obtain ⟨hr, hl3, hl4, hk4⟩ := fin (some .ret) W3 hk3
      exact ⟨_, _, hr, .inr ⟨rfl, .ret, hIx.putObj _ hi3 (by omega) hl3 rfl, hl4, hk4⟩⟩
    | exit id =>
      obtain ⟨hk3, hi3⟩ := hp
      obtain ⟨hr, hl3, hl4, hk4⟩ := fin (some (.exit id)) W3 hk3
      exact ⟨_, _, hr, .inr ⟨rfl, .exit id, hIx.putObj _ hi3 (by omega) hl3 rfl, hl4, hk4⟩⟩
    | goto t =>
      obtain ⟨hk3, hi3⟩ := hp
      obtain ⟨hr, hl3, hl4, hk4⟩ := fin (some (.goto t)) W3 hk3
      exact ⟨_, _, hr, .inr ⟨rfl, .goto t, hIx.putObj _ hi3 (by omega) hl3 rfl, hl4, hk4⟩⟩
    | panic ch => exact hp.elim
    | outgrown => exact hp.elim
  · rintro e W2 ⟨⟨v, rfl⟩, (⟨hi, hl, hk⟩ | ⟨c, hi, hl, hk⟩)⟩
    · exact ⟨none, _, by have := run_endLoop (P := P) hl (by rw [hrec]; simp); rw [hrec] at this; exact this, hdone _ _ (Nat.le_refl _) (hI.putObj _ hi (by omega) hl rfl) ((World.putObj_heap_other (by omega)).trans hk)⟩
    · exact ⟨some c, _, by have := run_endLoop (P := P) hl (by rw [hrec]; simp); rw [hrec] at this; exact this, hstop _ c _ (Nat.le_refl _) (hIx.putObj _ hi (by omega) hl rfl) ((World.putObj_heap_other (by omega)).trans hk)⟩

/-- the same where each round has one block of its own (a loop variable that is boxed): the frame by what is set in it -/
theorem wpIn_rangeB {g : Operand} {ps : Array Tmp} {assign body : Code} {Q : Exit → Act → World → Prop} {a : Act} {w : World}
    (hro : F.round = none) (hn : F.depth.isSome = true → 1 ≤ n) {gf : Nat} {lb : Array Value} (hg : a.eval g = .func (.func gf) #[] lb) (hFg : F.fn gf)
    (eg : ∀ args w, (callFunc gf args).run P w = .ok (.enter gf args) w) {encs : Nat → Array Value} {N : Nat} {Rdy : Nat → World → Prop} (hseq : Gives F (n - 1) P gf lb encs N Rdy)
    (hps : ∀ k, (encs k).size = ps.size) (I : Nat → World → Prop) (Ix : Code → World → Prop) (hI : OwnFrom w.heap.size I) (hIx : OwnFrom w.heap.size Ix) (hRdy : ∀ k W, I k W → Rdy k W) (h0 : I 0 w)
    (Ax : Nat → Nat → World → Prop) (hAx : ∀ k b, OwnFrom w.heap.size (fun (_ : Unit) W => Ax k b W)) (upd : Nat → Nat → Array Value → Array Value)
    (hassign : ∀ (l k : Nat) (W : World) (K : Act → World → Prop), I k W → (∀ b W', KeepsFrom w.heap.size W W' → I k W' → Ax k b W' → K { tmps := upd k b a.tmps, defers := [] } W') →
      assign.wpIn (F.inRound l) (n - 1 - 1) P (Exit.then K (fun _ _ _ => False)) { tmps := (ps.zip (encs k)).foldl (fun t (p, v) => t.setIfInBounds p v) a.tmps, defers := [] } W)
    (hbody : ∀ (l k b : Nat) (W : World), w.heap.size ≤ l → I k W → Ax k b W → k < N → body.wpIn (F.inRound l) (n - 1 - 1) P (roundEnd w.heap.size (I (k + 1)) Ix W) { tmps := upd k b a.tmps, defers := [] } W)
    (hdone : ∀ (D : Nat) (W : World), w.heap.size ≤ D → I N W → W.heap[D]? = some (.deferred (some [])) → Q .normal { a with defers := { target := .collected D, args := #[] } :: a.defers } W)
    (hstop : ∀ (D : Nat) (c : Code) (W : World), w.heap.size ≤ D → Ix c W → W.heap[D]? = some (.deferred (some [])) → c.wpIn F n P Q { a with defers := { target := .collected D, args := #[] } :: a.defers } W) :
    (Code.rangeFunc g ps assign body).wpIn F n P Q a w :=
  wpIn_range hro hn hg hFg eg hseq hps I Ix hI hIx hRdy h0 (fun k a' W => ∃ b, Ax k b W ∧ a' = { tmps := upd k b a.tmps, defers := [] })
    (fun k a' _ W W' row hs hg' hr => by obtain ⟨b, hb, e⟩ := hs; exact ⟨b, hAx k b () W W' row hb hg' hr, e⟩)
    (fun l k W K hi h => hassign l k W K hi (fun b W' hk hi' hx => h _ W' hk hi' ⟨b, hx, rfl⟩))
    (fun l k a' W hl hi hx hk => by obtain ⟨b, hx, rfl⟩ := hx; exact hbody l k b W hl hi hx hk) hdone hstop
end Sti
end Go.Proofs.YtaocplcmmpbjjaaDoor
namespace Go.Proofs.YtaocplcmmpbjjaaDoor
open Go Go.RowKit Go.Shelf
attribute [local go_sem] Oper.semAt_some
namespace Nt
open Wd Sti
set_option linter.unusedVariables false
/-- the limb k of the slice '.slice A n c' reads x (0 beyond its end) -/
def LAt (w : World) (A : Option Addr) (n k : Nat) (x : Int) : Prop := (k < n → ∃ ad, A = some ad ∧ w.cell? (ad.add k) = some (.int .u64 x)) ∧ (n ≤ k → x = 0)
theorem Rd.lat {w : World} {B n : Nat} {A : Option Addr} {xs : List Int} (h : Rd w B A n xs) (k : Nat) : LAt w A n k (Nt.at_ xs k) :=
  ⟨fun hk => by obtain ⟨ad, e, _, hc⟩ := h.at_ hk; exact ⟨ad, e, hc⟩, fun hk => at_ge (by rw [h.len]; exact hk)⟩
end Nt
end Go.Proofs.YtaocplcmmpbjjaaDoor
namespace Go.Proofs.YtaocplcmmpbjjaaDoor
open Go Go.RowKit
namespace Nt
open Wd Sti
set_option linter.unusedVariables false
/-- block g is just the cells cs of element type t, none frozen -/
def Bk (w : World) (g : Nat) (t : TypeId) (cs : Array Value) : Prop := w.heap[g]? = some (.cells cs t (0, 0))
section
variable {w w' : World} {g : Nat} {t : TypeId} {cs : Array Value}
theorem Bk.lt (h : Bk w g t cs) : g < w.heap.size := by
  rcases Nat.lt_or_ge g w.heap.size with hlt | hge
  · exact hlt
  · unfold Bk at h; rw [Array.getElem?_eq_none hge] at h; cases h
theorem Bk.cell (h : Bk w g t cs) (i : Nat) : w.cell? ⟨g, i, none⟩ = cs[i]? := cell_of_row w g i cs t (0, 0) h
theorem Bk.frozen (h : Bk w g t cs) (i : Nat) : w.frozen? ⟨g, i, none⟩ = false := by
  unfold Bk at h
  simp [World.frozen?, h]
theorem Bk.new (w : World) (t : TypeId) (cs : Array Value) : Bk (w.alloc (.cells cs t)) w.heap.size t cs := heap_alloc_new w _
theorem Bk.drew (h : Bk w g t cs) : Bk w.drew g t cs := h
theorem Bk.drewN (h : Bk w g t cs) (n : Nat) : Bk (w.drewN n) g t cs := h
theorem Bk.alloc (h : Bk w g t cs) (o : Obj) : Bk (w.alloc o) g t cs := (Below.heap_alloc w o g h.lt).trans h
theorem Bk.set_ (h : Bk w g t cs) (i : Nat) (u : Value) : Bk (w.setCell ⟨g, i, none⟩ u) g t (cs.setIfInBounds i u) := by
  unfold Bk at h ⊢
  simp [World.setCell, Array.getElem?_modify, h]
theorem Bk.far (h : Bk w g t cs) {p : Addr} (hp : g ≠ p.block) (u : Value) : Bk (w.setCell p u) g t cs := (Below.heap_setCell w p u g hp).trans h
theorem Bk.below {B : Nat} (h : Bk w g t cs) (hb : Below B w w') (hg : g < B) : Bk w' g t cs := (hb.block g hg).trans h
theorem Bk.grown {row : Option Nat} (h : Bk w g t cs) (hb : w.grownBy w' row) (hr : ∀ r, row = some r → ∃ o : Obj, w.heap[r]? = some o ∧ o.isCells = false) : Bk w' g t cs :=
  (hb.block g h.lt (fun e => by
    obtain ⟨o, ho, hc⟩ := hr g e.symm
    unfold Bk at h
    rw [h] at ho
    cases ho
    cases hc)).trans h
end
/-- the limbs as values -/
def us (xs : List Int) : Array Value := (xs.map (Value.int .u64)).toArray
theorem us_size (xs : List Int) : (us xs).size = xs.length := by simp [us]
theorem us_get {xs : List Int} {k : Nat} (h : k < xs.length) : (us xs)[k]? = some (.int .u64 (at_ xs k)) := by
  unfold us at_
  rw [List.getElem?_toArray, List.getElem?_map, List.getElem?_eq_getElem h]
  rfl
theorem us_set (xs : List Int) (k : Nat) (v : Int) : (us xs).setIfInBounds k (.int .u64 v) = us (xs.set k v) := by
  unfold us
  apply Array.ext'
  simp [List.map_set]
theorem us_zeros (n : Nat) : us (List.replicate n 0) = Array.replicate n (.int .u64 0) := by
  unfold us
  apply Array.ext'
  simp
/-- a block of limbs reads as its limbs, from a place on -/
theorem Bk.rd {w : World} {g : Nat} {t : TypeId} {xs : List Int} {B o n : Nat} (h : Bk w g t (us xs)) (hB : g < B) (hw : Ws xs) (hn : o + n ≤ xs.length) : Rd w B (some ⟨g, o, none⟩) n ((xs.drop o).take n) := by
  refine ⟨by rw [List.length_take, List.length_drop]; omega, (hw.drop o).take n, fun _ => ⟨_, rfl, hB, fun j hj => ?_⟩⟩
  have e : (Addr.add ⟨g, o, none⟩ j) = ⟨g, o + j, none⟩ := by unfold Addr.add; split <;> simp_all
  rw [e, h.cell, us_get (by omega)]
  congr 2
  unfold at_
  rw [List.getElem?_take, if_pos hj, List.getElem?_drop]
theorem Bk.rd0 {w : World} {g : Nat} {t : TypeId} {xs : List Int} {B n : Nat} (h : Bk w g t (us xs)) (hB : g < B) (hw : Ws xs) (hn : xs.length = n) : Rd w B (some ⟨g, 0, none⟩) n xs := by
  have := h.rd (o := 0) (n := n) hB hw (by omega)
  rwa [List.drop_zero, List.take_of_length_le (by omega)] at this
theorem below_drewN {B : Nat} {a w : World} (h : Below B a w) (n : Nat) : Below B a (w.drewN n) := ⟨h.os, h.tape, h.output, h.size, h.block⟩
theorem Bk.new' {w : World} {t : TypeId} {cs : Array Value} {g : Nat} (hg : g = w.heap.size) : Bk (w.alloc (.cells cs t)) g t cs := by subst hg; exact Bk.new w t cs
theorem Bk.putObj {w : World} {g D : Nat} {t : TypeId} {cs : Array Value} (h : Bk w g t cs) {o : Obj} (o' : Obj) (hD : w.heap[D]? = some o) (ho : o.isCells = false) : Bk (w.putObj D o') g t cs :=
  h.grown (grownBy_putObj' w D o') (fun r e => by cases e; exact ⟨o, hD, ho⟩)
theorem below_putObj {B D : Nat} {a w : World} (h : Below B a w) (hB : B ≤ a.heap.size) (hD : B ≤ D) (o' : Obj) : Below B a (w.putObj D o') :=
  h.grown (grownBy_putObj' w D o') (Nat.le_trans hB h.size) (fun r e => by cases e; exact hD)
theorem only_setCell (w : World) (b i : Nat) (v : Value) : w.grownBy (w.setCell ⟨b, i, none⟩ v) (some b) :=
  ⟨rfl, rfl, rfl, by simp [World.setCell], fun k _ hne => Below.heap_setCell w _ v k (by rintro rfl; exact hne rfl)⟩
theorem only_drew (w : World) (r : Option Nat) : w.grownBy w.drew r := ⟨rfl, rfl, rfl, Nat.le_refl _, fun _ _ _ => rfl⟩
/-- an answer: a slice that reads as a trimmed natural of value N, of no more than m limbs -/
def Ans (w w' : World) (v : Value) (N : Int) (m : Nat) : Prop :=
  ∃ A n c zs, v = .slice A n c ∧ Is zs N ∧ Rd w' w'.heap.size A n zs ∧ n ≤ c ∧ c ≤ m ∧ Below w.heap.size w w'
theorem ans_trim {w W' : World} {g : Nat} {t : TypeId} {os : List Int} {N : Int} {m : Nat} (h : Bk W' g t (us os)) (hw : Ws os) (hv : V os = N) (hm : os.length ≤ m) (hb : Below w.heap.size w W') :
    Ans w W' (.slice (some ⟨g, 0, none⟩) (trim os).length os.length) N m :=
  ⟨_, _, _, trim os, rfl, hv ▸ Is.of_trim hw, (h.rd0 h.lt hw rfl).trim, trim_le os, hm, hb⟩
end Nt
end Go.Proofs.YtaocplcmmpbjjaaDoor
namespace Go.Proofs.YtaocplcmmpbjjaaDoor
open Go.RowKit
namespace Kit
set_option linter.unusedVariables false
def pick (n m : Int) : Int := if m < 1 then 0 else n % m
theorem pick_lt {n m : Int} (h : 1 ≤ m) : 0 ≤ pick n m ∧ pick n m < m := by
  unfold pick; rw [if_neg (by omega)]; exact ⟨Int.emod_nonneg _ (by omega), Int.emod_lt_of_pos _ (by omega)⟩
theorem pick_zero {n m : Int} (h : m < 1) : pick n m = 0 := if_pos h
theorem pick_c (n m : Int) (w : World) (hn : (Lit.int .i64 n).wf = true) (hm : (Lit.int .i64 m).wf = true) :
    Calls Tryd.prog 18 #[.int .i64 n, .int .i64 m] w fun e w' => e = .returned (.int .i64 (pick n m)) ∧ w = w' := by
  have b := bounds_i64 hn
  have c := bounds_i64 hm
  by_cases h1 : m < 1
  · rw [pick_zero h1]
    go_enter Tryd.func18, Tryd.ntmps18
    go_wp2
    go_ret
    exact ⟨rfl, rfl⟩
  · have hp : pick n m = n % m := if_neg h1
    have e := Int.emod_emod_of_dvd n (Int.dvd_refl m)
    have t1 := Int.tmod_eq_emod (a := n) (b := m)
    have r0 := Int.emod_nonneg n (show m ≠ 0 by omega)
    have r1 := Int.emod_lt_of_pos n (show 0 < m by omega)
    have hmz : (m == 0) = false := by rw [beq_eq_false_iff_ne]; omega
    have nabs : ((m.natAbs : Nat) : Int) = m := by omega
    by_cases hd : 0 ≤ n ∨ m ∣ n
    · rw [if_pos hd] at t1
      simp only [Int.natCast_zero, Int.sub_zero] at t1
      have t2 : 0 ≤ n.tmod m := by omega
      have t3 : n.tmod m < m := by omega
      rw [hp, ← t1]
      clear t1 hp e hd r0 r1 nabs
      go_enter Tryd.func18, Tryd.ntmps18
      go_wp2
      all_goals (go_ret; exact ⟨by go_num, rfl⟩)
    · rw [if_neg hd, nabs] at t1
      have q : n % m = n.tmod m + m := by omega
      have r2 : n % m ≠ 0 := fun h => hd (.inr (Int.dvd_of_emod_eq_zero h))
      have t2 : n.tmod m < 0 := by omega
      have t3 : 0 ≤ n.tmod m + m := by omega
      rw [hp, q]
      clear t1 hp e hd r0 r1 nabs q r2
      go_enter Tryd.func18, Tryd.ntmps18
      go_wp2
      all_goals (go_ret; exact ⟨by go_num, rfl⟩)
end Kit
end Go.Proofs.YtaocplcmmpbjjaaDoor
