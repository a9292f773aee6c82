/- Plain arithmetic of words of 64 bits, over Int: sums, rests, products, quotients, inverses; no program in it. -/
import Derived.Test.YtdklchejnpaenaaDoorRows
import Derived.WalkKit
import Derived.ProofKit
namespace Go.Proofs.YtdklchejnpaenaaDoor
open Go.RowKit
namespace Wd
set_option linter.unusedVariables false

def b1 (c : Bool) : Int := if c then 1 else 0
def add (a b : Int) (c : Bool) : Int := (a + b + b1 c) % 18446744073709551616
def addO (a b : Int) (c : Bool) : Bool := decide (18446744073709551616 ≤ a + b + b1 c)
def sub (a b : Int) (c : Bool) : Int := (a - b - b1 c) % 18446744073709551616
def subO (a b : Int) (c : Bool) : Bool := decide (a - b - b1 c < 0)
def mulH (a b : Int) : Int := a * b / 18446744073709551616
def mulL (a b : Int) : Int := a * b % 18446744073709551616
def divQ (h l y : Int) : Int := (h * 18446744073709551616 + l) / y
def divR (h l y : Int) : Int := (h * 18446744073709551616 + l) % y

/-- a word -/
def W (a : Int) : Prop := 0 ≤ a ∧ a ≤ 18446744073709551615
theorem W_wf {a : Int} (h : (Lit.int .u64 a).wf = true) : W a := by
  simp [Lit.wf, IntKind.min, IntKind.max, IntKind.signed, IntKind.bits] at h; unfold W; omega
theorem W_mod (a : Int) : W (a % 18446744073709551616) := by unfold W; omega
theorem W_add (a b : Int) (c : Bool) : W (add a b c) := W_mod _
theorem W_sub (a b : Int) (c : Bool) : W (sub a b c) := W_mod _
theorem W_mulL (a b : Int) : W (mulL a b) := W_mod _
theorem mul_le {a b : Int} (ha : W a) (hb : W b) : 0 ≤ a * b ∧ a * b ≤ 340282366920938463426481119284349108225 := by
  obtain ⟨h0, h1⟩ := ha
  obtain ⟨g0, g1⟩ := hb
  refine ⟨Int.mul_nonneg h0 g0, ?_⟩
  have := Int.mul_le_mul h1 g1 g0 (by omega)
  omega
theorem W_mulH {a b : Int} (ha : W a) (hb : W b) : W (mulH a b) := by
  have := mul_le ha hb
  unfold W mulH; omega
theorem b1_t : b1 true = 1 := rfl
theorem b1_f : b1 false = 0 := rfl
theorem b1_01 (c : Bool) : 0 ≤ b1 c ∧ b1 c ≤ 1 := by cases c <;> simp [b1]
/-- sum and carry together are the sum -/
theorem add_eq {a b : Int} (ha : W a) (hb : W b) (c : Bool) : add a b c + 18446744073709551616 * b1 (addO a b c) = a + b + b1 c := by
  have := b1_01 c
  unfold W at ha hb
  unfold add addO
  generalize b1 c = d at *
  by_cases h : 18446744073709551616 ≤ a + b + d
  · simp only [h, decide_true, b1_t]; omega
  · simp only [h, decide_false, b1_f]; omega
theorem sub_eq {a b : Int} (ha : W a) (hb : W b) (c : Bool) : sub a b c - 18446744073709551616 * b1 (subO a b c) = a - b - b1 c := by
  have := b1_01 c
  unfold W at ha hb
  unfold sub subO
  generalize b1 c = d at *
  by_cases h : a - b - d < 0
  · simp only [h, decide_true, b1_t]; omega
  · simp only [h, decide_false, b1_f]; omega
/-- what was added is taken away again -/
theorem sub_add {a b : Int} (ha : W a) (hb : W b) (c : Bool) : sub (add a b c) b c = a ∧ subO (add a b c) b c = addO a b c := by
  have := b1_01 c
  unfold W at ha hb
  unfold sub subO add addO
  generalize b1 c = d at *
  refine ⟨by omega, ?_⟩
  rw [decide_eq_decide]; omega
theorem mul_eq (a b : Int) : mulH a b * 18446744073709551616 + mulL a b = a * b := by unfold mulH mulL; omega

/-! ### what the walks leave -/
theorem ret_ib {k : IntKind} {a a' : Int} {b b' : Bool} (h : a = a') (g : b = b') : Ending.returned (.tuple #[.int k a, .bool b]) = .returned (.tuple #[.int k a', .bool b']) := by rw [h, g]
theorem ret_ii {k : IntKind} {a a' b b' : Int} (h : a = a') (g : b = b') : Ending.returned (.tuple #[.int k a, .int k b]) = .returned (.tuple #[.int k a', .int k b']) := by rw [h, g]
theorem ret_i {k : IntKind} {a a' : Int} (h : a = a') : Ending.returned (.int k a) = .returned (.int k a') := by rw [h]
theorem ret_b {a a' : Bool} (h : a = a') : Ending.returned (.bool a) = .returned (.bool a') := by rw [h]

theorem and_low (a : Int) (h : 0 ≤ a) (h' : a ≤ 18446744073709551615) : bits .and .u64 a 4294967295 = a % 4294967296 := by
  obtain ⟨n, rfl⟩ := Int.eq_ofNat_of_zero_le h
  have e : (4294967295 : Int) = ((4294967295 : Nat) : Int) := rfl
  rw [e, u64_and_nat n 4294967295 (by omega) (by omega), Nat.and_two_pow_sub_one_eq_mod n 32]
  rfl
theorem and_one (a : Int) (h : 0 ≤ a) (h' : a ≤ 18446744073709551615) : bits .and .u64 a 1 = a % 2 := by
  obtain ⟨n, rfl⟩ := Int.eq_ofNat_of_zero_le h
  have e : (1 : Int) = ((1 : Nat) : Int) := rfl
  rw [e, u64_and_nat n 1 (by omega) (by omega), nat_mask1]
  rfl
/-- a number whose lower half is empty, or-ed with a half -/
theorem or_half (a b : Int) (h0 : 0 ≤ a) (h1 : a ≤ 18446744073709551615) (hm : a % 4294967296 = 0) (h2 : 0 ≤ b) (h3 : b < 4294967296) : bits .or .u64 a b = a + b := by
  obtain ⟨n, rfl⟩ := Int.eq_ofNat_of_zero_le h0
  obtain ⟨m, rfl⟩ := Int.eq_ofNat_of_zero_le h2
  rw [u64_or_nat n m (by omega) (by omega), nat_join 32 n m (by omega) (by omega)]
  rfl

/-! ### products of halves -/
theorem half_mul {x y : Int} (hx0 : 0 ≤ x) (hx : x < 4294967296) (hy0 : 0 ≤ y) (hy : y < 4294967296) : 0 ≤ x * y ∧ x * y ≤ 18446744065119617025 :=
  prod_bound x y hx0 (by omega) hy0 (by omega)
/-- the product of two words out of four products of halves -/
theorem mul_halves (x1 x0 y1 y0 : Int) (a0 : 0 ≤ x1) (a1 : x1 < 4294967296) (b0 : 0 ≤ x0) (b1 : x0 < 4294967296) (c0 : 0 ≤ y1) (c1 : y1 < 4294967296) (d0 : 0 ≤ y0) (d1 : y0 < 4294967296) :
    ((x1 * 4294967296 + x0) * (y1 * 4294967296 + y0)) / 18446744073709551616 =
      x1 * y1 + (x1 * y0 + x0 * y0 / 4294967296) / 4294967296 + (x0 * y1 + (x1 * y0 + x0 * y0 / 4294967296) % 4294967296) / 4294967296 ∧
    ((x1 * 4294967296 + x0) * (y1 * 4294967296 + y0)) % 18446744073709551616 =
      (x0 * y1 + (x1 * y0 + x0 * y0 / 4294967296) % 4294967296) % 4294967296 * 4294967296 + x0 * y0 % 4294967296 := by
  rw [split_mul]
  have p1 := half_mul a0 a1 c0 c1
  have p2 := half_mul a0 a1 d0 d1
  have p3 := half_mul b0 b1 c0 c1
  have p4 := half_mul b0 b1 d0 d1
  generalize x1 * y1 = p at *
  generalize x1 * y0 = q at *
  generalize x0 * y1 = r at *
  generalize x0 * y0 = s at *
  omega
end Wd
end Go.Proofs.YtdklchejnpaenaaDoor
