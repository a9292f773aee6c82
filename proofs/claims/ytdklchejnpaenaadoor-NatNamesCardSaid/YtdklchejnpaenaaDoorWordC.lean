/- Contracts of package word: what each function answers, as arithmetic. -/
import Derived.Test.YtdklchejnpaenaaDoorWordM
import Derived.Lib.Hide
namespace Go.Proofs.YtdklchejnpaenaaDoor
open Go.RowKit
namespace Wd
set_option linter.unusedVariables false

theorem add_c (a b : Int) (c : Bool) (w : World) (ha : W a) (hb : W b) :
    Calls Tryd.prog 53 #[.int .u64 a, .int .u64 b, .bool c] w fun e w' => e = .returned (.tuple #[.int .u64 (add a b c), .bool (addO a b c)]) ∧ w = w' := by
  obtain ⟨ha, ha'⟩ := ha
  obtain ⟨hb, hb'⟩ := hb
  cases c <;> go_enter Tryd.func53, Tryd.ntmps53 <;> go_wp2 <;> go_ret2 <;> refine ⟨ret_ib ?_ ?_, rfl⟩
  all_goals (try unfold add); (try unfold addO); simp only [b1, IntKind.wrap_u64, if_true, if_false, Bool.false_eq_true] at *
  all_goals first | omega | (rw [Bool.eq_iff_iff]; simp; omega)

theorem sub_c (a b : Int) (c : Bool) (w : World) (ha : W a) (hb : W b) :
    Calls Tryd.prog 64 #[.int .u64 a, .int .u64 b, .bool c] w fun e w' => e = .returned (.tuple #[.int .u64 (sub a b c), .bool (subO a b c)]) ∧ w = w' := by
  obtain ⟨ha, ha'⟩ := ha
  obtain ⟨hb, hb'⟩ := hb
  cases c <;> go_enter Tryd.func64, Tryd.ntmps64 <;> go_wp2 <;> go_ret2 <;> refine ⟨ret_ib ?_ ?_, rfl⟩
  all_goals (try unfold sub); (try unfold subO); simp only [b1, IntKind.wrap_u64, if_true, if_false, Bool.false_eq_true] at *
  all_goals first | omega | (rw [Bool.eq_iff_iff]; simp; omega)

theorem halves_c (a : Int) (w : World) (h : 0 ≤ a) (h' : a ≤ 18446744073709551615) :
    Calls Tryd.prog 78 #[.int .u64 a] w fun e w' => e = .returned (.tuple #[.int .u64 (a / 4294967296), .int .u64 (a % 4294967296)]) ∧ w = w' := by
  have k := and_low a h h'
  go_enter Tryd.func78, Tryd.ntmps78
  go_wp2
  go_ret2
  exact ⟨rfl, rfl⟩

theorem mul_c (a b : Int) (w : World) (ha : W a) (hb : W b) :
    Calls Tryd.prog 71 #[.int .u64 a, .int .u64 b] w fun e w' => e = .returned (.tuple #[.int .u64 (mulH a b), .int .u64 (mulL a b)]) ∧ w = w' := by
  have hfin := mul_halves (a / 4294967296) (a % 4294967296) (b / 4294967296) (b % 4294967296)
  obtain ⟨ha, ha'⟩ := ha
  obtain ⟨hb, hb'⟩ := hb
  replace hfin := hfin (by omega) (by omega) (by omega) (by omega) (by omega) (by omega) (by omega) (by omega)
  rw [show a / 4294967296 * 4294967296 + a % 4294967296 = a from by omega, show b / 4294967296 * 4294967296 + b % 4294967296 = b from by omega] at hfin
  have p1 := half_mul (x := a / 4294967296) (y := b / 4294967296) (by omega) (by omega) (by omega) (by omega)
  have p2 := half_mul (x := a / 4294967296) (y := b % 4294967296) (by omega) (by omega) (by omega) (by omega)
  have p3 := half_mul (x := a % 4294967296) (y := b / 4294967296) (by omega) (by omega) (by omega) (by omega)
  have p4 := half_mul (x := a % 4294967296) (y := b % 4294967296) (by omega) (by omega) (by omega) (by omega)
  have H := Lib.hid hfin
  clear hfin
  go_enter Tryd.func71, Tryd.ntmps71
  go_wp2_with fail
  refine (halves_c _ _ ha ha').mono ?_; rintro e w' ⟨rfl, rfl⟩
  go_wp2_with fail
  refine (halves_c _ _ hb hb').mono ?_; rintro e w' ⟨rfl, rfl⟩
  go_wp2_with fail
  refine (halves_c _ _ (by omega) (by omega)).mono ?_; rintro e w' ⟨rfl, rfl⟩
  go_wp2_with fail
  refine (halves_c _ _ (by omega) (by omega)).mono ?_; rintro e w' ⟨rfl, rfl⟩
  go_wp2_with fail
  refine (halves_c _ _ (by omega) (by omega)).mono ?_; rintro e w' ⟨rfl, rfl⟩
  go_wp2_with fail
  go_ret2
  refine ⟨ret_ii H.out.1.symm ?_, rfl⟩
  rw [or_half _ _ (by omega) (by omega) (by omega) (by omega) (by omega)]
  have h2 := H.out.2
  unfold mulL
  omega

theorem mask_c (c : Bool) (w : World) :
    Calls Tryd.prog 65 #[.bool c] w fun e w' => e = .returned (.int .u64 (if c then 18446744073709551615 else 0)) ∧ w = w' := by
  cases c <;> go_enter Tryd.func65, Tryd.ntmps65 <;> go_wp2 <;> go_ret <;> exact ⟨rfl, rfl⟩

def choose (m a b : Int) : Int := bits .or .u64 (bits .and .u64 a m) (bits .andNot .u64 b m)
end Wd
end Go.Proofs.YtdklchejnpaenaaDoor
