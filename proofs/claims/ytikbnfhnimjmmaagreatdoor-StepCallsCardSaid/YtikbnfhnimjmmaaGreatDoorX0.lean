/- The contract of word.Bits. | Contracts of the document's own sums, differences, products and bits of words. -/
import Derived.Test.YtikbnfhnimjmmaaGreatDoorA1
import Derived.Test.YtikbnfhnimjmmaaGreatDoorShelf
namespace Go.Proofs.YtikbnfhnimjmmaaGreatDoor
open Go.RowKit
namespace Wd
set_option linter.unusedVariables false
end Wd
end Go.Proofs.YtikbnfhnimjmmaaGreatDoor
namespace Go.Proofs.YtikbnfhnimjmmaaGreatDoor
open Go.RowKit
namespace Wd
set_option linter.unusedVariables false
theorem radd_c (a b : Int) (c : Bool) (w : World) (ha : W a) (hb : W b) :
    Calls Tryz.prog 135 #[.int .u64 a, .int .u64 b, .bool c] w fun e w' => e = .returned (.tuple #[.int .u64 (add a b c), .bool (addO a b c)]) ∧ w = w' := by
  obtain ⟨ha, ha'⟩ := ha
  obtain ⟨hb, hb'⟩ := hb
  cases c <;> go_enter Tryz.func135, Tryz.ntmps135 <;> go_wp2 <;> go_ret2 <;> refine ⟨ret_ib ?_ ?_, rfl⟩
  all_goals (try unfold add); (try unfold addO); simp only [b1, IntKind.wrap_u64, if_true, if_false, Bool.false_eq_true] at *
  all_goals first | omega | (rw [Bool.eq_iff_iff]; simp; omega)
theorem rsub_c (a b : Int) (c : Bool) (w : World) (ha : W a) (hb : W b) :
    Calls Tryz.prog 225 #[.int .u64 a, .int .u64 b, .bool c] w fun e w' => e = .returned (.tuple #[.int .u64 (sub a b c), .bool (subO a b c)]) ∧ w = w' := by
  obtain ⟨ha, ha'⟩ := ha
  obtain ⟨hb, hb'⟩ := hb
  cases c <;> go_enter Tryz.func225, Tryz.ntmps225 <;> go_wp2 <;> go_ret2 <;> refine ⟨ret_ib ?_ ?_, rfl⟩
  all_goals (try unfold sub); (try unfold subO); simp only [b1, IntKind.wrap_u64, if_true, if_false, Bool.false_eq_true] at *
  all_goals first | omega | (rw [Bool.eq_iff_iff]; simp; omega)
theorem rmul_c (a b : Int) (w : World) (ha : W a) (hb : W b) :
    Calls Tryz.prog 80 #[.int .u64 a, .int .u64 b] w fun e w' => e = .returned (.tuple #[.int .u64 (mulH a b), .int .u64 (mulL a b)]) ∧ w = w' := by
  have hfin := mul_halves (a / 4294967296) (a % 4294967296) (b / 4294967296) (b % 4294967296)
  obtain ⟨ha, ha'⟩ := ha
  obtain ⟨hb, hb'⟩ := hb
  replace hfin := hfin (by omega) (by omega) (by omega) (by omega) (by omega) (by omega) (by omega) (by omega)
  rw [show a / 4294967296 * 4294967296 + a % 4294967296 = a from by omega, show b / 4294967296 * 4294967296 + b % 4294967296 = b from by omega] at hfin
  have p1 := half_mul (x := a / 4294967296) (y := b / 4294967296) (by omega) (by omega) (by omega) (by omega)
  have p2 := half_mul (x := a / 4294967296) (y := b % 4294967296) (by omega) (by omega) (by omega) (by omega)
  have p3 := half_mul (x := a % 4294967296) (y := b / 4294967296) (by omega) (by omega) (by omega) (by omega)
  have p4 := half_mul (x := a % 4294967296) (y := b % 4294967296) (by omega) (by omega) (by omega) (by omega)
  have l1 := and_low a ha ha'
  have l2 := and_low b hb hb'
  have l3 := and_low (a / 4294967296 * (b % 4294967296) + a % 4294967296 * (b % 4294967296) / 4294967296) (by omega) (by omega)
  have H := Lib.hid hfin
  clear hfin
  go_enter Tryz.func80, Tryz.ntmps80
  go_wp2_with fail
  go_ret2
  refine ⟨ret_ii ?_ ?_, rfl⟩
  · exact H.out.1.symm
  · rw [IntKind.wrap_u64]; rfl
end Wd
end Go.Proofs.YtikbnfhnimjmmaaGreatDoor
