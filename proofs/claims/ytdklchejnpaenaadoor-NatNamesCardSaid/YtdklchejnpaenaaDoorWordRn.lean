/- Contracts of the document's own sums, differences, products and bits of words. -/
import Derived.Test.YtdklchejnpaenaaDoorRefM
import Derived.Test.YtdklchejnpaenaaDoorWordB
namespace Go.Proofs.YtdklchejnpaenaaDoor
open Go.RowKit
namespace Wd
set_option linter.unusedVariables false

theorem radd_c (a b : Int) (c : Bool) (w : World) (ha : W a) (hb : W b) :
    Calls Tryd.prog 62 #[.int .u64 a, .int .u64 b, .bool c] w fun e w' => e = .returned (.tuple #[.int .u64 (add a b c), .bool (addO a b c)]) ∧ w = w' := by
  obtain ⟨ha, ha'⟩ := ha
  obtain ⟨hb, hb'⟩ := hb
  cases c <;> go_enter Tryd.func62, Tryd.ntmps62 <;> go_wp2 <;> go_ret2 <;> refine ⟨ret_ib ?_ ?_, rfl⟩
  all_goals (try unfold add); (try unfold addO); simp only [b1, IntKind.wrap_u64, if_true, if_false, Bool.false_eq_true] at *
  all_goals first | omega | (rw [Bool.eq_iff_iff]; simp; omega)
theorem rsub_c (a b : Int) (c : Bool) (w : World) (ha : W a) (hb : W b) :
    Calls Tryd.prog 59 #[.int .u64 a, .int .u64 b, .bool c] w fun e w' => e = .returned (.tuple #[.int .u64 (sub a b c), .bool (subO a b c)]) ∧ w = w' := by
  obtain ⟨ha, ha'⟩ := ha
  obtain ⟨hb, hb'⟩ := hb
  cases c <;> go_enter Tryd.func59, Tryd.ntmps59 <;> go_wp2 <;> go_ret2 <;> refine ⟨ret_ib ?_ ?_, rfl⟩
  all_goals (try unfold sub); (try unfold subO); simp only [b1, IntKind.wrap_u64, if_true, if_false, Bool.false_eq_true] at *
  all_goals first | omega | (rw [Bool.eq_iff_iff]; simp; omega)
theorem rmul_c (a b : Int) (w : World) (ha : W a) (hb : W b) :
    Calls Tryd.prog 63 #[.int .u64 a, .int .u64 b] w fun e w' => e = .returned (.tuple #[.int .u64 (mulH a b), .int .u64 (mulL a b)]) ∧ w = w' := by
  have hfin := mul_halves (a / 4294967296) (a % 4294967296) (b / 4294967296) (b % 4294967296)
  obtain ⟨ha, ha'⟩ := ha
  obtain ⟨hb, hb'⟩ := hb
  replace hfin := hfin (by omega) (by omega) (by omega) (by omega) (by omega) (by omega) (by omega) (by omega)
  rw [show a / 4294967296 * 4294967296 + a % 4294967296 = a from by omega, show b / 4294967296 * 4294967296 + b % 4294967296 = b from by omega] at hfin
  have p1 := half_mul (x := a / 4294967296) (y := b / 4294967296) (by omega) (by omega) (by omega) (by omega)
  have p2 := half_mul (x := a / 4294967296) (y := b % 4294967296) (by omega) (by omega) (by omega) (by omega)
  have p3 := half_mul (x := a % 4294967296) (y := b / 4294967296) (by omega) (by omega) (by omega) (by omega)
  have p4 := half_mul (x := a % 4294967296) (y := b % 4294967296) (by omega) (by omega) (by omega) (by omega)
  have l1 := and_low a ha ha'
  have l2 := and_low b hb hb'
  have l3 := and_low (a / 4294967296 * (b % 4294967296) + a % 4294967296 * (b % 4294967296) / 4294967296) (by omega) (by omega)
  have H := Lib.hid hfin
  clear hfin
  go_enter Tryd.func63, Tryd.ntmps63
  go_wp2_with fail
  go_ret2
  refine ⟨ret_ii ?_ ?_, rfl⟩
  · exact H.out.1.symm
  · rw [IntKind.wrap_u64]; rfl
theorem rbits_c (a : Int) (w : World) (ha : W a) :
    Calls Tryd.prog 42 #[.int .u64 a] w fun e w' => e = .returned (.int .i64 (Lib.bitLen a.toNat)) ∧ w = w' := by
  obtain ⟨ha, ha'⟩ := ha
  obtain ⟨n, rfl⟩ := Int.eq_ofNat_of_zero_le ha
  have b0 := (bl_spec n (by omega)).2.2
  go_enter Tryd.func42, Tryd.ntmps42
  go_wp2_with fail
  go_loop [0, 3] (fun a c => ∃ m k : Nat, a = .int .u64 m ∧ c = .int .i64 k ∧ m ≤ n ∧ k ≤ 64 ∧ Hid (k + Lib.bitLen m = Lib.bitLen n)) (fun a _ => (intOf a).toNat)
  case atStart => exact ⟨n, 0, rfl, rfl, Nat.le_refl _, by omega, Nat.zero_add _⟩
  case round =>
    obtain ⟨m, k, rfl, rfl, hm, hk, H⟩ := hrel
    by_cases h0 : m = 0
    · have e : k = Lib.bitLen n := by have := H.out; rw [h0, bl_zero] at this; omega
      have E := Lib.hid e
      have H0 : (m : Int) ≤ 0 := by omega
      clear e h0
      go_wp2_with fail
      go_ret
      exact ⟨by rw [E.out]; rfl, rfl⟩
    · have e : k + 1 + Lib.bitLen (m / 2) = Lib.bitLen n := by have := H.out; rw [Lib.bitLen_half m h0 (by omega)] at this; omega
      have E := Lib.hid e
      have H0 : 0 < (m : Int) := by omega
      have k1 : k + 1 ≤ 64 := by omega
      clear e h0
      go_wp2_with fail
      go_round
      case rel => exact ⟨m / 2, k + 1, by go_num, by go_num, by omega, k1, E⟩
      case measure => (simp [intOf] <;> omega)
end Wd
end Go.Proofs.YtdklchejnpaenaaDoor
