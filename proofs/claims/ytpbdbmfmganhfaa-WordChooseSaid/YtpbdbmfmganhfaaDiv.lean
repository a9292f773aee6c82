/- The contract of math/bits.Div64: quotient and rest of two words by one that is above the higher one. -/
import Derived.Test.YtpbdbmfmganhfaaWordC
import Derived.Test.YtpbdbmfmganhfaaDivM
import Derived.Test.YtpbdbmfmganhfaaShelf
import Derived.Deep.QuietTactic
import Derived.BigQuiet
namespace Go.Proofs.Ytpbdbmfmganhfaa
open Go.RowKit
namespace Wd
set_option linter.unusedVariables false

theorem div64_0 (l y : Int) (w : World) (hl : W l) (hy : W y) (h : 1 ≤ y) :
    Calls Try.prog 28 #[.int .u64 0, .int .u64 l, .int .u64 y] w fun e w' => e = .returned (.tuple #[.int .u64 (l / y), .int .u64 (l % y)]) ∧ ∃ n, w' = w.drewN n := by
  obtain ⟨hl, hl'⟩ := hl
  obtain ⟨hy, hy'⟩ := hy
  have y0 : (y == 0) = false := by rw [beq_eq_false_iff_ne]; omega
  have y1 : decide (y ≤ 0) = false := by simp; omega
  go_enter Try.func28, Try.ntmps28
  go_wp2_with fail
  go_quiet (fail)
  go_wp2_with fail
  go_ret2
  exact ⟨rfl, _, rfl⟩
set_option maxHeartbeats 4000000 in
set_option maxRecDepth 100000 in
/-- the walk over numbers that are moved up already: Y is the divisor, U and V the dividend's upper word and lower one -/
theorem div64_w (k h l y Y U V q1 u2 q0 r : Int) (w : World) (hh : W h) (hl : W l) (hy : W y) (h1 : 1 ≤ h) (hlt : h + 1 ≤ y) (hk : Hid ((64 : Int) - Lib.bitLen y.toNat = k)) (k0 : 0 ≤ k) (k1 : k ≤ 63)
    (e1 : IntKind.u64.wrap (y * 2 ^ k.toNat) = Y) (e2 : bits .or .u64 (IntKind.u64.wrap (h * 2 ^ k.toNat)) (l / 2 ^ (64 - k).toNat) = U) (e3 : IntKind.u64.wrap (l * 2 ^ k.toNat) = V)
    (y0 : 9223372036854775808 ≤ Y) (y1 : Y ≤ 18446744073709551615) (u0 : 0 ≤ U) (u1 : U + 1 ≤ Y) (v0 : 0 ≤ V) (v1 : V ≤ 18446744073709551615)
    (d1 : Hid ((U * 4294967296 + V / 4294967296) / Y = q1)) (d2 : Hid ((U * 4294967296 + V / 4294967296) % Y = u2))
    (d3 : Hid ((u2 * 4294967296 + V % 4294967296) / Y = q0)) (R : Int) (d4 : Hid ((u2 * 4294967296 + V % 4294967296) % Y = R)) (d5 : Hid (R / 2 ^ k.toNat = r)) :
    Calls Try.prog 28 #[.int .u64 h, .int .u64 l, .int .u64 y] w fun e w' => e = .returned (.tuple #[.int .u64 (q1 * 4294967296 + q0), .int .u64 r]) ∧ w = w' := by
  obtain ⟨hh, hh'⟩ := hh
  obtain ⟨hl, hl'⟩ := hl
  obtain ⟨hy, hy'⟩ := hy
  have z0 : (y == 0) = false := by rw [beq_eq_false_iff_ne]; omega
  have z1 : decide (y ≤ h) = false := by simp; omega
  have z2 : (h == 0) = false := by rw [beq_eq_false_iff_ne]; omega
  have f1 := and_low Y (by omega) y1
  have f2 := and_low V v0 v1
  have hYab : Y = Y / 4294967296 * 4294967296 + Y % 4294967296 := by omega
  have g1 := kn_first Y U (V / 4294967296) (Y / 4294967296) (Y % 4294967296) hYab (by omega) (by omega) (by omega) u0 u1 (by omega) (by omega)
  obtain ⟨g1, g2, g3, g4, g5, g6⟩ := g1
  have g4' : U - U / (Y / 4294967296) * (Y / 4294967296) = U % (Y / 4294967296) := by omega
  have g7 : U % (Y / 4294967296) < Y / 4294967296 := Int.emod_lt_of_pos U (by omega)
  have g8 : 0 ≤ U % (Y / 4294967296) := Int.emod_nonneg U (by omega)
  have w0 : 0 ≤ u2 := by rw [← d2.out]; exact Int.emod_nonneg _ (by omega)
  have w1 : u2 + 1 ≤ Y := by have := Int.emod_lt_of_pos (U * 4294967296 + V / 4294967296) (show 0 < Y by omega); rw [d2.out] at this; omega
  have g1b := kn_first Y u2 (V % 4294967296) (Y / 4294967296) (Y % 4294967296) hYab (by omega) (by omega) (by omega) w0 w1 (by omega) (by omega)
  obtain ⟨n1, n2, n3, n4, n5, n6⟩ := g1b
  have n4' : u2 - u2 / (Y / 4294967296) * (Y / 4294967296) = u2 % (Y / 4294967296) := by omega
  have n7 : u2 % (Y / 4294967296) < Y / 4294967296 := Int.emod_lt_of_pos u2 (by omega)
  have n8 : 0 ≤ u2 % (Y / 4294967296) := Int.emod_nonneg u2 (by omega)
  have m0 : 0 ≤ q1 := by rw [← d1.out]; exact Int.ediv_nonneg (by omega) (by omega)
  have m1 : q1 < 4294967296 := by rw [← d1.out]; exact Int.ediv_lt_of_lt_mul (by omega) (by omega)
  have m2 : 0 ≤ q0 := by rw [← d3.out]; exact Int.ediv_nonneg (by omega) (by omega)
  have m3 : q0 < 4294967296 := by rw [← d3.out]; exact Int.ediv_lt_of_lt_mul (by omega) (by omega)
  have e9 : IntKind.u64.wrap (IntKind.u64.wrap (IntKind.u64.wrap (U * 4294967296) + V / 4294967296) - IntKind.u64.wrap (q1 * Y)) = u2 := by
    have m := Int.mul_ediv_add_emod (U * 4294967296 + V / 4294967296) Y
    rw [d1.out, d2.out, Int.mul_comm] at m
    simp only [IntKind.wrap_u64]; omega
  have r0 : 0 ≤ R := by rw [← d4.out]; exact Int.emod_nonneg _ (by omega)
  have r1 : R + 1 ≤ Y := by have := Int.emod_lt_of_pos (u2 * 4294967296 + V % 4294967296) (show 0 < Y by omega); rw [d4.out] at this; omega
  have e10 : IntKind.u64.wrap (IntKind.u64.wrap (IntKind.u64.wrap (u2 * 4294967296) + V % 4294967296) - IntKind.u64.wrap (q0 * Y)) = R := by
    have m := Int.mul_ediv_add_emod (u2 * 4294967296 + V % 4294967296) Y
    rw [d3.out, d4.out, Int.mul_comm] at m
    simp only [IntKind.wrap_u64]; omega
  have G4 := Lib.hid g4
  have N4 := Lib.hid n4
  have G1 := Lib.hid g1
  have N1 := Lib.hid n1
  have HY := Lib.hid hYab
  clear g4 hYab n4 g1 n1
  go_enter Try.func28, Try.ntmps28
  go_wp2_with fail
  refine (Try.bits_LeadingZeros64 _ _ hy hy').mono ?_; rintro e w' ⟨rfl, rfl⟩
  rw [hk.out]
  go_wp2_with fail
  go_loop [15, 16] (fun q r => ∃ a b : Int, q = .int .u64 a ∧ r = .int .u64 b ∧ 0 ≤ b ∧ b < 4294967296 ∧ 0 ≤ a ∧ a ≤ 4294967297 ∧ Hid (a * (Y / 4294967296) + b = U) ∧ Hid ((U * 4294967296 + V / 4294967296) / Y ≤ a)) (fun q _ => (intOf q).toNat)
  case atStart => exact ⟨_, _, rfl, rfl, by omega, by omega, by omega, by omega, G4, G1⟩
  case round =>
    obtain ⟨a, b, rfl, rfl, hb0, hb1, ha0, ha1, R1, R2⟩ := hrel
    rcases kn_round Y U (V / 4294967296) a b (Y / 4294967296) (Y % 4294967296) HY.out (by omega) (by omega) (by omega) u1 (by omega) (by omega) (by omega) (by omega) (by omega) ha0 ha1 hb0 hb1 R1.out R2.out with ⟨hc, hb, ap, E8, ST⟩ | ⟨hc1, hc, hb, ap, pp, E8, ST⟩ | ⟨hc, hb, ap, ef⟩ | ⟨hc1, hc, hb, ap, pp, ef⟩ | ⟨hc, hc1, pp, ef⟩
    · go_wp2_with fail
      go_round
      case rel => exact ⟨_, _, rfl, rfl, by omega, by omega, by omega, by omega, E8, ST⟩
      case measure => simp [intOf]; omega
    · go_wp2_with fail
      go_round
      case rel => exact ⟨_, _, rfl, rfl, by omega, by omega, by omega, by omega, E8, ST⟩
      case measure => simp [intOf]; omega
    · obtain rfl : a = q1 + 1 := by have := ef.out; have := d1.out; omega
      clear ef R1 R2
      go_wp2_with fail
      go_loop [18, 16] (fun q r => ∃ a b : Int, q = .int .u64 a ∧ r = .int .u64 b ∧ 0 ≤ b ∧ b < 4294967296 ∧ 0 ≤ a ∧ a ≤ 4294967297 ∧ Hid (a * (Y / 4294967296) + b = u2) ∧ Hid ((u2 * 4294967296 + V % 4294967296) / Y ≤ a)) (fun q _ => (intOf q).toNat)
      case atStart => exact ⟨_, _, rfl, rfl, by omega, by omega, by omega, by omega, N4, N1⟩
      case round =>
        obtain ⟨a, b, rfl, rfl, hb0, hb1, ha0, ha1, R1, R2⟩ := hrel
        rcases kn_round Y u2 (V % 4294967296) a b (Y / 4294967296) (Y % 4294967296) HY.out (by omega) (by omega) (by omega) w1 (by omega) (by omega) (by omega) (by omega) (by omega) ha0 ha1 hb0 hb1 R1.out R2.out with ⟨hc, hb, ap, E8, ST⟩ | ⟨hc1, hc, hb, ap, pp, E8, ST⟩ | ⟨hc, hb, ap, ef⟩ | ⟨hc1, hc, hb, ap, pp, ef⟩ | ⟨hc, hc1, pp, ef⟩
        · go_wp2_with fail
          go_round
          case rel => exact ⟨_, _, rfl, rfl, by omega, by omega, by omega, by omega, E8, ST⟩
          case measure => simp [intOf]; omega
        · go_wp2_with fail
          go_round
          case rel => exact ⟨_, _, rfl, rfl, by omega, by omega, by omega, by omega, E8, ST⟩
          case measure => simp [intOf]; omega
        · obtain rfl : a = q0 + 1 := by have := ef.out; have := d3.out; omega
          clear ef R1 R2
          go_wp2_with fail
          go_ret2
          exact ⟨ret_ii rfl d5.out, rfl⟩
        · obtain rfl : a = q0 + 1 := by have := ef.out; have := d3.out; omega
          clear ef R1 R2
          go_wp2_with fail
          go_ret2
          exact ⟨ret_ii rfl d5.out, rfl⟩
        · obtain rfl : a = q0 := by have := ef.out; have := d3.out; omega
          clear ef R1 R2
          go_wp2_with fail
          go_ret2
          exact ⟨ret_ii rfl d5.out, rfl⟩
    · obtain rfl : a = q1 + 1 := by have := ef.out; have := d1.out; omega
      clear ef R1 R2
      go_wp2_with fail
      go_loop [18, 16] (fun q r => ∃ a b : Int, q = .int .u64 a ∧ r = .int .u64 b ∧ 0 ≤ b ∧ b < 4294967296 ∧ 0 ≤ a ∧ a ≤ 4294967297 ∧ Hid (a * (Y / 4294967296) + b = u2) ∧ Hid ((u2 * 4294967296 + V % 4294967296) / Y ≤ a)) (fun q _ => (intOf q).toNat)
      case atStart => exact ⟨_, _, rfl, rfl, by omega, by omega, by omega, by omega, N4, N1⟩
      case round =>
        obtain ⟨a, b, rfl, rfl, hb0, hb1, ha0, ha1, R1, R2⟩ := hrel
        rcases kn_round Y u2 (V % 4294967296) a b (Y / 4294967296) (Y % 4294967296) HY.out (by omega) (by omega) (by omega) w1 (by omega) (by omega) (by omega) (by omega) (by omega) ha0 ha1 hb0 hb1 R1.out R2.out with ⟨hc, hb, ap, E8, ST⟩ | ⟨hc1, hc, hb, ap, pp, E8, ST⟩ | ⟨hc, hb, ap, ef⟩ | ⟨hc1, hc, hb, ap, pp, ef⟩ | ⟨hc, hc1, pp, ef⟩
        · go_wp2_with fail
          go_round
          case rel => exact ⟨_, _, rfl, rfl, by omega, by omega, by omega, by omega, E8, ST⟩
          case measure => simp [intOf]; omega
        · go_wp2_with fail
          go_round
          case rel => exact ⟨_, _, rfl, rfl, by omega, by omega, by omega, by omega, E8, ST⟩
          case measure => simp [intOf]; omega
        · obtain rfl : a = q0 + 1 := by have := ef.out; have := d3.out; omega
          clear ef R1 R2
          go_wp2_with fail
          go_ret2
          exact ⟨ret_ii rfl d5.out, rfl⟩
        · obtain rfl : a = q0 + 1 := by have := ef.out; have := d3.out; omega
          clear ef R1 R2
          go_wp2_with fail
          go_ret2
          exact ⟨ret_ii rfl d5.out, rfl⟩
        · obtain rfl : a = q0 := by have := ef.out; have := d3.out; omega
          clear ef R1 R2
          go_wp2_with fail
          go_ret2
          exact ⟨ret_ii rfl d5.out, rfl⟩
    · obtain rfl : a = q1 := by have := ef.out; have := d1.out; omega
      clear ef R1 R2
      go_wp2_with fail
      go_loop [18, 16] (fun q r => ∃ a b : Int, q = .int .u64 a ∧ r = .int .u64 b ∧ 0 ≤ b ∧ b < 4294967296 ∧ 0 ≤ a ∧ a ≤ 4294967297 ∧ Hid (a * (Y / 4294967296) + b = u2) ∧ Hid ((u2 * 4294967296 + V % 4294967296) / Y ≤ a)) (fun q _ => (intOf q).toNat)
      case atStart => exact ⟨_, _, rfl, rfl, by omega, by omega, by omega, by omega, N4, N1⟩
      case round =>
        obtain ⟨a, b, rfl, rfl, hb0, hb1, ha0, ha1, R1, R2⟩ := hrel
        rcases kn_round Y u2 (V % 4294967296) a b (Y / 4294967296) (Y % 4294967296) HY.out (by omega) (by omega) (by omega) w1 (by omega) (by omega) (by omega) (by omega) (by omega) ha0 ha1 hb0 hb1 R1.out R2.out with ⟨hc, hb, ap, E8, ST⟩ | ⟨hc1, hc, hb, ap, pp, E8, ST⟩ | ⟨hc, hb, ap, ef⟩ | ⟨hc1, hc, hb, ap, pp, ef⟩ | ⟨hc, hc1, pp, ef⟩
        · go_wp2_with fail
          go_round
          case rel => exact ⟨_, _, rfl, rfl, by omega, by omega, by omega, by omega, E8, ST⟩
          case measure => simp [intOf]; omega
        · go_wp2_with fail
          go_round
          case rel => exact ⟨_, _, rfl, rfl, by omega, by omega, by omega, by omega, E8, ST⟩
          case measure => simp [intOf]; omega
        · obtain rfl : a = q0 + 1 := by have := ef.out; have := d3.out; omega
          clear ef R1 R2
          go_wp2_with fail
          go_ret2
          exact ⟨ret_ii rfl d5.out, rfl⟩
        · obtain rfl : a = q0 + 1 := by have := ef.out; have := d3.out; omega
          clear ef R1 R2
          go_wp2_with fail
          go_ret2
          exact ⟨ret_ii rfl d5.out, rfl⟩
        · obtain rfl : a = q0 := by have := ef.out; have := d3.out; omega
          clear ef R1 R2
          go_wp2_with fail
          go_ret2
          exact ⟨ret_ii rfl d5.out, rfl⟩
end Wd
end Go.Proofs.Ytpbdbmfmganhfaa
