/- The walk of WordNames: the chapter's examples come out. -/
import Derived.Test.YtpbdbmfmganhfaaLives01
namespace Go.Proofs.Ytpbdbmfmganhfaa.wordNames
open Go.RowKit Wd
set_option linter.unusedVariables false
theorem wn (a : Int) (h0 : 0 ≤ a) (h1 : a ≤ 18446744073709551615) : W a := ⟨h0, h1⟩
theorem walk (w : World) :
    Calls Try.prog 3 #[] w fun e w' => e = .returned (.bool true) ∧ Grown w w' := by
  have s1 : sub 0 0 true = 18446744073709551615 := by decide
  have s2 : subO 0 0 true = true := by decide
  have m1 : mulH 18446744073709551615 18446744073709551615 = 18446744073709551614 := by decide
  have m2 : mulL 18446744073709551615 18446744073709551615 = 1 := by decide
  have d1 : divV 1 5 10 = .tuple #[.int .u64 1844674407370955162, .int .u64 1, .bool true] := by
    have : divQ 1 5 10 = 1844674407370955162 := by decide
    have g : divR 1 5 10 = 1 := by decide
    unfold divV; rw [if_pos (by decide), this, g]
  have d2 : divV 10 5 10 = .tuple #[.int .u64 0, .int .u64 0, .bool false] := if_neg (by decide)
  have i1 : invV 6 = .tuple #[.int .u64 0, .bool false] := if_pos (by decide)
  have c1 : Wd.choose 240 171 205 = 173 := by decide +kernel
  have b1 : Lib.bitLen (0 : Int).toNat = 0 := by decide +kernel
  have b2 : Lib.bitLen (9223372036854775808 : Int).toNat = 64 := by decide +kernel
  have b3 : Lib.bitLen (5 : Int).toNat = 3 := by decide +kernel
  have K0 := Lib.hid b1
  have K1 := Lib.hid b2
  have K2 := Lib.hid b3
  have M1 : ∀ w, Calls Try.prog 14 #[.bool true] w fun e w' => e = .returned (.int .u64 18446744073709551615) ∧ w = w' := fun w => mask_c true w
  have M2 : ∀ w, Calls Try.prog 14 #[.bool false] w fun e w' => e = .returned (.int .u64 0) ∧ w = w' := fun w => mask_c false w
  have N1 := Lib.hid M1
  have N2 := Lib.hid M2
  have D1 := Lib.hid d1
  have D2 := Lib.hid d2
  have I1 := Lib.hid i1
  clear b1 b2 b3 M1 M2 d1 d2 i1
  go_enter Try.func3, Try.ntmps3
  go_wp2_with fail
  refine (lives_c _).mono ?_; rintro e w' ⟨rfl, rfl⟩
  go_wp2_with fail
  refine (sub_c _ _ _ _ (wn _ (by omega) (by omega)) (wn _ (by omega) (by omega))).mono ?_; rintro e w' ⟨rfl, rfl⟩
  rw [s1, s2]
  go_wp2_with fail
  refine (mul_c _ _ _ (wn _ (by omega) (by omega)) (wn _ (by omega) (by omega))).mono ?_; rintro e w' ⟨rfl, rfl⟩
  rw [m1, m2]
  go_wp2_with fail
  refine (div_c _ _ _ _ (wn _ (by omega) (by omega)) (wn _ (by omega) (by omega)) (wn _ (by omega) (by omega))).mono ?_; rintro e w' ⟨rfl, n1, rfl⟩
  rw [D1.out]
  go_wp2_with fail
  refine (div_c _ _ _ _ (wn _ (by omega) (by omega)) (wn _ (by omega) (by omega)) (wn _ (by omega) (by omega))).mono ?_; rintro e w' ⟨rfl, n2, rfl⟩
  rw [D2.out]
  go_wp2_with fail
  refine (inverse_c _ _ (wn _ (by omega) (by omega))).mono ?_; rintro e w' ⟨rfl, rfl⟩
  rw [I1.out]
  go_wp2_with fail
  refine (N1.out _).mono ?_; rintro e w' ⟨rfl, rfl⟩
  go_wp2_with fail
  refine (N2.out _).mono ?_; rintro e w' ⟨rfl, rfl⟩
  go_wp2_with fail
  refine (choose_c _ _ _ _).mono ?_; rintro e w' ⟨rfl, rfl⟩
  rw [c1]
  go_wp2_with fail
  refine (bits_c _ _ (wn _ (by omega) (by omega))).mono ?_; rintro e w' ⟨rfl, rfl⟩
  rw [K0.out]
  go_wp2_with fail
  refine (bits_c _ _ (wn _ (by omega) (by omega))).mono ?_; rintro e w' ⟨rfl, rfl⟩
  rw [K1.out]
  go_wp2_with fail
  refine (bits_c _ _ (wn _ (by omega) (by omega))).mono ?_; rintro e w' ⟨rfl, rfl⟩
  rw [K2.out]
  go_wp2_with fail
  go_ret
  exact ⟨rfl, grown_drewN (grown_drewN (Grown.refl _) n1) n2⟩
end Go.Proofs.Ytpbdbmfmganhfaa.wordNames
