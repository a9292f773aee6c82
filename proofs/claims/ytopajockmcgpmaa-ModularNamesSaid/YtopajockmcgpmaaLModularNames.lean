/- The walk of ModularNames. -/
import Derived.Test.YtopajockmcgpmaaM0
namespace Go.Proofs.Ytopajockmcgpmaa
open Go Go.RowKit
namespace modularNames
open Wd Sti Nt
set_option linter.unusedVariables false
set_option maxRecDepth 100000 in
set_option maxHeartbeats 16000000 in
theorem walk (w : World) : Calls Try.prog 3 #[] w fun e w' => e = .returned (.bool true) ∧ Below w.heap.size w w' := by
  have hB : Hid (Below w.heap.size w w) := Lib.hid (Below.refl _ w)
  go_enter Try.func3, Try.ntmps3
  try simp only [List.append]
  go_wp2_with fail
  go_at_call 9
  refine (lives3_c _).mono ?_
  rintro e w1 ⟨rfl, hb⟩
  replace hB := bel_step hB hb
  clear hb
  go_wp2_with fail
  go_at_call 11
  refine (one_r 1 (Wx _ (by omega)) _).mono ?_
  rintro e w2 ⟨v, rfl, Qk1, nk1, ck1, zk1, rfl, i_k1, g_k1, hb⟩
  replace hB := bel_step hB hb
  clear hb
  go_wp2_with fail
  go_at_call 11
  refine (one_r 2 (Wx _ (by omega)) _).mono ?_
  rintro e w3 ⟨v, rfl, Qk2, nk2, ck2, zk2, rfl, i_k2, g_k2, hb⟩
  replace hB := bel_step hB hb
  replace g_k1 := Gd.step g_k1 hb
  clear hb
  have g_nil := Gd.nil w3 1
  go_wp2_with fail
  go_at_call 10
  refine (madd_o g_k1 g_k2 g_nil (by omega) (by omega)).mono ?_
  rintro e w4 ⟨Qk3, nk3, ck3, zk3, evk3, rfl, o_k3, g_k3, hb⟩
  replace hB := bel_step hB hb
  replace g_k1 := Gd.step g_k1 hb
  replace g_k2 := Gd.step g_k2 hb
  replace g_nil := Gd.step g_nil hb
  clear hb
  obtain rfl : evk3 = 2 := by rcases o_k3.out with ⟨h, _⟩ | ⟨_, _, h⟩; exact absurd rfl h; exact h
  clear o_k3
  clear g_k3
  clear g_k1
  clear g_k2
  go_wp2_with fail
  go_at_call 11
  refine (one_r 4 (Wx _ (by omega)) _).mono ?_
  rintro e w5 ⟨v, rfl, Qk4, nk4, ck4, zk4, rfl, i_k4, g_k4, hb⟩
  replace hB := bel_step hB hb
  replace g_nil := Gd.step g_nil hb
  clear hb
  go_wp2_with fail
  go_at_call 11
  refine (one_r 10 (Wx _ (by omega)) _).mono ?_
  rintro e w6 ⟨v, rfl, Qk5, nk5, ck5, zk5, rfl, i_k5, g_k5, hb⟩
  replace hB := bel_step hB hb
  replace g_nil := Gd.step g_nil hb
  replace g_k4 := Gd.step g_k4 hb
  clear hb
  go_wp2_with fail
  go_at_call 12
  refine (minv_o g_k4 g_k5 (by omega) (by omega)).mono ?_
  rintro e w7 ⟨Qk6, nk6, ck6, zk6, evk6, rfl, o_k6, g_k6, hb⟩
  replace hB := bel_step hB hb
  replace g_nil := Gd.step g_nil hb
  replace g_k4 := Gd.step g_k4 hb
  replace g_k5 := Gd.step g_k5 hb
  clear hb
  obtain rfl : evk6 = 5 := by
    rcases o_k6.out with ⟨h, _⟩ | ⟨_, _, _, h⟩ | ⟨_, h, _⟩
    · rw [i_k5.out.v] at h; exact absurd h (by decide)
    · exact h
    · rw [i_k4.out.v, i_k5.out.v] at h; exact absurd h (by decide)
  clear o_k6
  clear g_k6
  clear g_k4
  clear g_k5
  go_wp2_with fail
  go_at_call 11
  refine (one_r 7 (Wx _ (by omega)) _).mono ?_
  rintro e w8 ⟨v, rfl, Qk7, nk7, ck7, zk7, rfl, i_k7, g_k7, hb⟩
  replace hB := bel_step hB hb
  replace g_nil := Gd.step g_nil hb
  clear hb
  go_wp2_with fail
  go_at_call 11
  refine (one_r 1 (Wx _ (by omega)) _).mono ?_
  rintro e w9 ⟨v, rfl, Qk8, nk8, ck8, zk8, rfl, i_k8, g_k8, hb⟩
  replace hB := bel_step hB hb
  replace g_nil := Gd.step g_nil hb
  replace g_k7 := Gd.step g_k7 hb
  clear hb
  go_wp2_with fail
  go_at_call 12
  refine (minv_o g_k7 g_k8 (by omega) (by omega)).mono ?_
  rintro e w10 ⟨Qk9, nk9, ck9, zk9, evk9, rfl, o_k9, g_k9, hb⟩
  replace hB := bel_step hB hb
  replace g_nil := Gd.step g_nil hb
  replace g_k7 := Gd.step g_k7 hb
  replace g_k8 := Gd.step g_k8 hb
  clear hb
  obtain ⟨i_k9, e0⟩ := inv_is (N := 0) o_k9 (by rw [i_k7.out.v]; decide) (by rw [i_k8.out.v]; decide) (by rw [i_k7.out.v, i_k8.out.v]; decide) (by decide) (by rw [i_k8.out.v]; decide) (by rw [i_k7.out.v, i_k8.out.v]; decide)
  subst e0
  clear o_k9
  obtain rfl : nk9 = 0 := by have h1 := g_k9.out.at_.len; rw [i_k9.out.uniq Is.nil] at h1; exact h1.symm
  clear g_k7
  clear g_k8
  clear g_k9
  go_wp2_with fail
  go_at_call 11
  refine (one_r 4 (Wx _ (by omega)) _).mono ?_
  rintro e w11 ⟨v, rfl, Qk10, nk10, ck10, zk10, rfl, i_k10, g_k10, hb⟩
  replace hB := bel_step hB hb
  replace g_nil := Gd.step g_nil hb
  clear hb
  go_wp2_with fail
  go_at_call 13
  refine (mcon_o g_k10 (by omega)).mono ?_
  rintro e w12 ⟨xk11, evk11, rfl, o_k11, hb⟩
  replace hB := bel_step hB hb
  replace g_nil := Gd.step g_nil hb
  replace g_k10 := Gd.step g_k10 hb
  clear hb
  obtain rfl : evk11 = 2 := by
    rcases o_k11.out with ⟨_, _, h⟩ | ⟨h, _⟩
    · exact h
    · rw [i_k10.out.v] at h; exact absurd h (by decide)
  clear o_k11
  clear g_k10
  go_wp2_with fail
  go_at_call 11
  refine (one_r 3 (Wx _ (by omega)) _).mono ?_
  rintro e w13 ⟨v, rfl, Qk12, nk12, ck12, zk12, rfl, i_k12, g_k12, hb⟩
  replace hB := bel_step hB hb
  replace g_nil := Gd.step g_nil hb
  clear hb
  go_wp2_with fail
  go_at_call 14
  refine (mrad_o (-1) g_k12 (by omega)).mono ?_
  rintro e w14 ⟨Qk13, nk13, ck13, zk13, evk13, rfl, o_k13, g_k13, hb⟩
  replace hB := bel_step hB hb
  replace g_nil := Gd.step g_nil hb
  replace g_k12 := Gd.step g_k12 hb
  clear hb
  obtain rfl : evk13 = 2 := by
    rcases o_k13.out with ⟨_, _, h⟩ | ⟨h, _⟩
    · exact h
    · exact absurd h (by decide)
  clear o_k13
  clear g_k12
  clear g_k13
  go_wp2_with fail
  go_at_call 11
  refine (one_r 1 (Wx _ (by omega)) _).mono ?_
  rintro e w15 ⟨v, rfl, Qk14, nk14, ck14, zk14, rfl, i_k14, g_k14, hb⟩
  replace hB := bel_step hB hb
  replace g_nil := Gd.step g_nil hb
  clear hb
  go_wp2_with fail
  go_at_call 11
  refine (one_r 4 (Wx _ (by omega)) _).mono ?_
  rintro e w16 ⟨v, rfl, Qk15, nk15, ck15, zk15, rfl, i_k15, g_k15, hb⟩
  replace hB := bel_step hB hb
  replace g_nil := Gd.step g_nil hb
  replace g_k14 := Gd.step g_k14 hb
  clear hb
  go_wp2_with fail
  go_at_call 15
  refine (mred_o 1 g_k14 g_k15 (by omega) (by omega)).mono ?_
  rintro e w17 ⟨Qk16, nk16, ck16, zk16, evk16, rfl, o_k16, g_k16, hb⟩
  replace hB := bel_step hB hb
  replace g_nil := Gd.step g_nil hb
  replace g_k14 := Gd.step g_k14 hb
  replace g_k15 := Gd.step g_k15 hb
  clear hb
  obtain rfl : evk16 = 2 := by
    rcases o_k16.out with ⟨_, _, h⟩ | ⟨_, _, _, h, _⟩
    · exact h
    · rw [i_k15.out.v] at h; exact absurd h (by decide)
  clear o_k16
  clear g_k14
  clear g_k15
  clear g_k16
  go_wp2_with fail
  go_at_call 11
  refine (one_r 8 (Wx _ (by omega)) _).mono ?_
  rintro e w18 ⟨v, rfl, Qk17, nk17, ck17, zk17, rfl, i_k17, g_k17, hb⟩
  replace hB := bel_step hB hb
  replace g_nil := Gd.step g_nil hb
  clear hb
  go_wp2_with fail
  go_at_call 11
  refine (one_r 7 (Wx _ (by omega)) _).mono ?_
  rintro e w19 ⟨v, rfl, Qk18, nk18, ck18, zk18, rfl, i_k18, g_k18, hb⟩
  replace hB := bel_step hB hb
  replace g_nil := Gd.step g_nil hb
  replace g_k17 := Gd.step g_k17 hb
  clear hb
  go_wp2_with fail
  go_at_call 11
  refine (one_r 10 (Wx _ (by omega)) _).mono ?_
  rintro e w20 ⟨v, rfl, Qk19, nk19, ck19, zk19, rfl, i_k19, g_k19, hb⟩
  replace hB := bel_step hB hb
  replace g_nil := Gd.step g_nil hb
  replace g_k17 := Gd.step g_k17 hb
  replace g_k18 := Gd.step g_k18 hb
  clear hb
  go_wp2_with fail
  go_at_call 10
  refine (madd_o g_k17 g_k18 g_k19 (by omega) (by omega)).mono ?_
  rintro e w21 ⟨Qk20, nk20, ck20, zk20, evk20, rfl, o_k20, g_k20, hb⟩
  replace hB := bel_step hB hb
  replace g_nil := Gd.step g_nil hb
  replace g_k17 := Gd.step g_k17 hb
  replace g_k18 := Gd.step g_k18 hb
  replace g_k19 := Gd.step g_k19 hb
  clear hb
  obtain ⟨i_k20, e0⟩ := ModO.ok o_k20 (by rw [i_k19.out.v]; decide)
  subst e0
  clear o_k20
  rw [i_k17.out.v, i_k18.out.v, i_k19.out.v] at i_k20
  clear g_k17
  clear g_k18
  clear g_k19
  go_wp2_with fail
  go_at_call 11
  refine (one_r 3 (Wx _ (by omega)) _).mono ?_
  rintro e w22 ⟨v, rfl, Qk21, nk21, ck21, zk21, rfl, i_k21, g_k21, hb⟩
  replace hB := bel_step hB hb
  replace g_nil := Gd.step g_nil hb
  replace g_k20 := Gd.step g_k20 hb
  clear hb
  go_wp2_with fail
  go_at_call 11
  refine (one_r 28 (Wx _ (by omega)) _).mono ?_
  rintro e w23 ⟨v, rfl, Qk22, nk22, ck22, zk22, rfl, i_k22, g_k22, hb⟩
  replace hB := bel_step hB hb
  replace g_nil := Gd.step g_nil hb
  replace g_k20 := Gd.step g_k20 hb
  replace g_k21 := Gd.step g_k21 hb
  clear hb
  go_wp2_with fail
  go_at_call 11
  refine (one_r 10 (Wx _ (by omega)) _).mono ?_
  rintro e w24 ⟨v, rfl, Qk23, nk23, ck23, zk23, rfl, i_k23, g_k23, hb⟩
  replace hB := bel_step hB hb
  replace g_nil := Gd.step g_nil hb
  replace g_k20 := Gd.step g_k20 hb
  replace g_k21 := Gd.step g_k21 hb
  replace g_k22 := Gd.step g_k22 hb
  clear hb
  go_wp2_with fail
  go_at_call 16
  refine (msub_o g_k21 g_k22 g_k23 (by omega) (by omega)).mono ?_
  rintro e w25 ⟨Qk24, nk24, ck24, zk24, evk24, rfl, o_k24, g_k24, hb⟩
  replace hB := bel_step hB hb
  replace g_nil := Gd.step g_nil hb
  replace g_k20 := Gd.step g_k20 hb
  replace g_k21 := Gd.step g_k21 hb
  replace g_k22 := Gd.step g_k22 hb
  replace g_k23 := Gd.step g_k23 hb
  clear hb
  obtain ⟨i_k24, e0⟩ := ModO.ok o_k24 (by rw [i_k23.out.v]; decide)
  subst e0
  clear o_k24
  rw [i_k21.out.v, i_k22.out.v, i_k23.out.v] at i_k24
  clear g_k21
  clear g_k22
  clear g_k23
  go_wp2_with fail
  go_at_call 11
  refine (one_r 8 (Wx _ (by omega)) _).mono ?_
  rintro e w26 ⟨v, rfl, Qk25, nk25, ck25, zk25, rfl, i_k25, g_k25, hb⟩
  replace hB := bel_step hB hb
  replace g_nil := Gd.step g_nil hb
  replace g_k20 := Gd.step g_k20 hb
  replace g_k24 := Gd.step g_k24 hb
  clear hb
  go_wp2_with fail
  go_at_call 11
  refine (one_r 7 (Wx _ (by omega)) _).mono ?_
  rintro e w27 ⟨v, rfl, Qk26, nk26, ck26, zk26, rfl, i_k26, g_k26, hb⟩
  replace hB := bel_step hB hb
  replace g_nil := Gd.step g_nil hb
  replace g_k20 := Gd.step g_k20 hb
  replace g_k24 := Gd.step g_k24 hb
  replace g_k25 := Gd.step g_k25 hb
  clear hb
  go_wp2_with fail
  go_at_call 11
  refine (one_r 10 (Wx _ (by omega)) _).mono ?_
  rintro e w28 ⟨v, rfl, Qk27, nk27, ck27, zk27, rfl, i_k27, g_k27, hb⟩
  replace hB := bel_step hB hb
  replace g_nil := Gd.step g_nil hb
  replace g_k20 := Gd.step g_k20 hb
  replace g_k24 := Gd.step g_k24 hb
  replace g_k25 := Gd.step g_k25 hb
  replace g_k26 := Gd.step g_k26 hb
  clear hb
  go_wp2_with fail
  go_at_call 17
  refine (mmul_o g_k25 g_k26 g_k27 (by omega) (by omega)).mono ?_
  rintro e w29 ⟨Qk28, nk28, ck28, zk28, evk28, rfl, o_k28, g_k28, hb⟩
  replace hB := bel_step hB hb
  replace g_nil := Gd.step g_nil hb
  replace g_k20 := Gd.step g_k20 hb
  replace g_k24 := Gd.step g_k24 hb
  replace g_k25 := Gd.step g_k25 hb
  replace g_k26 := Gd.step g_k26 hb
  replace g_k27 := Gd.step g_k27 hb
  clear hb
  obtain ⟨i_k28, e0⟩ := ModO.ok o_k28 (by rw [i_k27.out.v]; decide)
  subst e0
  clear o_k28
  rw [i_k25.out.v, i_k26.out.v, i_k27.out.v] at i_k28
  clear g_k25
  clear g_k26
  clear g_k27
  go_wp2_with fail
  go_at_call 11
  refine (one_r 9 (Wx _ (by omega)) _).mono ?_
  rintro e w30 ⟨v, rfl, Qk29, nk29, ck29, zk29, rfl, i_k29, g_k29, hb⟩
  replace hB := bel_step hB hb
  replace g_nil := Gd.step g_nil hb
  replace g_k20 := Gd.step g_k20 hb
  replace g_k24 := Gd.step g_k24 hb
  replace g_k28 := Gd.step g_k28 hb
  clear hb
  go_wp2_with fail
  go_at_call 11
  refine (one_r 1 (Wx _ (by omega)) _).mono ?_
  rintro e w31 ⟨v, rfl, Qk30, nk30, ck30, zk30, rfl, i_k30, g_k30, hb⟩
  replace hB := bel_step hB hb
  replace g_nil := Gd.step g_nil hb
  replace g_k20 := Gd.step g_k20 hb
  replace g_k24 := Gd.step g_k24 hb
  replace g_k28 := Gd.step g_k28 hb
  replace g_k29 := Gd.step g_k29 hb
  clear hb
  replace g_nil := Gd.nil w31 1
  go_wp2_with fail
  go_at_call 18
  refine (mpow_o g_k29 g_nil g_k30 (by omega) (by omega) 0 rfl).mono ?_
  rintro e w32 ⟨Qk31, nk31, ck31, zk31, evk31, rfl, o_k31, g_k31, hb⟩
  replace hB := bel_step hB hb
  replace g_nil := Gd.step g_nil hb
  replace g_k20 := Gd.step g_k20 hb
  replace g_k24 := Gd.step g_k24 hb
  replace g_k28 := Gd.step g_k28 hb
  replace g_k29 := Gd.step g_k29 hb
  replace g_k30 := Gd.step g_k30 hb
  clear hb
  obtain ⟨i_k31, e0⟩ := ModO.ok o_k31 (by rw [i_k30.out.v]; decide)
  subst e0
  clear o_k31
  obtain rfl : nk31 = 0 := by have h1 := g_k31.out.at_.len; rw [i_k31.out.uniq (show Is [] _ by rw [Int.pow_zero, i_k30.out.v]; exact Is.nil)] at h1; exact h1.symm
  clear g_k29
  clear g_k30
  clear g_k31
  go_wp2_with fail
  go_at_call 11
  refine (one_r 10 (Wx _ (by omega)) _).mono ?_
  rintro e w33 ⟨v, rfl, Qk32, nk32, ck32, zk32, rfl, i_k32, g_k32, hb⟩
  replace hB := bel_step hB hb
  replace g_nil := Gd.step g_nil hb
  replace g_k20 := Gd.step g_k20 hb
  replace g_k24 := Gd.step g_k24 hb
  replace g_k28 := Gd.step g_k28 hb
  clear hb
  go_wp2_with fail
  go_at_call 14
  refine (mrad_o 1 g_k32 (by omega)).mono ?_
  rintro e w34 ⟨Qk33, nk33, ck33, zk33, evk33, rfl, o_k33, g_k33, hb⟩
  replace hB := bel_step hB hb
  replace g_nil := Gd.step g_nil hb
  replace g_k20 := Gd.step g_k20 hb
  replace g_k24 := Gd.step g_k24 hb
  replace g_k28 := Gd.step g_k28 hb
  replace g_k32 := Gd.step g_k32 hb
  clear hb
  obtain ⟨i_k33, e0⟩ : Hid (Is zk33 6) ∧ evk33 = 0 := by
    rcases o_k33.out with ⟨h, _⟩ | ⟨_, _, _, h, h2⟩
    · rw [i_k32.out.v] at h; exact absurd h (by decide)
    · rw [i_k32.out.v, P_1m] at h; exact ⟨Lib.hid h, h2⟩
  subst e0
  clear o_k33
  clear g_k32
  go_wp2_with fail
  go_at_call 11
  refine (one_r 6 (Wx _ (by omega)) _).mono ?_
  rintro e w35 ⟨v, rfl, Qk34, nk34, ck34, zk34, rfl, i_k34, g_k34, hb⟩
  replace hB := bel_step hB hb
  replace g_nil := Gd.step g_nil hb
  replace g_k20 := Gd.step g_k20 hb
  replace g_k24 := Gd.step g_k24 hb
  replace g_k28 := Gd.step g_k28 hb
  replace g_k33 := Gd.step g_k33 hb
  clear hb
  go_wp2_with fail
  go_at_call 11
  refine (one_r 5 (Wx _ (by omega)) _).mono ?_
  rintro e w36 ⟨v, rfl, Qk35, nk35, ck35, zk35, rfl, i_k35, g_k35, hb⟩
  replace hB := bel_step hB hb
  replace g_nil := Gd.step g_nil hb
  replace g_k20 := Gd.step g_k20 hb
  replace g_k24 := Gd.step g_k24 hb
  replace g_k28 := Gd.step g_k28 hb
  replace g_k33 := Gd.step g_k33 hb
  replace g_k34 := Gd.step g_k34 hb
  clear hb
  go_wp2_with fail
  go_at_call 15
  refine (mred_o 1 g_k34 g_k35 (by omega) (by omega)).mono ?_
  rintro e w37 ⟨Qk36, nk36, ck36, zk36, evk36, rfl, o_k36, g_k36, hb⟩
  replace hB := bel_step hB hb
  replace g_nil := Gd.step g_nil hb
  replace g_k20 := Gd.step g_k20 hb
  replace g_k24 := Gd.step g_k24 hb
  replace g_k28 := Gd.step g_k28 hb
  replace g_k33 := Gd.step g_k33 hb
  replace g_k34 := Gd.step g_k34 hb
  replace g_k35 := Gd.step g_k35 hb
  clear hb
  obtain ⟨i_k36, e0⟩ : Hid (Is zk36 1) ∧ evk36 = 0 := by
    rcases o_k36.out with ⟨h, _⟩ | ⟨_, _, _, _, h2, N, h3, h4, h5, h6⟩
    · rw [i_k35.out.v] at h; exact absurd h (by decide)
    · rw [i_k34.out.v, i_k35.out.v, P_1] at h6; rw [i_k35.out.v] at h5; obtain rfl : N = 1 := red_5 h4 h5 h6
      exact ⟨Lib.hid h3, h2⟩
  subst e0
  clear o_k36
  clear g_k34
  clear g_k35
  clear g_nil
  go_wp2_with fail
  go_at_call 11
  refine (one_r 5 (Wx _ (by omega)) _).mono ?_
  rintro e w38 ⟨v, rfl, Qk37, nk37, ck37, zk37, rfl, i_k37, g_k37, hb⟩
  replace hB := bel_step hB hb
  replace g_k20 := Gd.step g_k20 hb
  replace g_k24 := Gd.step g_k24 hb
  replace g_k28 := Gd.step g_k28 hb
  replace g_k33 := Gd.step g_k33 hb
  replace g_k36 := Gd.step g_k36 hb
  clear hb
  go_wp2_with fail
  go_at_call 19
  refine (sameM g_k20 g_k37 (by omega) (by omega) true (decide_eq_true (is_eq i_k20 i_k37 (by decide)))).mono ?_
  rintro e w39 ⟨rfl, hb⟩
  replace hB := bel_step hB hb
  replace g_k20 := Gd.step g_k20 hb
  replace g_k24 := Gd.step g_k24 hb
  replace g_k28 := Gd.step g_k28 hb
  replace g_k33 := Gd.step g_k33 hb
  replace g_k36 := Gd.step g_k36 hb
  replace g_k37 := Gd.step g_k37 hb
  clear hb
  clear g_k20
  clear g_k37
  go_wp2_with fail
  go_at_call 11
  refine (one_r 5 (Wx _ (by omega)) _).mono ?_
  rintro e w40 ⟨v, rfl, Qk38, nk38, ck38, zk38, rfl, i_k38, g_k38, hb⟩
  replace hB := bel_step hB hb
  replace g_k24 := Gd.step g_k24 hb
  replace g_k28 := Gd.step g_k28 hb
  replace g_k33 := Gd.step g_k33 hb
  replace g_k36 := Gd.step g_k36 hb
  clear hb
  go_wp2_with fail
  go_at_call 19
  refine (sameM g_k24 g_k38 (by omega) (by omega) true (decide_eq_true (is_eq i_k24 i_k38 (by decide)))).mono ?_
  rintro e w41 ⟨rfl, hb⟩
  replace hB := bel_step hB hb
  replace g_k24 := Gd.step g_k24 hb
  replace g_k28 := Gd.step g_k28 hb
  replace g_k33 := Gd.step g_k33 hb
  replace g_k36 := Gd.step g_k36 hb
  replace g_k38 := Gd.step g_k38 hb
  clear hb
  clear g_k24
  clear g_k38
  go_wp2_with fail
  go_at_call 11
  refine (one_r 6 (Wx _ (by omega)) _).mono ?_
  rintro e w42 ⟨v, rfl, Qk39, nk39, ck39, zk39, rfl, i_k39, g_k39, hb⟩
  replace hB := bel_step hB hb
  replace g_k28 := Gd.step g_k28 hb
  replace g_k33 := Gd.step g_k33 hb
  replace g_k36 := Gd.step g_k36 hb
  clear hb
  go_wp2_with fail
  go_at_call 19
  refine (sameM g_k28 g_k39 (by omega) (by omega) true (decide_eq_true (is_eq i_k28 i_k39 (by decide)))).mono ?_
  rintro e w43 ⟨rfl, hb⟩
  replace hB := bel_step hB hb
  replace g_k28 := Gd.step g_k28 hb
  replace g_k33 := Gd.step g_k33 hb
  replace g_k36 := Gd.step g_k36 hb
  replace g_k39 := Gd.step g_k39 hb
  clear hb
  clear g_k28
  clear g_k39
  go_wp2_with fail
  go_at_call 11
  refine (one_r 6 (Wx _ (by omega)) _).mono ?_
  rintro e w44 ⟨v, rfl, Qk40, nk40, ck40, zk40, rfl, i_k40, g_k40, hb⟩
  replace hB := bel_step hB hb
  replace g_k33 := Gd.step g_k33 hb
  replace g_k36 := Gd.step g_k36 hb
  clear hb
  go_wp2_with fail
  go_at_call 19
  refine (sameM g_k33 g_k40 (by omega) (by omega) true (decide_eq_true (is_eq i_k33 i_k40 (by decide)))).mono ?_
  rintro e w45 ⟨rfl, hb⟩
  replace hB := bel_step hB hb
  replace g_k33 := Gd.step g_k33 hb
  replace g_k36 := Gd.step g_k36 hb
  replace g_k40 := Gd.step g_k40 hb
  clear hb
  clear g_k33
  clear g_k40
  go_wp2_with fail
  go_at_call 11
  refine (one_r 1 (Wx _ (by omega)) _).mono ?_
  rintro e w46 ⟨v, rfl, Qk41, nk41, ck41, zk41, rfl, i_k41, g_k41, hb⟩
  replace hB := bel_step hB hb
  replace g_k36 := Gd.step g_k36 hb
  clear hb
  go_wp2_with fail
  go_at_call 19
  refine (sameM g_k36 g_k41 (by omega) (by omega) true (decide_eq_true (is_eq i_k36 i_k41 (by decide)))).mono ?_
  rintro e w47 ⟨rfl, hb⟩
  replace hB := bel_step hB hb
  replace g_k36 := Gd.step g_k36 hb
  replace g_k41 := Gd.step g_k41 hb
  clear hb
  clear g_k36
  clear g_k41
  go_wp2_with fail
  go_at_call 11
  refine (one_r 12 (Wx _ (by omega)) _).mono ?_
  rintro e w48 ⟨v, rfl, Qk42, nk42, ck42, zk42, rfl, i_k42, g_k42, hb⟩
  replace hB := bel_step hB hb
  clear hb
  go_wp2_with fail
  go_at_call 11
  refine (one_r 18 (Wx _ (by omega)) _).mono ?_
  rintro e w49 ⟨v, rfl, Qk43, nk43, ck43, zk43, rfl, i_k43, g_k43, hb⟩
  replace hB := bel_step hB hb
  replace g_k42 := Gd.step g_k42 hb
  clear hb
  go_wp2_with fail
  go_at_call 20
  refine (mgcd_o g_k42 g_k43 (by omega)).mono ?_
  rintro e w50 ⟨v, rfl, Qk44, nk44, ck44, zk44, rfl, i_k44, g_k44, hb⟩
  replace hB := bel_step hB hb
  replace g_k42 := Gd.step g_k42 hb
  replace g_k43 := Gd.step g_k43 hb
  clear hb
  rw [i_k42.out.v, i_k43.out.v] at i_k44
  clear g_k42
  clear g_k43
  go_wp2_with fail
  go_at_call 11
  refine (one_r 6 (Wx _ (by omega)) _).mono ?_
  rintro e w51 ⟨v, rfl, Qk45, nk45, ck45, zk45, rfl, i_k45, g_k45, hb⟩
  replace hB := bel_step hB hb
  replace g_k44 := Gd.step g_k44 hb
  clear hb
  go_wp2_with fail
  go_at_call 19
  refine (sameM g_k44 g_k45 (by omega) (by omega) true (decide_eq_true (is_eq i_k44 i_k45 (by decide)))).mono ?_
  rintro e w52 ⟨rfl, hb⟩
  replace hB := bel_step hB hb
  replace g_k44 := Gd.step g_k44 hb
  replace g_k45 := Gd.step g_k45 hb
  clear hb
  clear g_k44
  clear g_k45
  have g_nil := Gd.nil w52 1
  go_wp2_with fail
  go_at_call 20
  refine (mgcd_o g_nil g_nil (by omega)).mono ?_
  rintro e w53 ⟨v, rfl, Qk46, nk46, ck46, zk46, rfl, i_k46, g_k46, hb⟩
  replace hB := bel_step hB hb
  replace g_nil := Gd.step g_nil hb
  clear hb
  obtain rfl : nk46 = 0 := by have h1 := g_k46.out.at_.len; rw [i_k46.out.uniq (show Is [] _ from Is.nil)] at h1; exact h1.symm
  clear g_k46
  clear g_nil
  go_wp2_with fail
  go_ret
  exact ⟨rfl, hB.out⟩
end modularNames
end Go.Proofs.Ytopajockmcgpmaa
