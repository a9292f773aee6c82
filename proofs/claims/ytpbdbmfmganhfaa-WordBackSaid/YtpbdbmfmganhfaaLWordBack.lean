/- The walk of WordBack: Sub undoes Add, Div undoes Mul. -/
import Derived.Test.YtpbdbmfmganhfaaLives01
namespace Go.Proofs.Ytpbdbmfmganhfaa.wordBack
open Go.RowKit Wd
set_option linter.unusedVariables false
/-- a product and a rest, divided: the factor and the rest -/
theorem back {a b r : Int} (ha : W a) (hb : W b) (r0 : 0 ≤ r) (r1 : r < b) :
    divV (add (mulH a b) 0 (addO (mulL a b) r false)) (add (mulL a b) r false) b = .tuple #[.int .u64 a, .int .u64 r, .bool true] := by
  have hl := W_mulL a b
  have hh := W_mulH ha hb
  have hr : W r := ⟨r0, by have := hb.2; omega⟩
  have m := mul_eq a b
  have e1 := add_eq hl hr false
  have e2 := add_eq hh (show W 0 by unfold W; omega) (addO (mulL a b) r false)
  have l1 := W_add (mulL a b) r false
  have l2 := W_add (mulH a b) 0 (addO (mulL a b) r false)
  have k := b1_01 (addO (mulH a b) 0 (addO (mulL a b) r false))
  have p : a * b ≤ 18446744073709551615 * b := Int.mul_le_mul_of_nonneg_right ha.2 hb.1
  have p0 : 0 ≤ a * b := Int.mul_nonneg ha.1 hb.1
  rw [b1_f] at e1
  generalize add (mulH a b) 0 (addO (mulL a b) r false) = u at *
  generalize add (mulL a b) r false = t at *
  generalize mulH a b = h at *
  generalize mulL a b = l at *
  generalize b1 (addO l r false) = c1 at *
  generalize b1 (addO h 0 (addO l r false)) = c2 at *
  unfold W at *
  have e : u * 18446744073709551616 + t = r + a * b := by omega
  unfold divV divQ divR
  rw [e, if_pos (by omega), Int.add_mul_ediv_right _ _ (by omega), Int.add_mul_emod_self_right, Int.ediv_eq_zero_of_lt r0 r1, Int.emod_eq_of_lt r0 r1, Int.zero_add]
theorem walk (a0 : Int) (a1 : Int) (a2 : Int) (a3 : Bool) (w0 : (Lit.int .u64 a0).wf = true) (w1 : (Lit.int .u64 a1).wf = true) (w2 : (Lit.int .u64 a2).wf = true) (w : World) :
    Calls Try.prog 5 #[.int .u64 a0, .int .u64 a1, .int .u64 a2, .bool a3] w fun e w' => e = .returned (.bool true) ∧ Grown w w' := by
  have h0 := W_wf w0
  have h1 := W_wf w1
  have h2 := W_wf w2
  have C2 : ∀ w, Calls Try.prog 10 #[.int .u64 (add a0 a1 a3), .int .u64 a1, .bool a3] w fun e w' => e = .returned (.tuple #[.int .u64 a0, .bool (addO a0 a1 a3)]) ∧ w = w' := by
    intro w
    have := sub_c (add a0 a1 a3) a1 a3 w (W_add _ _ _) h1
    rw [(sub_add h0 h1 a3).1, (sub_add h0 h1 a3).2] at this
    exact this
  have H2 := Lib.hid C2
  clear C2
  by_cases hz : a1 = 0
  · subst hz
    have e1 : mulH a0 0 = 0 := by unfold mulH; simp
    have e2 : mulL a0 0 = 0 := by unfold mulL; simp
    go_enter Try.func5, Try.ntmps5
    go_wp2_with fail
    refine (lives_c _).mono ?_; rintro e w' ⟨rfl, rfl⟩
    go_wp2_with fail
    refine (add_c _ _ _ _ h0 h1).mono ?_; rintro e w' ⟨rfl, rfl⟩
    go_wp2_with fail
    refine (H2.out _).mono ?_; rintro e w' ⟨rfl, rfl⟩
    go_wp2_with fail
    refine (mul_c _ _ _ h0 h1).mono ?_; rintro e w' ⟨rfl, rfl⟩
    go_wp2_with fail
    go_ret
    exact ⟨rfl, Grown.refl _⟩
  · have b0 : 0 < a1 := by have := h1.1; omega
    have hr0 : 0 ≤ a2 % a1 := Int.emod_nonneg _ (by omega)
    have hr1 : a2 % a1 < a1 := Int.emod_lt_of_pos _ b0
    have hz' : (a1 == 0) = false := by rw [beq_eq_false_iff_ne]; exact hz
    have q0 : 0 ≤ a2 := h2.1
    have bk := back h0 h1 hr0 hr1
    have BK := Lib.hid bk
    have hr : W (a2 % a1) := ⟨hr0, by have := h1.2; omega⟩
    have hl := W_mulL a0 a1
    have hh := W_mulH h0 h1
    have hz0 : W 0 := by unfold W; omega
    clear bk
    go_enter Try.func5, Try.ntmps5
    go_wp2_with fail
    refine (lives_c _).mono ?_; rintro e w' ⟨rfl, rfl⟩
    go_wp2_with fail
    refine (add_c _ _ _ _ h0 h1).mono ?_; rintro e w' ⟨rfl, rfl⟩
    go_wp2_with fail
    refine (H2.out _).mono ?_; rintro e w' ⟨rfl, rfl⟩
    go_wp2_with fail
    refine (mul_c _ _ _ h0 h1).mono ?_; rintro e w' ⟨rfl, rfl⟩
    go_wp2_with fail
    refine (add_c _ _ _ _ hl hr).mono ?_; rintro e w' ⟨rfl, rfl⟩
    go_wp2_with fail
    refine (add_c _ _ _ _ hh hz0).mono ?_; rintro e w' ⟨rfl, rfl⟩
    go_wp2_with fail
    refine (div_c _ _ _ _ (W_add _ _ _) (W_add _ _ _) h1).mono ?_; rintro e w' ⟨rfl, n, rfl⟩
    rw [BK.out]
    go_wp2_with fail
    go_ret
    exact ⟨rfl, grown_drewN (Grown.refl _) n⟩
end Go.Proofs.Ytpbdbmfmganhfaa.wordBack
