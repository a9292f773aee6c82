/- The walk of WordSpreads: products spread over sums; they do not hang on the order. -/
import Derived.Test.YtpbdbmfmganhfaaLives01
namespace Go.Proofs.Ytpbdbmfmganhfaa.wordSpreads
open Go.RowKit Wd
set_option linter.unusedVariables false
theorem spread {a b c : Int} (ha : W a) (hb : W b) (hc : W c) :
    add (mulL a b) (mulL a c) false = mulL a (add b c false) ∧
    (addO b c false = true → add (mulH a b) (mulH a c) (addO (mulL a b) (mulL a c) false) = add (mulH a (add b c false)) a false) ∧
    (addO b c false = false → add (mulH a b) (mulH a c) (addO (mulL a b) (mulL a c) false) = mulH a (add b c false) ∧ addO (mulH a b) (mulH a c) (addO (mulL a b) (mulL a c) false) = false) := by
  have m1 := mul_eq a b
  have m2 := mul_eq a c
  have m3 := mul_eq a (add b c false)
  have l1 := W_mulL a b
  have l2 := W_mulL a c
  have l3 := W_mulL a (add b c false)
  have h1 := W_mulH ha hb
  have h2 := W_mulH ha hc
  have h3 := W_mulH ha (W_add b c false)
  have e0 := add_eq hb hc false
  have e1 := add_eq l1 l2 false
  have e2 := add_eq h1 h2 (addO (mulL a b) (mulL a c) false)
  have e3 := add_eq h3 ha false
  have r1 := W_add (mulL a b) (mulL a c) false
  have r2 := W_add (mulH a b) (mulH a c) (addO (mulL a b) (mulL a c) false)
  have r3 := W_add (mulH a (add b c false)) a false
  have k1 := b1_01 (addO (mulL a b) (mulL a c) false)
  have k2 := b1_01 (addO (mulH a b) (mulH a c) (addO (mulL a b) (mulL a c) false))
  have k3 := b1_01 (addO (mulH a (add b c false)) a false)
  have hs : a * (add b c false + 18446744073709551616 * b1 (addO b c false)) = a * b + a * c := by rw [e0, b1_f, Int.add_zero, Int.mul_add]
  rw [Int.mul_add, ← Int.mul_assoc, Int.mul_comm a 18446744073709551616, Int.mul_assoc] at hs
  simp only [b1_f] at e0 e1 e3
  generalize hz : addO (mulH a b) (mulH a c) (addO (mulL a b) (mulL a c) false) = z at *
  generalize add (mulH a b) (mulH a c) (addO (mulL a b) (mulL a c) false) = x2 at *
  generalize addO (mulL a b) (mulL a c) false = y1 at *
  generalize add (mulL a b) (mulL a c) false = x1 at *
  generalize addO (mulH a (add b c false)) a false = y3 at *
  generalize add (mulH a (add b c false)) a false = x3 at *
  generalize addO b c false = y0 at *
  generalize add b c false = s at *
  generalize mulL a b = A at *
  generalize mulL a c = B at *
  generalize mulL a s = C at *
  generalize mulH a b = D at *
  generalize mulH a c = E at *
  generalize mulH a s = F at *
  generalize a * b = p at *
  generalize a * c = q at *
  generalize a * s = t at *
  unfold W at *
  cases y0
  · simp only [b1_f, Int.mul_zero, Int.add_zero] at hs
    refine ⟨by omega, fun h => by simp at h, fun _ => ⟨by omega, ?_⟩⟩
    cases z
    · rfl
    · rw [b1_t] at e2 k2; omega
  · simp only [b1_t, Int.mul_one] at hs
    exact ⟨by omega, fun _ => by omega, fun h => by simp at h⟩
theorem mul_sym (a b : Int) : mulH b a = mulH a b ∧ mulL b a = mulL a b := by
  unfold mulH mulL; rw [Int.mul_comm]; exact ⟨rfl, rfl⟩
theorem walk (a0 : Int) (a1 : Int) (a2 : Int) (w0 : (Lit.int .u64 a0).wf = true) (w1 : (Lit.int .u64 a1).wf = true) (w2 : (Lit.int .u64 a2).wf = true) (w : World) :
    Calls Try.prog 8 #[.int .u64 a0, .int .u64 a1, .int .u64 a2] w fun e w' => e = .returned (.bool true) ∧ Grown w w' := by
  have h0 := W_wf w0
  have h1 := W_wf w1
  have h2 := W_wf w2
  obtain ⟨s1, s2, s3⟩ := spread h0 h1 h2
  have CM : ∀ w, Calls Try.prog 11 #[.int .u64 a1, .int .u64 a0] w fun e w' => e = .returned (.tuple #[.int .u64 (mulH a0 a1), .int .u64 (mulL a0 a1)]) ∧ w = w' := by
    intro w
    have := mul_c a1 a0 w h1 h0
    rw [(mul_sym a0 a1).1, (mul_sym a0 a1).2] at this
    exact this
  have HM := Lib.hid CM
  clear CM
  cases hc : addO a1 a2 false
  · obtain ⟨s4, s5⟩ := s3 hc
    clear s2 s3
    have HC := Lib.hid hc
    have H1 := Lib.hid s1
    have H4 := Lib.hid s4
    have H5 := Lib.hid s5
    clear hc s1 s4 s5
    go_enter Try.func8, Try.ntmps8
    go_wp2_with fail
    refine (lives_c _).mono ?_; rintro e w' ⟨rfl, rfl⟩
    go_wp2_with fail
    refine (mul_c _ _ _ h0 h1).mono ?_; rintro e w' ⟨rfl, rfl⟩
    go_wp2_with fail
    refine (mul_c _ _ _ h0 h2).mono ?_; rintro e w' ⟨rfl, rfl⟩
    go_wp2_with fail
    refine (add_c _ _ _ _ h1 h2).mono ?_; rintro e w' ⟨rfl, rfl⟩
    rw [HC.out]
    go_wp2_with fail
    refine (mul_c _ _ _ h0 (W_add _ _ _)).mono ?_; rintro e w' ⟨rfl, rfl⟩
    go_wp2_with fail
    refine (add_c _ _ _ _ (W_mulL _ _) (W_mulL _ _)).mono ?_; rintro e w' ⟨rfl, rfl⟩
    rw [H1.out]
    go_wp2_with fail
    refine (add_c _ _ _ _ (W_mulH h0 h1) (W_mulH h0 h2)).mono ?_; rintro e w' ⟨rfl, rfl⟩
    rw [H4.out, H5.out]
    go_wp2_with fail
    refine (HM.out _).mono ?_; rintro e w' ⟨rfl, rfl⟩
    go_wp2_with fail
    go_ret
    exact ⟨rfl, Grown.refl _⟩
  · have s4 := s2 hc
    clear s2 s3
    have HC := Lib.hid hc
    have H1 := Lib.hid s1
    have H4 := Lib.hid s4
    clear hc s1 s4
    go_enter Try.func8, Try.ntmps8
    go_wp2_with fail
    refine (lives_c _).mono ?_; rintro e w' ⟨rfl, rfl⟩
    go_wp2_with fail
    refine (mul_c _ _ _ h0 h1).mono ?_; rintro e w' ⟨rfl, rfl⟩
    go_wp2_with fail
    refine (mul_c _ _ _ h0 h2).mono ?_; rintro e w' ⟨rfl, rfl⟩
    go_wp2_with fail
    refine (add_c _ _ _ _ h1 h2).mono ?_; rintro e w' ⟨rfl, rfl⟩
    rw [HC.out]
    go_wp2_with fail
    refine (mul_c _ _ _ h0 (W_add _ _ _)).mono ?_; rintro e w' ⟨rfl, rfl⟩
    go_wp2_with fail
    refine (add_c _ _ _ _ (W_mulL _ _) (W_mulL _ _)).mono ?_; rintro e w' ⟨rfl, rfl⟩
    rw [H1.out]
    go_wp2_with fail
    refine (add_c _ _ _ _ (W_mulH h0 h1) (W_mulH h0 h2)).mono ?_; rintro e w' ⟨rfl, rfl⟩
    rw [H4.out]
    go_wp2_with fail
    refine (HM.out _).mono ?_; rintro e w' ⟨rfl, rfl⟩
    go_wp2_with fail
    refine (add_c _ _ _ _ (W_mulH h0 (W_add _ _ _)) h0).mono ?_; rintro e w' ⟨rfl, rfl⟩
    go_wp2_with fail
    go_ret
    exact ⟨rfl, Grown.refl _⟩
end Go.Proofs.Ytpbdbmfmganhfaa.wordSpreads
