/- The walk of WordCalls: each call answers what the document's own answer is. -/
import Derived.Test.YtpbdbmfmganhfaaLives01
namespace Go.Proofs.Ytpbdbmfmganhfaa.wordCalls
open Go.RowKit Wd
set_option linter.unusedVariables false
set_option maxRecDepth 100000 in
set_option maxHeartbeats 2000000 in
theorem walk (a0 : Int) (a1 : Int) (a2 : Int) (a3 : Bool) (w0 : (Lit.int .u64 a0).wf = true) (w1 : (Lit.int .u64 a1).wf = true) (w2 : (Lit.int .u64 a2).wf = true) (w : World) :
    Calls Try.prog 4 #[.int .u64 a0, .int .u64 a1, .int .u64 a2, .bool a3] w fun e w' => e = .returned (.bool true) ∧ Grown w w' := by
  have h0 := W_wf w0
  have h1 := W_wf w1
  have h2 := W_wf w2
  obtain ⟨q, r, ok, hd⟩ : ∃ q r ok, divV a0 a1 a2 = .tuple #[.int .u64 q, .int .u64 r, .bool ok] := by
    unfold divV; split
    · exact ⟨_, _, _, rfl⟩
    · exact ⟨_, _, _, rfl⟩
  obtain ⟨n, is, hi⟩ : ∃ n is, invV a0 = .tuple #[.int .u64 n, .bool is] := by
    unfold invV; split
    · exact ⟨_, _, rfl⟩
    · exact ⟨_, _, rfl⟩
  have HD := Lib.hid hd
  have HI := Lib.hid hi
  clear hd hi
  generalize hm : (if a3 then 18446744073709551615 else 0 : Int) = m
  have HM := Lib.hid hm
  clear hm
  go_enter Try.func4, Try.ntmps4
  go_wp2_with fail
  refine (lives_c _).mono ?_; rintro e w' ⟨rfl, rfl⟩
  go_wp2_with fail
  refine (add_c _ _ _ _ h0 h1).mono ?_; rintro e w' ⟨rfl, rfl⟩
  go_wp2_with fail
  refine (radd_c _ _ _ _ h0 h1).mono ?_; rintro e w' ⟨rfl, rfl⟩
  go_wp2_with fail
  refine (sub_c _ _ _ _ h0 h1).mono ?_; rintro e w' ⟨rfl, rfl⟩
  go_wp2_with fail
  refine (rsub_c _ _ _ _ h0 h1).mono ?_; rintro e w' ⟨rfl, rfl⟩
  go_wp2_with fail
  refine (mul_c _ _ _ h0 h1).mono ?_; rintro e w' ⟨rfl, rfl⟩
  go_wp2_with fail
  refine (rmul_c _ _ _ h0 h1).mono ?_; rintro e w' ⟨rfl, rfl⟩
  go_wp2_with fail
  refine (div_c _ _ _ _ h0 h1 h2).mono ?_; rintro e w' ⟨rfl, n1, rfl⟩
  rw [HD.out]
  go_wp2_with fail
  refine (rdiv_c _ _ _ _ h0 h1 h2).mono ?_; rintro e w' ⟨rfl, rfl⟩
  rw [HD.out]
  go_wp2_with fail
  refine (inverse_c _ _ h0).mono ?_; rintro e w' ⟨rfl, rfl⟩
  rw [HI.out]
  go_wp2_with fail
  refine (rinv_c _ _ h0).mono ?_; rintro e w' ⟨rfl, rfl⟩
  rw [HI.out]
  go_wp2_with fail
  refine (mask_c _ _).mono ?_; rintro e w' ⟨rfl, rfl⟩
  rw [HM.out]
  go_wp2_with fail
  refine (rmask_c _ _).mono ?_; rintro e w' ⟨rfl, rfl⟩
  rw [HM.out]
  go_wp2_with fail
  refine (choose_c _ _ _ _).mono ?_; rintro e w' ⟨rfl, rfl⟩
  go_wp2_with fail
  refine (rchoose_c _ _ _ _).mono ?_; rintro e w' ⟨rfl, rfl⟩
  go_wp2_with fail
  refine (bits_c _ _ h0).mono ?_; rintro e w' ⟨rfl, rfl⟩
  go_wp2_with fail
  refine (rbits_c _ _ h0).mono ?_; rintro e w' ⟨rfl, rfl⟩
  go_wp2_with fail
  go_ret
  exact ⟨rfl, grown_drewN (Grown.refl _) n1⟩
end Go.Proofs.Ytpbdbmfmganhfaa.wordCalls
