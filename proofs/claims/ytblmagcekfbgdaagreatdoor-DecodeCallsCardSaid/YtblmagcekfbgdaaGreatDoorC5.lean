/- The document's own Check, by form: j, r, no. -/
import Derived.Test.YtblmagcekfbgdaaGreatDoorB4
import Derived.Laws.StructEq
namespace Go.Proofs.YtblmagcekfbgdaaGreatDoor
open Go Go.RowKit
namespace Is
open Nt
set_option linter.unusedVariables false
set_option linter.unusedSimpArgs false
set_option maxRecDepth 100000 in
set_option maxHeartbeats 4000000 in
theorem check_j (i : Ins) (hf : formOf i.op = .j) (w : World) : Calls Tryz.prog 32 #[.agg i.vs] w fun e w' => e = .returned (.int .i64 (chk i)) ∧ Below w.heap.size w w' := by
  obtain ⟨op, d, s, t, b, x, sc, di, im⟩ := i
  dsimp only at hf
  have HF : Hid (∀ W, Calls Tryz.prog 49 #[.int .i64 op] W fun e w' => e = .returned (.string ⟨#[105]⟩) ∧ w' = W) := Lib.hid (fun W => by have h1 := form_c op W; rw [hf] at h1; exact h1)
  have HH : Hid (∀ c W, Calls Tryz.prog 50 #[.string ⟨#[105]⟩, .int .u8 c] W fun e w' => e = .returned (.bool (hasB ⟨#[105]⟩ c)) ∧ w' = W) := Lib.hid (fun c W => has_c ⟨#[105]⟩ c W (by decide))
  have h68 : hasB ⟨#[105]⟩ 68 = false := by decide
  have h83 : hasB ⟨#[105]⟩ 83 = false := by decide
  have h84 : hasB ⟨#[105]⟩ 84 = false := by decide
  have h77 : hasB ⟨#[105]⟩ 77 = false := by decide
  have h105 : hasB ⟨#[105]⟩ 105 = true := by decide
  have h98 : hasB ⟨#[105]⟩ 98 = false := by decide
  have h73 : hasB ⟨#[105]⟩ 73 = false := by decide
  have HR := Lib.hid register_c
  have HS := Lib.hid small_c
  have HFO := Lib.hid hf
  clear hf
  by_cases qz0 : d = 0
  · subst qz0
    by_cases qz1 : s = 0
    · subst qz1
      by_cases qz2 : t = 0
      · subst qz2
        by_cases qm : b = 0 ∧ x = 0 ∧ sc = 0 ∧ di = 0
        · obtain ⟨rfl, rfl, rfl, rfl⟩ := qm
          have hme : ∀ W, _ := fun W => (memEq 0 0 0 0 W).trans (by rfl : _ = Result.ok (Value.bool true) W)
          cases qs4 : smallB im with
          | false =>
            have HB := Lib.hid ((Below.refl w.heap.size w).alloc (Nat.le_refl _) (.cells #[.int .i64 op, .int .i64 0, .int .i64 0, .int .i64 0, .int .i64 0, .int .i64 0, .int .i64 0, .int .i64 0, .int .i64 im] 26))
            have e0 : chk ⟨op, 0, 0, 0, 0, 0, 0, 0, im⟩ = 2 := by unfold chk okI; dsimp only; rw [HFO.out]; simp [okF, zB, plZ, qs4]
            rw [e0]
            unfold Ins.vs
            dsimp only
            clear e0
            go_enter Tryz.func32, Tryz.ntmps32
            go_wp2_with (first | (go_at_call 49; refine (HF.out _).mono ?_; rintro e w' ⟨rfl, rfl⟩) | (go_at_call 50; refine (HH.out _ _).mono ?_; simp only [h68, h83, h84, h77, h105, h98, h73]; rintro e w' ⟨rfl, rfl⟩) | (go_at_call 53; refine (HS.out _ _).mono ?_; simp only [qs4]; rintro e w' ⟨rfl, rfl⟩))
            go_ret
            exact ⟨rfl, HB.out⟩
          | true =>
            have HB := Lib.hid ((Below.refl w.heap.size w).alloc (Nat.le_refl _) (.cells #[.int .i64 op, .int .i64 0, .int .i64 0, .int .i64 0, .int .i64 0, .int .i64 0, .int .i64 0, .int .i64 0, .int .i64 im] 26))
            have e0 : chk ⟨op, 0, 0, 0, 0, 0, 0, 0, im⟩ = 0 := by unfold chk okI; dsimp only; rw [HFO.out]; simp [okF, zB, plZ, qs4]
            rw [e0]
            unfold Ins.vs
            dsimp only
            clear e0
            go_enter Tryz.func32, Tryz.ntmps32
            go_wp2_with (first | (go_at_call 49; refine (HF.out _).mono ?_; rintro e w' ⟨rfl, rfl⟩) | (go_at_call 50; refine (HH.out _ _).mono ?_; simp only [h68, h83, h84, h77, h105, h98, h73]; rintro e w' ⟨rfl, rfl⟩) | (go_at_call 53; refine (HS.out _ _).mono ?_; simp only [qs4]; rintro e w' ⟨rfl, rfl⟩))
            go_ret
            exact ⟨rfl, HB.out⟩
        · have qn : (decide (b = 0) && decide (x = 0) && decide (sc = 0) && decide (di = 0)) = false := by rw [Bool.eq_false_iff]; intro h; simp only [Bool.and_eq_true, decide_eq_true_eq] at h; exact qm ⟨h.1.1.1, h.1.1.2, h.1.2, h.2⟩
          have hme : ∀ W, _ := fun W => memEq b x sc di W
          rw [qn] at hme
          have HQN := Lib.hid qn
          clear qn qm
          have HB := Lib.hid ((Below.refl w.heap.size w).alloc (Nat.le_refl _) (.cells #[.int .i64 op, .int .i64 0, .int .i64 0, .int .i64 0, .int .i64 b, .int .i64 x, .int .i64 sc, .int .i64 di, .int .i64 im] 26))
          have e0 : chk ⟨op, 0, 0, 0, b, x, sc, di, im⟩ = 2 := by unfold chk okI; dsimp only; rw [HFO.out]; simp [okF, zB, plZ, HQN.out]
          rw [e0]
          unfold Ins.vs
          dsimp only
          clear e0
          go_enter Tryz.func32, Tryz.ntmps32
          go_wp2_with (first | (go_at_call 49; refine (HF.out _).mono ?_; rintro e w' ⟨rfl, rfl⟩) | (go_at_call 50; refine (HH.out _ _).mono ?_; simp only [h68, h83, h84, h77, h105, h98, h73]; rintro e w' ⟨rfl, rfl⟩))
          go_ret
          exact ⟨rfl, HB.out⟩
      · have hz2 : (t == 0) = false := by rw [beq_eq_false_iff_ne]; exact qz2
        have HB := Lib.hid ((Below.refl w.heap.size w).alloc (Nat.le_refl _) (.cells #[.int .i64 op, .int .i64 0, .int .i64 0, .int .i64 t, .int .i64 b, .int .i64 x, .int .i64 sc, .int .i64 di, .int .i64 im] 26))
        have e0 : chk ⟨op, 0, 0, t, b, x, sc, di, im⟩ = 2 := by unfold chk okI; dsimp only; rw [HFO.out]; simp [okF, zB, plZ, qz2]
        rw [e0]
        unfold Ins.vs
        dsimp only
        clear e0
        go_enter Tryz.func32, Tryz.ntmps32
        go_wp2_with (first | (go_at_call 49; refine (HF.out _).mono ?_; rintro e w' ⟨rfl, rfl⟩) | (go_at_call 50; refine (HH.out _ _).mono ?_; simp only [h68, h83, h84, h77, h105, h98, h73]; rintro e w' ⟨rfl, rfl⟩))
        go_ret
        exact ⟨rfl, HB.out⟩
    · have hz1 : (s == 0) = false := by rw [beq_eq_false_iff_ne]; exact qz1
      have HB := Lib.hid ((Below.refl w.heap.size w).alloc (Nat.le_refl _) (.cells #[.int .i64 op, .int .i64 0, .int .i64 s, .int .i64 t, .int .i64 b, .int .i64 x, .int .i64 sc, .int .i64 di, .int .i64 im] 26))
      have e0 : chk ⟨op, 0, s, t, b, x, sc, di, im⟩ = 2 := by unfold chk okI; dsimp only; rw [HFO.out]; simp [okF, zB, plZ, qz1]
      rw [e0]
      unfold Ins.vs
      dsimp only
      clear e0
      go_enter Tryz.func32, Tryz.ntmps32
      go_wp2_with (first | (go_at_call 49; refine (HF.out _).mono ?_; rintro e w' ⟨rfl, rfl⟩) | (go_at_call 50; refine (HH.out _ _).mono ?_; simp only [h68, h83, h84, h77, h105, h98, h73]; rintro e w' ⟨rfl, rfl⟩))
      go_ret
      exact ⟨rfl, HB.out⟩
  · have hz0 : (d == 0) = false := by rw [beq_eq_false_iff_ne]; exact qz0
    have HB := Lib.hid ((Below.refl w.heap.size w).alloc (Nat.le_refl _) (.cells #[.int .i64 op, .int .i64 d, .int .i64 s, .int .i64 t, .int .i64 b, .int .i64 x, .int .i64 sc, .int .i64 di, .int .i64 im] 26))
    have e0 : chk ⟨op, d, s, t, b, x, sc, di, im⟩ = 2 := by unfold chk okI; dsimp only; rw [HFO.out]; simp [okF, zB, plZ, qz0]
    rw [e0]
    unfold Ins.vs
    dsimp only
    clear e0
    go_enter Tryz.func32, Tryz.ntmps32
    go_wp2_with (first | (go_at_call 49; refine (HF.out _).mono ?_; rintro e w' ⟨rfl, rfl⟩) | (go_at_call 50; refine (HH.out _ _).mono ?_; simp only [h68, h83, h84, h77, h105, h98, h73]; rintro e w' ⟨rfl, rfl⟩))
    go_ret
    exact ⟨rfl, HB.out⟩
set_option maxRecDepth 100000 in
set_option maxHeartbeats 4000000 in
theorem check_r' (i : Ins) (hf : formOf i.op = .r) (w : World) : Calls Tryz.prog 32 #[.agg i.vs] w fun e w' => e = .returned (.int .i64 (chk i)) ∧ Below w.heap.size w w' := by
  obtain ⟨op, d, s, t, b, x, sc, di, im⟩ := i
  dsimp only at hf
  have HF : Hid (∀ W, Calls Tryz.prog 49 #[.int .i64 op] W fun e w' => e = .returned (.string ⟨#[45]⟩) ∧ w' = W) := Lib.hid (fun W => by have h1 := form_c op W; rw [hf] at h1; exact h1)
  have HH : Hid (∀ c W, Calls Tryz.prog 50 #[.string ⟨#[45]⟩, .int .u8 c] W fun e w' => e = .returned (.bool (hasB ⟨#[45]⟩ c)) ∧ w' = W) := Lib.hid (fun c W => has_c ⟨#[45]⟩ c W (by decide))
  have h68 : hasB ⟨#[45]⟩ 68 = false := by decide
  have h83 : hasB ⟨#[45]⟩ 83 = false := by decide
  have h84 : hasB ⟨#[45]⟩ 84 = false := by decide
  have h77 : hasB ⟨#[45]⟩ 77 = false := by decide
  have h105 : hasB ⟨#[45]⟩ 105 = false := by decide
  have h98 : hasB ⟨#[45]⟩ 98 = false := by decide
  have h73 : hasB ⟨#[45]⟩ 73 = false := by decide
  have HR := Lib.hid register_c
  have HS := Lib.hid small_c
  have HFO := Lib.hid hf
  clear hf
  by_cases qz0 : d = 0
  · subst qz0
    by_cases qz1 : s = 0
    · subst qz1
      by_cases qz2 : t = 0
      · subst qz2
        by_cases qm : b = 0 ∧ x = 0 ∧ sc = 0 ∧ di = 0
        · obtain ⟨rfl, rfl, rfl, rfl⟩ := qm
          have hme : ∀ W, _ := fun W => (memEq 0 0 0 0 W).trans (by rfl : _ = Result.ok (Value.bool true) W)
          by_cases qz4 : im = 0
          · subst qz4
            have HB := Lib.hid ((Below.refl w.heap.size w).alloc (Nat.le_refl _) (.cells #[.int .i64 op, .int .i64 0, .int .i64 0, .int .i64 0, .int .i64 0, .int .i64 0, .int .i64 0, .int .i64 0, .int .i64 0] 26))
            have e0 : chk ⟨op, 0, 0, 0, 0, 0, 0, 0, 0⟩ = 0 := by unfold chk okI; dsimp only; rw [HFO.out]; simp [okF, zB, plZ]
            rw [e0]
            unfold Ins.vs
            dsimp only
            clear e0
            go_enter Tryz.func32, Tryz.ntmps32
            go_wp2_with (first | (go_at_call 49; refine (HF.out _).mono ?_; rintro e w' ⟨rfl, rfl⟩) | (go_at_call 50; refine (HH.out _ _).mono ?_; simp only [h68, h83, h84, h77, h105, h98, h73]; rintro e w' ⟨rfl, rfl⟩))
            go_ret
            exact ⟨rfl, HB.out⟩
          · have hz4 : (im == 0) = false := by rw [beq_eq_false_iff_ne]; exact qz4
            have HB := Lib.hid ((Below.refl w.heap.size w).alloc (Nat.le_refl _) (.cells #[.int .i64 op, .int .i64 0, .int .i64 0, .int .i64 0, .int .i64 0, .int .i64 0, .int .i64 0, .int .i64 0, .int .i64 im] 26))
            have e0 : chk ⟨op, 0, 0, 0, 0, 0, 0, 0, im⟩ = 2 := by unfold chk okI; dsimp only; rw [HFO.out]; simp [okF, zB, plZ, qz4]
            rw [e0]
            unfold Ins.vs
            dsimp only
            clear e0
            go_enter Tryz.func32, Tryz.ntmps32
            go_wp2_with (first | (go_at_call 49; refine (HF.out _).mono ?_; rintro e w' ⟨rfl, rfl⟩) | (go_at_call 50; refine (HH.out _ _).mono ?_; simp only [h68, h83, h84, h77, h105, h98, h73]; rintro e w' ⟨rfl, rfl⟩))
            go_ret
            exact ⟨rfl, HB.out⟩
        · have qn : (decide (b = 0) && decide (x = 0) && decide (sc = 0) && decide (di = 0)) = false := by rw [Bool.eq_false_iff]; intro h; simp only [Bool.and_eq_true, decide_eq_true_eq] at h; exact qm ⟨h.1.1.1, h.1.1.2, h.1.2, h.2⟩
          have hme : ∀ W, _ := fun W => memEq b x sc di W
          rw [qn] at hme
          have HQN := Lib.hid qn
          clear qn qm
          have HB := Lib.hid ((Below.refl w.heap.size w).alloc (Nat.le_refl _) (.cells #[.int .i64 op, .int .i64 0, .int .i64 0, .int .i64 0, .int .i64 b, .int .i64 x, .int .i64 sc, .int .i64 di, .int .i64 im] 26))
          have e0 : chk ⟨op, 0, 0, 0, b, x, sc, di, im⟩ = 2 := by unfold chk okI; dsimp only; rw [HFO.out]; simp [okF, zB, plZ, HQN.out]
          rw [e0]
          unfold Ins.vs
          dsimp only
          clear e0
          go_enter Tryz.func32, Tryz.ntmps32
          go_wp2_with (first | (go_at_call 49; refine (HF.out _).mono ?_; rintro e w' ⟨rfl, rfl⟩) | (go_at_call 50; refine (HH.out _ _).mono ?_; simp only [h68, h83, h84, h77, h105, h98, h73]; rintro e w' ⟨rfl, rfl⟩))
          go_ret
          exact ⟨rfl, HB.out⟩
      · have hz2 : (t == 0) = false := by rw [beq_eq_false_iff_ne]; exact qz2
        have HB := Lib.hid ((Below.refl w.heap.size w).alloc (Nat.le_refl _) (.cells #[.int .i64 op, .int .i64 0, .int .i64 0, .int .i64 t, .int .i64 b, .int .i64 x, .int .i64 sc, .int .i64 di, .int .i64 im] 26))
        have e0 : chk ⟨op, 0, 0, t, b, x, sc, di, im⟩ = 2 := by unfold chk okI; dsimp only; rw [HFO.out]; simp [okF, zB, plZ, qz2]
        rw [e0]
        unfold Ins.vs
        dsimp only
        clear e0
        go_enter Tryz.func32, Tryz.ntmps32
        go_wp2_with (first | (go_at_call 49; refine (HF.out _).mono ?_; rintro e w' ⟨rfl, rfl⟩) | (go_at_call 50; refine (HH.out _ _).mono ?_; simp only [h68, h83, h84, h77, h105, h98, h73]; rintro e w' ⟨rfl, rfl⟩))
        go_ret
        exact ⟨rfl, HB.out⟩
    · have hz1 : (s == 0) = false := by rw [beq_eq_false_iff_ne]; exact qz1
      have HB := Lib.hid ((Below.refl w.heap.size w).alloc (Nat.le_refl _) (.cells #[.int .i64 op, .int .i64 0, .int .i64 s, .int .i64 t, .int .i64 b, .int .i64 x, .int .i64 sc, .int .i64 di, .int .i64 im] 26))
      have e0 : chk ⟨op, 0, s, t, b, x, sc, di, im⟩ = 2 := by unfold chk okI; dsimp only; rw [HFO.out]; simp [okF, zB, plZ, qz1]
      rw [e0]
      unfold Ins.vs
      dsimp only
      clear e0
      go_enter Tryz.func32, Tryz.ntmps32
      go_wp2_with (first | (go_at_call 49; refine (HF.out _).mono ?_; rintro e w' ⟨rfl, rfl⟩) | (go_at_call 50; refine (HH.out _ _).mono ?_; simp only [h68, h83, h84, h77, h105, h98, h73]; rintro e w' ⟨rfl, rfl⟩))
      go_ret
      exact ⟨rfl, HB.out⟩
  · have hz0 : (d == 0) = false := by rw [beq_eq_false_iff_ne]; exact qz0
    have HB := Lib.hid ((Below.refl w.heap.size w).alloc (Nat.le_refl _) (.cells #[.int .i64 op, .int .i64 d, .int .i64 s, .int .i64 t, .int .i64 b, .int .i64 x, .int .i64 sc, .int .i64 di, .int .i64 im] 26))
    have e0 : chk ⟨op, d, s, t, b, x, sc, di, im⟩ = 2 := by unfold chk okI; dsimp only; rw [HFO.out]; simp [okF, zB, plZ, qz0]
    rw [e0]
    unfold Ins.vs
    dsimp only
    clear e0
    go_enter Tryz.func32, Tryz.ntmps32
    go_wp2_with (first | (go_at_call 49; refine (HF.out _).mono ?_; rintro e w' ⟨rfl, rfl⟩) | (go_at_call 50; refine (HH.out _ _).mono ?_; simp only [h68, h83, h84, h77, h105, h98, h73]; rintro e w' ⟨rfl, rfl⟩))
    go_ret
    exact ⟨rfl, HB.out⟩
set_option maxRecDepth 100000 in
set_option maxHeartbeats 4000000 in
theorem check_no (i : Ins) (hf : formOf i.op = .no) (w : World) : Calls Tryz.prog 32 #[.agg i.vs] w fun e w' => e = .returned (.int .i64 (chk i)) ∧ Below w.heap.size w w' := by
  obtain ⟨op, d, s, t, b, x, sc, di, im⟩ := i
  dsimp only at hf
  have HF : Hid (∀ W, Calls Tryz.prog 49 #[.int .i64 op] W fun e w' => e = .returned (.string ⟨#[]⟩) ∧ w' = W) := Lib.hid (fun W => by have h1 := form_c op W; rw [hf] at h1; exact h1)
  have HH : Hid (∀ c W, Calls Tryz.prog 50 #[.string ⟨#[]⟩, .int .u8 c] W fun e w' => e = .returned (.bool (hasB ⟨#[]⟩ c)) ∧ w' = W) := Lib.hid (fun c W => has_c ⟨#[]⟩ c W (by decide))
  have h68 : hasB ⟨#[]⟩ 68 = false := by decide
  have h83 : hasB ⟨#[]⟩ 83 = false := by decide
  have h84 : hasB ⟨#[]⟩ 84 = false := by decide
  have h77 : hasB ⟨#[]⟩ 77 = false := by decide
  have h105 : hasB ⟨#[]⟩ 105 = false := by decide
  have h98 : hasB ⟨#[]⟩ 98 = false := by decide
  have h73 : hasB ⟨#[]⟩ 73 = false := by decide
  have HR := Lib.hid register_c
  have HS := Lib.hid small_c
  have HFO := Lib.hid hf
  clear hf
  have HB := Lib.hid ((Below.refl w.heap.size w).alloc (Nat.le_refl _) (.cells #[.int .i64 op, .int .i64 d, .int .i64 s, .int .i64 t, .int .i64 b, .int .i64 x, .int .i64 sc, .int .i64 di, .int .i64 im] 26))
  have HB := Lib.hid ((Below.refl w.heap.size w).alloc (Nat.le_refl _) (.cells #[.int .i64 op, .int .i64 d, .int .i64 s, .int .i64 t, .int .i64 b, .int .i64 x, .int .i64 sc, .int .i64 di, .int .i64 im] 26))
  have e0 : chk ⟨op, d, s, t, b, x, sc, di, im⟩ = 2 := by unfold chk okI; dsimp only; rw [HFO.out]; simp [okF, zB, plZ]
  rw [e0]
  unfold Ins.vs
  dsimp only
  clear e0
  go_enter Tryz.func32, Tryz.ntmps32
  go_wp2_with (first | (go_at_call 49; refine (HF.out _).mono ?_; rintro e w' ⟨rfl, rfl⟩) | (go_at_call 50; refine (HH.out _ _).mono ?_; simp only [h68, h83, h84, h77, h105, h98, h73]; rintro e w' ⟨rfl, rfl⟩))
  go_ret
  exact ⟨rfl, HB.out⟩
end Is
end Go.Proofs.YtblmagcekfbgdaaGreatDoor
