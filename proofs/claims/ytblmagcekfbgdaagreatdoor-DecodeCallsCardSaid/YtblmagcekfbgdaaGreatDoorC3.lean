/- The document's own Check, by form: dj, dst. -/
import Derived.Test.YtblmagcekfbgdaaGreatDoorB4
import Derived.Laws.StructEq
namespace Go.Proofs.YtblmagcekfbgdaaGreatDoor
open Go Go.RowKit
namespace Is
open Nt
set_option linter.unusedVariables false
set_option linter.unusedSimpArgs false
set_option maxRecDepth 100000 in
set_option maxHeartbeats 4000000 in
theorem check_dj (i : Ins) (hf : formOf i.op = .dj) (w : World) : Calls Tryz.prog 32 #[.agg i.vs] w fun e w' => e = .returned (.int .i64 (chk i)) ∧ Below w.heap.size w w' := by
  obtain ⟨op, d, s, t, b, x, sc, di, im⟩ := i
  dsimp only at hf
  have HF : Hid (∀ W, Calls Tryz.prog 49 #[.int .i64 op] W fun e w' => e = .returned (.string ⟨#[68, 105]⟩) ∧ w' = W) := Lib.hid (fun W => by have h1 := form_c op W; rw [hf] at h1; exact h1)
  have HH : Hid (∀ c W, Calls Tryz.prog 50 #[.string ⟨#[68, 105]⟩, .int .u8 c] W fun e w' => e = .returned (.bool (hasB ⟨#[68, 105]⟩ c)) ∧ w' = W) := Lib.hid (fun c W => has_c ⟨#[68, 105]⟩ c W (by decide))
  have h68 : hasB ⟨#[68, 105]⟩ 68 = true := by decide
  have h83 : hasB ⟨#[68, 105]⟩ 83 = false := by decide
  have h84 : hasB ⟨#[68, 105]⟩ 84 = false := by decide
  have h77 : hasB ⟨#[68, 105]⟩ 77 = false := by decide
  have h105 : hasB ⟨#[68, 105]⟩ 105 = true := by decide
  have h98 : hasB ⟨#[68, 105]⟩ 98 = false := by decide
  have h73 : hasB ⟨#[68, 105]⟩ 73 = false := by decide
  have HR := Lib.hid register_c
  have HS := Lib.hid small_c
  have HFO := Lib.hid hf
  clear hf
  cases qr0 : regB d with
  | false =>
    have HB := Lib.hid ((Below.refl w.heap.size w).alloc (Nat.le_refl _) (.cells #[.int .i64 op, .int .i64 d, .int .i64 s, .int .i64 t, .int .i64 b, .int .i64 x, .int .i64 sc, .int .i64 di, .int .i64 im] 26))
    have e0 : chk ⟨op, d, s, t, b, x, sc, di, im⟩ = 2 := by unfold chk okI; dsimp only; rw [HFO.out]; simp [okF, zB, plZ, qr0]
    rw [e0]
    unfold Ins.vs
    dsimp only
    clear e0
    go_enter Tryz.func32, Tryz.ntmps32
    go_wp2_with (first | (go_at_call 49; refine (HF.out _).mono ?_; rintro e w' ⟨rfl, rfl⟩) | (go_at_call 50; refine (HH.out _ _).mono ?_; simp only [h68, h83, h84, h77, h105, h98, h73]; rintro e w' ⟨rfl, rfl⟩) | (go_at_call 51; refine (HR.out _ _).mono ?_; simp only [qr0]; rintro e w' ⟨rfl, rfl⟩))
    go_ret
    exact ⟨rfl, HB.out⟩
  | true =>
    by_cases qz1 : s = 0
    · subst qz1
      by_cases qz2 : t = 0
      · subst qz2
        by_cases qm : b = 0 ∧ x = 0 ∧ sc = 0 ∧ di = 0
        · obtain ⟨rfl, rfl, rfl, rfl⟩ := qm
          have hme : ∀ W, _ := fun W => (memEq 0 0 0 0 W).trans (by rfl : _ = Result.ok (Value.bool true) W)
          cases qs4 : smallB im with
          | false =>
            have HB := Lib.hid ((Below.refl w.heap.size w).alloc (Nat.le_refl _) (.cells #[.int .i64 op, .int .i64 d, .int .i64 0, .int .i64 0, .int .i64 0, .int .i64 0, .int .i64 0, .int .i64 0, .int .i64 im] 26))
            have e0 : chk ⟨op, d, 0, 0, 0, 0, 0, 0, im⟩ = 2 := by unfold chk okI; dsimp only; rw [HFO.out]; simp [okF, zB, plZ, qr0, qs4]
            rw [e0]
            unfold Ins.vs
            dsimp only
            clear e0
            go_enter Tryz.func32, Tryz.ntmps32
            go_wp2_with (first | (go_at_call 49; refine (HF.out _).mono ?_; rintro e w' ⟨rfl, rfl⟩) | (go_at_call 50; refine (HH.out _ _).mono ?_; simp only [h68, h83, h84, h77, h105, h98, h73]; rintro e w' ⟨rfl, rfl⟩) | (go_at_call 51; refine (HR.out _ _).mono ?_; simp only [qr0]; rintro e w' ⟨rfl, rfl⟩) | (go_at_call 53; refine (HS.out _ _).mono ?_; simp only [qs4]; rintro e w' ⟨rfl, rfl⟩))
            go_ret
            exact ⟨rfl, HB.out⟩
          | true =>
            have HB := Lib.hid ((Below.refl w.heap.size w).alloc (Nat.le_refl _) (.cells #[.int .i64 op, .int .i64 d, .int .i64 0, .int .i64 0, .int .i64 0, .int .i64 0, .int .i64 0, .int .i64 0, .int .i64 im] 26))
            have e0 : chk ⟨op, d, 0, 0, 0, 0, 0, 0, im⟩ = 0 := by unfold chk okI; dsimp only; rw [HFO.out]; simp [okF, zB, plZ, qr0, qs4]
            rw [e0]
            unfold Ins.vs
            dsimp only
            clear e0
            go_enter Tryz.func32, Tryz.ntmps32
            go_wp2_with (first | (go_at_call 49; refine (HF.out _).mono ?_; rintro e w' ⟨rfl, rfl⟩) | (go_at_call 50; refine (HH.out _ _).mono ?_; simp only [h68, h83, h84, h77, h105, h98, h73]; rintro e w' ⟨rfl, rfl⟩) | (go_at_call 51; refine (HR.out _ _).mono ?_; simp only [qr0]; rintro e w' ⟨rfl, rfl⟩) | (go_at_call 53; refine (HS.out _ _).mono ?_; simp only [qs4]; rintro e w' ⟨rfl, rfl⟩))
            go_ret
            exact ⟨rfl, HB.out⟩
        · have qn : (decide (b = 0) && decide (x = 0) && decide (sc = 0) && decide (di = 0)) = false := by rw [Bool.eq_false_iff]; intro h; simp only [Bool.and_eq_true, decide_eq_true_eq] at h; exact qm ⟨h.1.1.1, h.1.1.2, h.1.2, h.2⟩
          have hme : ∀ W, _ := fun W => memEq b x sc di W
          rw [qn] at hme
          have HQN := Lib.hid qn
          clear qn qm
          have HB := Lib.hid ((Below.refl w.heap.size w).alloc (Nat.le_refl _) (.cells #[.int .i64 op, .int .i64 d, .int .i64 0, .int .i64 0, .int .i64 b, .int .i64 x, .int .i64 sc, .int .i64 di, .int .i64 im] 26))
          have e0 : chk ⟨op, d, 0, 0, b, x, sc, di, im⟩ = 2 := by unfold chk okI; dsimp only; rw [HFO.out]; simp [okF, zB, plZ, qr0, HQN.out]
          rw [e0]
          unfold Ins.vs
          dsimp only
          clear e0
          go_enter Tryz.func32, Tryz.ntmps32
          go_wp2_with (first | (go_at_call 49; refine (HF.out _).mono ?_; rintro e w' ⟨rfl, rfl⟩) | (go_at_call 50; refine (HH.out _ _).mono ?_; simp only [h68, h83, h84, h77, h105, h98, h73]; rintro e w' ⟨rfl, rfl⟩) | (go_at_call 51; refine (HR.out _ _).mono ?_; simp only [qr0]; rintro e w' ⟨rfl, rfl⟩))
          go_ret
          exact ⟨rfl, HB.out⟩
      · have hz2 : (t == 0) = false := by rw [beq_eq_false_iff_ne]; exact qz2
        have HB := Lib.hid ((Below.refl w.heap.size w).alloc (Nat.le_refl _) (.cells #[.int .i64 op, .int .i64 d, .int .i64 0, .int .i64 t, .int .i64 b, .int .i64 x, .int .i64 sc, .int .i64 di, .int .i64 im] 26))
        have e0 : chk ⟨op, d, 0, t, b, x, sc, di, im⟩ = 2 := by unfold chk okI; dsimp only; rw [HFO.out]; simp [okF, zB, plZ, qr0, qz2]
        rw [e0]
        unfold Ins.vs
        dsimp only
        clear e0
        go_enter Tryz.func32, Tryz.ntmps32
        go_wp2_with (first | (go_at_call 49; refine (HF.out _).mono ?_; rintro e w' ⟨rfl, rfl⟩) | (go_at_call 50; refine (HH.out _ _).mono ?_; simp only [h68, h83, h84, h77, h105, h98, h73]; rintro e w' ⟨rfl, rfl⟩) | (go_at_call 51; refine (HR.out _ _).mono ?_; simp only [qr0]; rintro e w' ⟨rfl, rfl⟩))
        go_ret
        exact ⟨rfl, HB.out⟩
    · have hz1 : (s == 0) = false := by rw [beq_eq_false_iff_ne]; exact qz1
      have HB := Lib.hid ((Below.refl w.heap.size w).alloc (Nat.le_refl _) (.cells #[.int .i64 op, .int .i64 d, .int .i64 s, .int .i64 t, .int .i64 b, .int .i64 x, .int .i64 sc, .int .i64 di, .int .i64 im] 26))
      have e0 : chk ⟨op, d, s, t, b, x, sc, di, im⟩ = 2 := by unfold chk okI; dsimp only; rw [HFO.out]; simp [okF, zB, plZ, qr0, qz1]
      rw [e0]
      unfold Ins.vs
      dsimp only
      clear e0
      go_enter Tryz.func32, Tryz.ntmps32
      go_wp2_with (first | (go_at_call 49; refine (HF.out _).mono ?_; rintro e w' ⟨rfl, rfl⟩) | (go_at_call 50; refine (HH.out _ _).mono ?_; simp only [h68, h83, h84, h77, h105, h98, h73]; rintro e w' ⟨rfl, rfl⟩) | (go_at_call 51; refine (HR.out _ _).mono ?_; simp only [qr0]; rintro e w' ⟨rfl, rfl⟩))
      go_ret
      exact ⟨rfl, HB.out⟩
set_option maxRecDepth 100000 in
set_option maxHeartbeats 4000000 in
theorem check_dst (i : Ins) (hf : formOf i.op = .dst) (w : World) : Calls Tryz.prog 32 #[.agg i.vs] w fun e w' => e = .returned (.int .i64 (chk i)) ∧ Below w.heap.size w w' := by
  obtain ⟨op, d, s, t, b, x, sc, di, im⟩ := i
  dsimp only at hf
  have HF : Hid (∀ W, Calls Tryz.prog 49 #[.int .i64 op] W fun e w' => e = .returned (.string ⟨#[68, 83, 84]⟩) ∧ w' = W) := Lib.hid (fun W => by have h1 := form_c op W; rw [hf] at h1; exact h1)
  have HH : Hid (∀ c W, Calls Tryz.prog 50 #[.string ⟨#[68, 83, 84]⟩, .int .u8 c] W fun e w' => e = .returned (.bool (hasB ⟨#[68, 83, 84]⟩ c)) ∧ w' = W) := Lib.hid (fun c W => has_c ⟨#[68, 83, 84]⟩ c W (by decide))
  have h68 : hasB ⟨#[68, 83, 84]⟩ 68 = true := by decide
  have h83 : hasB ⟨#[68, 83, 84]⟩ 83 = true := by decide
  have h84 : hasB ⟨#[68, 83, 84]⟩ 84 = true := by decide
  have h77 : hasB ⟨#[68, 83, 84]⟩ 77 = false := by decide
  have h105 : hasB ⟨#[68, 83, 84]⟩ 105 = false := by decide
  have h98 : hasB ⟨#[68, 83, 84]⟩ 98 = false := by decide
  have h73 : hasB ⟨#[68, 83, 84]⟩ 73 = false := by decide
  have HR := Lib.hid register_c
  have HS := Lib.hid small_c
  have HFO := Lib.hid hf
  clear hf
  cases qr0 : regB d with
  | false =>
    have HB := Lib.hid ((Below.refl w.heap.size w).alloc (Nat.le_refl _) (.cells #[.int .i64 op, .int .i64 d, .int .i64 s, .int .i64 t, .int .i64 b, .int .i64 x, .int .i64 sc, .int .i64 di, .int .i64 im] 26))
    have e0 : chk ⟨op, d, s, t, b, x, sc, di, im⟩ = 2 := by unfold chk okI; dsimp only; rw [HFO.out]; simp [okF, zB, plZ, qr0]
    rw [e0]
    unfold Ins.vs
    dsimp only
    clear e0
    go_enter Tryz.func32, Tryz.ntmps32
    go_wp2_with (first | (go_at_call 49; refine (HF.out _).mono ?_; rintro e w' ⟨rfl, rfl⟩) | (go_at_call 50; refine (HH.out _ _).mono ?_; simp only [h68, h83, h84, h77, h105, h98, h73]; rintro e w' ⟨rfl, rfl⟩) | (go_at_call 51; refine (HR.out _ _).mono ?_; simp only [qr0]; rintro e w' ⟨rfl, rfl⟩))
    go_ret
    exact ⟨rfl, HB.out⟩
  | true =>
    cases qr1 : regB s with
    | false =>
      have HB := Lib.hid ((Below.refl w.heap.size w).alloc (Nat.le_refl _) (.cells #[.int .i64 op, .int .i64 d, .int .i64 s, .int .i64 t, .int .i64 b, .int .i64 x, .int .i64 sc, .int .i64 di, .int .i64 im] 26))
      have e0 : chk ⟨op, d, s, t, b, x, sc, di, im⟩ = 2 := by unfold chk okI; dsimp only; rw [HFO.out]; simp [okF, zB, plZ, qr0, qr1]
      rw [e0]
      unfold Ins.vs
      dsimp only
      clear e0
      go_enter Tryz.func32, Tryz.ntmps32
      go_wp2_with (first | (go_at_call 49; refine (HF.out _).mono ?_; rintro e w' ⟨rfl, rfl⟩) | (go_at_call 50; refine (HH.out _ _).mono ?_; simp only [h68, h83, h84, h77, h105, h98, h73]; rintro e w' ⟨rfl, rfl⟩) | (go_at_call 51; refine (HR.out _ _).mono ?_; simp only [qr0, qr1]; rintro e w' ⟨rfl, rfl⟩))
      go_ret
      exact ⟨rfl, HB.out⟩
    | true =>
      cases qr2 : regB t with
      | false =>
        have HB := Lib.hid ((Below.refl w.heap.size w).alloc (Nat.le_refl _) (.cells #[.int .i64 op, .int .i64 d, .int .i64 s, .int .i64 t, .int .i64 b, .int .i64 x, .int .i64 sc, .int .i64 di, .int .i64 im] 26))
        have e0 : chk ⟨op, d, s, t, b, x, sc, di, im⟩ = 2 := by unfold chk okI; dsimp only; rw [HFO.out]; simp [okF, zB, plZ, qr0, qr1, qr2]
        rw [e0]
        unfold Ins.vs
        dsimp only
        clear e0
        go_enter Tryz.func32, Tryz.ntmps32
        go_wp2_with (first | (go_at_call 49; refine (HF.out _).mono ?_; rintro e w' ⟨rfl, rfl⟩) | (go_at_call 50; refine (HH.out _ _).mono ?_; simp only [h68, h83, h84, h77, h105, h98, h73]; rintro e w' ⟨rfl, rfl⟩) | (go_at_call 51; refine (HR.out _ _).mono ?_; simp only [qr0, qr1, qr2]; rintro e w' ⟨rfl, rfl⟩))
        go_ret
        exact ⟨rfl, HB.out⟩
      | true =>
        by_cases qd2 : d = s
        · subst qd2
          have HB := Lib.hid ((Below.refl w.heap.size w).alloc (Nat.le_refl _) (.cells #[.int .i64 op, .int .i64 d, .int .i64 d, .int .i64 t, .int .i64 b, .int .i64 x, .int .i64 sc, .int .i64 di, .int .i64 im] 26))
          have e0 : chk ⟨op, d, d, t, b, x, sc, di, im⟩ = 2 := by unfold chk okI; dsimp only; rw [HFO.out]; simp [okF, zB, plZ, qr0, qr2]
          rw [e0]
          unfold Ins.vs
          dsimp only
          clear e0
          go_enter Tryz.func32, Tryz.ntmps32
          go_wp2_with (first | (go_at_call 49; refine (HF.out _).mono ?_; rintro e w' ⟨rfl, rfl⟩) | (go_at_call 50; refine (HH.out _ _).mono ?_; simp only [h68, h83, h84, h77, h105, h98, h73]; rintro e w' ⟨rfl, rfl⟩) | (go_at_call 51; refine (HR.out _ _).mono ?_; simp only [qr0, qr2]; rintro e w' ⟨rfl, rfl⟩))
          go_ret
          exact ⟨rfl, HB.out⟩
        · have hd1 : (d == s) = false := by rw [beq_eq_false_iff_ne]; exact qd2
          have hd2 : (d != s) = true := by rw [bne, hd1]; rfl
          by_cases qm : b = 0 ∧ x = 0 ∧ sc = 0 ∧ di = 0
          · obtain ⟨rfl, rfl, rfl, rfl⟩ := qm
            have hme : ∀ W, _ := fun W => (memEq 0 0 0 0 W).trans (by rfl : _ = Result.ok (Value.bool true) W)
            by_cases qz4 : im = 0
            · subst qz4
              have HB := Lib.hid ((Below.refl w.heap.size w).alloc (Nat.le_refl _) (.cells #[.int .i64 op, .int .i64 d, .int .i64 s, .int .i64 t, .int .i64 0, .int .i64 0, .int .i64 0, .int .i64 0, .int .i64 0] 26))
              have e0 : chk ⟨op, d, s, t, 0, 0, 0, 0, 0⟩ = 0 := by unfold chk okI; dsimp only; rw [HFO.out]; simp [okF, zB, plZ, qr0, qr1, qr2, qd2]
              rw [e0]
              unfold Ins.vs
              dsimp only
              clear e0
              go_enter Tryz.func32, Tryz.ntmps32
              go_wp2_with (first | (go_at_call 49; refine (HF.out _).mono ?_; rintro e w' ⟨rfl, rfl⟩) | (go_at_call 50; refine (HH.out _ _).mono ?_; simp only [h68, h83, h84, h77, h105, h98, h73]; rintro e w' ⟨rfl, rfl⟩) | (go_at_call 51; refine (HR.out _ _).mono ?_; simp only [qr0, qr1, qr2]; rintro e w' ⟨rfl, rfl⟩))
              go_ret
              exact ⟨rfl, HB.out⟩
            · have hz4 : (im == 0) = false := by rw [beq_eq_false_iff_ne]; exact qz4
              have HB := Lib.hid ((Below.refl w.heap.size w).alloc (Nat.le_refl _) (.cells #[.int .i64 op, .int .i64 d, .int .i64 s, .int .i64 t, .int .i64 0, .int .i64 0, .int .i64 0, .int .i64 0, .int .i64 im] 26))
              have e0 : chk ⟨op, d, s, t, 0, 0, 0, 0, im⟩ = 2 := by unfold chk okI; dsimp only; rw [HFO.out]; simp [okF, zB, plZ, qr0, qr1, qr2, qd2, qz4]
              rw [e0]
              unfold Ins.vs
              dsimp only
              clear e0
              go_enter Tryz.func32, Tryz.ntmps32
              go_wp2_with (first | (go_at_call 49; refine (HF.out _).mono ?_; rintro e w' ⟨rfl, rfl⟩) | (go_at_call 50; refine (HH.out _ _).mono ?_; simp only [h68, h83, h84, h77, h105, h98, h73]; rintro e w' ⟨rfl, rfl⟩) | (go_at_call 51; refine (HR.out _ _).mono ?_; simp only [qr0, qr1, qr2]; rintro e w' ⟨rfl, rfl⟩))
              go_ret
              exact ⟨rfl, HB.out⟩
          · have qn : (decide (b = 0) && decide (x = 0) && decide (sc = 0) && decide (di = 0)) = false := by rw [Bool.eq_false_iff]; intro h; simp only [Bool.and_eq_true, decide_eq_true_eq] at h; exact qm ⟨h.1.1.1, h.1.1.2, h.1.2, h.2⟩
            have hme : ∀ W, _ := fun W => memEq b x sc di W
            rw [qn] at hme
            have HQN := Lib.hid qn
            clear qn qm
            have HB := Lib.hid ((Below.refl w.heap.size w).alloc (Nat.le_refl _) (.cells #[.int .i64 op, .int .i64 d, .int .i64 s, .int .i64 t, .int .i64 b, .int .i64 x, .int .i64 sc, .int .i64 di, .int .i64 im] 26))
            have e0 : chk ⟨op, d, s, t, b, x, sc, di, im⟩ = 2 := by unfold chk okI; dsimp only; rw [HFO.out]; simp [okF, zB, plZ, qr0, qr1, qr2, qd2, HQN.out]
            rw [e0]
            unfold Ins.vs
            dsimp only
            clear e0
            go_enter Tryz.func32, Tryz.ntmps32
            go_wp2_with (first | (go_at_call 49; refine (HF.out _).mono ?_; rintro e w' ⟨rfl, rfl⟩) | (go_at_call 50; refine (HH.out _ _).mono ?_; simp only [h68, h83, h84, h77, h105, h98, h73]; rintro e w' ⟨rfl, rfl⟩) | (go_at_call 51; refine (HR.out _ _).mono ?_; simp only [qr0, qr1, qr2]; rintro e w' ⟨rfl, rfl⟩))
            go_ret
            exact ⟨rfl, HB.out⟩
end Is
end Go.Proofs.YtblmagcekfbgdaaGreatDoor
