/- The landed package inst's Check. -/
import Derived.Test.YthidjiidcelniaaDoorJ4
import Derived.Test.YthidjiidcelniaaDoorJ3d
namespace Go.Proofs.YthidjiidcelniaaDoor
open Go Go.RowKit Go.Sort
namespace Is
open Nt
set_option linter.unusedVariables false
set_option linter.unusedSimpArgs false
set_option maxRecDepth 100000 in
set_option maxHeartbeats 4000000 in
theorem check_l (i : Ins) (hi : i.wf) (w : World) (hT : Tab w) : Calls Tryd.prog 20 #[.agg i.vs] w fun e w' => e = .returned (.int .i64 (chk i)) ∧ Grw w w' := by
  have mixed : Tryd.prog.follows .mixedOrders = true := by kernel_rfl
  have HIS := Lib.hid (fun op W => Calls.grw (is_l op W))
  have HG0 := Lib.hid (Grw.alloc w (.cells i.vs 29))
  have HI0 := Lib.hid (Bk.new w 29 i.vs)
  by_cases hop : 1 ≤ i.op ∧ i.op ≤ 33
  · obtain ⟨k, hk, h1, h2⟩ : ∃ k : Nat, i.op = (k : Int) ∧ 1 ≤ k ∧ k ≤ 33 := ⟨i.op.toNat, by omega, by omega, by omega⟩
    obtain ⟨fk, hfk⟩ := nu_fin k (by omega)
    have VF := Lib.hid (fun W => fits_l (fNm k) (fPt k) (fNu k) (fFt k) (fFm k) fk hfk i hi W)
    rw [fit_ok k h1 h2 i hk] at VF
    have HC := Lib.hid (show chk i = if okI i then 0 else 2 from rfl)
    generalize chk i = res at *
    generalize okI i = ok at *
    have HT1 := Lib.hid (hT.keep HG0.out.below)
    obtain ⟨op, d, s, t, b, x, sc, di, im⟩ := i
    dsimp only at hk hop
    subst hk
    unfold Ins.vs at *
    dsimp only at *
    obtain ⟨W0, hW0⟩ : ∃ W0, W0 = w.alloc (.cells #[.int .i64 (k : Int), .int .i64 d, .int .i64 s, .int .i64 t, .int .i64 b, .int .i64 x, .int .i64 sc, .int .i64 di, .int .i64 im] 29) := ⟨_, rfl⟩
    rw [← hW0] at HG0 HI0 HT1
    have HW0 := Lib.hid hW0
    have hb1 : decide ((1 : Int) ≤ (k : Int)) = true := decide_eq_true (by omega)
    have hb2 : decide ((k : Int) ≤ 33) = true := decide_eq_true (by omega)
    have g0 : ∀ n os, (grow (W0.drewN n) os).cell? ⟨0, k * 5, none⟩ = some (.string (fNm k)) := fun n os => cell_grown HT1.out.lt (HT1.out.nm k (by omega)) n os
    have g1 : ∀ n os, (grow (W0.drewN n) os).cell? ⟨0, k * 5 + 1, none⟩ = some (.int .u16 (fPt k)) := fun n os => cell_grown HT1.out.lt (HT1.out.pt k (by omega)) n os
    have g2 : ∀ n os, (grow (W0.drewN n) os).cell? ⟨0, k * 5 + 2, none⟩ = some (.int .i64 (fNu k)) := fun n os => cell_grown HT1.out.lt (HT1.out.nu k (by omega)) n os
    have g3 : ∀ n os, (grow (W0.drewN n) os).cell? ⟨0, k * 5 + 3, none⟩ = some (.int .i64 (fFt k)) := fun n os => cell_grown HT1.out.lt (HT1.out.ft k (by omega)) n os
    have g4 : ∀ n os, (grow (W0.drewN n) os).cell? ⟨0, k * 5 + 4, none⟩ = some (.int .i64 (fFm k)) := fun n os => cell_grown HT1.out.lt (HT1.out.fm k (by omega)) n os
    have e0 : (0 : Int) ≤ (k : Int) := by omega
    have e1 : (k : Int) < 34 := by omega
    have h0 : ∀ n os, (grow (W0.drewN n) os).cell? ⟨w.heap.size, 0, none⟩ = some (.int .i64 (k : Int)) := fun n os => cell_grown HI0.out.lt (HI0.out.cell 0) n os
    have h1 : ∀ n os, (grow (W0.drewN n) os).cell? ⟨w.heap.size, 1, none⟩ = some (.int .i64 d) := fun n os => cell_grown HI0.out.lt (HI0.out.cell 1) n os
    have h2 : ∀ n os, (grow (W0.drewN n) os).cell? ⟨w.heap.size, 2, none⟩ = some (.int .i64 s) := fun n os => cell_grown HI0.out.lt (HI0.out.cell 2) n os
    have h3 : ∀ n os, (grow (W0.drewN n) os).cell? ⟨w.heap.size, 3, none⟩ = some (.int .i64 t) := fun n os => cell_grown HI0.out.lt (HI0.out.cell 3) n os
    have h4 : ∀ n os, (grow (W0.drewN n) os).cell? ⟨w.heap.size, 4, none⟩ = some (.int .i64 b) := fun n os => cell_grown HI0.out.lt (HI0.out.cell 4) n os
    have h5 : ∀ n os, (grow (W0.drewN n) os).cell? ⟨w.heap.size, 5, none⟩ = some (.int .i64 x) := fun n os => cell_grown HI0.out.lt (HI0.out.cell 5) n os
    have h6 : ∀ n os, (grow (W0.drewN n) os).cell? ⟨w.heap.size, 6, none⟩ = some (.int .i64 sc) := fun n os => cell_grown HI0.out.lt (HI0.out.cell 6) n os
    have h7 : ∀ n os, (grow (W0.drewN n) os).cell? ⟨w.heap.size, 7, none⟩ = some (.int .i64 di) := fun n os => cell_grown HI0.out.lt (HI0.out.cell 7) n os
    have h8 : ∀ n os, (grow (W0.drewN n) os).cell? ⟨w.heap.size, 8, none⟩ = some (.int .i64 im) := fun n os => cell_grown HI0.out.lt (HI0.out.cell 8) n os
    have HIS1 : Hid (∀ W, Calls Tryd.prog 40 #[.int .i64 (k : Int)] W fun e w' => e = .returned (.bool true) ∧ Grw W w') := Lib.hid (fun W => by have h := HIS.out (k : Int) W; rw [hb1, hb2] at h; exact h)
    generalize fNm k = nm at *
    generalize fPt k = pt at *
    generalize fNu k = nu at *
    generalize fFt k = ft at *
    generalize fFm k = fm at *
    clear hW0 hop hb1 hb2 hT HIS hfk HI0 HT1
    cases ok with
    | true =>
      obtain rfl : res = 0 := HC.out
      go_enter Tryd.func20, Tryd.ntmps20
      go_wp2_with fail
      rw [← HW0.out]
      go_quiet_grown (first | (go_at_call 40; exact Calls.grown_of (HIS1.out _)) | (go_at_call 41; exact Calls.grown_of (VF.out _)))
      go_wp2_with fail
      go_ret
      exact ⟨rfl, HG0.out.trans (Grw.of _ _ _)⟩
    | false =>
      obtain rfl : res = 2 := HC.out
      go_enter Tryd.func20, Tryd.ntmps20
      go_wp2_with fail
      rw [← HW0.out]
      go_quiet_grown (first | (go_at_call 40; exact Calls.grown_of (HIS1.out _)) | (go_at_call 41; exact Calls.grown_of (VF.out _)))
      go_wp2_with fail
      go_ret
      exact ⟨rfl, HG0.out.trans (Grw.of _ _ _)⟩
  · have e2 : chk i = 2 := by
      have e3 : formOf i.op = .no := by
        unfold formOf
        rw [if_neg (by omega), if_neg (by omega), if_neg (by omega), if_neg (by omega), if_neg (by omega), if_neg (by omega), if_neg (by omega), if_neg (by omega), if_neg (by omega), if_neg (by omega), if_neg (by omega)]
      unfold chk okI
      rw [e3]; rfl
    rw [e2]
    have HIS1 : Hid (∀ W, Calls Tryd.prog 40 #[.int .i64 i.op] W fun e w' => e = .returned (.bool false) ∧ Grw W w') := Lib.hid (fun W => by
      have h := HIS.out i.op W
      have h2 : (decide (1 ≤ i.op) && decide (i.op ≤ 33)) = false := by
        rw [Bool.eq_false_iff]
        intro h3
        simp only [Bool.and_eq_true, decide_eq_true_eq] at h3
        exact hop h3
      rw [h2] at h; exact h)
    clear e2 hop hi hT HIS
    obtain ⟨op, d, s, t, b, x, sc, di, im⟩ := i
    unfold Ins.vs at *
    dsimp only at *
    obtain ⟨W0, hW0⟩ : ∃ W0, W0 = w.alloc (.cells #[.int .i64 op, .int .i64 d, .int .i64 s, .int .i64 t, .int .i64 b, .int .i64 x, .int .i64 sc, .int .i64 di, .int .i64 im] 29) := ⟨_, rfl⟩
    rw [← hW0] at HG0 HI0
    have HW0 := Lib.hid hW0
    clear hW0
    have h0 : ∀ n os, (grow (W0.drewN n) os).cell? ⟨w.heap.size, 0, none⟩ = some (.int .i64 op) := fun n os => cell_grown HI0.out.lt (HI0.out.cell 0) n os
    go_enter Tryd.func20, Tryd.ntmps20
    go_wp2_with fail
    rw [← HW0.out]
    go_quiet_grown ((go_at_call 40; exact Calls.grown_of (HIS1.out _)))
    go_wp2_with fail
    go_ret
    exact ⟨rfl, HG0.out.trans (Grw.of _ _ _)⟩
end Is
end Go.Proofs.YthidjiidcelniaaDoor
