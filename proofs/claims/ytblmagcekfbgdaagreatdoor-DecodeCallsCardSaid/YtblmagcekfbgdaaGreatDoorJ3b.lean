/- The landed package inst: whether an instruction fits a form: D is made, S is not. -/
import Derived.Test.YtblmagcekfbgdaaGreatDoorJ3
namespace Go.Proofs.YtblmagcekfbgdaaGreatDoor
open Go Go.RowKit Go.Sort
namespace Is
open Nt
set_option linter.unusedVariables false
set_option linter.unusedSimpArgs false
set_option maxRecDepth 100000 in
set_option maxHeartbeats 8000000 in
theorem fits_b (nm : ByteArray) (pt nu ft fm : Int) (k : Fin 4) (hk : (k.val : Int) = nu) (i : Ins) (hi : i.wf) (q2 : hpB pt 2 = true) (q8 : hpB pt 8 = false) (w : World) : Calls Tryz.prog 76 #[.agg #[.string nm, .int .u16 pt, .int .i64 nu, .int .i64 ft, .int .i64 fm], .agg i.vs] w fun e w' => e = .returned (.bool (fitB pt nu i)) ∧ Grw w w' := by
  have mixed : Tryz.prog.follows .mixedOrders = true := by kernel_rfl
  have HH := Lib.hid (fun p W => has_l nm pt nu ft fm p W)
  have VR := Lib.hid (fun r q W => Calls.grw (fitsRegister_l r q W))
  have VP := Lib.hid (fun q W => fitsPlace_l i q W hi.di)
  have VN := Lib.hid (fun W => Calls.grw (fitsNumber_l i.im k W hi.im))
  rw [hk] at VN
  have HE := Lib.hid (show fitB pt nu i = if hpB pt 2 && (hpB pt 8 && decide (i.d = i.s)) then false else frB i.d (hpB pt 3) && (frB i.s (hpB pt 12) && (frB i.t (hpB pt 16) && (fpB i (hpB pt 32) && fnB i.im nu))) from rfl)
  clear hi hk
  generalize fitB pt nu i = res at *
  generalize fnB i.im nu = v5 at *
  generalize hpB pt = hv at *
  generalize fpB i = fp at *
  generalize frB = fr at *
  obtain ⟨op, d, s, t, b, x, sc, di, im⟩ := i
  unfold Ins.vs at *
  dsimp only at *
  have HG0 := Lib.hid ((Grw.alloc w (.cells #[.string nm, .int .u16 pt, .int .i64 nu, .int .i64 ft, .int .i64 fm] 100)).trans (Grw.alloc _ (.cells #[.int .i64 op, .int .i64 d, .int .i64 s, .int .i64 t, .int .i64 b, .int .i64 x, .int .i64 sc, .int .i64 di, .int .i64 im] 26)))
  have HF0 := Lib.hid ((Bk.new w 100 #[.string nm, .int .u16 pt, .int .i64 nu, .int .i64 ft, .int .i64 fm]).alloc (.cells #[.int .i64 op, .int .i64 d, .int .i64 s, .int .i64 t, .int .i64 b, .int .i64 x, .int .i64 sc, .int .i64 di, .int .i64 im] 26))
  have HI0 := Lib.hid (Bk.new (w.alloc (.cells #[.string nm, .int .u16 pt, .int .i64 nu, .int .i64 ft, .int .i64 fm] 100)) 26 #[.int .i64 op, .int .i64 d, .int .i64 s, .int .i64 t, .int .i64 b, .int .i64 x, .int .i64 sc, .int .i64 di, .int .i64 im])
  rw [show (w.alloc (.cells #[.string nm, .int .u16 pt, .int .i64 nu, .int .i64 ft, .int .i64 fm] 100)).heap.size = w.heap.size + 1 by simp] at HI0
  obtain ⟨W0, hW0⟩ : ∃ W0, W0 = (w.alloc (.cells #[.string nm, .int .u16 pt, .int .i64 nu, .int .i64 ft, .int .i64 fm] 100)).alloc (.cells #[.int .i64 op, .int .i64 d, .int .i64 s, .int .i64 t, .int .i64 b, .int .i64 x, .int .i64 sc, .int .i64 di, .int .i64 im] 26) := ⟨_, rfl⟩
  rw [← hW0] at HG0 HF0 HI0
  have hsz : w.heap.size + 1 < W0.heap.size := by rw [hW0]; simp
  have HW0 := Lib.hid hW0
  clear hW0
  obtain ⟨f0, f1, f2, f3, f4⟩ := c5 HF0.out
  obtain ⟨a0, a1, a2, a3, a4, a5, a6, a7, a8⟩ := c9 HI0.out
  go_enter Tryz.func76, Tryz.ntmps76
  try simp only [List.append]
  go_wp2_with fail
  rw [← HW0.out]
  go_at_call 91
  refine (HH.out _ _).mono ?_
  rw [q2]
  rintro e w1 ⟨rfl, hq⟩
  have HF1 := Lib.hid (HF0.out.below hq.below HF0.out.lt)
  have HI1 := Lib.hid (HI0.out.below hq.below HI0.out.lt)
  have HG1 := Lib.hid (HG0.out.trans hq)
  clear hq
  clear f0 f1 f2 f3 f4 a0 a1 a2 a3 a4 a5 a6 a7 a8
  obtain ⟨f0, f1, f2, f3, f4⟩ := c5 HF1.out
  obtain ⟨a0, a1, a2, a3, a4, a5, a6, a7, a8⟩ := c9 HI1.out
  go_wp2_with fail
  go_at_call 91
  refine (HH.out _ _).mono ?_
  rw [q8]
  rintro e w2 ⟨rfl, hq⟩
  have HF2 := Lib.hid (HF1.out.below hq.below HF1.out.lt)
  have HI2 := Lib.hid (HI1.out.below hq.below HI1.out.lt)
  have HG2 := Lib.hid (HG1.out.trans hq)
  clear hq
  clear f0 f1 f2 f3 f4 a0 a1 a2 a3 a4 a5 a6 a7 a8
  go_wp2_with fail
  have HGz := HG2
  have g0 : ∀ n os, (grow (w2.drewN n) os).cell? ⟨w.heap.size, 0, none⟩ = some (.string nm) := fun n os => cell_grown HF2.out.lt (HF2.out.cell 0) n os
  have g1 : ∀ n os, (grow (w2.drewN n) os).cell? ⟨w.heap.size, 1, none⟩ = some (.int .u16 pt) := fun n os => cell_grown HF2.out.lt (HF2.out.cell 1) n os
  have g2 : ∀ n os, (grow (w2.drewN n) os).cell? ⟨w.heap.size, 2, none⟩ = some (.int .i64 nu) := fun n os => cell_grown HF2.out.lt (HF2.out.cell 2) n os
  have g3 : ∀ n os, (grow (w2.drewN n) os).cell? ⟨w.heap.size, 3, none⟩ = some (.int .i64 ft) := fun n os => cell_grown HF2.out.lt (HF2.out.cell 3) n os
  have g4 : ∀ n os, (grow (w2.drewN n) os).cell? ⟨w.heap.size, 4, none⟩ = some (.int .i64 fm) := fun n os => cell_grown HF2.out.lt (HF2.out.cell 4) n os
  have h0 : ∀ n os, (grow (w2.drewN n) os).cell? ⟨w.heap.size + 1, 0, none⟩ = some (.int .i64 op) := fun n os => cell_grown HI2.out.lt (HI2.out.cell 0) n os
  have h1 : ∀ n os, (grow (w2.drewN n) os).cell? ⟨w.heap.size + 1, 1, none⟩ = some (.int .i64 d) := fun n os => cell_grown HI2.out.lt (HI2.out.cell 1) n os
  have h2 : ∀ n os, (grow (w2.drewN n) os).cell? ⟨w.heap.size + 1, 2, none⟩ = some (.int .i64 s) := fun n os => cell_grown HI2.out.lt (HI2.out.cell 2) n os
  have h3 : ∀ n os, (grow (w2.drewN n) os).cell? ⟨w.heap.size + 1, 3, none⟩ = some (.int .i64 t) := fun n os => cell_grown HI2.out.lt (HI2.out.cell 3) n os
  have h4 : ∀ n os, (grow (w2.drewN n) os).cell? ⟨w.heap.size + 1, 4, none⟩ = some (.int .i64 b) := fun n os => cell_grown HI2.out.lt (HI2.out.cell 4) n os
  have h5 : ∀ n os, (grow (w2.drewN n) os).cell? ⟨w.heap.size + 1, 5, none⟩ = some (.int .i64 x) := fun n os => cell_grown HI2.out.lt (HI2.out.cell 5) n os
  have h6 : ∀ n os, (grow (w2.drewN n) os).cell? ⟨w.heap.size + 1, 6, none⟩ = some (.int .i64 sc) := fun n os => cell_grown HI2.out.lt (HI2.out.cell 6) n os
  have h7 : ∀ n os, (grow (w2.drewN n) os).cell? ⟨w.heap.size + 1, 7, none⟩ = some (.int .i64 di) := fun n os => cell_grown HI2.out.lt (HI2.out.cell 7) n os
  have h8 : ∀ n os, (grow (w2.drewN n) os).cell? ⟨w.heap.size + 1, 8, none⟩ = some (.int .i64 im) := fun n os => cell_grown HI2.out.lt (HI2.out.cell 8) n os
  cases v1 : fr d (hv 3) with
  | false =>
    obtain rfl : res = false := by rw [HE.out, q2, q8, v1]; first | rfl | simp
    go_quiet_grown (first | (go_at_call 91; exact Calls.grown_of (HH.out _ _)) | (go_at_call 92; exact Calls.grown_of (VR.out _ _ _)) | (go_at_call 93; exact Calls.grown_of (VP.out _ _)) | (go_at_call 94; exact Calls.grown_of (VN.out _)))
    go_wp2_with fail
    go_ret
    exact ⟨by first | rfl | simp, HGz.out.trans (Grw.of _ _ _)⟩
  | true =>
    cases v2 : fr s (hv 12) with
    | false =>
      obtain rfl : res = false := by rw [HE.out, q2, q8, v1, v2]; first | rfl | simp
      go_quiet_grown (first | (go_at_call 91; exact Calls.grown_of (HH.out _ _)) | (go_at_call 92; exact Calls.grown_of (VR.out _ _ _)) | (go_at_call 93; exact Calls.grown_of (VP.out _ _)) | (go_at_call 94; exact Calls.grown_of (VN.out _)))
      go_wp2_with fail
      go_ret
      exact ⟨by first | rfl | simp, HGz.out.trans (Grw.of _ _ _)⟩
    | true =>
      cases v3 : fr t (hv 16) with
      | false =>
        obtain rfl : res = false := by rw [HE.out, q2, q8, v1, v2, v3]; first | rfl | simp
        go_quiet_grown (first | (go_at_call 91; exact Calls.grown_of (HH.out _ _)) | (go_at_call 92; exact Calls.grown_of (VR.out _ _ _)) | (go_at_call 93; exact Calls.grown_of (VP.out _ _)) | (go_at_call 94; exact Calls.grown_of (VN.out _)))
        go_wp2_with fail
        go_ret
        exact ⟨by first | rfl | simp, HGz.out.trans (Grw.of _ _ _)⟩
      | true =>
        cases v4 : fp (hv 32) with
        | false =>
          obtain rfl : res = false := by rw [HE.out, q2, q8, v1, v2, v3, v4]; first | rfl | simp
          go_quiet_grown (first | (go_at_call 91; exact Calls.grown_of (HH.out _ _)) | (go_at_call 92; exact Calls.grown_of (VR.out _ _ _)) | (go_at_call 93; exact Calls.grown_of (VP.out _ _)) | (go_at_call 94; exact Calls.grown_of (VN.out _)))
          go_wp2_with fail
          go_ret
          exact ⟨by first | rfl | simp, HGz.out.trans (Grw.of _ _ _)⟩
        | true =>
          obtain rfl : res = v5 := by rw [HE.out, q2, q8, v1, v2, v3, v4]; first | rfl | simp
          go_quiet_grown (first | (go_at_call 91; exact Calls.grown_of (HH.out _ _)) | (go_at_call 92; exact Calls.grown_of (VR.out _ _ _)) | (go_at_call 93; exact Calls.grown_of (VP.out _ _)) | (go_at_call 94; exact Calls.grown_of (VN.out _)))
          go_wp2_with fail
          go_ret
          exact ⟨by first | rfl | simp, HGz.out.trans (Grw.of _ _ _)⟩
end Is
end Go.Proofs.YtblmagcekfbgdaaGreatDoor
