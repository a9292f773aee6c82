/- The landed package decode: its forms. | The landed package decode: a product, a digit, two operands. | The landed package decode: two operands. -/
import Derived.Test.YtblmagcekfbgdaaGreatDoorS5
namespace Go.Proofs.YtblmagcekfbgdaaGreatDoor
open Go Go.RowKit
namespace Is
open Nt
set_option linter.unusedVariables false
set_option linter.unusedSimpArgs false
def zC : Array Value := #[.int .i64 0, .int .i64 0, .int .i64 0, .int .i64 0, .int .i64 0, .int .i64 0, .int .i64 0, .int .i64 0, .int .i64 0]
theorem bel_fresh {w : World} {o : Obj} {S : List Nat} {w2 : World} {T : List Nat} (h : Mu T (w.alloc o) w2) (hT : ∀ j, j ∈ T → j < w.heap.size → j ∈ S) : Mu S w w2 := ((Mu.refl S w).alloc o).trans h hT
set_option maxRecDepth 100000 in
set_option maxHeartbeats 4000000 in
theorem djumpIf_l (C k : Nat) (code : ByteArray) (w : World) (hC : Cu w C code k) (hk : k ≤ 600000) :
    Calls Tryz.prog 24 #[.pointer (some ⟨C, 0, none⟩)] w fun e w' => e = .returned (.agg (jifI (bA code) k).vs) ∧ Cu w' C code (jifE (bA code) k) ∧ Mu [C] w w' := by
  have HC := Lib.hid hC
  have HB := Lib.hid (byte_c C (w.heap.size + 1) 0 k code 5 #[.int .u8 0] ((w.alloc (.cells #[.int .i64 0, .int .i64 0, .int .i64 0, .int .i64 0, .int .i64 0, .int .i64 0, .int .i64 0, .int .i64 0, .int .i64 0] 26)).alloc (.cells #[.int .u8 0] 5)) ((hC.alloc _).alloc _) (Bk.new' (by simp)) (by simp) (by have := hC.lt; omega) (by omega))
  have HR : Hid (Bk (w.alloc (.cells #[.int .i64 0, .int .i64 0, .int .i64 0, .int .i64 0, .int .i64 0, .int .i64 0, .int .i64 0, .int .i64 0, .int .i64 0] 26)) w.heap.size 26 #[.int .i64 0, .int .i64 0, .int .i64 0, .int .i64 0, .int .i64 0, .int .i64 0, .int .i64 0, .int .i64 0, .int .i64 0]) := Lib.hid (Bk.new _ _ _)
  have HJ := Lib.hid (fun (op : Int) (W : World) (h : Cu W C code (k + 1)) => djump_l C (k + 1) op code W h (by omega))
  have HE : Hid (jifI (bA code) k = if bA code k = 130 then juI 32 (numB (bA code) (k + 1) 4) else if bA code k = 133 then juI 31 (numB (bA code) (k + 1) 4) else zI) := Lib.hid rfl
  have HF : Hid (jifE (bA code) k = if bA code k = 130 then k + 5 else if bA code k = 133 then k + 5 else k + 1) := Lib.hid rfl
  have hbb := bA_bb code k
  clear hC
  unfold juI Ins.vs at HJ
  dsimp only at HJ
  generalize jifI (bA code) k = sv at *
  generalize jifE (bA code) k = se at *
  generalize numB (bA code) (k + 1) 4 = nv at *
  generalize bA code k = b at *
  go_enter Tryz.func24, Tryz.ntmps24
  go_wp2_with fail
  go_at_call 21
  refine HB.out.mono ?_
  rintro e w2 ⟨rfl, h1, h2, h3⟩
  have HC2 := Lib.hid h1
  have HL2 : Hid (Bk w2 (w.heap.size + 1) 5 #[.int .u8 b]) := Lib.hid h2
  have HR2 := Lib.hid (h3.bk (HR.out.alloc _) (by have := HC.out.lt; simp; omega))
  have HM2 : Hid (Mu [C] w w2) := Lib.hid ((((Mu.refl [C] w).alloc _).alloc _).trans h3 (fun x hx hl => by simp at hx ⊢; omega))
  clear h1 h2 h3 HB
  have l0 : w2.cell? ⟨w.heap.size + 1, 0, none⟩ = some (.int .u8 b) := HL2.out.cell 0
  rcases (show b = 130 ∨ b = 133 ∨ (b ≠ 130 ∧ b ≠ 133) by omega) with rfl | rfl | ⟨n1, n2⟩
  · rw [if_pos rfl] at HE HF
    obtain rfl := HE.out
    obtain rfl := HF.out
    go_wp2_with fail
    go_at_call 27
    refine (HJ.out 32 w2 HC2.out).mono ?_
    rintro e w3 ⟨rfl, h1, h2⟩
    have HC3 := Lib.hid h1
    have HR3 := Lib.hid (h2.bk HR2.out (by have := HC.out.lt; simp; omega))
    have HM3 : Hid (Mu [C] w w3) := Lib.hid (HM2.out.trans h2 (fun x hx hl => hx))
    clear h1 h2 l0
    obtain ⟨b0, b1, b2, b3, b4, b5, b6, b7, b8⟩ := c9 HR3.out
    have f0 : ∀ i, w3.frozen? ⟨w.heap.size, i, none⟩ = false := fun i => HR3.out.frozen i
    go_wp2_with fail
    exact ret_put rfl rfl rfl HR3.out ⟨rfl, put9_far HC3.out (by have := HC.out.lt; omega), put9_mu HM3.out (fun h => by omega)⟩
  · rw [if_neg (by decide), if_pos rfl] at HE HF
    obtain rfl := HE.out
    obtain rfl := HF.out
    go_wp2_with fail
    go_at_call 27
    refine (HJ.out 31 w2 HC2.out).mono ?_
    rintro e w3 ⟨rfl, h1, h2⟩
    have HC3 := Lib.hid h1
    have HR3 := Lib.hid (h2.bk HR2.out (by have := HC.out.lt; simp; omega))
    have HM3 : Hid (Mu [C] w w3) := Lib.hid (HM2.out.trans h2 (fun x hx hl => hx))
    clear h1 h2 l0
    obtain ⟨b0, b1, b2, b3, b4, b5, b6, b7, b8⟩ := c9 HR3.out
    have f0 : ∀ i, w3.frozen? ⟨w.heap.size, i, none⟩ = false := fun i => HR3.out.frozen i
    go_wp2_with fail
    exact ret_put rfl rfl rfl HR3.out ⟨rfl, put9_far HC3.out (by have := HC.out.lt; omega), put9_mu HM3.out (fun h => by omega)⟩
  · rw [if_neg n1, if_neg n2] at HE HF
    obtain rfl := HE.out
    obtain rfl := HF.out
    have m1 : (b == 130) = false := by rw [beq_eq_false_iff_ne]; exact n1
    have m2 : (b == 133) = false := by rw [beq_eq_false_iff_ne]; exact n2
    obtain ⟨b0, b1, b2, b3, b4, b5, b6, b7, b8⟩ := c9 HR2.out
    have f0 : ∀ i, w2.frozen? ⟨w.heap.size, i, none⟩ = false := fun i => HR2.out.frozen i
    go_wp2_with fail
    exact ret_put rfl rfl rfl HR2.out ⟨rfl, put9_far HC2.out (by have := HC.out.lt; omega), put9_mu HM2.out (fun h => by omega)⟩
set_option maxRecDepth 100000 in
set_option maxHeartbeats 4000000 in
theorem doneFlag_l (C k : Nat) (op : Int) (code : ByteArray) (w : World) (hC : Cu w C code k) (hk : k ≤ 600000) :
    Calls Tryz.prog 25 #[.pointer (some ⟨C, 0, none⟩), .int .i64 op] w fun e w' => e = .returned (.agg (twoM (bA code) (k + 4) (bA code k) op).vs) ∧ Cu w' C code (opEnd (bA code) (k + 4)) ∧ Mu [C] w w' := by
  have HC := Lib.hid hC
  have HB := Lib.hid (rexm_c C (w.heap.size + 1) k code (.int .u8 0) (.int .i64 0) .nilIface ((w.alloc (.cells #[.int .i64 0, .int .i64 0, .int .i64 0, .int .i64 0, .int .i64 0, .int .i64 0, .int .i64 0, .int .i64 0, .int .i64 0] 26)).alloc (.cells #[.int .u8 0, .int .i64 0, .nilIface] 76)) ((hC.alloc _).alloc _) (Bk.new' (by simp)) (by have := hC.lt; omega) (by omega))
  have HR : Hid (Bk (w.alloc (.cells #[.int .i64 0, .int .i64 0, .int .i64 0, .int .i64 0, .int .i64 0, .int .i64 0, .int .i64 0, .int .i64 0, .int .i64 0] 26)) w.heap.size 26 #[.int .i64 0, .int .i64 0, .int .i64 0, .int .i64 0, .int .i64 0, .int .i64 0, .int .i64 0, .int .i64 0, .int .i64 0]) := Lib.hid (Bk.new _ _ _)
  have HS := Lib.hid (fun (W : World) (h : Cu W C code (k + 1)) => skip_c C (k + 1) 3 code W h (by omega) (by omega))
  have hbb := bA_bb code k
  have HO := Lib.hid (fun (W : World) (h : Cu W C code (k + 4)) (h2 : Bk W (w.heap.size + 1) 76 #[.int .u8 (bA code k), .int .i64 0, .nilIface]) => operands_c C (w.heap.size + 1) (k + 4) (bA code k) (.int .i64 0) .nilIface code W h h2 hbb.1 hbb.2 (by have := hC.lt; omega) (by omega))
  have HI := Lib.hid (fun W => intoM_l (bA code) (k + 4) (bA code k) op W)
  clear hC hbb
  generalize twoM (bA code) (k + 4) (bA code k) op = sv at *
  generalize opV (bA code) (k + 4) (bA code k) = ov at *
  generalize midR (bA code (k + 4)) (bA code k) = mv at *
  generalize opEnd (bA code) (k + 4) = se at *
  generalize bA code k = b at *
  obtain ⟨i0, i1, i2, i3, i4, i5, i6, i7, i8⟩ := sv
  unfold Ins.vs at *
  dsimp only at *
  go_enter Tryz.func25, Tryz.ntmps25
  go_wp2_with fail
  go_at_call 42
  refine HB.out.mono ?_
  rintro e w2 ⟨rfl, h1, h2, h3⟩
  have HC2 := Lib.hid h1
  have HL2 := Lib.hid h2
  have HR2 := Lib.hid (h3.bk (HR.out.alloc _) (by have := HC.out.lt; simp; omega))
  have HM2 : Hid (Mu [C] w w2) := Lib.hid ((((Mu.refl [C] w).alloc _).alloc _).trans h3 (fun x hx hl => by simp at hx ⊢; omega))
  clear h1 h2 h3 HB
  go_wp2_with fail
  go_at_call 43
  refine (HS.out _ HC2.out).mono ?_
  rintro e w3 ⟨rfl, h1, h2⟩
  have HC3 : Hid (Cu w3 C code (k + 4)) := Lib.hid h1
  have HL3 := Lib.hid (h2.bk HL2.out (by have := HC.out.lt; simp; omega))
  have HR3 := Lib.hid (h2.bk HR2.out (by have := HC.out.lt; simp; omega))
  have HM3 : Hid (Mu [C] w w3) := Lib.hid (HM2.out.trans h2 (fun x hx hl => hx))
  clear h1 h2 HS HC2 HL2 HR2 HM2
  go_wp2_with fail
  go_at_call 44
  refine (HO.out _ HC3.out HL3.out).mono ?_
  rintro e w4 ⟨rfl, h1, h2, h3⟩
  have HC4 := Lib.hid h1
  have HL4 := Lib.hid h2
  have HR4 := Lib.hid (h3.bk HR3.out (by have := HC.out.lt; simp; omega))
  have HM4 : Hid (Mu [C] w w4) := Lib.hid (HM3.out.trans h3 (fun x hx hl => by simp at hx ⊢; omega))
  clear h1 h2 h3 HO HC3 HL3 HR3 HM3
  have l0 : w4.cell? ⟨w.heap.size + 1, 0, none⟩ = some (.int .u8 b) := HL4.out.cell 0
  have l1 : w4.cell? ⟨w.heap.size + 1, 1, none⟩ = some (.int .i64 mv) := HL4.out.cell 1
  have l2 : w4.cell? ⟨w.heap.size + 1, 2, none⟩ = some ov := HL4.out.cell 2
  go_wp2_with fail
  go_at_call 45
  refine (HI.out _).mono ?_
  rintro e w5 ⟨rfl, h3⟩
  have HC5 := Lib.hid (h3.bk HC4.out (by simp))
  have HR5 := Lib.hid (h3.bk HR4.out (by simp))
  have HM5 : Hid (Mu [C] w w5) := Lib.hid (HM4.out.trans h3 (fun x hx hl => by cases hx))
  clear h3 l0 l1 l2 HC4 HL4 HR4 HM4
  obtain ⟨b0, b1, b2, b3, b4, b5, b6, b7, b8⟩ := c9 HR5.out
  have f0 : ∀ i, w5.frozen? ⟨w.heap.size, i, none⟩ = false := fun i => HR5.out.frozen i
  go_wp2_with fail
  exact ret_put rfl rfl rfl HR5.out ⟨rfl, put9_far HC5.out (by have := HC.out.lt; omega), put9_mu HM5.out (fun h => by omega)⟩
set_option maxRecDepth 100000 in
set_option maxHeartbeats 4000000 in
theorem dchoice_l (C k : Nat) (r : Int) (r0 : 0 ≤ r) (r1 : r ≤ 255) (code : ByteArray) (w : World) (hC : Cu w C code k) (hk : k ≤ 600000) :
    Calls Tryz.prog 39 #[.pointer (some ⟨C, 0, none⟩), .int .u8 r] w fun e w' => e = .returned (.agg (chI (bA code) k r).vs) ∧ Cu w' C code (opEnd (bA code) (k + 1)) ∧ Mu [C] w w' := by
  have HC := Lib.hid hC
  have HB := Lib.hid (byte_c C (w.heap.size + 1) 0 k code 5 #[.int .u8 0] (((w.alloc (.cells #[.int .i64 0, .int .i64 0, .int .i64 0, .int .i64 0, .int .i64 0, .int .i64 0, .int .i64 0, .int .i64 0, .int .i64 0] 26)).alloc (.cells #[.int .u8 0] 5)).alloc (.cells #[.int .u8 r, .int .i64 0, .nilIface] 76)) (((hC.alloc _).alloc _).alloc _) (Bk.alloc (Bk.new' (by simp)) _) (by simp) (by have := hC.lt; omega) (by omega))
  have HR : Hid (Bk (((w.alloc (.cells #[.int .i64 0, .int .i64 0, .int .i64 0, .int .i64 0, .int .i64 0, .int .i64 0, .int .i64 0, .int .i64 0, .int .i64 0] 26)).alloc (.cells #[.int .u8 0] 5)).alloc (.cells #[.int .u8 r, .int .i64 0, .nilIface] 76)) w.heap.size 26 #[.int .i64 0, .int .i64 0, .int .i64 0, .int .i64 0, .int .i64 0, .int .i64 0, .int .i64 0, .int .i64 0, .int .i64 0]) := Lib.hid (((Bk.new _ _ _).alloc _).alloc _)
  have HL : Hid (Bk (((w.alloc (.cells #[.int .i64 0, .int .i64 0, .int .i64 0, .int .i64 0, .int .i64 0, .int .i64 0, .int .i64 0, .int .i64 0, .int .i64 0] 26)).alloc (.cells #[.int .u8 0] 5)).alloc (.cells #[.int .u8 r, .int .i64 0, .nilIface] 76)) (w.heap.size + 2) 76 #[.int .u8 r, .int .i64 0, .nilIface]) := Lib.hid (Bk.new' (by simp))
  have HO := Lib.hid (fun (W : World) (h : Cu W C code (k + 1)) (h2 : Bk W (w.heap.size + 2) 76 #[.int .u8 r, .int .i64 0, .nilIface]) => operands_c C (w.heap.size + 2) (k + 1) r (.int .i64 0) .nilIface code W h h2 r0 r1 (by have := hC.lt; omega) (by omega))
  have HI := Lib.hid (fun op W => intoM_l (bA code) (k + 1) r op W)
  have HE : Hid (chI (bA code) k r = if bA code k = 66 then twoM (bA code) (k + 1) r 26 else if bA code k = 69 then twoM (bA code) (k + 1) r 27 else zI) := Lib.hid rfl
  have HI6 := Lib.hid (HI.out 26)
  have HI9 := Lib.hid (HI.out 27)
  clear hC HI
  generalize twoM (bA code) (k + 1) r 26 = s6 at *
  generalize twoM (bA code) (k + 1) r 27 = s9 at *
  generalize chI (bA code) k r = sv at *
  generalize opV (bA code) (k + 1) r = ov at *
  generalize midR (bA code (k + 1)) r = mv at *
  generalize opEnd (bA code) (k + 1) = se at *
  generalize bA code k = b at *
  go_enter Tryz.func39, Tryz.ntmps39
  go_wp2_with fail
  go_at_call 21
  refine HB.out.mono ?_
  rintro e w2 ⟨rfl, h1, h2, h3⟩
  have HC2 := Lib.hid h1
  have HB2 : Hid (Bk w2 (w.heap.size + 1) 5 #[.int .u8 b]) := Lib.hid h2
  have HL2 := Lib.hid (h3.bk HL.out (by have := HC.out.lt; simp; omega))
  have HR2 := Lib.hid (h3.bk HR.out (by have := HC.out.lt; simp; omega))
  have HM2 : Hid (Mu [C] w w2) := Lib.hid (((((Mu.refl [C] w).alloc _).alloc _).alloc _).trans h3 (fun x hx hl => by simp at hx ⊢; omega))
  clear h1 h2 h3 HB HL HR
  go_wp2_with fail
  go_at_call 44
  refine (HO.out _ HC2.out HL2.out).mono ?_
  rintro e w4 ⟨rfl, h1, h2, h3⟩
  have HC4 := Lib.hid h1
  have HL4 := Lib.hid h2
  have HB4 := Lib.hid (h3.bk HB2.out (by have := HC.out.lt; simp; omega))
  have HR4 := Lib.hid (h3.bk HR2.out (by have := HC.out.lt; simp; omega))
  have HM4 : Hid (Mu [C] w w4) := Lib.hid (HM2.out.trans h3 (fun x hx hl => by simp at hx ⊢; omega))
  clear h1 h2 h3 HO HC2 HL2 HR2 HM2 HB2
  have l0 : w4.cell? ⟨w.heap.size + 2, 0, none⟩ = some (.int .u8 r) := HL4.out.cell 0
  have l1 : w4.cell? ⟨w.heap.size + 2, 1, none⟩ = some (.int .i64 mv) := HL4.out.cell 1
  have l2 : w4.cell? ⟨w.heap.size + 2, 2, none⟩ = some ov := HL4.out.cell 2
  have l3 : w4.cell? ⟨w.heap.size + 1, 0, none⟩ = some (.int .u8 b) := HB4.out.cell 0
  rcases (show b = 66 ∨ b = 69 ∨ (b ≠ 66 ∧ b ≠ 69) by omega) with rfl | rfl | ⟨n1, n2⟩
  · rw [if_pos rfl] at HE
    obtain rfl := HE.out
    obtain ⟨i0, i1, i2, i3, i4, i5, i6, i7, i8⟩ := sv
    unfold Ins.vs at *
    dsimp only at *
    go_wp2_with fail
    go_at_call 45
    refine (HI6.out _).mono ?_
    rintro e w5 ⟨rfl, h3⟩
    have HC5 := Lib.hid (h3.bk HC4.out (by simp))
    have HR5 := Lib.hid (h3.bk HR4.out (by simp))
    have HM5 : Hid (Mu [C] w w5) := Lib.hid (HM4.out.trans h3 (fun x hx hl => by cases hx))
    clear h3 l0 l1 l2 l3 HC4 HL4 HR4 HM4 HB4
    obtain ⟨b0, b1, b2, b3, b4, b5, b6, b7, b8⟩ := c9 HR5.out
    have f0 : ∀ i, w5.frozen? ⟨w.heap.size, i, none⟩ = false := fun i => HR5.out.frozen i
    go_wp2_with fail
    exact ret_put rfl rfl rfl HR5.out ⟨rfl, put9_far HC5.out (by have := HC.out.lt; omega), put9_mu HM5.out (fun h => by omega)⟩
  · rw [if_neg (by decide), if_pos rfl] at HE
    obtain rfl := HE.out
    obtain ⟨i0, i1, i2, i3, i4, i5, i6, i7, i8⟩ := sv
    unfold Ins.vs at *
    dsimp only at *
    go_wp2_with fail
    go_at_call 45
    refine (HI9.out _).mono ?_
    rintro e w5 ⟨rfl, h3⟩
    have HC5 := Lib.hid (h3.bk HC4.out (by simp))
    have HR5 := Lib.hid (h3.bk HR4.out (by simp))
    have HM5 : Hid (Mu [C] w w5) := Lib.hid (HM4.out.trans h3 (fun x hx hl => by cases hx))
    clear h3 l0 l1 l2 l3 HC4 HL4 HR4 HM4 HB4
    obtain ⟨b0, b1, b2, b3, b4, b5, b6, b7, b8⟩ := c9 HR5.out
    have f0 : ∀ i, w5.frozen? ⟨w.heap.size, i, none⟩ = false := fun i => HR5.out.frozen i
    go_wp2_with fail
    exact ret_put rfl rfl rfl HR5.out ⟨rfl, put9_far HC5.out (by have := HC.out.lt; omega), put9_mu HM5.out (fun h => by omega)⟩
  · rw [if_neg n1, if_neg n2] at HE
    obtain rfl := HE.out
    have m1 : (b == 66) = false := by rw [beq_eq_false_iff_ne]; exact n1
    have m2 : (b == 69) = false := by rw [beq_eq_false_iff_ne]; exact n2
    obtain ⟨b0, b1, b2, b3, b4, b5, b6, b7, b8⟩ := c9 HR4.out
    have f0 : ∀ i, w4.frozen? ⟨w.heap.size, i, none⟩ = false := fun i => HR4.out.frozen i
    go_wp2_with fail
    exact ret_put rfl rfl rfl HR4.out ⟨rfl, put9_far HC4.out (by have := HC.out.lt; omega), put9_mu HM4.out (fun h => by omega)⟩
end Is
end Go.Proofs.YtblmagcekfbgdaaGreatDoor
namespace Go.Proofs.YtblmagcekfbgdaaGreatDoor
open Go Go.RowKit
namespace Is
open Nt
set_option linter.unusedVariables false
set_option linter.unusedSimpArgs false
theorem twoM_z (B : Nat → Int) (k : Nat) (r op : Int) : (twoM B k r op).b = 0 ∧ (twoM B k r op).x = 0 ∧ (twoM B k r op).sc = 0 ∧ (twoM B k r op).di = 0 ∧ (twoM B k r op).im = 0 := by
  unfold twoM zI
  split <;> exact ⟨rfl, rfl, rfl, rfl, rfl⟩
set_option maxRecDepth 100000 in
theorem ret_putD {fn : Func} {p : Tmp} {R : Ending → World → Prop} {a : Act} {w : World} {g : Nat} {x0 x1 x2 x3 x4 x5 x6 x7 x8 c0 c1 c2 c3 c4 c5 c6 c7 c8 : Value} (h : fn.results = #[.cell p 26]) (hp : a.tmps.getD p undef = .pointer (some ⟨g, 0, none⟩)) (hd : a.defers = [])
    (hb : Bk w g 26 #[x0, x1, x2, x3, x4, x5, x6, x7, x8]) (hR : R (.returned (.agg #[c0, c1, c2, c3, c4, c5, c6, c7, c8])) (put9 w g c0 c1 c2 c3 c4 c5 c6 c7 c8).drew) : bodyPost Tryz.prog fn R .ret a (put9 w g c0 c1 c2 c3 c4 c5 c6 c7 c8).drew :=
  ret_inst h hp hd (put9_bk hb).drew rfl hR
set_option maxRecDepth 100000 in
theorem ret_putA {fn : Func} {p : Tmp} {R : Ending → World → Prop} {a : Act} {w : World} {o : Obj} {g : Nat} {x0 x1 x2 x3 x4 x5 x6 x7 x8 c0 c1 c2 c3 c4 c5 c6 c7 c8 : Value} (h : fn.results = #[.cell p 26]) (hp : a.tmps.getD p undef = .pointer (some ⟨g, 0, none⟩)) (hd : a.defers = [])
    (hb : Bk w g 26 #[x0, x1, x2, x3, x4, x5, x6, x7, x8]) (hR : R (.returned (.agg #[c0, c1, c2, c3, c4, c5, c6, c7, c8])) ((put9 w g c0 c1 c2 c3 c4 c5 c6 c7 c8).alloc o)) : bodyPost Tryz.prog fn R .ret a ((put9 w g c0 c1 c2 c3 c4 c5 c6 c7 c8).alloc o) :=
  ret_inst h hp hd ((put9_bk hb).alloc o) rfl hR
theorem xor_255 : ∀ n : Nat, n < 256 → (255 ^^^ n = 255 - n) := by decide +kernel
theorem xor255 {b : Int} (h0 : 0 ≤ b) (h1 : b ≤ 255) : bits .xor .u8 IntKind.u8.max b = 255 - b := by
  have e : IntKind.u8.max = 255 := rfl
  rw [e, u8_xor 255 b (by decide) (by decide) h0 (by omega), show (255 : Int).toNat = 255 from rfl, xor_255 b.toNat (by omega)]
  omega
set_option maxRecDepth 100000 in
set_option maxHeartbeats 4000000 in
theorem dproduct_l (C k : Nat) (code : ByteArray) (w : World) (hC : Cu w C code k) (hk : k ≤ 600000) :
    Calls Tryz.prog 26 #[.pointer (some ⟨C, 0, none⟩)] w fun e w' => e = .returned (.agg (prI (bA code) k).vs) ∧ Cu w' C code (opEnd (bA code) (k + 3)) ∧ Mu [C] w w' := by
  have HC := Lib.hid hC
  have HB := Lib.hid (byte_c C (w.heap.size + 1) 0 k code 5 #[.int .u8 0] ((((w.alloc (.cells #[.int .i64 0, .int .i64 0, .int .i64 0, .int .i64 0, .int .i64 0, .int .i64 0, .int .i64 0, .int .i64 0, .int .i64 0] 26)).alloc (.cells #[.int .u8 0] 5)).alloc (.cells #[.int .u8 0] 5)).alloc (.cells #[.int .u8 0, .int .i64 0, .nilIface] 76)) ((((hC.alloc _).alloc _).alloc _).alloc _) (Bk.alloc (Bk.alloc (Bk.new' (by simp)) _) _) (by simp) (by have := hC.lt; omega) (by omega))
  have HR : Hid (Bk ((((w.alloc (.cells #[.int .i64 0, .int .i64 0, .int .i64 0, .int .i64 0, .int .i64 0, .int .i64 0, .int .i64 0, .int .i64 0, .int .i64 0] 26)).alloc (.cells #[.int .u8 0] 5)).alloc (.cells #[.int .u8 0] 5)).alloc (.cells #[.int .u8 0, .int .i64 0, .nilIface] 76)) w.heap.size 26 #[.int .i64 0, .int .i64 0, .int .i64 0, .int .i64 0, .int .i64 0, .int .i64 0, .int .i64 0, .int .i64 0, .int .i64 0]) := Lib.hid ((((Bk.new _ _ _).alloc _).alloc _).alloc _)
  have HL : Hid (Bk ((((w.alloc (.cells #[.int .i64 0, .int .i64 0, .int .i64 0, .int .i64 0, .int .i64 0, .int .i64 0, .int .i64 0, .int .i64 0, .int .i64 0] 26)).alloc (.cells #[.int .u8 0] 5)).alloc (.cells #[.int .u8 0] 5)).alloc (.cells #[.int .u8 0, .int .i64 0, .nilIface] 76)) (w.heap.size + 2) 5 #[.int .u8 0]) := Lib.hid (Bk.alloc (Bk.new' (by simp)) _)
  have HP : Hid (Bk ((((w.alloc (.cells #[.int .i64 0, .int .i64 0, .int .i64 0, .int .i64 0, .int .i64 0, .int .i64 0, .int .i64 0, .int .i64 0, .int .i64 0] 26)).alloc (.cells #[.int .u8 0] 5)).alloc (.cells #[.int .u8 0] 5)).alloc (.cells #[.int .u8 0, .int .i64 0, .nilIface] 76)) (w.heap.size + 3) 76 #[.int .u8 0, .int .i64 0, .nilIface]) := Lib.hid (Bk.new' (by simp))
  have HB2 := Lib.hid (fun (W : World) (h : Cu W C code (k + 1)) (h2 : Bk W (w.heap.size + 2) 5 #[.int .u8 0]) => byte_c C (w.heap.size + 2) 0 (k + 1) code 5 #[.int .u8 0] W h h2 (by simp) (by have := hC.lt; omega) (by omega))
  have HS := Lib.hid (fun (W : World) (h : Cu W C code (k + 2)) => skip_c C (k + 2) 1 code W h (by omega) (by omega))
  have hbb := bA_bb code k
  have hb2 := bA_bb code (k + 1)
  have b0 := hbb.1
  have b1 := hbb.2
  have d0 := hb2.1
  have d1 := hb2.2
  have HO := Lib.hid (fun (W : World) (h : Cu W C code (k + 3)) (h2 : Bk W (w.heap.size + 3) 76 #[.int .u8 ((255 - bA code k) / 32), .int .i64 0, .nilIface]) => operands_c C (w.heap.size + 3) (k + 3) ((255 - bA code k) / 32) (.int .i64 0) .nilIface code W h h2 (by omega) (by omega) (by have := hC.lt; omega) (by omega))
  have HI := Lib.hid (fun W => intoM_l (bA code) (k + 3) ((255 - bA code k) / 32) 19 W)
  have HE : Hid (prI (bA code) k = ⟨(twoM (bA code) (k + 3) ((255 - bA code k) / 32) 19).op, (twoM (bA code) (k + 3) ((255 - bA code k) / 32) 19).d, 15 - bA code (k + 1) / 8 % 16, (twoM (bA code) (k + 3) ((255 - bA code k) / 32) 19).s, 0, 0, 0, 0, 0⟩) := Lib.hid rfl
  have HZ := Lib.hid (twoM_z (bA code) (k + 3) ((255 - bA code k) / 32) 19)
  clear hC hbb hb2
  generalize twoM (bA code) (k + 3) ((255 - bA code k) / 32) 19 = tv at *
  generalize prI (bA code) k = sv at *
  generalize opV (bA code) (k + 3) ((255 - bA code k) / 32) = ov at *
  generalize midR (bA code (k + 3)) ((255 - bA code k) / 32) = mv at *
  generalize opEnd (bA code) (k + 3) = se at *
  generalize bA code (k + 1) = ot at *
  generalize bA code k = b at *
  obtain rfl := HE.out
  obtain ⟨i0, i1, i2, i3, i4, i5, i6, i7, i8⟩ := tv
  obtain ⟨z4, z5, z6, z7, z8⟩ := HZ.out
  dsimp only at z4 z5 z6 z7 z8
  subst z4 z5 z6 z7 z8
  clear HZ
  unfold Ins.vs at *
  dsimp only at *
  go_enter Tryz.func26, Tryz.ntmps26
  go_wp2_with fail
  go_at_call 21
  refine HB.out.mono ?_
  rintro e w2 ⟨rfl, h1, h2, h3⟩
  have HC2 := Lib.hid h1
  have HA2 : Hid (Bk w2 (w.heap.size + 1) 5 #[.int .u8 b]) := Lib.hid h2
  have HL2 := Lib.hid (h3.bk HL.out (by have := HC.out.lt; simp; omega))
  have HP2 := Lib.hid (h3.bk HP.out (by have := HC.out.lt; simp; omega))
  have HR2 := Lib.hid (h3.bk HR.out (by have := HC.out.lt; simp; omega))
  have HM2 : Hid (Mu [C] w w2) := Lib.hid ((((((Mu.refl [C] w).alloc _).alloc _).alloc _).alloc _).trans h3 (fun x hx hl => by simp at hx ⊢; omega))
  clear h1 h2 h3 HB HL HP HR
  go_wp2_with fail
  go_at_call 21
  refine (HB2.out _ HC2.out HL2.out).mono ?_
  rintro e w3 ⟨rfl, h1, h2, h3⟩
  have HC3 : Hid (Cu w3 C code (k + 2)) := Lib.hid h1
  have HL3 : Hid (Bk w3 (w.heap.size + 2) 5 #[.int .u8 ot]) := Lib.hid h2
  have HA3 := Lib.hid (h3.bk HA2.out (by have := HC.out.lt; simp; omega))
  have HP3 := Lib.hid (h3.bk HP2.out (by have := HC.out.lt; simp; omega))
  have HR3 := Lib.hid (h3.bk HR2.out (by have := HC.out.lt; simp; omega))
  have HM3 : Hid (Mu [C] w w3) := Lib.hid (HM2.out.trans h3 (fun x hx hl => by simp at hx ⊢; omega))
  clear h1 h2 h3 HB2 HC2 HA2 HL2 HP2 HR2 HM2
  go_wp2_with fail
  go_at_call 43
  refine (HS.out _ HC3.out).mono ?_
  rintro e w4 ⟨rfl, h1, h2⟩
  have HC4 : Hid (Cu w4 C code (k + 3)) := Lib.hid h1
  have HA4 := Lib.hid (h2.bk HA3.out (by have := HC.out.lt; simp; omega))
  have HL4 := Lib.hid (h2.bk HL3.out (by have := HC.out.lt; simp; omega))
  have HP4 := Lib.hid (h2.bk HP3.out (by have := HC.out.lt; simp; omega))
  have HR4 := Lib.hid (h2.bk HR3.out (by have := HC.out.lt; simp; omega))
  have HM4 : Hid (Mu [C] w w4) := Lib.hid (HM3.out.trans h2 (fun x hx hl => hx))
  clear h1 h2 HS HC3 HA3 HL3 HP3 HR3 HM3
  have l0 : w4.cell? ⟨w.heap.size + 1, 0, none⟩ = some (.int .u8 b) := HA4.out.cell 0
  have p0 : w4.cell? ⟨w.heap.size + 3, 0, none⟩ = some (.int .u8 0) := HP4.out.cell 0
  have pf : w4.frozen? ⟨w.heap.size + 3, 0, none⟩ = false := HP4.out.frozen 0
  have hs8 : IntKind.u8.signed = false := rfl
  have HX := Lib.hid (xor255 b0 b1)
  go_wp2_with fail
  rw [HX.out]
  generalize hW : World.setCell _ _ _ = W5
  have HC5 : Hid (Cu W5 C code (k + 3)) := Lib.hid (by rw [← hW]; exact HC4.out.far (by have := HC.out.lt; show C ≠ w.heap.size + 1 + 1 + 1; omega) _)
  have HL5 : Hid (Bk W5 (w.heap.size + 2) 5 #[.int .u8 ot]) := Lib.hid (by rw [← hW]; exact HL4.out.far (by show w.heap.size + 2 ≠ w.heap.size + 1 + 1 + 1; omega) _)
  have HP5 : Hid (Bk W5 (w.heap.size + 3) 76 #[.int .u8 ((255 - b) / 32), .int .i64 0, .nilIface]) := Lib.hid (by rw [← hW]; exact HP4.out.set_ 0 _)
  have HR5 : Hid (Bk W5 w.heap.size 26 #[.int .i64 0, .int .i64 0, .int .i64 0, .int .i64 0, .int .i64 0, .int .i64 0, .int .i64 0, .int .i64 0, .int .i64 0]) := Lib.hid (by rw [← hW]; exact HR4.out.far (by show w.heap.size ≠ w.heap.size + 1 + 1 + 1; omega) _)
  have HM5 : Hid (Mu [C] w W5) := Lib.hid (by rw [← hW]; exact HM4.out.set_ _ (fun h => by have : w.heap.size + 1 + 1 + 1 < w.heap.size := h; omega) _)
  clear hW l0 p0 pf HC4 HA4 HL4 HP4 HR4 HM4
  go_at_call 44
  refine (HO.out _ HC5.out HP5.out).mono ?_
  rintro e w6 ⟨rfl, h1, h2, h3⟩
  have HC6 := Lib.hid h1
  have HP6 := Lib.hid h2
  have HL6 := Lib.hid (h3.bk HL5.out (by have := HC.out.lt; simp; omega))
  have HR6 := Lib.hid (h3.bk HR5.out (by have := HC.out.lt; simp; omega))
  have HM6 : Hid (Mu [C] w w6) := Lib.hid (HM5.out.trans h3 (fun x hx hl => by simp at hx ⊢; omega))
  clear h1 h2 h3 HO HC5 HL5 HP5 HR5 HM5
  have l0 : w6.cell? ⟨w.heap.size + 3, 0, none⟩ = some (.int .u8 ((255 - b) / 32)) := HP6.out.cell 0
  have l1 : w6.cell? ⟨w.heap.size + 3, 1, none⟩ = some (.int .i64 mv) := HP6.out.cell 1
  have l2 : w6.cell? ⟨w.heap.size + 3, 2, none⟩ = some ov := HP6.out.cell 2
  go_wp2_with fail
  go_at_call 45
  refine (HI.out _).mono ?_
  rintro e w7 ⟨rfl, h3⟩
  have HC7 := Lib.hid (h3.bk HC6.out (by simp))
  have HL7 := Lib.hid (h3.bk HL6.out (by simp))
  have HR7 := Lib.hid (h3.bk HR6.out (by simp))
  have HM7 : Hid (Mu [C] w w7) := Lib.hid (HM6.out.trans h3 (fun x hx hl => by cases hx))
  clear h3 l0 l1 l2 HC6 HP6 HL6 HR6 HM6
  have HI7 := Lib.hid (Bk.new w7 26 #[.int .i64 i0, .int .i64 i1, .int .i64 i2, .int .i64 i3, .int .i64 0, .int .i64 0, .int .i64 0, .int .i64 0, .int .i64 0])
  have l0 : w7.cell? ⟨w.heap.size + 2, 0, none⟩ = some (.int .u8 ot) := HL7.out.cell 0
  have lz : w.heap.size + 2 < w7.heap.size := HL7.out.lt
  have lr : w.heap.size < w7.heap.size := HR7.out.lt
  obtain ⟨r0, r1, r2, r3, r4, r5, r6, r7, r8⟩ := c9 HR7.out
  have f0 : ∀ i, w7.frozen? ⟨w.heap.size, i, none⟩ = false := fun i => HR7.out.frozen i
  go_wp2_with fail
  exact ret_putA rfl rfl rfl HR7.out ⟨rfl, Bk.alloc (put9_far HC7.out (by have := HC.out.lt; omega)) _, (put9_mu HM7.out (fun h => by omega)).alloc _⟩
set_option maxRecDepth 100000 in
set_option maxHeartbeats 4000000 in
theorem ddigit_l (C k n : Nat) (b r : Int) (b0 : 0 ≤ b) (b1 : b ≤ 255) (r0 : 0 ≤ r) (r1 : r ≤ 255) (hn : n = 0 ∨ n = 1 ∨ n = 4 ∨ n = 8) (code : ByteArray) (w : World) (hC : Cu w C code k) (hk : k ≤ 600000) :
    Calls Tryz.prog 40 #[.pointer (some ⟨C, 0, none⟩), .int .u8 b, .int .u8 r, .int .i64 (n : Int)] w fun e w' => e = .returned (.agg (digI (bA code) k r b n).vs) ∧ Cu w' C code (opEnd (bA code) k + n) ∧ Mu [C] w w' := by
  have HC := Lib.hid hC
  have HR : Hid (Bk (((w.alloc (.cells #[.int .i64 0, .int .i64 0, .int .i64 0, .int .i64 0, .int .i64 0, .int .i64 0, .int .i64 0, .int .i64 0, .int .i64 0] 26)).alloc (.cells #[.int .i64 0] 2)).alloc (.cells #[.int .u8 r, .int .i64 0, .nilIface] 76)) w.heap.size 26 #[.int .i64 0, .int .i64 0, .int .i64 0, .int .i64 0, .int .i64 0, .int .i64 0, .int .i64 0, .int .i64 0, .int .i64 0]) := Lib.hid (((Bk.new _ _ _).alloc _).alloc _)
  have HL : Hid (Bk (((w.alloc (.cells #[.int .i64 0, .int .i64 0, .int .i64 0, .int .i64 0, .int .i64 0, .int .i64 0, .int .i64 0, .int .i64 0, .int .i64 0] 26)).alloc (.cells #[.int .i64 0] 2)).alloc (.cells #[.int .u8 r, .int .i64 0, .nilIface] 76)) (w.heap.size + 1) 2 #[.int .i64 0]) := Lib.hid (Bk.alloc (Bk.new' (by simp)) _)
  have HO := Lib.hid (operands_c C (w.heap.size + 2) k r (.int .i64 0) .nilIface code (((w.alloc (.cells #[.int .i64 0, .int .i64 0, .int .i64 0, .int .i64 0, .int .i64 0, .int .i64 0, .int .i64 0, .int .i64 0, .int .i64 0] 26)).alloc (.cells #[.int .i64 0] 2)).alloc (.cells #[.int .u8 r, .int .i64 0, .nilIface] 76)) (((hC.alloc _).alloc _).alloc _) (Bk.new' (by simp)) r0 r1 (by have := hC.lt; omega) (by omega))
  have hse := opEnd_b (bA_bb code) k
  have HN := Lib.hid (fun (W : World) (h : Cu W C code (opEnd (bA code) k)) (h2 : Bk W (w.heap.size + 1) 2 #[.int .i64 0]) => number_c C (w.heap.size + 1) 0 (opEnd (bA code) k) n code 2 #[.int .i64 0] W h h2 (by simp) (by have := hC.lt; omega) (by omega) hn)
  have hmb := mid_b (bA code k) r
  have HD := Lib.hid (fun W => ofDig_l b (midR (bA code k) r) b0 b1 hmb.1 hmb.2 W)
  have h1 := as_rr (.int .i64 (lstR (bA code k) r))
  have h2 := as_pr (.agg #[.int .i64 (plBase (bA code) k + rxL r), .int .i64 (wdX (plIdx (bA code) k) r), .int .i64 (plSc (bA code) k), .int .i64 (plDi (bA code) k)])
  have HE : Hid (digI (bA code) k r b n = if 192 ≤ bA code k then ⟨ofDig b (midR (bA code k) r), lstR (bA code k) r, 0, 0, 0, 0, 0, 0, numB (bA code) (opEnd (bA code) k) n⟩ else zI) := Lib.hid rfl
  have HV := Lib.hid (opV_cases (bA code) k r)
  clear hC hn hmb
  generalize digI (bA code) k r b n = sv at *
  generalize ofDig b (midR (bA code k) r) = dg at *
  generalize midR (bA code k) r = mv at *
  generalize numB (bA code) (opEnd (bA code) k) n = nv at *
  generalize opEnd (bA code) k = se at *
  generalize opV (bA code) k r = ov at *
  go_enter Tryz.func40, Tryz.ntmps40
  go_wp2_with fail
  go_at_call 44
  refine HO.out.mono ?_
  rintro e w2 ⟨rfl, g1, g2, g3⟩
  have HC2 := Lib.hid g1
  have HP2 := Lib.hid g2
  have HL2 := Lib.hid (g3.bk HL.out (by have := HC.out.lt; simp; omega))
  have HR2 := Lib.hid (g3.bk HR.out (by have := HC.out.lt; simp; omega))
  have HM2 : Hid (Mu [C] w w2) := Lib.hid (((((Mu.refl [C] w).alloc _).alloc _).alloc _).trans g3 (fun x hx hl => by simp at hx ⊢; omega))
  clear g1 g2 g3 HO HL HR
  go_wp2_with fail
  go_at_call 46
  refine (HN.out _ HC2.out HL2.out).mono ?_
  rintro e w3 ⟨rfl, g1, g2, g3⟩
  have HC3 := Lib.hid g1
  have HL3 : Hid (Bk w3 (w.heap.size + 1) 2 #[.int .i64 nv]) := Lib.hid g2
  have HP3 := Lib.hid (g3.bk HP2.out (by have := HC.out.lt; simp; omega))
  have HR3 := Lib.hid (g3.bk HR2.out (by have := HC.out.lt; simp; omega))
  have HM3 : Hid (Mu [C] w w3) := Lib.hid (HM2.out.trans g3 (fun x hx hl => by simp at hx ⊢; omega))
  clear g1 g2 g3 HN HC2 HP2 HL2 HR2 HM2
  have l0 : w3.cell? ⟨w.heap.size + 1, 0, none⟩ = some (.int .i64 nv) := HL3.out.cell 0
  have p1 : w3.cell? ⟨w.heap.size + 2, 1, none⟩ = some (.int .i64 mv) := HP3.out.cell 1
  have p2 : w3.cell? ⟨w.heap.size + 2, 2, none⟩ = some ov := HP3.out.cell 2
  obtain ⟨q0, q1, q2, q3, q4, q5, q6, q7, q8⟩ := c9 HR3.out
  have f0 : ∀ i, w3.frozen? ⟨w.heap.size, i, none⟩ = false := fun i => HR3.out.frozen i
  rcases HV.out with ⟨c, rfl⟩ | ⟨c, rfl⟩
  · rw [if_pos (by omega)] at HE
    obtain rfl := HE.out
    go_wp2_with fail
    have l0 : w3.drew.cell? ⟨w.heap.size + 1, 0, none⟩ = some (.int .i64 nv) := l0
    have p1 : w3.drew.cell? ⟨w.heap.size + 2, 1, none⟩ = some (.int .i64 mv) := p1
    have K1 := HD.out w3.drew
    refine wp_region_still_tail 7 (by kernel_rfl) (by kernel_rfl) ?_
    simp only [List.take_succ_cons, List.take_zero, List.drop_succ_cons, List.drop_zero]
    iterate 3 still_step
    still_call K1
    iterate 3 still_step
    refine wpStill_nil ?_
    clear K1
    go_wp2_with fail
    exact ret_putD rfl rfl rfl HR3.out ⟨rfl, Bk.drew (put9_far HC3.out (by have := HC.out.lt; omega)), (put9_mu HM3.out (fun h => by omega)).drew⟩
  · rw [if_neg (by omega)] at HE
    obtain rfl := HE.out
    go_wp2_with fail
    exact ret_put rfl rfl rfl HR3.out ⟨rfl, put9_far HC3.out (by have := HC.out.lt; omega), put9_mu HM3.out (fun h => by omega)⟩
end Is
end Go.Proofs.YtblmagcekfbgdaaGreatDoor
namespace Go.Proofs.YtblmagcekfbgdaaGreatDoor
open Go Go.RowKit
namespace Is
open Nt
set_option linter.unusedVariables false
set_option linter.unusedSimpArgs false
set_option maxRecDepth 100000 in
set_option maxHeartbeats 1000000 in
theorem dtwo_l (C k : Nat) (b r : Int) (r0 : 0 ≤ r) (r1 : r ≤ 255) (code : ByteArray) (w : World) (hC : Cu w C code k) (hk : k ≤ 600000) :
    Calls Tryz.prog 41 #[.pointer (some ⟨C, 0, none⟩), .int .u8 b, .int .u8 r] w fun e w' => e = .returned (.agg (twoI (bA code) k r b).vs) ∧ Cu w' C code (opEnd (bA code) k) ∧ Mu [C] w w' := by
  have HC := Lib.hid hC
  have HR : Hid (Bk (((w.alloc (.cells #[.int .i64 0, .int .i64 0, .int .i64 0, .int .i64 0, .int .i64 0, .int .i64 0, .int .i64 0, .int .i64 0, .int .i64 0] 26)).alloc (.cells #[.int .i64 0, .int .i64 0, .int .i64 0, .int .i64 0, .int .i64 0, .int .i64 0, .int .i64 0, .int .i64 0, .int .i64 0] 26)).alloc (.cells #[.int .u8 r, .int .i64 0, .nilIface] 76)) w.heap.size 26 #[.int .i64 0, .int .i64 0, .int .i64 0, .int .i64 0, .int .i64 0, .int .i64 0, .int .i64 0, .int .i64 0, .int .i64 0]) := Lib.hid (((Bk.new _ _ _).alloc _).alloc _)
  have HL : Hid (Bk (((w.alloc (.cells #[.int .i64 0, .int .i64 0, .int .i64 0, .int .i64 0, .int .i64 0, .int .i64 0, .int .i64 0, .int .i64 0, .int .i64 0] 26)).alloc (.cells #[.int .i64 0, .int .i64 0, .int .i64 0, .int .i64 0, .int .i64 0, .int .i64 0, .int .i64 0, .int .i64 0, .int .i64 0] 26)).alloc (.cells #[.int .u8 r, .int .i64 0, .nilIface] 76)) (w.heap.size + 1) 26 #[.int .i64 0, .int .i64 0, .int .i64 0, .int .i64 0, .int .i64 0, .int .i64 0, .int .i64 0, .int .i64 0, .int .i64 0]) := Lib.hid (Bk.alloc (Bk.new' (by simp)) _)
  have HO := Lib.hid (operands_c C (w.heap.size + 2) k r (.int .i64 0) .nilIface code (((w.alloc (.cells #[.int .i64 0, .int .i64 0, .int .i64 0, .int .i64 0, .int .i64 0, .int .i64 0, .int .i64 0, .int .i64 0, .int .i64 0] 26)).alloc (.cells #[.int .i64 0, .int .i64 0, .int .i64 0, .int .i64 0, .int .i64 0, .int .i64 0, .int .i64 0, .int .i64 0, .int .i64 0] 26)).alloc (.cells #[.int .u8 r, .int .i64 0, .nilIface] 76)) (((hC.alloc _).alloc _).alloc _) (Bk.new' (by simp)) r0 r1 (by have := hC.lt; omega) (by omega))
  have HRG := Lib.hid (fun W => ofReg_l b W)
  have HPL := Lib.hid (fun W => ofPl_l b (midR (bA code k) r) (bA code) k r W)
  have h1 := as_rr (.int .i64 (lstR (bA code k) r))
  have h2 := as_pr (.agg #[.int .i64 (plBase (bA code) k + rxL r), .int .i64 (wdX (plIdx (bA code) k) r), .int .i64 (plSc (bA code) k), .int .i64 (plDi (bA code) k)])
  have h3 := as_pp (.agg #[.int .i64 (plBase (bA code) k + rxL r), .int .i64 (wdX (plIdx (bA code) k) r), .int .i64 (plSc (bA code) k), .int .i64 (plDi (bA code) k)])
  have HE : Hid (twoI (bA code) k r b = if 192 ≤ bA code k then ⟨ofReg b, lstR (bA code k) r, midR (bA code k) r, 0, 0, 0, 0, 0, 0⟩ else ofPl b (midR (bA code k) r) (bA code) k r) := Lib.hid rfl
  have HV := Lib.hid (opV_cases (bA code) k r)
  clear hC
  generalize twoI (bA code) k r b = sv at *
  generalize ofPl b (midR (bA code k) r) (bA code) k r = pv at *
  generalize ofReg b = dg at *
  generalize midR (bA code k) r = mv at *
  generalize opEnd (bA code) k = se at *
  generalize opV (bA code) k r = ov at *
  generalize lstR (bA code k) r = lv at *
  generalize plBase (bA code) k + rxL r = pb at *
  generalize wdX (plIdx (bA code) k) r = px at *
  generalize plSc (bA code) k = ps at *
  generalize plDi (bA code) k = pd at *
  go_enter Tryz.func41, Tryz.ntmps41
  go_wp2_with fail
  go_at_call 44
  refine HO.out.mono ?_
  rintro e w2 ⟨rfl, g1, g2, g3⟩
  have HC3 := Lib.hid g1
  have HP3 := Lib.hid g2
  have HL3 := Lib.hid (g3.bk HL.out (by have := HC.out.lt; simp; omega))
  have HR3 := Lib.hid (g3.bk HR.out (by have := HC.out.lt; simp; omega))
  have HM3 : Hid (Mu [C] w w2) := Lib.hid (((((Mu.refl [C] w).alloc _).alloc _).alloc _).trans g3 (fun x hx hl => by simp at hx ⊢; omega))
  clear g1 g2 g3 HO HL HR
  have p1 : w2.cell? ⟨w.heap.size + 2, 1, none⟩ = some (.int .i64 mv) := HP3.out.cell 1
  have p2 : w2.cell? ⟨w.heap.size + 2, 2, none⟩ = some ov := HP3.out.cell 2
  obtain ⟨q0, q1, q2, q3, q4, q5, q6, q7, q8⟩ := c9 HL3.out
  obtain ⟨t0, t1, t2, t3, t4, t5, t6, t7, t8⟩ := c9 HR3.out
  have e0 : ∀ i, w2.frozen? ⟨w.heap.size, i, none⟩ = false := fun i => HR3.out.frozen i
  have f0 : ∀ i, w2.frozen? ⟨w.heap.size + 1, i, none⟩ = false := fun i => HL3.out.frozen i
  rcases HV.out with ⟨c, rfl⟩ | ⟨c, rfl⟩
  · rw [if_pos (by omega)] at HE
    obtain rfl := HE.out
    go_wp2_with fail
    have p1 : w2.drew.cell? ⟨w.heap.size + 2, 1, none⟩ = some (.int .i64 mv) := p1
    have K1 := HRG.out w2.drew
    refine wp_region_still_tail 6 (by kernel_rfl) (by kernel_rfl) ?_
    simp only [List.take_succ_cons, List.take_zero, List.drop_succ_cons, List.drop_zero]
    iterate 1 still_step
    still_call K1
    iterate 4 still_step
    refine wpStill_nil ?_
    clear K1
    go_wp2_with fail
    have HC6 := Lib.hid (put9_far (g := w.heap.size + 1) (c0 := .int .i64 dg) (c1 := .int .i64 lv) (c2 := .int .i64 mv) (c3 := .int .i64 0) (c4 := .int .i64 0) (c5 := .int .i64 0) (c6 := .int .i64 0) (c7 := .int .i64 0) (c8 := .int .i64 0) HC3.out (by have := HC.out.lt; omega))
    have HR6 := Lib.hid (put9_far (g := w.heap.size + 1) (c0 := .int .i64 dg) (c1 := .int .i64 lv) (c2 := .int .i64 mv) (c3 := .int .i64 0) (c4 := .int .i64 0) (c5 := .int .i64 0) (c6 := .int .i64 0) (c7 := .int .i64 0) (c8 := .int .i64 0) HR3.out (by omega))
    have HM6 := Lib.hid (put9_mu (g := w.heap.size + 1) (c0 := .int .i64 dg) (c1 := .int .i64 lv) (c2 := .int .i64 mv) (c3 := .int .i64 0) (c4 := .int .i64 0) (c5 := .int .i64 0) (c6 := .int .i64 0) (c7 := .int .i64 0) (c8 := .int .i64 0) HM3.out (fun h => by omega))
    change bodyPost _ _ _ _ _ (put9 (put9 w2 (w.heap.size + 1) (.int .i64 dg) (.int .i64 lv) (.int .i64 mv) (.int .i64 0) (.int .i64 0) (.int .i64 0) (.int .i64 0) (.int .i64 0) (.int .i64 0)) w.heap.size (.int .i64 dg) (.int .i64 lv) (.int .i64 mv) (.int .i64 0) (.int .i64 0) (.int .i64 0) (.int .i64 0) (.int .i64 0) (.int .i64 0)).drew
    generalize put9 w2 (w.heap.size + 1) (.int .i64 dg) (.int .i64 lv) (.int .i64 mv) (.int .i64 0) (.int .i64 0) (.int .i64 0) (.int .i64 0) (.int .i64 0) (.int .i64 0) = W6 at *
    exact ret_putD rfl rfl rfl HR6.out ⟨rfl, Bk.drew (put9_far HC6.out (by have := HC.out.lt; omega)), (put9_mu HM6.out (fun h => by omega)).drew⟩
  · rw [if_neg (by omega)] at HE
    obtain rfl := HE.out
    obtain ⟨i0, i1, i2, i3, i4, i5, i6, i7, i8⟩ := sv
    unfold Ins.vs at *
    dsimp only at *
    have lz : w.heap.size + 2 < w2.heap.size := HP3.out.lt
    have lz1 : w.heap.size + 1 < w2.heap.size := HL3.out.lt
    have lz0 : w.heap.size < w2.heap.size := HR3.out.lt
    clear q0 q1 q2 q3 q4 q5 q6 q7 q8 t0 t1 t2 t3 t4 t5 t6 t7 t8 e0 f0 h1
    go_wp2_with fail
    go_at_call 79
    refine (HPL.out _).mono ?_
    rintro e w5 ⟨rfl, g3⟩
    have HC5 := Lib.hid (g3.bk (HC3.out.alloc _) (by simp))
    have HL5 := Lib.hid (g3.bk (HL3.out.alloc _) (by simp))
    have HR5 := Lib.hid (g3.bk (HR3.out.alloc _) (by simp))
    have HM5 : Hid (Mu [C] w w5) := Lib.hid ((HM3.out.alloc _).trans g3 (fun x hx hl => by cases hx))
    clear g3 p1 p2 lz lz1 lz0 HC3 HL3 HR3 HM3 HP3
    obtain ⟨q0, q1, q2, q3, q4, q5, q6, q7, q8⟩ := c9 HL5.out
    have f0 : ∀ i, w5.frozen? ⟨w.heap.size + 1, i, none⟩ = false := fun i => HL5.out.frozen i
    obtain ⟨t0, t1, t2, t3, t4, t5, t6, t7, t8⟩ := c9 HR5.out
    have e0 : ∀ i, w5.frozen? ⟨w.heap.size, i, none⟩ = false := fun i => HR5.out.frozen i
    go_wp2_with fail
    have HC6 := Lib.hid (put9_far (g := w.heap.size + 1) (c0 := .int .i64 i0) (c1 := .int .i64 i1) (c2 := .int .i64 i2) (c3 := .int .i64 i3) (c4 := .int .i64 i4) (c5 := .int .i64 i5) (c6 := .int .i64 i6) (c7 := .int .i64 i7) (c8 := .int .i64 i8) HC5.out (by have := HC.out.lt; omega))
    have HR6 := Lib.hid (put9_far (g := w.heap.size + 1) (c0 := .int .i64 i0) (c1 := .int .i64 i1) (c2 := .int .i64 i2) (c3 := .int .i64 i3) (c4 := .int .i64 i4) (c5 := .int .i64 i5) (c6 := .int .i64 i6) (c7 := .int .i64 i7) (c8 := .int .i64 i8) HR5.out (by omega))
    have HM6 := Lib.hid (put9_mu (g := w.heap.size + 1) (c0 := .int .i64 i0) (c1 := .int .i64 i1) (c2 := .int .i64 i2) (c3 := .int .i64 i3) (c4 := .int .i64 i4) (c5 := .int .i64 i5) (c6 := .int .i64 i6) (c7 := .int .i64 i7) (c8 := .int .i64 i8) HM5.out (fun h => by omega))
    change bodyPost _ _ _ _ _ (put9 (put9 w5 (w.heap.size + 1) (.int .i64 i0) (.int .i64 i1) (.int .i64 i2) (.int .i64 i3) (.int .i64 i4) (.int .i64 i5) (.int .i64 i6) (.int .i64 i7) (.int .i64 i8)) w.heap.size (.int .i64 i0) (.int .i64 i1) (.int .i64 i2) (.int .i64 i3) (.int .i64 i4) (.int .i64 i5) (.int .i64 i6) (.int .i64 i7) (.int .i64 i8))
    generalize put9 w5 (w.heap.size + 1) (.int .i64 i0) (.int .i64 i1) (.int .i64 i2) (.int .i64 i3) (.int .i64 i4) (.int .i64 i5) (.int .i64 i6) (.int .i64 i7) (.int .i64 i8) = W6 at *
    exact ret_put rfl rfl rfl HR6.out ⟨rfl, put9_far HC6.out (by have := HC.out.lt; omega), put9_mu HM6.out (fun h => by omega)⟩
end Is
end Go.Proofs.YtblmagcekfbgdaaGreatDoor
