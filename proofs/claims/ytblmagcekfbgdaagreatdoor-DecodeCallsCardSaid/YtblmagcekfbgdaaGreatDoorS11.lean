/- The landed package decode: the only instruction that may stand at the cursor. | The landed package decode: Inst. -/
import Derived.Test.YtblmagcekfbgdaaGreatDoorS8
import Derived.Test.YtblmagcekfbgdaaGreatDoorShelf
namespace Go.Proofs.YtblmagcekfbgdaaGreatDoor
open Go Go.RowKit
namespace Is
open Nt
set_option linter.unusedVariables false
set_option linter.unusedSimpArgs false
set_option maxRecDepth 100000 in
set_option maxHeartbeats 4000000 in
theorem dbehind_l (C k : Nat) (r : Int) (r0 : 0 ≤ r) (r1 : r ≤ 255) (code : ByteArray) (w : World) (hC : Cu w C code k) (hk : k ≤ 500000) :
    Calls Tryz.prog 22 #[.pointer (some ⟨C, 0, none⟩), .int .u8 r] w fun e w' => e = .returned (.agg (wI (bA code) k r).vs) ∧ Cu w' C code (wE (bA code) k) ∧ Mu [C] w w' := by
  have HC := Lib.hid hC
  have HB := Lib.hid (byte_c C (w.heap.size + 1) 0 k code 5 #[.int .u8 0] ((w.alloc (.cells #[.int .i64 0, .int .i64 0, .int .i64 0, .int .i64 0, .int .i64 0, .int .i64 0, .int .i64 0, .int .i64 0, .int .i64 0] 26)).alloc (.cells #[.int .u8 0] 5)) ((hC.alloc _).alloc _) (Bk.new' (by simp)) (by simp) (by have := hC.lt; omega) (by omega))
  have HR : Hid (Bk (w.alloc (.cells #[.int .i64 0, .int .i64 0, .int .i64 0, .int .i64 0, .int .i64 0, .int .i64 0, .int .i64 0, .int .i64 0, .int .i64 0] 26)) w.heap.size 26 #[.int .i64 0, .int .i64 0, .int .i64 0, .int .i64 0, .int .i64 0, .int .i64 0, .int .i64 0, .int .i64 0, .int .i64 0]) := Lib.hid (Bk.new _ _ _)
  have KW := Lib.hid (fun (W : World) (h : Cu W C code (k + 1)) => fun (d : Int) => dwhole_l C (k + 1) d code W h (by omega))
  have KC := Lib.hid (fun (W : World) (h : Cu W C code (k + 1)) => dchoice_l C (k + 1) r r0 r1 code W h (by omega))
  have K4 := Lib.hid (fun (W : World) (h : Cu W C code (k + 1)) => ddigit_l C (k + 1) 4 129 r (by decide) (by decide) r0 r1 (by omega) code W h (by omega))
  have K1 := Lib.hid (fun (W : World) (h : Cu W C code (k + 1)) => ddigit_l C (k + 1) 1 193 r (by decide) (by decide) r0 r1 (by omega) code W h (by omega))
  have K0 := Lib.hid (fun (W : World) (h : Cu W C code (k + 1)) => ddigit_l C (k + 1) 0 247 r (by decide) (by decide) r0 r1 (by omega) code W h (by omega))
  have KT := Lib.hid (fun (W : World) (h : Cu W C code (k + 1)) => fun (b : Int) => dtwo_l C (k + 1) b r r0 r1 code W h (by omega))
  have HLA := Lib.hid (fun W => lst_c r r0 r1 W)
  have HE : Hid (wI (bA code) k r = if bA code k / 8 = 23 then ⟨2, bA code k % 8 + rxL r, 0, 0, 0, 0, 0, 0, numB (bA code) (k + 1) 8⟩ else if bA code k = 15 then chI (bA code) (k + 1) r else if bA code k = 129 then digI (bA code) (k + 1) r 129 4 else if bA code k = 193 then digI (bA code) (k + 1) r 193 1 else if bA code k = 247 then digI (bA code) (k + 1) r 247 0 else twoI (bA code) (k + 1) r (bA code k)) := Lib.hid rfl
  have HF : Hid (wE (bA code) k = if bA code k / 8 = 23 then k + 9 else if bA code k = 15 then opEnd (bA code) (k + 2) else if bA code k = 129 then opEnd (bA code) (k + 1) + 4 else if bA code k = 193 then opEnd (bA code) (k + 1) + 1 else if bA code k = 247 then opEnd (bA code) (k + 1) else opEnd (bA code) (k + 1)) := Lib.hid rfl
  have hbb := bA_bb code k
  have bb0 := hbb.1
  have bb1 := hbb.2
  have HA := Lib.hid (and248 bb0 bb1)
  have HO8 := Lib.hid (or_8 (a := bA code k % 8) (c := rxL r) (by omega) (by omega) (rxL_c r))
  clear hC hbb
  generalize wI (bA code) k r = sv at *
  generalize wE (bA code) k = se at *
  have KT2 := Lib.hid (fun (W : World) (h : Cu W C code (k + 1)) => KT.out W h (bA code k))
  clear KT
  generalize twoI (bA code) (k + 1) r (bA code k) = tv at *
  generalize chI (bA code) (k + 1) r = cv at *
  generalize digI (bA code) (k + 1) r 129 4 = dv4 at *
  generalize digI (bA code) (k + 1) r 193 1 = dv1 at *
  generalize digI (bA code) (k + 1) r 247 0 = dv0 at *
  generalize rxL r = z at *
  generalize numB (bA code) (k + 1) 8 = nv at *
  unfold Ins.vs at KW
  dsimp only at KW
  generalize bA code k = b at *
  go_enter Tryz.func22, Tryz.ntmps22
  go_wp2_with fail
  go_at_call 21
  refine HB.out.mono ?_
  rintro e w2 ⟨rfl, h1, h2, h3⟩
  have HC2 := Lib.hid h1
  have HL2 : Hid (Bk w2 (w.heap.size + 1) 5 #[.int .u8 b]) := Lib.hid h2
  have HR2 := Lib.hid (h3.bk (HR.out.alloc _) (by have := HC.out.lt; simp; omega))
  have HM2 : Hid (Mu [C] w w2) := Lib.hid ((((Mu.refl [C] w).alloc _).alloc _).trans h3 (fun x hx hl => by simp at hx ⊢; omega))
  clear h1 h2 h3 HB
  have l0 : w2.cell? ⟨w.heap.size + 1, 0, none⟩ = some (.int .u8 b) := HL2.out.cell 0
  by_cases c : b / 8 = 23
  · rw [if_pos c] at HE HF
    obtain rfl := HE.out
    obtain rfl := HF.out
    have hb : (bits BinOp.and IntKind.u8 b 248 == 184) = true := by rw [HA.out, c]; rfl
    go_wp2_with fail
    have l0 : w2.drew.cell? ⟨w.heap.size + 1, 0, none⟩ = some (.int .u8 b) := l0
    have K1 := HLA.out w2.drew
    refine wp_region_still_tail 7 (by kernel_rfl) (by kernel_rfl) ?_
    simp only [List.take_succ_cons, List.take_zero, List.drop_succ_cons, List.drop_zero]
    iterate 5 still_step
    still_call K1
    iterate 1 still_step
    refine wpStill_nil ?_
    clear K1
    go_wp2_with fail
    try rw [w64i (z := b % 8) (by omega) (by omega)]
    rw [HO8.out]
    go_at_call 37
    refine (KW.out w2.drew HC2.out.drew _).mono ?_
    rintro e w3 ⟨rfl, h1, h2⟩
    have HC3 : Hid (Cu w3 C code (k + 9)) := Lib.hid h1
    have HR3 := Lib.hid (h2.bk HR2.out.drew (by have := HC.out.lt; simp; omega))
    have HM3 : Hid (Mu [C] w w3) := Lib.hid (HM2.out.drew.trans h2 (fun x hx hl => hx))
    clear h1 h2 l0
    obtain ⟨b0, b1, b2, b3, b4, b5, b6, b7, b8⟩ := c9 HR3.out
    have f0 : ∀ i, w3.frozen? ⟨w.heap.size, i, none⟩ = false := fun i => HR3.out.frozen i
    go_wp2_with fail
    exact ret_put rfl rfl rfl HR3.out ⟨rfl, put9_far HC3.out (by have := HC.out.lt; omega), put9_mu HM3.out (fun h => by omega)⟩
  · rw [if_neg c] at HE HF
    have hb : (bits BinOp.and IntKind.u8 b 248 == 184) = false := by rw [HA.out, beq_eq_false_iff_ne]; omega
    clear HA HO8
    rcases (show b = 15 ∨ b = 129 ∨ b = 193 ∨ b = 247 ∨ (b ≠ 15 ∧ b ≠ 129 ∧ b ≠ 193 ∧ b ≠ 247) by omega) with rfl | rfl | rfl | rfl | ⟨n1, n2, n3, n4⟩
    · rw [if_pos rfl] at HE HF
      obtain rfl := HE.out
      obtain rfl := HF.out
      obtain ⟨i0, i1, i2, i3, i4, i5, i6, i7, i8⟩ := sv
      unfold Ins.vs at *
      dsimp only at *
      go_wp2_with fail
      go_at_call 39
      refine (KC.out w2 HC2.out).mono ?_
      rintro e w3 ⟨rfl, h1, h2⟩
      have HC3 := Lib.hid h1
      have HR3 := Lib.hid (h2.bk HR2.out (by have := HC.out.lt; simp; omega))
      have HM3 : Hid (Mu [C] w w3) := Lib.hid (HM2.out.trans h2 (fun x hx hl => hx))
      clear h1 h2 l0
      obtain ⟨b0, b1, b2, b3, b4, b5, b6, b7, b8⟩ := c9 HR3.out
      have f0 : ∀ i, w3.frozen? ⟨w.heap.size, i, none⟩ = false := fun i => HR3.out.frozen i
      go_wp2_with fail
      exact ret_put rfl rfl rfl HR3.out ⟨rfl, put9_far HC3.out (by have := HC.out.lt; omega), put9_mu HM3.out (fun h => by omega)⟩
    · rw [if_neg (by decide), if_pos rfl] at HE HF
      obtain rfl := HE.out
      obtain rfl := HF.out
      obtain ⟨i0, i1, i2, i3, i4, i5, i6, i7, i8⟩ := sv
      unfold Ins.vs at *
      dsimp only at *
      go_wp2_with fail
      go_at_call 40
      refine (K4.out w2 HC2.out).mono ?_
      rintro e w3 ⟨rfl, h1, h2⟩
      have HC3 := Lib.hid h1
      have HR3 := Lib.hid (h2.bk HR2.out (by have := HC.out.lt; simp; omega))
      have HM3 : Hid (Mu [C] w w3) := Lib.hid (HM2.out.trans h2 (fun x hx hl => hx))
      clear h1 h2 l0
      obtain ⟨b0, b1, b2, b3, b4, b5, b6, b7, b8⟩ := c9 HR3.out
      have f0 : ∀ i, w3.frozen? ⟨w.heap.size, i, none⟩ = false := fun i => HR3.out.frozen i
      go_wp2_with fail
      exact ret_put rfl rfl rfl HR3.out ⟨rfl, put9_far HC3.out (by have := HC.out.lt; omega), put9_mu HM3.out (fun h => by omega)⟩
    · rw [if_neg (by decide), if_neg (by decide), if_pos rfl] at HE HF
      obtain rfl := HE.out
      obtain rfl := HF.out
      obtain ⟨i0, i1, i2, i3, i4, i5, i6, i7, i8⟩ := sv
      unfold Ins.vs at *
      dsimp only at *
      go_wp2_with fail
      go_at_call 40
      refine (K1.out w2 HC2.out).mono ?_
      rintro e w3 ⟨rfl, h1, h2⟩
      have HC3 := Lib.hid h1
      have HR3 := Lib.hid (h2.bk HR2.out (by have := HC.out.lt; simp; omega))
      have HM3 : Hid (Mu [C] w w3) := Lib.hid (HM2.out.trans h2 (fun x hx hl => hx))
      clear h1 h2 l0
      obtain ⟨b0, b1, b2, b3, b4, b5, b6, b7, b8⟩ := c9 HR3.out
      have f0 : ∀ i, w3.frozen? ⟨w.heap.size, i, none⟩ = false := fun i => HR3.out.frozen i
      go_wp2_with fail
      exact ret_put rfl rfl rfl HR3.out ⟨rfl, put9_far HC3.out (by have := HC.out.lt; omega), put9_mu HM3.out (fun h => by omega)⟩
    · rw [if_neg (by decide), if_neg (by decide), if_neg (by decide), if_pos rfl] at HE HF
      obtain rfl := HE.out
      obtain rfl := HF.out
      obtain ⟨i0, i1, i2, i3, i4, i5, i6, i7, i8⟩ := sv
      unfold Ins.vs at *
      dsimp only at *
      go_wp2_with fail
      go_at_call 40
      refine (K0.out w2 HC2.out).mono ?_
      rintro e w3 ⟨rfl, h1, h2⟩
      have HC3 := Lib.hid h1
      have HR3 := Lib.hid (h2.bk HR2.out (by have := HC.out.lt; simp; omega))
      have HM3 : Hid (Mu [C] w w3) := Lib.hid (HM2.out.trans h2 (fun x hx hl => hx))
      clear h1 h2 l0
      obtain ⟨b0, b1, b2, b3, b4, b5, b6, b7, b8⟩ := c9 HR3.out
      have f0 : ∀ i, w3.frozen? ⟨w.heap.size, i, none⟩ = false := fun i => HR3.out.frozen i
      go_wp2_with fail
      exact ret_put rfl rfl rfl HR3.out ⟨rfl, put9_far HC3.out (by have := HC.out.lt; omega), put9_mu HM3.out (fun h => by omega)⟩
    · rw [if_neg n1, if_neg n2, if_neg n3, if_neg n4] at HE HF
      obtain rfl := HE.out
      obtain rfl := HF.out
      have m1 : (b == 15) = false := by rw [beq_eq_false_iff_ne]; exact n1
      have m2 : (b == 129) = false := by rw [beq_eq_false_iff_ne]; exact n2
      have m3 : (b == 193) = false := by rw [beq_eq_false_iff_ne]; exact n3
      have m4 : (b == 247) = false := by rw [beq_eq_false_iff_ne]; exact n4
      obtain ⟨i0, i1, i2, i3, i4, i5, i6, i7, i8⟩ := sv
      unfold Ins.vs at *
      dsimp only at *
      go_wp2_with fail
      go_at_call 41
      refine (KT2.out w2 HC2.out).mono ?_
      rintro e w3 ⟨rfl, h1, h2⟩
      have HC3 := Lib.hid h1
      have HR3 := Lib.hid (h2.bk HR2.out (by have := HC.out.lt; simp; omega))
      have HM3 : Hid (Mu [C] w w3) := Lib.hid (HM2.out.trans h2 (fun x hx hl => hx))
      clear h1 h2 l0
      obtain ⟨b0, b1, b2, b3, b4, b5, b6, b7, b8⟩ := c9 HR3.out
      have f0 : ∀ i, w3.frozen? ⟨w.heap.size, i, none⟩ = false := fun i => HR3.out.frozen i
      go_wp2_with fail
      exact ret_put rfl rfl rfl HR3.out ⟨rfl, put9_far HC3.out (by have := HC.out.lt; omega), put9_mu HM3.out (fun h => by omega)⟩
set_option maxRecDepth 100000 in
set_option maxHeartbeats 4000000 in
theorem dinst_l (C k : Nat) (code : ByteArray) (w : World) (hC : Cu w C code k) (hk : k ≤ 400000) :
    Calls Tryz.prog 12 #[.pointer (some ⟨C, 0, none⟩)] w fun e w' => e = .returned (.agg (gI (bA code) k).vs) ∧ Cu w' C code (gE (bA code) k) ∧ Mu [C] w w' := by
  have HC := Lib.hid hC
  have HB := Lib.hid (byte_c C (w.heap.size + 1) 0 k code 5 #[.int .u8 0] ((w.alloc (.cells #[.int .i64 0, .int .i64 0, .int .i64 0, .int .i64 0, .int .i64 0, .int .i64 0, .int .i64 0, .int .i64 0, .int .i64 0] 26)).alloc (.cells #[.int .u8 0] 5)) ((hC.alloc _).alloc _) (Bk.new' (by simp)) (by simp) (by have := hC.lt; omega) (by omega))
  have HR : Hid (Bk (w.alloc (.cells #[.int .i64 0, .int .i64 0, .int .i64 0, .int .i64 0, .int .i64 0, .int .i64 0, .int .i64 0, .int .i64 0, .int .i64 0] 26)) w.heap.size 26 #[.int .i64 0, .int .i64 0, .int .i64 0, .int .i64 0, .int .i64 0, .int .i64 0, .int .i64 0, .int .i64 0, .int .i64 0]) := Lib.hid (Bk.new _ _ _)
  have hbb := bA_bb code k
  have hb2 := bA_bb code (k + 1)
  have KB := Lib.hid (fun (W : World) (h : Cu W C code (k + 1)) => dbehind_l C (k + 1) (bA code k) hbb.1 hbb.2 code W h (by omega))
  have KJ := Lib.hid (fun (W : World) (h : Cu W C code (k + 1)) => djumpIf_l C (k + 1) code W h (by omega))
  have KA := Lib.hid (fun (W : World) (h : Cu W C code (k + 1)) => doneFlag_l C (k + 1) 20 code W h (by omega))
  have KO := Lib.hid (fun (W : World) (h : Cu W C code (k + 1)) => doneFlag_l C (k + 1) 21 code W h (by omega))
  have KP := Lib.hid (fun (W : World) (h : Cu W C code (k + 1)) => dproduct_l C (k + 1) code W h (by omega))
  have KM := Lib.hid (fun (W : World) (h : Cu W C code (k + 1)) => djump_l C (k + 1) 30 code W h (by omega))
  have KS := Lib.hid (fun (W : World) => dshort_l (bA code k) 0 hbb.1 hbb.2 (.inl rfl) W)
  have KS2 := Lib.hid (fun (W : World) => dshort_l (bA code (k + 1)) 8 hb2.1 hb2.2 (.inr rfl) W)
  have KB2 := Lib.hid (fun (W : World) (L : Nat) (h : Cu W C code (k + 1)) (h2 : Bk W L 5 #[.int .u8 0]) (hn : C ≠ L) => byte_c C L 0 (k + 1) code 5 #[.int .u8 0] W h h2 (by simp) hn (by omega))
  have HE : Hid (gI (bA code) k = if bA code k / 8 = 9 then wI (bA code) (k + 1) (bA code k) else if bA code k / 16 = 5 then shI (bA code k) 0 else if bA code k = 15 then jifI (bA code) (k + 1) else if bA code k = 65 then shI (bA code (k + 1)) 8 else if bA code k = 102 then twoM (bA code) (k + 5) (bA code (k + 1)) 20 else if bA code k = 195 then ⟨33, 0, 0, 0, 0, 0, 0, 0, 0⟩ else if bA code k = 196 then prI (bA code) (k + 1) else if bA code k = 233 then juI 30 (numB (bA code) (k + 1) 4) else if bA code k = 243 then twoM (bA code) (k + 5) (bA code (k + 1)) 21 else zI) := Lib.hid rfl
  have HF : Hid (gE (bA code) k = if bA code k / 8 = 9 then wE (bA code) (k + 1) else if bA code k / 16 = 5 then k + 1 else if bA code k = 15 then jifE (bA code) (k + 1) else if bA code k = 65 then k + 2 else if bA code k = 102 then opEnd (bA code) (k + 5) else if bA code k = 195 then k + 1 else if bA code k = 196 then opEnd (bA code) (k + 4) else if bA code k = 233 then k + 5 else if bA code k = 243 then opEnd (bA code) (k + 5) else k + 1) := Lib.hid rfl
  have bb0 := hbb.1
  have bb1 := hbb.2
  have HA := Lib.hid (and248 bb0 bb1)
  have HA2 := Lib.hid (and240 bb0 bb1)
  clear hC hbb hb2
  generalize gI (bA code) k = sv at *
  generalize gE (bA code) k = se at *
  generalize wI (bA code) (k + 1) (bA code k) = wv at *
  generalize shI (bA code k) 0 = hv at *
  generalize shI (bA code (k + 1)) 8 = hv8 at *
  generalize jifI (bA code) (k + 1) = jv at *
  have e5 : k + 1 + 4 = k + 5 := rfl
  have e4 : k + 1 + 3 = k + 4 := rfl
  rw [e5] at KA KO KM
  rw [e4] at KP
  clear e5 e4
  generalize twoM (bA code) (k + 5) (bA code (k + 1)) 20 = av at *
  generalize twoM (bA code) (k + 5) (bA code (k + 1)) 21 = ov at *
  generalize prI (bA code) (k + 1) = pv at *
  generalize juI 30 (numB (bA code) (k + 1) 4) = mv at *
  generalize hb2q : bA code (k + 1) = b2 at *
  clear hb2q
  generalize bA code k = b at *
  go_enter Tryz.func12, Tryz.ntmps12
  go_wp2_with fail
  go_at_call 21
  refine HB.out.mono ?_
  rintro e w2 ⟨rfl, h1, h2, h3⟩
  have HC2 := Lib.hid h1
  have HL2 : Hid (Bk w2 (w.heap.size + 1) 5 #[.int .u8 b]) := Lib.hid h2
  have HR2 := Lib.hid (h3.bk (HR.out.alloc _) (by have := HC.out.lt; simp; omega))
  have HM2 : Hid (Mu [C] w w2) := Lib.hid ((((Mu.refl [C] w).alloc _).alloc _).trans h3 (fun x hx hl => by simp at hx ⊢; omega))
  clear h1 h2 h3 HB
  have l0 : w2.cell? ⟨w.heap.size + 1, 0, none⟩ = some (.int .u8 b) := HL2.out.cell 0
  by_cases c9' : b / 8 = 9
  · rw [if_pos c9'] at HE HF
    obtain rfl := HE.out
    obtain rfl := HF.out
    have hb : (bits BinOp.and IntKind.u8 b 248 == 72) = true := by rw [HA.out, c9']; rfl
    obtain ⟨i0, i1, i2, i3, i4, i5, i6, i7, i8⟩ := sv
    unfold Ins.vs at *
    dsimp only at *
    go_wp2_with fail
    go_at_call 22
    refine (KB.out w2 HC2.out).mono ?_
    rintro e w3 ⟨rfl, h1, h2⟩
    have HC3 := Lib.hid h1
    have HR3 := Lib.hid (h2.bk HR2.out (by have := HC.out.lt; simp; omega))
    have HM3 : Hid (Mu [C] w w3) := Lib.hid (HM2.out.trans h2 (fun x hx hl => hx))
    clear h1 h2 l0
    obtain ⟨b0, b1, b2, b3, b4, b5, b6, b7, b8⟩ := c9 HR3.out
    have f0 : ∀ i, w3.frozen? ⟨w.heap.size, i, none⟩ = false := fun i => HR3.out.frozen i
    go_wp2_with fail
    exact ret_put rfl rfl rfl HR3.out ⟨rfl, put9_far HC3.out (by have := HC.out.lt; omega), put9_mu HM3.out (fun h => by omega)⟩
  · rw [if_neg c9'] at HE HF
    have hb : (bits BinOp.and IntKind.u8 b 248 == 72) = false := by rw [HA.out, beq_eq_false_iff_ne]; omega
    by_cases c5 : b / 16 = 5
    · rw [if_pos c5] at HE HF
      obtain rfl := HE.out
      obtain rfl := HF.out
      have hb2 : (bits BinOp.and IntKind.u8 b 240 == 80) = true := by rw [HA2.out, c5]; rfl
      obtain ⟨i0, i1, i2, i3, i4, i5, i6, i7, i8⟩ := sv
      unfold Ins.vs at *
      dsimp only at *
      go_wp2_with fail
      go_at_call 23
      refine (KS.out w2).mono ?_
      rintro e w3 ⟨rfl, h2⟩
      have HC3 := Lib.hid (h2.bk HC2.out (by simp))
      have HR3 := Lib.hid (h2.bk HR2.out (by simp))
      have HM3 : Hid (Mu [C] w w3) := Lib.hid (HM2.out.trans h2 (fun x hx hl => by cases hx))
      clear h2 l0
      obtain ⟨b0, b1, b2, b3, b4, b5, b6, b7, b8⟩ := c9 HR3.out
      have f0 : ∀ i, w3.frozen? ⟨w.heap.size, i, none⟩ = false := fun i => HR3.out.frozen i
      go_wp2_with fail
      exact ret_put rfl rfl rfl HR3.out ⟨rfl, put9_far HC3.out (by have := HC.out.lt; omega), put9_mu HM3.out (fun h => by omega)⟩
    · rw [if_neg c5] at HE HF
      have hb2 : (bits BinOp.and IntKind.u8 b 240 == 80) = false := by rw [HA2.out, beq_eq_false_iff_ne]; omega
      clear HA HA2 KB KS
      rcases (show b = 15 ∨ b = 65 ∨ b = 102 ∨ b = 195 ∨ b = 196 ∨ b = 233 ∨ b = 243 ∨ (b ≠ 15 ∧ b ≠ 65 ∧ b ≠ 102 ∧ b ≠ 195 ∧ b ≠ 196 ∧ b ≠ 233 ∧ b ≠ 243) by omega) with rfl | rfl | rfl | rfl | rfl | rfl | rfl | ⟨n1, n2, n3, n4, n5, n6, n7⟩
      · rw [if_pos rfl] at HE HF
        obtain rfl := HE.out
        obtain rfl := HF.out
        obtain ⟨i0, i1, i2, i3, i4, i5, i6, i7, i8⟩ := sv
        unfold Ins.vs at *
        dsimp only at *
        go_wp2_with fail
        go_at_call 24
        refine (KJ.out w2 HC2.out).mono ?_
        rintro e w3 ⟨rfl, h1, h2⟩
        have HC3 := Lib.hid h1
        have HR3 := Lib.hid (h2.bk HR2.out (by have := HC.out.lt; simp; omega))
        have HM3 : Hid (Mu [C] w w3) := Lib.hid (HM2.out.trans h2 (fun x hx hl => hx))
        clear h1 h2 l0
        obtain ⟨b0, b1, b2, b3, b4, b5, b6, b7, b8⟩ := c9 HR3.out
        have f0 : ∀ i, w3.frozen? ⟨w.heap.size, i, none⟩ = false := fun i => HR3.out.frozen i
        go_wp2_with fail
        exact ret_put rfl rfl rfl HR3.out ⟨rfl, put9_far HC3.out (by have := HC.out.lt; omega), put9_mu HM3.out (fun h => by omega)⟩
      · rw [if_neg (by decide), if_pos rfl] at HE HF
        obtain rfl := HE.out
        obtain rfl := HF.out
        obtain ⟨i0, i1, i2, i3, i4, i5, i6, i7, i8⟩ := sv
        unfold Ins.vs at *
        dsimp only at *
        go_wp2_with fail
        have KX := Lib.hid (KB2.out (w2.alloc (.cells #[.int .u8 0] 5)) w2.heap.size (HC2.out.alloc _) (Bk.new w2 _ _) (by have := HC2.out.lt; omega))
        go_at_call 21
        refine KX.out.mono ?_
        rintro e w4 ⟨rfl, h1, h2, h3⟩
        have HC4 : Hid (Cu w4 C code (k + 2)) := Lib.hid h1
        have HL4 : Hid (Bk w4 w2.heap.size 5 #[.int .u8 b2]) := Lib.hid h2
        have HR4 := Lib.hid (h3.bk (HR2.out.alloc _) (by have := HC.out.lt; have := HR2.out.lt; simp; omega))
        have HM4 : Hid (Mu [C] w w4) := Lib.hid ((HM2.out.alloc _).trans h3 (fun x hx hl => by have := HM2.out.size; simp at hx ⊢; omega))
        clear h1 h2 h3 KX KB2
        have l4 : w4.cell? ⟨w2.heap.size, 0, none⟩ = some (.int .u8 b2) := HL4.out.cell 0
        go_wp2_with fail
        go_at_call 23
        refine (KS2.out w4).mono ?_
        rintro e w3 ⟨rfl, h2⟩
        have HC3 := Lib.hid (h2.bk HC4.out (by simp))
        have HR3 := Lib.hid (h2.bk HR4.out (by simp))
        have HM3 : Hid (Mu [C] w w3) := Lib.hid (HM4.out.trans h2 (fun x hx hl => by cases hx))
        clear h2 l0 l4
        obtain ⟨b0, b1, b2, b3, b4, b5, b6, b7, b8⟩ := c9 HR3.out
        have f0 : ∀ i, w3.frozen? ⟨w.heap.size, i, none⟩ = false := fun i => HR3.out.frozen i
        go_wp2_with fail
        exact ret_put rfl rfl rfl HR3.out ⟨rfl, put9_far HC3.out (by have := HC.out.lt; omega), put9_mu HM3.out (fun h => by omega)⟩
      · rw [if_neg (by decide), if_neg (by decide), if_pos rfl] at HE HF
        obtain rfl := HE.out
        obtain rfl := HF.out
        obtain ⟨i0, i1, i2, i3, i4, i5, i6, i7, i8⟩ := sv
        unfold Ins.vs at *
        dsimp only at *
        go_wp2_with fail
        go_at_call 25
        refine (KA.out w2 HC2.out).mono ?_
        rintro e w3 ⟨rfl, h1, h2⟩
        have HC3 := Lib.hid h1
        have HR3 := Lib.hid (h2.bk HR2.out (by have := HC.out.lt; simp; omega))
        have HM3 : Hid (Mu [C] w w3) := Lib.hid (HM2.out.trans h2 (fun x hx hl => hx))
        clear h1 h2 l0
        obtain ⟨b0, b1, b2, b3, b4, b5, b6, b7, b8⟩ := c9 HR3.out
        have f0 : ∀ i, w3.frozen? ⟨w.heap.size, i, none⟩ = false := fun i => HR3.out.frozen i
        go_wp2_with fail
        exact ret_put rfl rfl rfl HR3.out ⟨rfl, put9_far HC3.out (by have := HC.out.lt; omega), put9_mu HM3.out (fun h => by omega)⟩
      · rw [if_neg (by decide), if_neg (by decide), if_neg (by decide), if_pos rfl] at HE HF
        obtain rfl := HE.out
        obtain rfl := HF.out
        obtain ⟨b0, b1, b2, b3, b4, b5, b6, b7, b8⟩ := c9 HR2.out
        have f0 : ∀ i, w2.frozen? ⟨w.heap.size, i, none⟩ = false := fun i => HR2.out.frozen i
        unfold Ins.vs at *
        dsimp only at *
        go_wp2_with fail
        exact ret_put rfl rfl rfl HR2.out ⟨rfl, put9_far HC2.out (by have := HC.out.lt; omega), put9_mu HM2.out (fun h => by omega)⟩
      · rw [if_neg (by decide), if_neg (by decide), if_neg (by decide), if_neg (by decide), if_pos rfl] at HE HF
        obtain rfl := HE.out
        obtain rfl := HF.out
        obtain ⟨i0, i1, i2, i3, i4, i5, i6, i7, i8⟩ := sv
        unfold Ins.vs at *
        dsimp only at *
        go_wp2_with fail
        go_at_call 26
        refine (KP.out w2 HC2.out).mono ?_
        rintro e w3 ⟨rfl, h1, h2⟩
        have HC3 := Lib.hid h1
        have HR3 := Lib.hid (h2.bk HR2.out (by have := HC.out.lt; simp; omega))
        have HM3 : Hid (Mu [C] w w3) := Lib.hid (HM2.out.trans h2 (fun x hx hl => hx))
        clear h1 h2 l0
        obtain ⟨b0, b1, b2, b3, b4, b5, b6, b7, b8⟩ := c9 HR3.out
        have f0 : ∀ i, w3.frozen? ⟨w.heap.size, i, none⟩ = false := fun i => HR3.out.frozen i
        go_wp2_with fail
        exact ret_put rfl rfl rfl HR3.out ⟨rfl, put9_far HC3.out (by have := HC.out.lt; omega), put9_mu HM3.out (fun h => by omega)⟩
      · rw [if_neg (by decide), if_neg (by decide), if_neg (by decide), if_neg (by decide), if_neg (by decide), if_pos rfl] at HE HF
        obtain rfl := HE.out
        obtain rfl := HF.out
        obtain ⟨i0, i1, i2, i3, i4, i5, i6, i7, i8⟩ := sv
        unfold Ins.vs at *
        dsimp only at *
        go_wp2_with fail
        go_at_call 27
        refine (KM.out w2 HC2.out).mono ?_
        rintro e w3 ⟨rfl, h1, h2⟩
        have HC3 := Lib.hid h1
        have HR3 := Lib.hid (h2.bk HR2.out (by have := HC.out.lt; simp; omega))
        have HM3 : Hid (Mu [C] w w3) := Lib.hid (HM2.out.trans h2 (fun x hx hl => hx))
        clear h1 h2 l0
        obtain ⟨b0, b1, b2, b3, b4, b5, b6, b7, b8⟩ := c9 HR3.out
        have f0 : ∀ i, w3.frozen? ⟨w.heap.size, i, none⟩ = false := fun i => HR3.out.frozen i
        go_wp2_with fail
        exact ret_put rfl rfl rfl HR3.out ⟨rfl, put9_far HC3.out (by have := HC.out.lt; omega), put9_mu HM3.out (fun h => by omega)⟩
      · rw [if_neg (by decide), if_neg (by decide), if_neg (by decide), if_neg (by decide), if_neg (by decide), if_neg (by decide), if_pos rfl] at HE HF
        obtain rfl := HE.out
        obtain rfl := HF.out
        obtain ⟨i0, i1, i2, i3, i4, i5, i6, i7, i8⟩ := sv
        unfold Ins.vs at *
        dsimp only at *
        go_wp2_with fail
        go_at_call 25
        refine (KO.out w2 HC2.out).mono ?_
        rintro e w3 ⟨rfl, h1, h2⟩
        have HC3 := Lib.hid h1
        have HR3 := Lib.hid (h2.bk HR2.out (by have := HC.out.lt; simp; omega))
        have HM3 : Hid (Mu [C] w w3) := Lib.hid (HM2.out.trans h2 (fun x hx hl => hx))
        clear h1 h2 l0
        obtain ⟨b0, b1, b2, b3, b4, b5, b6, b7, b8⟩ := c9 HR3.out
        have f0 : ∀ i, w3.frozen? ⟨w.heap.size, i, none⟩ = false := fun i => HR3.out.frozen i
        go_wp2_with fail
        exact ret_put rfl rfl rfl HR3.out ⟨rfl, put9_far HC3.out (by have := HC.out.lt; omega), put9_mu HM3.out (fun h => by omega)⟩
      · rw [if_neg n1, if_neg n2, if_neg n3, if_neg n4, if_neg n5, if_neg n6, if_neg n7] at HE HF
        obtain rfl := HE.out
        obtain rfl := HF.out
        have m1 : (b == 15) = false := by rw [beq_eq_false_iff_ne]; exact n1
        have m2 : (b == 65) = false := by rw [beq_eq_false_iff_ne]; exact n2
        have m3 : (b == 102) = false := by rw [beq_eq_false_iff_ne]; exact n3
        have m4 : (b == 195) = false := by rw [beq_eq_false_iff_ne]; exact n4
        have m5 : (b == 196) = false := by rw [beq_eq_false_iff_ne]; exact n5
        have m6 : (b == 233) = false := by rw [beq_eq_false_iff_ne]; exact n6
        have m7 : (b == 243) = false := by rw [beq_eq_false_iff_ne]; exact n7
        obtain ⟨b0, b1, b2, b3, b4, b5, b6, b7, b8⟩ := c9 HR2.out
        have f0 : ∀ i, w2.frozen? ⟨w.heap.size, i, none⟩ = false := fun i => HR2.out.frozen i
        go_wp2_with fail
        exact ret_put rfl rfl rfl HR2.out ⟨rfl, put9_far HC2.out (by have := HC.out.lt; omega), put9_mu HM2.out (fun h => by omega)⟩
end Is
end Go.Proofs.YtblmagcekfbgdaaGreatDoor
namespace Go.Proofs.YtblmagcekfbgdaaGreatDoor
open Go Go.RowKit
namespace Is
open Nt
set_option linter.unusedVariables false
set_option linter.unusedSimpArgs false
/-- the instruction at a place, how many bytes it has, and the error -/
def rD (s : ByteArray) (a : Int) : Ins × Int × Int :=
  if a < 0 ∨ (s.size : Int) < a then (zI, 0, 2) else if a = (s.size : Int) then (zI, 0, 8)
  else match decO s a.toNat with
    | none => (zI, 0, 4)
    | some i => (i, ((encL i).length : Int), 0)
theorem rD_out {s : ByteArray} {a : Int} (h : a < 0 ∨ (s.size : Int) < a) : rD s a = (zI, 0, 2) := if_pos h
theorem rD_end {s : ByteArray} {a : Int} (h : a = (s.size : Int)) : rD s a = (zI, 0, 8) := by unfold rD; rw [if_neg (by omega), if_pos h]
theorem rD_none {s : ByteArray} {k : Nat} (hk : k < s.size) (h : decO s k = none) : rD s (k : Int) = (zI, 0, 4) := by
  unfold rD; rw [if_neg (by omega), if_neg (by omega), Int.toNat_natCast, h]
theorem rD_some {s : ByteArray} {k : Nat} {i : Ins} (hk : k < s.size) (h : decO s k = some i) : rD s (k : Int) = (i, ((encL i).length : Int), 0) := by
  unfold rD; rw [if_neg (by omega), if_neg (by omega), Int.toNat_natCast, h]
/-- what is told of a place -/
def tD (x : Ins × Int × Int) : Value := .tuple #[.agg x.1.vs, .int .i64 x.2.1, .int .i64 x.2.2]
set_option maxRecDepth 100000 in
theorem ret_i3 {fn : Func} {p u v : Tmp} {R : Ending → World → Prop} {a : Act} {w : World} {g : Nat} {cs : Array Value} (h : fn.results = #[.cell p 26, .tmp u, .tmp v]) (hp : a.tmps.getD p undef = .pointer (some ⟨g, 0, none⟩)) (hd : a.defers = [])
    (hb : Bk w g 26 cs) (h9 : cs.size = 9) (hR : R (.returned (.tuple #[.agg cs, a.tmps.getD u undef, a.tmps.getD v undef])) w) : bodyPost Tryz.prog fn R .ret a w := by
  have hp' : a.tmps[p]?.getD undef = .pointer (some ⟨g, 0, none⟩) := by simpa using hp
  refine bodyPost_ret ?_ hd hR
  simp [results, h, hp', asAddr, run_loadVar_row w g 26 26 cs (0, 0) _ hb Tryz.underlying26 rfl (show (Tryz.prog.info? 26).map (·.size) = some cs.size by rw [h9]; kernel_rfl)]
set_option maxRecDepth 100000 in
set_option maxHeartbeats 4000000 in
theorem dInst_l (code : ByteArray) (a : Int) (w : World) (hT : TabE w) (ha : I64 a) (hs : code.size ≤ 100000) :
    Calls Tryz.prog 5 #[.string code, .int .i64 a] w fun e w' => e = .returned (tD (rD code a)) ∧ Below w.heap.size w w' := by
  have HT := Lib.hid hT
  have hsz : (code.size : Int) ≤ 100000 := by omega
  have a1 := ha.1
  have a2 := ha.2
  have HS := Lib.hid hs
  clear hT hs ha
  have hR0 := Lib.hid (Bk.new w 26 #[.int .i64 0, .int .i64 0, .int .i64 0, .int .i64 0, .int .i64 0, .int .i64 0, .int .i64 0, .int .i64 0, .int .i64 0])
  have HB0 := Lib.hid ((Below.refl w.heap.size w).alloc (Nat.le_refl _) (.cells #[.int .i64 0, .int .i64 0, .int .i64 0, .int .i64 0, .int .i64 0, .int .i64 0, .int .i64 0, .int .i64 0, .int .i64 0] 26))
  by_cases c0 : a < 0
  · rw [rD_out (.inl c0)]
    unfold tD zI Ins.vs
    dsimp only
    go_enter Tryz.func5, Tryz.ntmps5
    go_wp2_with fail
    exact ret_i3 rfl rfl rfl hR0.out rfl ⟨rfl, HB0.out⟩
  · have c0' : 0 ≤ a := by omega
    by_cases c1 : (code.size : Int) < a
    · rw [rD_out (.inr c1)]
      unfold tD zI Ins.vs
      dsimp only
      go_enter Tryz.func5, Tryz.ntmps5
      go_wp2_with fail
      exact ret_i3 rfl rfl rfl hR0.out rfl ⟨rfl, HB0.out⟩
    · have c1' : a ≤ (code.size : Int) := by omega
      by_cases c2 : a = (code.size : Int)
      · rw [rD_end c2]
        subst c2
        unfold tD zI Ins.vs
        dsimp only
        go_enter Tryz.func5, Tryz.ntmps5
        go_wp2_with fail
        exact ret_i3 rfl rfl rfl hR0.out rfl ⟨rfl, HB0.out⟩
      · obtain ⟨k, rfl⟩ := Int.eq_ofNat_of_zero_le c0'
        have hk : k < code.size := by omega
        have c3 : ((k : Int) == (code.size : Int)) = false := by rw [beq_eq_false_iff_ne]; exact c2
        have c4 : (k : Int) < (code.size : Int) := by omega
        have HV := Lib.hid (show (rD code (k : Int) = (gI (bA code) k, ((encS (gI (bA code) k)).size : Int), 0) ∧ chk (gI (bA code) k) = 0 ∧ Go.Lib.hasPrefix (code.extract k code.size).data.toList (encS (gI (bA code) k)).data.toList = true) ∨ (rD code (k : Int) = (zI, 0, 4) ∧ (chk (gI (bA code) k) = 2 ∨ (chk (gI (bA code) k) = 0 ∧ Go.Lib.hasPrefix (code.extract k code.size).data.toList (encS (gI (bA code) k)).data.toList = false))) by
          cases h : isI code k (gI (bA code) k) with
          | true =>
            left
            have e : decO code k = some (gI (bA code) k) := by unfold decO; rw [if_pos h]
            unfold isI at h
            rw [Bool.and_eq_true] at h
            refine ⟨?_, by unfold chk; rw [if_pos h.1], h.2⟩
            rw [rD_some hk e, encS_len h.1]
          | false =>
            right
            have e : decO code k = none := by unfold decO; rw [if_neg (by rw [h]; decide)]
            refine ⟨rD_none hk e, ?_⟩
            unfold isI at h
            cases h2 : okI (gI (bA code) k) with
            | false => left; unfold chk; rw [h2]; rfl
            | true => rw [h2, Bool.true_and] at h; right; exact ⟨by unfold chk; rw [h2]; rfl, h⟩)
        have HWF := Lib.hid (gI_wf (bA_bb code) k)
        have HI := Lib.hid (dinst_l (w.heap.size + 1) k code ((w.alloc (.cells #[.int .i64 0, .int .i64 0, .int .i64 0, .int .i64 0, .int .i64 0, .int .i64 0, .int .i64 0, .int .i64 0, .int .i64 0] 26)).alloc (.cells #[.string code, .int .i64 (k : Int)] 40)) (Bk.new' (by simp)) (by omega))
        have HE := Lib.hid (fun W hT => inst_l (gI (bA code) k) W hT HWF.out)
        have HHP := Lib.hid (fun W => Tryz.strings_HasPrefix (code.extract k code.size) (encS (gI (bA code) k)) W)
        generalize encS (gI (bA code) k) = es at *
        generalize chk (gI (bA code) k) = ck at *
        generalize gE (bA code) k = ge at *
        generalize Go.Lib.hasPrefix (code.extract k code.size).data.toList es.data.toList = hp at *
        clear c0 c1 HWF
        generalize gI (bA code) k = gi at *
        generalize rD code (k : Int) = rd at *
        obtain ⟨i0, i1, i2, i3, i4, i5, i6, i7, i8⟩ := gi
        unfold Ins.vs at HI HE
        dsimp only at HI HE
        go_enter Tryz.func5, Tryz.ntmps5
        go_wp2_with fail
        go_at_call 12
        refine HI.out.mono ?_
        rintro e w2 ⟨rfl, h1, h2⟩
        have HR2 := Lib.hid (h2.bk (hR0.out.alloc _) (by simp))
        have HM2 : Hid (Mu [] w w2) := Lib.hid ((((Mu.refl [] w).alloc _).alloc _).trans h2 (fun x hx hl => by simp at hx ⊢; omega))
        clear h1 h2 HI hR0 HB0
        obtain ⟨b0, b1, b2, b3, b4, b5, b6, b7, b8⟩ := c9 HR2.out
        have f0 : ∀ i, w2.frozen? ⟨w.heap.size, i, none⟩ = false := fun i => HR2.out.frozen i
        go_wp2_with fail
        generalize hW : World.setCell _ _ _ = W3
        have HR3 : Hid (Bk W3 w.heap.size 26 #[.int .i64 i0, .int .i64 i1, .int .i64 i2, .int .i64 i3, .int .i64 i4, .int .i64 i5, .int .i64 i6, .int .i64 i7, .int .i64 i8]) := Lib.hid (by rw [← hW]; exact put9_bk HR2.out)
        have HM3 : Hid (Mu [] w W3) := Lib.hid (by rw [← hW]; exact put9_mu HM2.out (fun h => by omega))
        clear hW b0 b1 b2 b3 b4 b5 b6 b7 b8 f0 HR2 HM2
        go_at_call 13
        refine (HE.out W3 (HT.out.keep (HM3.out.below (Nat.le_refl _) (fun j hj => by cases hj)))).mono ?_
        rintro e w4 ⟨rfl, hb⟩
        have HR4 := Lib.hid (HR3.out.below hb HR3.out.lt)
        have HM4 : Hid (Mu [] w w4) := Lib.hid (HM3.out.trans (Mu.of_below hb) (fun x hx hl => by cases hx))
        clear hb HR3 HM3
        obtain ⟨b0, b1, b2, b3, b4, b5, b6, b7, b8⟩ := c9 HR4.out
        have f0 : ∀ i, w4.frozen? ⟨w.heap.size, i, none⟩ = false := fun i => HR4.out.frozen i
        rcases HV.out with ⟨rfl, rfl, rfl⟩ | ⟨rfl, rfl | ⟨rfl, rfl⟩⟩
        · go_wp2_with fail
          go_at_call 14
          refine (HHP.out _).mono ?_
          rintro e w5 ⟨rfl, rfl⟩
          go_wp2_with fail
          exact ret_i3 rfl rfl rfl (put9_bk HR4.out) rfl ⟨rfl, (put9_mu HM4.out (fun h => by omega)).below (Nat.le_refl _) (fun j hj => by cases hj)⟩
        · go_wp2_with fail
          exact ret_i3 rfl rfl rfl (put9_bk HR4.out) rfl ⟨rfl, (put9_mu HM4.out (fun h => by omega)).below (Nat.le_refl _) (fun j hj => by cases hj)⟩
        · go_wp2_with fail
          go_at_call 14
          refine (HHP.out _).mono ?_
          rintro e w5 ⟨rfl, rfl⟩
          go_wp2_with fail
          exact ret_i3 rfl rfl rfl (put9_bk HR4.out) rfl ⟨rfl, (put9_mu HM4.out (fun h => by omega)).below (Nat.le_refl _) (fun j hj => by cases hj)⟩
end Is
end Go.Proofs.YtblmagcekfbgdaaGreatDoor
