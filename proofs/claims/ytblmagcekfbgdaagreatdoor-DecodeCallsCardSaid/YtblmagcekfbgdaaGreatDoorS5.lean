/- The landed package decode: RM read, whole. | The landed package decode: what a byte, a digit tell; instructions of one byte, of a number. | The landed package decode: what bytes and digits tell; two registers, the one in the middle made; a jump that hangs on a flag. -/
import Derived.Test.YtblmagcekfbgdaaGreatDoorS1
import Derived.Deep.RegionHeld3
namespace Go.Proofs.YtblmagcekfbgdaaGreatDoor
open Go Go.RowKit
namespace Is
open Nt
set_option linter.unusedVariables false
set_option linter.unusedSimpArgs false
theorem meth_reg (v : Value) (w : World) : (method 248 103 v "keysmith/decode.wide").run Tryz.prog w = .ok (124, v) w := by kernel_rfl
theorem meth_pl (v : Value) (w : World) : (method 248 106 v "keysmith/decode.wide").run Tryz.prog w = .ok (125, v) w := by kernel_rfl
theorem or_i8 {a c : Int} (h1 : 0 ≤ a) (h2 : a ≤ 7) (hc : c = 0 ∨ c = 8) : bits .or .i64 a c = a + c := or_8 h1 h2 hc
set_option maxRecDepth 100000 in
set_option maxHeartbeats 4000000 in
theorem operands_c (C g k : Nat) (r : Int) (m l : Value) (code : ByteArray) (w : World) (hC : Cu w C code k) (hg : Bk w g 76 #[.int .u8 r, m, l]) (r0 : 0 ≤ r) (r1 : r ≤ 255) (hne : C ≠ g) (hk : k ≤ 700000) :
    Calls Tryz.prog 44 #[.pointer (some ⟨C, 0, none⟩), .pointer (some ⟨g, 0, none⟩)] w fun e w' =>
      e = .returned (.pointer (some ⟨C, 0, none⟩)) ∧ Cu w' C code (opEnd (bA code) k) ∧ Bk w' g 76 #[.int .u8 r, .int .i64 (midR (bA code k) r), opV (bA code) k r] ∧ Mu [C, g] w w' := by
  have HC := Lib.hid hC
  have HG := Lib.hid hg
  have HNE := Lib.hid hne
  have HM := Lib.hid (fun W => mid_c r r0 r1 W)
  have hbb := bA_bb code k
  have b0 := hbb.1
  have b1 := hbb.2
  have HO8 := Lib.hid (or_8 (a := bA code k / 8 % 8) (c := rxM r) (by omega) (by omega) (rxM_c r))
  have HMR : Hid (midR (bA code k) r = bA code k / 8 % 8 + rxM r) := Lib.hid rfl
  have HB := Lib.hid (byte_c C w.heap.size 0 k code 5 #[.int .u8 0] (w.alloc (.cells #[.int .u8 0] 5)) (hC.alloc _) (Bk.new w _ _) (by simp) (by have := hC.lt; omega) (by omega))
  have HOP := Lib.hid (fun (W : World) (m' : Value) (h1 : Cu W C code (k + 1)) (h2 : Bk W g 76 #[.int .u8 r, m', l]) => operand_c C g k (.int .u8 r) m' l code W h1 h2 hne (by omega))
  have HX : Hid ((opV0 (bA code) k = .iface 103 (.int .i64 (bA code k % 8)) ∧ opV (bA code) k r = .iface 103 (.int .i64 (bA code k % 8 + rxL r))) ∨
      (∃ pb px ps pd, (0 ≤ pb ∧ pb ≤ 7 ∧ 0 ≤ px ∧ px ≤ 7) ∧ opV0 (bA code) k = .iface 106 (.agg #[.int .i64 pb, .int .i64 px, .int .i64 ps, .int .i64 pd]) ∧ opV (bA code) k r = .iface 106 (.agg #[.int .i64 (pb + rxL r), .int .i64 (wdX px r), .int .i64 ps, .int .i64 pd]))) := Lib.hid (by
    have hb1 := bA_bb code (k + 1)
    unfold opV0 opV lstR
    by_cases c : 192 ≤ bA code k
    · left
      rw [if_pos c, if_pos c]
      exact ⟨rfl, rfl⟩
    · right
      rw [if_neg c, if_neg c]
      refine ⟨_, _, _, _, ?_, rfl, rfl⟩
      unfold plBase plIdx
      split <;> omega)
  clear hC hg hne hbb
  rw [HMR.out]
  generalize opV0 (bA code) k = v0 at *
  generalize opV (bA code) k r = v1 at *
  generalize rxM r = z at *
  generalize hbq : bA code k = b at *
  have HBQ := Lib.hid hbq
  clear hbq HMR
  go_enter Tryz.func44, Tryz.ntmps44
  go_wp2_with fail
  go_at_call 21
  refine HB.out.mono ?_
  rintro e w2 ⟨rfl, h1, h2, h3⟩
  have HC2 := Lib.hid h1
  have HL2 : Hid (Bk w2 w.heap.size 5 #[.int .u8 b]) := Lib.hid h2
  have HG2 := Lib.hid (h3.bk (HG.out.alloc _) (by have := HNE.out; have := HG.out.lt; simp; omega))
  have HM2 : Hid (Mu [C, g] w w2) := Lib.hid (((Mu.refl [C, g] w).alloc _).trans h3 (fun x hx hl => by simp at hx ⊢; omega))
  clear h1 h2 h3 HB
  go_wp2_with fail
  have l0 : w2.drew.cell? ⟨w.heap.size, 0, none⟩ = some (.int .u8 b) := HL2.out.cell 0
  have c0 : w2.drew.cell? ⟨g, 0, none⟩ = some (.int .u8 r) := HG2.out.cell 0
  have c1 : w2.drew.cell? ⟨g, 1, none⟩ = some m := HG2.out.cell 1
  have f1 : w2.drew.frozen? ⟨g, 1, none⟩ = false := HG2.out.frozen 1
  have K1 := HM.out w2.drew
  refine wp_region_still_tail 13 (by kernel_rfl) (by kernel_rfl) ?_
  simp only [List.take_succ_cons, List.take_zero, List.drop_succ_cons, List.drop_zero]
  iterate 9 still_step
  still_call K1
  iterate 3 still_step
  refine wpStill_nil ?_
  clear K1
  go_wp2_with fail
  rw [w64i (z := b / 8 % 8) (by omega) (by omega), HO8.out]
  generalize hW : World.drew (World.setCell _ _ _) = W3
  have HC3 : Hid (Cu W3 C code (k + 1)) := Lib.hid (by rw [← hW]; exact (HC2.out.far (by exact HNE.out) _).drew)
  have HL3 : Hid (Bk W3 w.heap.size 5 #[.int .u8 b]) := Lib.hid (by rw [← hW]; exact (HL2.out.far (by have := HG.out.lt; show w.heap.size ≠ g; omega) _).drew)
  have HG3 : Hid (Bk W3 g 76 #[.int .u8 r, .int .i64 (b / 8 % 8 + z), l]) := Lib.hid (by rw [← hW]; exact (HG2.out.set_ 1 _).drew)
  have HM3 : Hid (Mu [C, g] w W3) := Lib.hid (by rw [← hW]; exact (HM2.out.set_ _ (fun _ => by simp) _).drew)
  clear hW l0 c0 c1 f1 HC2 HL2 HG2 HM2 HO8
  have l0 : W3.drew.cell? ⟨w.heap.size, 0, none⟩ = some (.int .u8 b) := HL3.out.cell 0
  refine wp_region_still_tail 5 (by kernel_rfl) (by kernel_rfl) ?_
  simp only [List.take_succ_cons, List.take_zero, List.drop_succ_cons, List.drop_zero]
  iterate 5 still_step
  refine wpStill_nil ?_
  go_wp2_with fail
  go_at_call 81
  refine (HOP.out _ _ HC3.out.drew HG3.out.drew).mono ?_
  rintro e w4 ⟨rfl, h1, h2, h3⟩
  have HC4 := Lib.hid h1
  have HG4 := Lib.hid h2
  have HM4 : Hid (Mu [C, g] w w4) := Lib.hid (HM3.out.drew.trans h3 (fun x hx hl => hx))
  clear h1 h2 h3 l0 HOP
  have c0 : w4.drew.cell? ⟨g, 0, none⟩ = some (.int .u8 r) := HG4.out.cell 0
  have c2 : w4.drew.cell? ⟨g, 2, none⟩ = some v0 := HG4.out.cell 2
  have f2 : w4.drew.frozen? ⟨g, 2, none⟩ = false := HG4.out.frozen 2
  go_wp2_with fail
  rcases HX.out with ⟨rfl, rfl⟩ | ⟨pb, px, ps, pd, hpp, rfl, rfl⟩
  · have HR := Lib.hid (fun W => regw_c (b % 8) r (by omega) (by omega) r0 r1 W)
    have hmr := fun w => meth_reg (.int .i64 (b % 8)) w
    go_region_with (go_at_call 124; refine (HR.out _).mono ?_; rintro e y5 ⟨rfl, rfl⟩)
    all_goals
      generalize hW : World.drew (World.setCell _ _ _) = W6
      have HC6 : Hid (Cu W6 C code (opEnd (bA code) k)) := Lib.hid (by rw [← hW]; exact (HC4.out.far (by exact HNE.out) _).drew)
      have HG6 := Lib.hid (show Bk W6 g 76 #[.int .u8 r, .int .i64 (b / 8 % 8 + z), .iface 103 (.int .i64 (b % 8 + rxL r))] by rw [← hW]; exact (HG4.out.set_ 2 _).drew)
      have HM6 : Hid (Mu [C, g] w W6) := Lib.hid (by rw [← hW]; exact (HM4.out.set_ _ (fun _ => by simp) _).drew)
      clear hW c0 c2 f2
      go_wp2_with fail
      go_ret
      exact ⟨rfl, HC6.out, HG6.out, HM6.out⟩
  · obtain ⟨p0, p1, p2, p3⟩ := hpp
    have HP := Lib.hid (fun W => plw_c pb px ps pd r p0 p1 p2 p3 r0 r1 W)
    have hmr := fun w => meth_pl (.agg #[.int .i64 pb, .int .i64 px, .int .i64 ps, .int .i64 pd]) w
    go_region_with (go_at_call 125; refine (HP.out _).mono ?_; rintro e y5 ⟨rfl, hm5⟩; have HC5 := Lib.hid (hm5.bk HC4.out.drew (by simp)); have HG5 := Lib.hid (hm5.bk HG4.out.drew (by simp)); have HM5 : Hid (Mu [C, g] w y5) := Lib.hid (HM4.out.drew.trans hm5 (fun x hx hl => by cases hx)); have e2 : y5.cell? ⟨g, 2, none⟩ = some (.iface 106 (.agg #[.int .i64 pb, .int .i64 px, .int .i64 ps, .int .i64 pd])) := HG5.out.cell 2; have g2 : y5.frozen? ⟨g, 2, none⟩ = false := HG5.out.frozen 2; clear hm5)
    all_goals
      generalize hW : World.setCell _ _ _ = W6
      have HC6 : Hid (Cu W6 C code (opEnd (bA code) k)) := Lib.hid (by rw [← hW]; exact HC5.out.far (by exact HNE.out) _)
      have HG6 := Lib.hid (show Bk W6 g 76 #[.int .u8 r, .int .i64 (b / 8 % 8 + z), .iface 106 (.agg #[.int .i64 (pb + rxL r), .int .i64 (wdX px r), .int .i64 ps, .int .i64 pd])] by rw [← hW]; exact HG5.out.set_ 2 _)
      have HM6 : Hid (Mu [C, g] w W6) := Lib.hid (by rw [← hW]; exact HM5.out.set_ _ (fun _ => by simp) _)
      clear hW c0 c2 f2 e2 g2
      go_wp2_with fail
      go_ret
      exact ⟨rfl, HC6.out, HG6.out, HM6.out⟩
end Is
end Go.Proofs.YtblmagcekfbgdaaGreatDoor
namespace Go.Proofs.YtblmagcekfbgdaaGreatDoor
open Go Go.RowKit
namespace Is
open Nt
set_option linter.unusedVariables false
set_option linter.unusedSimpArgs false
set_option maxRecDepth 100000 in
theorem ret_inst {fn : Func} {p : Tmp} {R : Ending → World → Prop} {a : Act} {w : World} {g : Nat} {cs : Array Value} (h : fn.results = #[.cell p 26]) (hp : a.tmps.getD p undef = .pointer (some ⟨g, 0, none⟩)) (hd : a.defers = [])
    (hb : Bk w g 26 cs) (h9 : cs.size = 9) (hR : R (.returned (.agg cs)) w) : bodyPost Tryz.prog fn R .ret a w :=
  bodyPost_ret (results_cell_row h _ _ g 26 cs (0, 0) _ hp hb Tryz.underlying26 rfl (by rw [h9]; kernel_rfl)) hd hR
/-- an instruction stored, cell by cell -/
def put9 (w : World) (g : Nat) (c0 c1 c2 c3 c4 c5 c6 c7 c8 : Value) : World := (((((((((w).setCell ⟨g, 0, none⟩ c0).setCell ⟨g, 1, none⟩ c1).setCell ⟨g, 2, none⟩ c2).setCell ⟨g, 3, none⟩ c3).setCell ⟨g, 4, none⟩ c4).setCell ⟨g, 5, none⟩ c5).setCell ⟨g, 6, none⟩ c6).setCell ⟨g, 7, none⟩ c7).setCell ⟨g, 8, none⟩ c8
theorem put9_bk {w : World} {g : Nat} {t : TypeId} {x0 x1 x2 x3 x4 x5 x6 x7 x8 c0 c1 c2 c3 c4 c5 c6 c7 c8 : Value} (h : Bk w g t #[x0, x1, x2, x3, x4, x5, x6, x7, x8]) : Bk (put9 w g c0 c1 c2 c3 c4 c5 c6 c7 c8) g t #[c0, c1, c2, c3, c4, c5, c6, c7, c8] := by
  have h0 : Bk (_) g t #[c0, x1, x2, x3, x4, x5, x6, x7, x8] := h.set_ 0 c0
  have h1 : Bk (_) g t #[c0, c1, x2, x3, x4, x5, x6, x7, x8] := h0.set_ 1 c1
  have h2 : Bk (_) g t #[c0, c1, c2, x3, x4, x5, x6, x7, x8] := h1.set_ 2 c2
  have h3 : Bk (_) g t #[c0, c1, c2, c3, x4, x5, x6, x7, x8] := h2.set_ 3 c3
  have h4 : Bk (_) g t #[c0, c1, c2, c3, c4, x5, x6, x7, x8] := h3.set_ 4 c4
  have h5 : Bk (_) g t #[c0, c1, c2, c3, c4, c5, x6, x7, x8] := h4.set_ 5 c5
  have h6 : Bk (_) g t #[c0, c1, c2, c3, c4, c5, c6, x7, x8] := h5.set_ 6 c6
  have h7 : Bk (_) g t #[c0, c1, c2, c3, c4, c5, c6, c7, x8] := h6.set_ 7 c7
  have h8 : Bk (_) g t #[c0, c1, c2, c3, c4, c5, c6, c7, c8] := h7.set_ 8 c8
  exact h8
theorem put9_far {w : World} {g C : Nat} {t : TypeId} {cs : Array Value} {c0 c1 c2 c3 c4 c5 c6 c7 c8 : Value} (h : Bk w C t cs) (hn : C ≠ g) : Bk (put9 w g c0 c1 c2 c3 c4 c5 c6 c7 c8) C t cs :=
  ((((((((h.far (by exact hn) c0).far (by exact hn) c1).far (by exact hn) c2).far (by exact hn) c3).far (by exact hn) c4).far (by exact hn) c5).far (by exact hn) c6).far (by exact hn) c7).far (by exact hn) c8
theorem put9_mu {S : List Nat} {a w : World} {g : Nat} {c0 c1 c2 c3 c4 c5 c6 c7 c8 : Value} (h : Mu S a w) (hg : g < a.heap.size → g ∈ S) : Mu S a (put9 w g c0 c1 c2 c3 c4 c5 c6 c7 c8) :=
  ((((((((h.set_ _ (by exact hg) c0).set_ _ (by exact hg) c1).set_ _ (by exact hg) c2).set_ _ (by exact hg) c3).set_ _ (by exact hg) c4).set_ _ (by exact hg) c5).set_ _ (by exact hg) c6).set_ _ (by exact hg) c7).set_ _ (by exact hg) c8
/-- the end of a function that answers an instruction, which is stored last -/
theorem ret_put {fn : Func} {p : Tmp} {R : Ending → World → Prop} {a : Act} {w : World} {g : Nat} {x0 x1 x2 x3 x4 x5 x6 x7 x8 c0 c1 c2 c3 c4 c5 c6 c7 c8 : Value} (h : fn.results = #[.cell p 26]) (hp : a.tmps.getD p undef = .pointer (some ⟨g, 0, none⟩)) (hd : a.defers = [])
    (hb : Bk w g 26 #[x0, x1, x2, x3, x4, x5, x6, x7, x8]) (hR : R (.returned (.agg #[c0, c1, c2, c3, c4, c5, c6, c7, c8])) (put9 w g c0 c1 c2 c3 c4 c5 c6 c7 c8)) : bodyPost Tryz.prog fn R .ret a (put9 w g c0 c1 c2 c3 c4 c5 c6 c7 c8) :=
  ret_inst h hp hd (put9_bk hb) rfl hR
set_option maxRecDepth 100000 in
set_option maxHeartbeats 2000000 in
theorem dshort_l (b a : Int) (h0 : 0 ≤ b) (h1 : b ≤ 255) (ha : a = 0 ∨ a = 8) (w : World) : Calls Tryz.prog 23 #[.int .u8 b, .int .i64 a] w fun e w' => e = .returned (.agg (shI b a).vs) ∧ Mu [] w w' := by
  have H7 := Lib.hid (or_8 (a := b % 8) (c := a) (by omega) (by omega) ha)
  have H8 := Lib.hid (and8 h0 h1)
  have HS : Hid (shI b a = if b / 8 % 2 = 0 then ⟨28, 0, b % 8 + a, 0, 0, 0, 0, 0, 0⟩ else ⟨29, b % 8 + a, 0, 0, 0, 0, 0, 0, 0⟩) := Lib.hid rfl
  generalize shI b a = sv at *
  by_cases c : b / 8 % 2 = 0
  · rw [if_pos c] at HS
    obtain rfl := HS.out
    have hb : (bits BinOp.and IntKind.u8 b 8 == 0) = true := by rw [H8.out, c]; rfl
    unfold Ins.vs
    dsimp only
    go_enter Tryz.func23, Tryz.ntmps23
    go_wp2_with fail
    rw [H7.out]
    exact ret_inst rfl rfl rfl (Bk.new w _ _) rfl ⟨rfl, (Mu.refl _ w).alloc _⟩
  · rw [if_neg c] at HS
    obtain rfl := HS.out
    have hb : (bits BinOp.and IntKind.u8 b 8 == 0) = false := by rw [H8.out, beq_eq_false_iff_ne]; omega
    unfold Ins.vs
    dsimp only
    go_enter Tryz.func23, Tryz.ntmps23
    go_wp2_with fail
    rw [H7.out]
    exact ret_inst rfl rfl rfl (Bk.new w _ _) rfl ⟨rfl, (Mu.refl _ w).alloc _⟩
set_option maxRecDepth 100000 in
set_option maxHeartbeats 2000000 in
theorem djump_l (C k : Nat) (op : Int) (code : ByteArray) (w : World) (hC : Cu w C code k) (hk : k ≤ 700000) :
    Calls Tryz.prog 27 #[.pointer (some ⟨C, 0, none⟩), .int .i64 op] w fun e w' => e = .returned (.agg (juI op (numB (bA code) k 4)).vs) ∧ Cu w' C code (k + 4) ∧ Mu [C] w w' := by
  have HC := Lib.hid hC
  have HN := Lib.hid (number_c C (w.heap.size + 1) 8 k 4 code 26 #[.int .i64 op, .int .i64 0, .int .i64 0, .int .i64 0, .int .i64 0, .int .i64 0, .int .i64 0, .int .i64 0, .int .i64 0]
    ((w.alloc (.cells #[.int .i64 0, .int .i64 0, .int .i64 0, .int .i64 0, .int .i64 0, .int .i64 0, .int .i64 0, .int .i64 0, .int .i64 0] 26)).alloc (.cells #[.int .i64 op, .int .i64 0, .int .i64 0, .int .i64 0, .int .i64 0, .int .i64 0, .int .i64 0, .int .i64 0, .int .i64 0] 26))
    ((hC.alloc _).alloc _) (Bk.new' (by simp)) (by simp) (by have := hC.lt; omega) (by omega) (by omega))
  have HR : Hid (Bk (w.alloc (.cells #[.int .i64 0, .int .i64 0, .int .i64 0, .int .i64 0, .int .i64 0, .int .i64 0, .int .i64 0, .int .i64 0, .int .i64 0] 26)) w.heap.size 26 #[.int .i64 0, .int .i64 0, .int .i64 0, .int .i64 0, .int .i64 0, .int .i64 0, .int .i64 0, .int .i64 0, .int .i64 0]) := Lib.hid (Bk.new _ _ _)
  clear hC
  unfold Ins.vs juI
  dsimp only
  go_enter Tryz.func27, Tryz.ntmps27
  go_wp2_with fail
  go_at_call 46
  refine HN.out.mono ?_
  rintro e w2 ⟨rfl, h1, h2, h3⟩
  have HC2 := Lib.hid h1
  have HI2 : Hid (Bk w2 (w.heap.size + 1) 26 #[.int .i64 op, .int .i64 0, .int .i64 0, .int .i64 0, .int .i64 0, .int .i64 0, .int .i64 0, .int .i64 0, .int .i64 (numB (bA code) k 4)]) := Lib.hid h2
  have HR2 := Lib.hid (h3.bk (HR.out.alloc _) (by have := HC.out.lt; simp; omega))
  have HM2 : Hid (Mu [C] w w2) := Lib.hid ((((Mu.refl [C] w).alloc _).alloc _).trans h3 (fun x hx hl => by simp at hx ⊢; omega))
  clear h1 h2 h3 HN
  obtain ⟨a0, a1, a2, a3, a4, a5, a6, a7, a8⟩ := c9 HI2.out
  obtain ⟨b0, b1, b2, b3, b4, b5, b6, b7, b8⟩ := c9 HR2.out
  have f0 : ∀ i, w2.frozen? ⟨w.heap.size, i, none⟩ = false := fun i => HR2.out.frozen i
  go_wp2_with fail
  exact ret_put rfl rfl rfl HR2.out ⟨rfl, put9_far HC2.out (by have := HC.out.lt; omega), put9_mu HM2.out (fun h => by omega)⟩
set_option maxRecDepth 100000 in
set_option maxHeartbeats 2000000 in
theorem dwhole_l (C k : Nat) (d : Int) (code : ByteArray) (w : World) (hC : Cu w C code k) (hk : k ≤ 700000) :
    Calls Tryz.prog 37 #[.pointer (some ⟨C, 0, none⟩), .int .i64 d] w fun e w' => e = .returned (.agg (⟨2, d, 0, 0, 0, 0, 0, 0, numB (bA code) k 8⟩ : Ins).vs) ∧ Cu w' C code (k + 8) ∧ Mu [C] w w' := by
  have HC := Lib.hid hC
  have HN := Lib.hid (number_c C (w.heap.size + 1) 8 k 8 code 26 #[.int .i64 2, .int .i64 d, .int .i64 0, .int .i64 0, .int .i64 0, .int .i64 0, .int .i64 0, .int .i64 0, .int .i64 0]
    ((w.alloc (.cells #[.int .i64 0, .int .i64 0, .int .i64 0, .int .i64 0, .int .i64 0, .int .i64 0, .int .i64 0, .int .i64 0, .int .i64 0] 26)).alloc (.cells #[.int .i64 2, .int .i64 d, .int .i64 0, .int .i64 0, .int .i64 0, .int .i64 0, .int .i64 0, .int .i64 0, .int .i64 0] 26))
    ((hC.alloc _).alloc _) (Bk.new' (by simp)) (by simp) (by have := hC.lt; omega) (by omega) (by omega))
  have HR : Hid (Bk (w.alloc (.cells #[.int .i64 0, .int .i64 0, .int .i64 0, .int .i64 0, .int .i64 0, .int .i64 0, .int .i64 0, .int .i64 0, .int .i64 0] 26)) w.heap.size 26 #[.int .i64 0, .int .i64 0, .int .i64 0, .int .i64 0, .int .i64 0, .int .i64 0, .int .i64 0, .int .i64 0, .int .i64 0]) := Lib.hid (Bk.new _ _ _)
  clear hC
  unfold Ins.vs
  dsimp only
  go_enter Tryz.func37, Tryz.ntmps37
  go_wp2_with fail
  go_at_call 46
  refine HN.out.mono ?_
  rintro e w2 ⟨rfl, h1, h2, h3⟩
  have HC2 := Lib.hid h1
  have HI2 : Hid (Bk w2 (w.heap.size + 1) 26 #[.int .i64 2, .int .i64 d, .int .i64 0, .int .i64 0, .int .i64 0, .int .i64 0, .int .i64 0, .int .i64 0, .int .i64 (numB (bA code) k 8)]) := Lib.hid h2
  have HR2 := Lib.hid (h3.bk (HR.out.alloc _) (by have := HC.out.lt; simp; omega))
  have HM2 : Hid (Mu [C] w w2) := Lib.hid ((((Mu.refl [C] w).alloc _).alloc _).trans h3 (fun x hx hl => by simp at hx ⊢; omega))
  clear h1 h2 h3 HN
  obtain ⟨a0, a1, a2, a3, a4, a5, a6, a7, a8⟩ := c9 HI2.out
  obtain ⟨b0, b1, b2, b3, b4, b5, b6, b7, b8⟩ := c9 HR2.out
  have f0 : ∀ i, w2.frozen? ⟨w.heap.size, i, none⟩ = false := fun i => HR2.out.frozen i
  go_wp2_with fail
  exact ret_put rfl rfl rfl HR2.out ⟨rfl, put9_far HC2.out (by have := HC.out.lt; omega), put9_mu HM2.out (fun h => by omega)⟩
end Is
end Go.Proofs.YtblmagcekfbgdaaGreatDoor
namespace Go.Proofs.YtblmagcekfbgdaaGreatDoor
open Go Go.RowKit
namespace Is
open Nt
set_option linter.unusedVariables false
set_option linter.unusedSimpArgs false
set_option maxRecDepth 100000 in
set_option maxHeartbeats 2000000 in
theorem ofReg_l (b : Int) (w : World) : Calls Tryz.prog 78 #[.int .u8 b] w fun e w' => e = .returned (.int .i64 (ofReg b)) ∧ w' = w := by
  rcases (show b = 1 ∨ b = 9 ∨ b = 17 ∨ b = 25 ∨ b = 33 ∨ b = 41 ∨ b = 49 ∨ b = 57 ∨ b = 133 ∨ b = 137 ∨ (b ≠ 1 ∧ b ≠ 9 ∧ b ≠ 17 ∧ b ≠ 25 ∧ b ≠ 33 ∧ b ≠ 41 ∧ b ≠ 49 ∧ b ≠ 57 ∧ b ≠ 133 ∧ b ≠ 137) by omega) with rfl | rfl | rfl | rfl | rfl | rfl | rfl | rfl | rfl | rfl | ⟨n1, n9, n17, n25, n33, n41, n49, n57, n133, n137⟩
  · rw [show ofReg 1 = 6 from rfl]
    go_enter Tryz.func78, Tryz.ntmps78
    go_wp2_with fail
    go_ret
    exact ⟨rfl, rfl⟩
  · rw [show ofReg 9 = 11 from rfl]
    go_enter Tryz.func78, Tryz.ntmps78
    go_wp2_with fail
    go_ret
    exact ⟨rfl, rfl⟩
  · rw [show ofReg 17 = 7 from rfl]
    go_enter Tryz.func78, Tryz.ntmps78
    go_wp2_with fail
    go_ret
    exact ⟨rfl, rfl⟩
  · rw [show ofReg 25 = 9 from rfl]
    go_enter Tryz.func78, Tryz.ntmps78
    go_wp2_with fail
    go_ret
    exact ⟨rfl, rfl⟩
  · rw [show ofReg 33 = 10 from rfl]
    go_enter Tryz.func78, Tryz.ntmps78
    go_wp2_with fail
    go_ret
    exact ⟨rfl, rfl⟩
  · rw [show ofReg 41 = 8 from rfl]
    go_enter Tryz.func78, Tryz.ntmps78
    go_wp2_with fail
    go_ret
    exact ⟨rfl, rfl⟩
  · rw [show ofReg 49 = 12 from rfl]
    go_enter Tryz.func78, Tryz.ntmps78
    go_wp2_with fail
    go_ret
    exact ⟨rfl, rfl⟩
  · rw [show ofReg 57 = 13 from rfl]
    go_enter Tryz.func78, Tryz.ntmps78
    go_wp2_with fail
    go_ret
    exact ⟨rfl, rfl⟩
  · rw [show ofReg 133 = 14 from rfl]
    go_enter Tryz.func78, Tryz.ntmps78
    go_wp2_with fail
    go_ret
    exact ⟨rfl, rfl⟩
  · rw [show ofReg 137 = 1 from rfl]
    go_enter Tryz.func78, Tryz.ntmps78
    go_wp2_with fail
    go_ret
    exact ⟨rfl, rfl⟩
  · have e : ofReg b = 0 := by unfold ofReg; rw [if_neg n1, if_neg n9, if_neg n17, if_neg n25, if_neg n33, if_neg n41, if_neg n49, if_neg n57, if_neg n133, if_neg n137]
    rw [e]
    have m1 : (b == 1) = false := by rw [beq_eq_false_iff_ne]; exact n1
    have m9 : (b == 9) = false := by rw [beq_eq_false_iff_ne]; exact n9
    have m17 : (b == 17) = false := by rw [beq_eq_false_iff_ne]; exact n17
    have m25 : (b == 25) = false := by rw [beq_eq_false_iff_ne]; exact n25
    have m33 : (b == 33) = false := by rw [beq_eq_false_iff_ne]; exact n33
    have m41 : (b == 41) = false := by rw [beq_eq_false_iff_ne]; exact n41
    have m49 : (b == 49) = false := by rw [beq_eq_false_iff_ne]; exact n49
    have m57 : (b == 57) = false := by rw [beq_eq_false_iff_ne]; exact n57
    have m133 : (b == 133) = false := by rw [beq_eq_false_iff_ne]; exact n133
    have m137 : (b == 137) = false := by rw [beq_eq_false_iff_ne]; exact n137
    go_enter Tryz.func78, Tryz.ntmps78
    go_wp2_with fail
    go_ret
    exact ⟨rfl, rfl⟩
theorem or_dig : ∀ d : Nat, d < 16 → ∀ b : Nat, b < 256 → (b * 16) ||| d = b * 16 + d := fun d hd b _ => nat_join 4 (b * 16) d (by omega) (by omega)
theorem or_16 {b d : Int} (b0 : 0 ≤ b) (b1 : b ≤ 255) (d0 : 0 ≤ d) (d1 : d ≤ 15) : bits .or .i64 (b * 16) d = b * 16 + d := by
  obtain ⟨x, rfl⟩ := Int.eq_ofNat_of_zero_le b0
  obtain ⟨y, rfl⟩ := Int.eq_ofNat_of_zero_le d0
  have e1 : ((y : Nat) : Int) = wrap64 ((y : Nat) : Int) := (w64i (by omega) (by omega)).symm
  have h := or_i64 y (x * 16) 4 (by omega) (by omega) (by omega) (by omega)
  have hc : bits .or .i64 ((x : Int) * 16) (y : Int) = bits .or .i64 (y : Int) ((x : Int) * 16) := by
    show IntKind.i64.wrap ((BitVec.ofInt 64 ((x : Int) * 16) ||| BitVec.ofInt 64 (y : Int)).toNat : Int) = IntKind.i64.wrap ((BitVec.ofInt 64 (y : Int) ||| BitVec.ofInt 64 ((x : Int) * 16)).toNat : Int)
    rw [BitVec.or_comm]
  have e2 : ((x * 16 : Nat) : Int) = (x : Int) * 16 := by omega
  rw [hc]
  rw [w64i (z := ((x * 16 : Nat) : Int)) (by omega) (by omega), w64i (by omega) (by omega), e2] at h
  rw [h]
  omega
set_option maxRecDepth 100000 in
set_option maxHeartbeats 2000000 in
theorem ofDig_l (b d : Int) (b0 : 0 ≤ b) (b1 : b ≤ 255) (d0 : 0 ≤ d) (d1 : d ≤ 15) (w : World) : Calls Tryz.prog 77 #[.int .u8 b, .int .i64 d] w fun e w' => e = .returned (.int .i64 (ofDig b d)) ∧ w' = w := by
  have HO := or_16 b0 b1 d0 d1
  rcases (show (b = 129 ∧ d = 0) ∨ (b = 129 ∧ d = 4) ∨ (b = 129 ∧ d = 5) ∨ (b = 129 ∧ d = 7) ∨ (b = 193 ∧ d = 4) ∨ (b = 193 ∧ d = 5) ∨ (b = 247 ∧ d = 2) ∨ (b = 247 ∧ d = 3) ∨ (b * 16 + d ≠ 2064 ∧ b * 16 + d ≠ 2068 ∧ b * 16 + d ≠ 2069 ∧ b * 16 + d ≠ 2071 ∧ b * 16 + d ≠ 3092 ∧ b * 16 + d ≠ 3093 ∧ b * 16 + d ≠ 3954 ∧ b * 16 + d ≠ 3955) by omega) with ⟨rfl, rfl⟩ | ⟨rfl, rfl⟩ | ⟨rfl, rfl⟩ | ⟨rfl, rfl⟩ | ⟨rfl, rfl⟩ | ⟨rfl, rfl⟩ | ⟨rfl, rfl⟩ | ⟨rfl, rfl⟩ | ⟨n0, n1, n2, n3, n4, n5, n6, n7⟩
  · rw [show ofDig 129 0 = 15 from rfl]
    clear HO b0 b1 d0 d1
    go_enter Tryz.func77, Tryz.ntmps77
    go_wp2_with fail
    go_ret
    exact ⟨rfl, rfl⟩
  · rw [show ofDig 129 4 = 16 from rfl]
    clear HO b0 b1 d0 d1
    go_enter Tryz.func77, Tryz.ntmps77
    go_wp2_with fail
    go_ret
    exact ⟨rfl, rfl⟩
  · rw [show ofDig 129 5 = 17 from rfl]
    clear HO b0 b1 d0 d1
    go_enter Tryz.func77, Tryz.ntmps77
    go_wp2_with fail
    go_ret
    exact ⟨rfl, rfl⟩
  · rw [show ofDig 129 7 = 18 from rfl]
    clear HO b0 b1 d0 d1
    go_enter Tryz.func77, Tryz.ntmps77
    go_wp2_with fail
    go_ret
    exact ⟨rfl, rfl⟩
  · rw [show ofDig 193 4 = 24 from rfl]
    clear HO b0 b1 d0 d1
    go_enter Tryz.func77, Tryz.ntmps77
    go_wp2_with fail
    go_ret
    exact ⟨rfl, rfl⟩
  · rw [show ofDig 193 5 = 25 from rfl]
    clear HO b0 b1 d0 d1
    go_enter Tryz.func77, Tryz.ntmps77
    go_wp2_with fail
    go_ret
    exact ⟨rfl, rfl⟩
  · rw [show ofDig 247 2 = 23 from rfl]
    clear HO b0 b1 d0 d1
    go_enter Tryz.func77, Tryz.ntmps77
    go_wp2_with fail
    go_ret
    exact ⟨rfl, rfl⟩
  · rw [show ofDig 247 3 = 22 from rfl]
    clear HO b0 b1 d0 d1
    go_enter Tryz.func77, Tryz.ntmps77
    go_wp2_with fail
    go_ret
    exact ⟨rfl, rfl⟩
  · have e : ofDig b d = 0 := by
      unfold ofDig
      repeat (first | (split <;> try omega) | omega)
    rw [e]
    clear e
    have m0 : (bits BinOp.or IntKind.i64 (b * 16) d == 2064) = false := by rw [HO, beq_eq_false_iff_ne]; exact n0
    have m1 : (bits BinOp.or IntKind.i64 (b * 16) d == 2068) = false := by rw [HO, beq_eq_false_iff_ne]; exact n1
    have m2 : (bits BinOp.or IntKind.i64 (b * 16) d == 2069) = false := by rw [HO, beq_eq_false_iff_ne]; exact n2
    have m3 : (bits BinOp.or IntKind.i64 (b * 16) d == 2071) = false := by rw [HO, beq_eq_false_iff_ne]; exact n3
    have m4 : (bits BinOp.or IntKind.i64 (b * 16) d == 3092) = false := by rw [HO, beq_eq_false_iff_ne]; exact n4
    have m5 : (bits BinOp.or IntKind.i64 (b * 16) d == 3093) = false := by rw [HO, beq_eq_false_iff_ne]; exact n5
    have m6 : (bits BinOp.or IntKind.i64 (b * 16) d == 3954) = false := by rw [HO, beq_eq_false_iff_ne]; exact n6
    have m7 : (bits BinOp.or IntKind.i64 (b * 16) d == 3955) = false := by rw [HO, beq_eq_false_iff_ne]; exact n7
    go_enter Tryz.func77, Tryz.ntmps77
    go_wp2_with fail
    go_ret
    exact ⟨rfl, rfl⟩
set_option maxRecDepth 100000 in
set_option maxHeartbeats 2000000 in
theorem ofPl_l (b m : Int) (B : Nat → Int) (k : Nat) (r : Int) (w : World) : Calls Tryz.prog 79 #[.int .u8 b, .int .i64 m, .agg #[.int .i64 (plBase B k + rxL r), .int .i64 (wdX (plIdx B k) r), .int .i64 (plSc B k), .int .i64 (plDi B k)]] w fun e w' => e = .returned (.agg (ofPl b m B k r).vs) ∧ Mu [] w w' := by
  have HE : Hid (ofPl b m B k r = if b = 137 then ⟨4, 0, m, 0, plBase B k + rxL r, wdX (plIdx B k) r, plSc B k, plDi B k, 0⟩ else if b = 139 then ⟨3, m, 0, 0, plBase B k + rxL r, wdX (plIdx B k) r, plSc B k, plDi B k, 0⟩ else if b = 141 then ⟨5, m, 0, 0, plBase B k + rxL r, wdX (plIdx B k) r, plSc B k, plDi B k, 0⟩ else zI) := Lib.hid rfl
  have HM : Hid (Mu [] w ((w.alloc (.cells #[.int .i64 (plBase B k + rxL r), .int .i64 (wdX (plIdx B k) r), .int .i64 (plSc B k), .int .i64 (plDi B k)] 24)))) := Lib.hid ((Mu.refl _ w).alloc _)
  generalize plBase B k + rxL r = pb at *
  generalize wdX (plIdx B k) r = px at *
  generalize plSc B k = ps at *
  generalize plDi B k = pd at *
  generalize ofPl b m B k r = sv at *
  rcases (show b = 137 ∨ b = 139 ∨ b = 141 ∨ (b ≠ 137 ∧ b ≠ 139 ∧ b ≠ 141) by omega) with rfl | rfl | rfl | ⟨n1, n2, n3⟩
  · rw [if_pos rfl] at HE
    obtain rfl := HE.out
    try unfold zI
    unfold Ins.vs
    dsimp only
    go_enter Tryz.func79, Tryz.ntmps79
    go_wp2_with fail
    exact ret_inst rfl rfl rfl (Bk.new' (by simp)) rfl ⟨rfl, HM.out.alloc _⟩
  · rw [if_neg (by decide), if_pos rfl] at HE
    obtain rfl := HE.out
    try unfold zI
    unfold Ins.vs
    dsimp only
    go_enter Tryz.func79, Tryz.ntmps79
    go_wp2_with fail
    exact ret_inst rfl rfl rfl (Bk.new' (by simp)) rfl ⟨rfl, HM.out.alloc _⟩
  · rw [if_neg (by decide), if_neg (by decide), if_pos rfl] at HE
    obtain rfl := HE.out
    try unfold zI
    unfold Ins.vs
    dsimp only
    go_enter Tryz.func79, Tryz.ntmps79
    go_wp2_with fail
    exact ret_inst rfl rfl rfl (Bk.new' (by simp)) rfl ⟨rfl, HM.out.alloc _⟩
  · rw [if_neg n1, if_neg n2, if_neg n3] at HE
    have m1 : (b == 137) = false := by rw [beq_eq_false_iff_ne]; exact n1
    have m2 : (b == 139) = false := by rw [beq_eq_false_iff_ne]; exact n2
    have m3 : (b == 141) = false := by rw [beq_eq_false_iff_ne]; exact n3
    obtain rfl := HE.out
    try unfold zI
    unfold Ins.vs
    dsimp only
    go_enter Tryz.func79, Tryz.ntmps79
    go_wp2_with fail
    exact ret_inst rfl rfl rfl (Bk.new' (by simp)) rfl ⟨rfl, HM.out.alloc _⟩
theorem as_rr (v : Value) (w : World) : (Instr.typeAssert (.iface 103 v) 74 103 true).run Tryz.prog w = .ok (.tuple #[v, .bool true]) w := by kernel_rfl
theorem as_pr (v : Value) (w : World) : (Instr.typeAssert (.iface 106 v) 74 103 true).run Tryz.prog w = .ok (.tuple #[.int .i64 0, .bool false]) w := by kernel_rfl
theorem as_pp (v : Value) (w : World) : (Instr.typeAssert (.iface 106 v) 74 106 true).run Tryz.prog w = .ok (.tuple #[v, .bool true]) w := by kernel_rfl
/-- what stands last: a register or a place -/
theorem opV_cases (B : Nat → Int) (k : Nat) (r : Int) : (192 ≤ B k ∧ opV B k r = .iface 103 (.int .i64 (lstR (B k) r))) ∨ (¬ 192 ≤ B k ∧ opV B k r = .iface 106 (.agg #[.int .i64 (plBase B k + rxL r), .int .i64 (wdX (plIdx B k) r), .int .i64 (plSc B k), .int .i64 (plDi B k)])) := by
  unfold opV
  by_cases c : 192 ≤ B k
  · exact .inl ⟨c, if_pos c⟩
  · exact .inr ⟨c, if_neg c⟩
set_option maxRecDepth 100000 in
set_option maxHeartbeats 2000000 in
theorem intoM_l (B : Nat → Int) (k : Nat) (r op : Int) (w : World) : Calls Tryz.prog 45 #[.agg #[.int .u8 r, .int .i64 (midR (B k) r), opV B k r], .int .i64 op] w fun e w' => e = .returned (.agg (twoM B k r op).vs) ∧ Mu [] w w' := by
  have HE : Hid (twoM B k r op = if 192 ≤ B k then ⟨op, midR (B k) r, lstR (B k) r, 0, 0, 0, 0, 0, 0⟩ else zI) := Lib.hid rfl
  have h1 := as_rr (.int .i64 (lstR (B k) r))
  have h2 := as_pr (.agg #[.int .i64 (plBase B k + rxL r), .int .i64 (wdX (plIdx B k) r), .int .i64 (plSc B k), .int .i64 (plDi B k)])
  generalize twoM B k r op = sv at *
  rcases opV_cases B k r with ⟨c, e⟩ | ⟨c, e⟩
  · rw [if_pos c] at HE
    obtain rfl := HE.out
    rw [e]
    clear e
    unfold Ins.vs
    dsimp only
    have HM : Hid (Mu [] w ((w.alloc (.cells #[.int .u8 r, .int .i64 (midR (B k) r), .iface 103 (.int .i64 (lstR (B k) r))] 76)))) := Lib.hid ((Mu.refl _ w).alloc _)
    go_enter Tryz.func45, Tryz.ntmps45
    go_wp2_with fail
    exact ret_inst rfl rfl rfl (Bk.new' (by simp)) rfl ⟨rfl, HM.out.alloc _⟩
  · rw [if_neg c] at HE
    obtain rfl := HE.out
    rw [e]
    clear e
    unfold Ins.vs zI
    dsimp only
    have HM : Hid (Mu [] w ((w.alloc (.cells #[.int .u8 r, .int .i64 (midR (B k) r), .iface 106 (.agg #[.int .i64 (plBase B k + rxL r), .int .i64 (wdX (plIdx B k) r), .int .i64 (plSc B k), .int .i64 (plDi B k)])] 76)))) := Lib.hid ((Mu.refl _ w).alloc _)
    go_enter Tryz.func45, Tryz.ntmps45
    go_wp2_with fail
    exact ret_inst rfl rfl rfl (Bk.new' (by simp)) rfl ⟨rfl, HM.out.alloc _⟩
end Is
end Go.Proofs.YtblmagcekfbgdaaGreatDoor
