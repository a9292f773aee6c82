/- The landed package limb: a loop's turn; an operation over registers alone. -/
import Derived.Test.YtbdhibgljaelbaaDoorM6
namespace Go.Proofs.YtbdhibgljaelbaaDoor
open Go Go.RowKit Go.Sort Go.Shelf
namespace Lb
open Wd Nt Gr
set_option linter.unusedVariables false
set_option linter.unusedSimpArgs false
theorem W_bv (x : BitVec 64) : W (x.toNat : Int) := by have := x.isLt; unfold W; omega
theorem W_and {a b : Int} (ha : W a) (hb : W b) : W (bits .and .u64 a b) := by
  obtain ⟨a, rfl⟩ := bv_of ha; obtain ⟨b, rfl⟩ := bv_of hb; rw [bv_and]; exact W_bv _
theorem W_or {a b : Int} (ha : W a) (hb : W b) : W (bits .or .u64 a b) := by
  obtain ⟨a, rfl⟩ := bv_of ha; obtain ⟨b, rfl⟩ := bv_of hb; rw [bv_or]; exact W_bv _
theorem W_xor {a b : Int} (ha : W a) (hb : W b) : W (bits .xor .u64 a b) := by
  obtain ⟨a, rfl⟩ := bv_of ha; obtain ⟨b, rfl⟩ := bv_of hb; rw [bv_xor]; exact W_bv _
theorem W_b1 (c : Bool) : W (b1 c) := by cases c <;> (unfold W b1; decide)
theorem W_div {a : Int} (ha : W a) (n : Nat) : W (a / 2 ^ n) := by
  obtain ⟨h0, h1⟩ := ha
  have hp : (0 : Int) < 2 ^ n := Int.pow_pos (by decide)
  exact ⟨Int.ediv_nonneg h0 (Int.le_of_lt hp), Int.le_trans (Int.ediv_le_self _ h0) h1⟩
theorem W_ite {c : Prop} [Decidable c] {x y : Int} (hx : W x) (hy : W y) : W (if c then x else y) := by by_cases h : c <;> simp only [h, if_true, if_false] <;> assumption
theorem resD_W {k im a b c : Int} (hi : W im) (ha : W a) (hb : W b) (hc : W c) : W (resD k im a b c) := by
  unfold resD
  repeat' (refine W_ite ?_ ?_)
  all_goals first | exact hi | exact ha | exact hb | exact W_mod _ | exact W_and ha hb | exact W_or ha hb | exact W_xor ha hb | exact W_div ha _ | exact W_mulH ha hb | exact W_add _ _ _ | exact W_sub _ _ _
theorem resE_W {k a b c : Int} : W (resE k a b c) := by
  unfold resE
  repeat' (refine W_ite ?_ ?_)
  all_goals first | exact W_mulL _ _ | exact W_b1 _ | exact W_zero | (unfold W; decide)
theorem hld_W {rg : Nat → Int} (h : ∀ i, W (rg i)) (r : Int) : W (hld rg r) := by
  unfold hld
  split
  · exact W_zero
  · exact h _
theorem W_put {rg : Nat → Int} (h : ∀ i, W (rg i)) (r : Int) {v : Int} (hv : W v) : ∀ i, W (Lb.put rg r v i) := fun i => by
  unfold Lb.put
  split
  · exact hv
  · exact h i
theorem put_none (rg : Nat → Int) (v : Int) : Lb.put rg (-1) v = rg := by
  funext i
  unfold Lb.put
  rw [if_neg (fun h => h.1 rfl)]
theorem opc_at {w : World} {B n : Nat} {A : Option Addr} {ops : List Op} (h : Rdr w B A n ops) {j : Nat} {x : Op} (hj : ops[j]? = some x) : ∃ b o, A = some ⟨b, o, none⟩ ∧ b < B ∧ OpC w b (o + j * 8) x := by
  obtain ⟨b, o, e, hb, hc⟩ := op_at h hj
  exact ⟨b, o, e, hb, hc⟩
theorem OpC.drew {w : World} {b o : Nat} {x : Op} (h : OpC w b o x) : OpC w.drew b o x := h
set_option maxRecDepth 100000 in
set_option maxHeartbeats 2000000 in
theorem turn_l (B R : Nat) (ops : List Op) (X : Option Addr) (n d : Nat) (ev : EnV) (xs : List (Nat × List Int)) (rg : Nat → Int) (seen : List Ev) (l : Nat) (o : Op) (hl : ops[l]? = some o) (hln : l < n) (hn : n ≤ 65536) (hd : 0 ≤ o.d ∧ o.d < 64) (t : Int) (ht : W t) (w : World) (h : RnW w B R (.slice X n d) ev xs rg seen) (hX : Rdr w B X n ops) (hB : B ≤ w.heap.size) (hs : seen.length ≤ 100000000) :
    Calls Tryd.prog 66 #[.pointer (some ⟨R, 0, none⟩), .int .i64 (l : Int), .int .u64 t] w fun e w' => e = .returned (.tuple #[]) ∧ RnW w' B R (.slice X n d) ev xs (Lb.put rg o.d t) (seen ++ [((l : Int), -1)]) ∧ Below B w w' := by
  obtain ⟨bx, ox, rfl, hbx, o0, o1, o2, o3, o4, o5, o6, o7⟩ := opc_at hX hl
  obtain ⟨j, hj⟩ : ∃ j : Nat, o.d = (j : Int) := ⟨o.d.toNat, by omega⟩
  rw [hj] at o1 hd ⊢
  have hj64 : j < 64 := by omega
  obtain ⟨r0, r1, rr, rf, hR⟩ := h.cells
  have HP := Lib.hid (h.drew.put hj64 ht)
  have HS := Lib.hid (fun (W : World) (hw : RnW W B R (.slice (some ⟨bx, ox, none⟩) n d) ev xs (Lb.put rg (j : Int) t) seen) (hb : B ≤ W.heap.size) => see_l B R _ ev xs _ seen (l : Int) (-1) W hw hb hs)
  have hBR : B ≤ R := h.hR
  have HB1 : Hid (Below B w (w.drew.setCell ⟨R, 2 + j, none⟩ (.int .u64 t))) := Lib.hid ((below_drewN (Below.refl _ _) 1).setCell (p := ⟨R, 2 + j, none⟩) hBR _)
  have d0 : w.drew.cell? ⟨R, 0, none⟩ = some (.slice (some ⟨bx, ox, none⟩) n d) := r0
  have d1 : w.drew.cell? ⟨bx, ox + l * 8 + 1, none⟩ = some (.int .i64 (j : Int)) := o1
  have d2 : w.drew.cell? ⟨R, 2 + j, none⟩ = some (.int .u64 (rg j)) := rr j hj64
  have f2 : w.drew.frozen? ⟨R, 2 + j, none⟩ = false := rf _
  have e2 : w.cell? ⟨R, 2 + j, none⟩ = some (.int .u64 (rg j)) := rr j hj64
  have e3 : w.frozen? ⟨R, 2 + j, none⟩ = false := rf _
  have hl4 : (l : Int) < (n : Int) := by omega
  have hl0 : (0 : Int) ≤ (l : Int) := by omega
  have hj4 : (j : Int) < 64 := by omega
  have hj0 : (0 : Int) ≤ (j : Int) := by omega
  clear h hX o0 o2 o3 o4 o5 o6 o7 r1 rr rf ht hd hl
  go_enter Tryd.func66, Tryd.ntmps66
  go_wp2_with fail
  refine wp_region_still_tail 13 (by kernel_rfl) (by kernel_rfl) ?_
  simp only [List.take_succ_cons, List.take_zero, List.drop_succ_cons, List.drop_zero]
  iterate 13 still_step
  refine wpStill_nil ?_
  go_wp2_with fail
  go_at_call 69
  refine (HS.out _ HP.out (Nat.le_trans hB HB1.out.size)).mono ?_
  rintro e w4 ⟨rfl, hR4, hb4⟩
  have HR4 := Lib.hid hR4
  have HB4 := Lib.hid (HB1.out.trans hb4)
  clear hR4 hb4
  go_wp2_with fail
  go_end0
  exact ⟨rfl, HR4.out, HB4.out⟩
set_option maxRecDepth 100000 in
set_option maxHeartbeats 4000000 in
theorem reckon_l (B R : Nat) (ov : Value) (ev : EnV) (xs : List (Nat × List Int)) (rg : Nat → Int) (seen : List Ev) (bx ox : Nat) (o : Op) (hr : Rgs o) (hk : 1 ≤ o.k ∧ o.k ≤ 13) (hd : 0 ≤ o.d) (him : W o.im) (hsh : o.k = 8 ∨ o.k = 9 → 1 ≤ o.im ∧ o.im ≤ 63) (hbx : bx < B) (w : World) (h : RnW w B R ov ev xs rg seen) (hO : OpC w bx ox o) (hB : B ≤ w.heap.size) :
    Calls Tryd.prog 68 #[.pointer (some ⟨R, 0, none⟩), .pointer (some ⟨bx, ox, none⟩)] w fun e w' => e = .returned (.tuple #[]) ∧ RnW w' B R ov ev xs (Lb.put (Lb.put rg o.d (resD o.k o.im (hld rg o.a) (hld rg o.b) (hld rg o.c))) o.e (resE o.k (hld rg o.a) (hld rg o.b) (hld rg o.c))) seen ∧ Below B w w' := by
  have HA := Lib.hid (fun q => held_l B R ov ev xs rg seen o.a hr.a (w.drewN q) (h.below (below_drewN (Below.refl _ _) q)))
  have HBB := Lib.hid (fun q => held_l B R ov ev xs rg seen o.b hr.b (w.drewN q) (h.below (below_drewN (Below.refl _ _) q)))
  have HC := Lib.hid (fun q => held_l B R ov ev xs rg seen o.c hr.c (w.drewN q) (h.below (below_drewN (Below.refl _ _) q)))
  have hwa := hld_W h.rgs o.a
  have hwb := hld_W h.rgs o.b
  have hwc := hld_W h.rgs o.c
  have HRS := Lib.hid (fun q => results_l bx ox o _ _ _ hwa hwb hwc hk him hsh (w.drewN q) hO)
  have HD := Lib.hid (resD_W (k := o.k) him hwa hwb hwc)
  have HE := Lib.hid (resE_W (k := o.k) (a := hld rg o.a) (b := hld rg o.b) (c := hld rg o.c))
  generalize hld rg o.a = va at *
  generalize hld rg o.b = vb at *
  generalize hld rg o.c = vc at *
  generalize resD o.k o.im va vb vc = vd at *
  generalize resE o.k va vb vc = ve at *
  obtain ⟨o0, o1, o2, o3, o4, o5, o6, o7⟩ := hO
  obtain ⟨j, hj⟩ : ∃ j : Nat, o.d = (j : Int) := ⟨o.d.toNat, by omega⟩
  rw [hj] at o1 ⊢
  have hj64 : j < 64 := by have := hr.d.2; omega
  have hj4 : (j : Int) < 64 := by omega
  have hj0 : (0 : Int) ≤ (j : Int) := by omega
  have HRE := Lib.hid hr.e
  have HH := Lib.hid h
  have HBR := Lib.hid h.hR
  generalize o.k = ok at *
  generalize o.d = od at *
  generalize o.e = oe at *
  generalize o.a = oa at *
  generalize o.b = ob at *
  generalize o.c = oc at *
  generalize o.bf = obf at *
  generalize o.im = oim at *
  clear hr hsh him hwa hwb hwc hk hd hj
  go_enter Tryd.func68, Tryd.ntmps68
  go_wp2_with fail
  go_quiet ((first | (go_at_call 91; first | (with_reducible exact Calls.quiet_of_same (HA.out _)) | (with_reducible exact Calls.quiet_of_same (HBB.out _)) | (with_reducible exact Calls.quiet_of_same (HC.out _))) | (go_at_call 92; with_reducible exact Calls.quiet_of_same (HRS.out _))))
  clear HA HBB HC HRS
  have HH1 := Lib.hid (HH.out.below (below_drewN (Below.refl _ _) nq))
  obtain ⟨W1, hW1⟩ : ∃ W1, W1 = w.drewN nq := ⟨_, rfl⟩
  rw [← hW1] at HH1
  have q1 : W1.drew.cell? ⟨bx, ox + 1, none⟩ = some (.int .i64 (j : Int)) := by rw [hW1]; exact o1
  have q2 : W1.cell? ⟨bx, ox + 2, none⟩ = some (.int .i64 oe) := by rw [hW1]; exact o2
  have HB1 : Hid (Below B w W1) := Lib.hid (by rw [hW1]; exact below_drewN (Below.refl _ _) nq)
  rw [← hW1]
  clear hW1 o0 o1 o2 o3 o4 o5 o6 o7 h HH
  obtain ⟨r0, r1, rr, rf, hR⟩ := HH1.out.cells
  have c1 : W1.drew.cell? ⟨R, 2 + j, none⟩ = some (.int .u64 (rg j)) := rr j hj64
  have c2 : W1.cell? ⟨R, 2 + j, none⟩ = some (.int .u64 (rg j)) := rr j hj64
  have f1 : W1.drew.frozen? ⟨R, 2 + j, none⟩ = false := rf _
  have f2 : W1.frozen? ⟨R, 2 + j, none⟩ = false := rf _
  have HH2 := Lib.hid (HH1.out.drew.put hj64 HD.out)
  have HB2 : Hid (Below B w (W1.drew.setCell ⟨R, 2 + j, none⟩ (.int .u64 vd))) := Lib.hid ((below_drewN HB1.out 1).setCell (p := ⟨R, 2 + j, none⟩) HBR.out _)
  have hbR : bx ≠ R := by have := HBR.out; omega
  have q2' : (W1.drew.setCell ⟨R, 2 + j, none⟩ (.int .u64 vd)).cell? ⟨bx, ox + 2, none⟩ = some (.int .i64 oe) := ((Below.refl B W1.drew).setCell (p := ⟨R, 2 + j, none⟩) HBR.out _).cell (p := ⟨bx, ox + 2, none⟩) hbx |>.trans q2
  clear r0 r1 rr rf
  go_wp2_with fail
  refine wp_region_still_tail 9 (by kernel_rfl) (by kernel_rfl) ?_
  simp only [List.take_succ_cons, List.take_zero, List.drop_succ_cons, List.drop_zero]
  iterate 9 still_step
  refine wpStill_nil ?_
  go_upto_region 2 with fail
  generalize hW2 : World.drew (World.setCell _ _ _) = W2
  have HH3 : Hid (RnW W2 B R ov ev xs (Lb.put rg (j : Int) vd) seen) := Lib.hid (by rw [← hW2]; exact HH2.out)
  have HB3 : Hid (Below B w W2) := Lib.hid (by rw [← hW2]; exact HB2.out)
  have q3 : W2.cell? ⟨bx, ox + 2, none⟩ = some (.int .i64 oe) := by rw [← hW2]; exact q2'
  clear hW2 q1 q2 q2' c1 c2 f1 f2 HH2 HB2 HH1
  by_cases he : oe = -1
  · subst he
    go_wp2_with fail
    go_end0
    exact ⟨rfl, by rw [put_none]; exact HH3.out, HB3.out⟩
  · obtain ⟨i, rfl⟩ : ∃ i : Nat, oe = (i : Int) := ⟨oe.toNat, by have := HRE.out.1; omega⟩
    have hi64 : i < 64 := by have := HRE.out.2; omega
    have hi4 : (i : Int) < 64 := by omega
    have hi0 : (0 : Int) ≤ (i : Int) := by omega
    have hne : ((i : Int) == -1) = false := by rw [beq_eq_false_iff_ne]; exact he
    have hne2 : ((i : Int) != -1) = true := by rw [bne, hne]; rfl
    obtain ⟨r0, r1, rr, rf, hR3⟩ := HH3.out.cells
    have c1 : W2.drew.cell? ⟨R, 2 + i, none⟩ = some (.int .u64 (Lb.put rg (j : Int) vd i)) := rr i hi64
    have c2 : W2.cell? ⟨R, 2 + i, none⟩ = some (.int .u64 (Lb.put rg (j : Int) vd i)) := rr i hi64
    have f1 : W2.drew.frozen? ⟨R, 2 + i, none⟩ = false := rf _
    have f2 : W2.frozen? ⟨R, 2 + i, none⟩ = false := rf _
    have q4 : W2.drew.cell? ⟨bx, ox + 2, none⟩ = some (.int .i64 (i : Int)) := q3
    have HH4 := Lib.hid (HH3.out.drew.put hi64 HE.out)
    have HB4 : Hid (Below B w (W2.drew.setCell ⟨R, 2 + i, none⟩ (.int .u64 ve))) := Lib.hid ((below_drewN HB3.out 1).setCell (p := ⟨R, 2 + i, none⟩) HBR.out _)
    clear r0 r1 rr rf he
    go_wp2_with fail
    refine wp_region_still_tail 9 (by kernel_rfl) (by kernel_rfl) ?_
    simp only [List.take_succ_cons, List.take_zero, List.drop_succ_cons, List.drop_zero]
    iterate 9 still_step
    refine wpStill_nil ?_
    go_wp2_with fail
    go_end0
    exact ⟨rfl, HH4.out, HB4.out⟩
end Lb
end Go.Proofs.YtbdhibgljaelbaaDoor
