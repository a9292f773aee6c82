/- The landed package step: the functions that reckon, one by one. | The landed package step: the functions that reckon with one flag, and shifts. -/
import Derived.Test.YtikbnfhnimjmmaaGreatDoorS2
namespace Go.Proofs.YtikbnfhnimjmmaaGreatDoor
open Go Go.RowKit Go.Shelf
namespace Sp
open Wd Nt Mm Is
set_option linter.unusedVariables false
set_option linter.unusedSimpArgs false
set_option maxRecDepth 100000 in
set_option maxHeartbeats 1000000 in
theorem rk1_l (a b : Int) (ha : W a) (hb : W b) (fc fo fz : Bool) (w : World) : Calls Tryz.prog 201 #[.int .u64 a, .int .u64 b, .agg #[.bool fc, .bool fo, .bool fz]] w fun e w' => e = .returned (.tuple #[.int .u64 b, .agg #[.bool fc, .bool fo, .bool fz]]) ∧ Below w.heap.size w w' := by
  go_enter Tryz.func201, Tryz.ntmps201
  go_wp2_with fail
  have HBf := Lib.hid ((Bk.new w 174 #[.bool fc, .bool fo, .bool fz]).alloc (.cells #[.bool false, .bool false, .bool false] 174))
  have HB0 := Lib.hid (Bk.new' (w := w.alloc (.cells #[.bool fc, .bool fo, .bool fz] 174)) (t := 174) (cs := #[.bool false, .bool false, .bool false]) (g := w.heap.size + 1) (by simp))
  have HW := Lib.hid (bel_al (bel_alloc (w := w) (.cells #[.bool fc, .bool fo, .bool fz] 174)) (.cells #[.bool false, .bool false, .bool false] 174))
  have hz : w.heap.size + 1 < ((w.alloc (.cells #[.bool fc, .bool fo, .bool fz] 174)).alloc (.cells #[.bool false, .bool false, .bool false] 174)).heap.size := by simp
  generalize (w.alloc (.cells #[.bool fc, .bool fo, .bool fz] 174)).alloc (.cells #[.bool false, .bool false, .bool false] 174) = W1 at *
  have l0 : W1.drew.cell? ⟨w.heap.size, 0, none⟩ = some (.bool fc) := HBf.out.cell 0
  have l1 : W1.drew.cell? ⟨w.heap.size, 1, none⟩ = some (.bool fo) := HBf.out.cell 1
  have l2 : W1.drew.cell? ⟨w.heap.size, 2, none⟩ = some (.bool fz) := HBf.out.cell 2
  refine wp_region_still_tail 3 (by kernel_rfl) (by kernel_rfl) ?_
  simp only [List.take_succ_cons, List.take_zero, List.drop_succ_cons, List.drop_zero]
  iterate 3 still_step
  refine wpStill_nil ?_
  obtain ⟨p0, p1, p2, f0, f1, f2⟩ := b3 HB0.out
  go_wp2_with fail
  exact ret_vf rfl rfl rfl rfl (((HB0.out.set_ 0 _).set_ 1 _).set_ 2 _).drew rfl ⟨rfl, (((HW.out.setCell (by show w.heap.size ≤ w.heap.size + 1; omega) _).setCell (by show w.heap.size ≤ w.heap.size + 1; omega) _).setCell (by show w.heap.size ≤ w.heap.size + 1; omega) _).drew⟩
set_option maxRecDepth 100000 in
set_option maxHeartbeats 1000000 in
theorem rk2_l (a b : Int) (ha : W a) (hb : W b) (fc fo fz : Bool) (w : World) : Calls Tryz.prog 202 #[.int .u64 a, .int .u64 b, .agg #[.bool fc, .bool fo, .bool fz]] w fun e w' => e = .returned (.tuple #[.int .u64 (if fc then b else a), .agg #[.bool fc, .bool fo, .bool fz]]) ∧ Below w.heap.size w w' := by
  have K0 := Lib.hid (fun W => choose_l fc b a W)
  generalize (if fc then b else a) = r at *
  go_enter Tryz.func202, Tryz.ntmps202
  go_wp2_with fail
  have HBf := Lib.hid ((Bk.new w 174 #[.bool fc, .bool fo, .bool fz]).alloc (.cells #[.bool false, .bool false, .bool false] 174))
  have HB0 := Lib.hid (Bk.new' (w := w.alloc (.cells #[.bool fc, .bool fo, .bool fz] 174)) (t := 174) (cs := #[.bool false, .bool false, .bool false]) (g := w.heap.size + 1) (by simp))
  have HW := Lib.hid (bel_al (bel_alloc (w := w) (.cells #[.bool fc, .bool fo, .bool fz] 174)) (.cells #[.bool false, .bool false, .bool false] 174))
  have hz : w.heap.size + 1 < ((w.alloc (.cells #[.bool fc, .bool fo, .bool fz] 174)).alloc (.cells #[.bool false, .bool false, .bool false] 174)).heap.size := by simp
  generalize (w.alloc (.cells #[.bool fc, .bool fo, .bool fz] 174)).alloc (.cells #[.bool false, .bool false, .bool false] 174) = W1 at *
  have l0 : W1.drew.cell? ⟨w.heap.size, 0, none⟩ = some (.bool fc) := HBf.out.cell 0
  have l1 : W1.drew.cell? ⟨w.heap.size, 1, none⟩ = some (.bool fo) := HBf.out.cell 1
  have l2 : W1.drew.cell? ⟨w.heap.size, 2, none⟩ = some (.bool fz) := HBf.out.cell 2
  have K1 := K0.out W1.drew
  refine wp_region_still_tail 7 (by kernel_rfl) (by kernel_rfl) ?_
  simp only [List.take_succ_cons, List.take_zero, List.drop_succ_cons, List.drop_zero]
  iterate 4 still_step
  still_call K1
  iterate 2 still_step
  refine wpStill_nil ?_
  clear K1
  obtain ⟨p0, p1, p2, f0, f1, f2⟩ := b3 HB0.out
  go_wp2_with fail
  exact ret_vf rfl rfl rfl rfl (((HB0.out.set_ 0 _).set_ 1 _).set_ 2 _).drew rfl ⟨rfl, (((HW.out.setCell (by show w.heap.size ≤ w.heap.size + 1; omega) _).setCell (by show w.heap.size ≤ w.heap.size + 1; omega) _).setCell (by show w.heap.size ≤ w.heap.size + 1; omega) _).drew⟩
set_option maxRecDepth 100000 in
set_option maxHeartbeats 1000000 in
theorem rk3_l (a b : Int) (ha : W a) (hb : W b) (fc fo fz : Bool) (w : World) : Calls Tryz.prog 204 #[.int .u64 a, .int .u64 b, .agg #[.bool fc, .bool fo, .bool fz]] w fun e w' => e = .returned (.tuple #[.int .u64 (if fz then a else b), .agg #[.bool fc, .bool fo, .bool fz]]) ∧ Below w.heap.size w w' := by
  have K0 := Lib.hid (fun W => choose_l fz a b W)
  generalize (if fz then a else b) = r at *
  go_enter Tryz.func204, Tryz.ntmps204
  go_wp2_with fail
  have HBf := Lib.hid ((Bk.new w 174 #[.bool fc, .bool fo, .bool fz]).alloc (.cells #[.bool false, .bool false, .bool false] 174))
  have HB0 := Lib.hid (Bk.new' (w := w.alloc (.cells #[.bool fc, .bool fo, .bool fz] 174)) (t := 174) (cs := #[.bool false, .bool false, .bool false]) (g := w.heap.size + 1) (by simp))
  have HW := Lib.hid (bel_al (bel_alloc (w := w) (.cells #[.bool fc, .bool fo, .bool fz] 174)) (.cells #[.bool false, .bool false, .bool false] 174))
  have hz : w.heap.size + 1 < ((w.alloc (.cells #[.bool fc, .bool fo, .bool fz] 174)).alloc (.cells #[.bool false, .bool false, .bool false] 174)).heap.size := by simp
  generalize (w.alloc (.cells #[.bool fc, .bool fo, .bool fz] 174)).alloc (.cells #[.bool false, .bool false, .bool false] 174) = W1 at *
  have l0 : W1.drew.cell? ⟨w.heap.size, 0, none⟩ = some (.bool fc) := HBf.out.cell 0
  have l1 : W1.drew.cell? ⟨w.heap.size, 1, none⟩ = some (.bool fo) := HBf.out.cell 1
  have l2 : W1.drew.cell? ⟨w.heap.size, 2, none⟩ = some (.bool fz) := HBf.out.cell 2
  have K1 := K0.out W1.drew
  refine wp_region_still_tail 7 (by kernel_rfl) (by kernel_rfl) ?_
  simp only [List.take_succ_cons, List.take_zero, List.drop_succ_cons, List.drop_zero]
  iterate 4 still_step
  still_call K1
  iterate 2 still_step
  refine wpStill_nil ?_
  clear K1
  obtain ⟨p0, p1, p2, f0, f1, f2⟩ := b3 HB0.out
  go_wp2_with fail
  exact ret_vf rfl rfl rfl rfl (((HB0.out.set_ 0 _).set_ 1 _).set_ 2 _).drew rfl ⟨rfl, (((HW.out.setCell (by show w.heap.size ≤ w.heap.size + 1; omega) _).setCell (by show w.heap.size ≤ w.heap.size + 1; omega) _).setCell (by show w.heap.size ≤ w.heap.size + 1; omega) _).drew⟩
set_option maxRecDepth 100000 in
set_option maxHeartbeats 1000000 in
theorem rk4_l (a b : Int) (ha : W a) (hb : W b) (fc fo fz : Bool) (w : World) : Calls Tryz.prog 205 #[.int .u64 a, .int .u64 b, .agg #[.bool fc, .bool fo, .bool fz]] w fun e w' => e = .returned (.tuple #[.int .u64 (add a b false), .agg #[.bool (addO a b false), .bool (ovA a b (add a b false)), .bool (decide (add a b false = 0))]]) ∧ Below w.heap.size w w' := by
  have K0 := Lib.hid (fun W => add_l a b false ha hb W)
  generalize add a b false = r at *
  generalize addO a b false = rc at *
  generalize ovA a b r = ro at *
  go_enter Tryz.func205, Tryz.ntmps205
  go_wp2_with fail
  have HBf := Lib.hid ((Bk.new w 174 #[.bool fc, .bool fo, .bool fz]).alloc (.cells #[.bool false, .bool false, .bool false] 174))
  have HB0 := Lib.hid (Bk.new' (w := w.alloc (.cells #[.bool fc, .bool fo, .bool fz] 174)) (t := 174) (cs := #[.bool false, .bool false, .bool false]) (g := w.heap.size + 1) (by simp))
  have HW := Lib.hid (bel_al (bel_alloc (w := w) (.cells #[.bool fc, .bool fo, .bool fz] 174)) (.cells #[.bool false, .bool false, .bool false] 174))
  have hz : w.heap.size + 1 < ((w.alloc (.cells #[.bool fc, .bool fo, .bool fz] 174)).alloc (.cells #[.bool false, .bool false, .bool false] 174)).heap.size := by simp
  generalize (w.alloc (.cells #[.bool fc, .bool fo, .bool fz] 174)).alloc (.cells #[.bool false, .bool false, .bool false] 174) = W1 at *
  have l0 : W1.cell? ⟨w.heap.size, 0, none⟩ = some (.bool fc) := HBf.out.cell 0
  have l1 : W1.cell? ⟨w.heap.size, 1, none⟩ = some (.bool fo) := HBf.out.cell 1
  have l2 : W1.cell? ⟨w.heap.size, 2, none⟩ = some (.bool fz) := HBf.out.cell 2
  go_at_call 206
  refine (K0.out _).mono ?_
  rintro e y2 ⟨rfl, hb2⟩
  have HB4 := Lib.hid (HB0.out.below hb2 hz)
  have HM : Hid (Below w.heap.size w y2) := Lib.hid (bel_tr HW.out hb2)
  clear hb2 hz HB0 HW HBf
  obtain ⟨p0, p1, p2, f0, f1, f2⟩ := b3 HB4.out
  go_wp2_with fail
  exact ret_vf rfl rfl rfl rfl (((HB4.out.set_ 0 _).set_ 1 _).set_ 2 _) rfl ⟨rfl, ((HM.out.setCell (by show w.heap.size ≤ w.heap.size + 1; omega) _).setCell (by show w.heap.size ≤ w.heap.size + 1; omega) _).setCell (by show w.heap.size ≤ w.heap.size + 1; omega) _⟩
set_option maxRecDepth 100000 in
set_option maxHeartbeats 1000000 in
theorem rk5_l (a b : Int) (ha : W a) (hb : W b) (fc fo fz : Bool) (w : World) : Calls Tryz.prog 207 #[.int .u64 a, .int .u64 b, .agg #[.bool fc, .bool fo, .bool fz]] w fun e w' => e = .returned (.tuple #[.int .u64 (add a b fc), .agg #[.bool (addO a b fc), .bool (ovA a b (add a b fc)), .bool (decide (add a b fc = 0))]]) ∧ Below w.heap.size w w' := by
  have K0 := Lib.hid (fun W => add_l a b fc ha hb W)
  generalize add a b fc = r at *
  generalize addO a b fc = rc at *
  generalize ovA a b r = ro at *
  go_enter Tryz.func207, Tryz.ntmps207
  go_wp2_with fail
  have HBf := Lib.hid ((Bk.new w 174 #[.bool fc, .bool fo, .bool fz]).alloc (.cells #[.bool false, .bool false, .bool false] 174))
  have HB0 := Lib.hid (Bk.new' (w := w.alloc (.cells #[.bool fc, .bool fo, .bool fz] 174)) (t := 174) (cs := #[.bool false, .bool false, .bool false]) (g := w.heap.size + 1) (by simp))
  have HW := Lib.hid (bel_al (bel_alloc (w := w) (.cells #[.bool fc, .bool fo, .bool fz] 174)) (.cells #[.bool false, .bool false, .bool false] 174))
  have hz : w.heap.size + 1 < ((w.alloc (.cells #[.bool fc, .bool fo, .bool fz] 174)).alloc (.cells #[.bool false, .bool false, .bool false] 174)).heap.size := by simp
  generalize (w.alloc (.cells #[.bool fc, .bool fo, .bool fz] 174)).alloc (.cells #[.bool false, .bool false, .bool false] 174) = W1 at *
  have l0 : W1.cell? ⟨w.heap.size, 0, none⟩ = some (.bool fc) := HBf.out.cell 0
  have l1 : W1.cell? ⟨w.heap.size, 1, none⟩ = some (.bool fo) := HBf.out.cell 1
  have l2 : W1.cell? ⟨w.heap.size, 2, none⟩ = some (.bool fz) := HBf.out.cell 2
  go_at_call 206
  refine (K0.out _).mono ?_
  rintro e y2 ⟨rfl, hb2⟩
  have HB4 := Lib.hid (HB0.out.below hb2 hz)
  have HM : Hid (Below w.heap.size w y2) := Lib.hid (bel_tr HW.out hb2)
  clear hb2 hz HB0 HW HBf
  obtain ⟨p0, p1, p2, f0, f1, f2⟩ := b3 HB4.out
  go_wp2_with fail
  exact ret_vf rfl rfl rfl rfl (((HB4.out.set_ 0 _).set_ 1 _).set_ 2 _) rfl ⟨rfl, ((HM.out.setCell (by show w.heap.size ≤ w.heap.size + 1; omega) _).setCell (by show w.heap.size ≤ w.heap.size + 1; omega) _).setCell (by show w.heap.size ≤ w.heap.size + 1; omega) _⟩
set_option maxRecDepth 100000 in
set_option maxHeartbeats 1000000 in
theorem rk8_l (a b : Int) (ha : W a) (hb : W b) (fc fo fz : Bool) (w : World) : Calls Tryz.prog 210 #[.int .u64 a, .int .u64 b, .agg #[.bool fc, .bool fo, .bool fz]] w fun e w' => e = .returned (.tuple #[.int .u64 (sub a b false), .agg #[.bool (subO a b false), .bool (ovS a b (sub a b false)), .bool (decide (sub a b false = 0))]]) ∧ Below w.heap.size w w' := by
  have K0 := Lib.hid (fun W => sub_l a b false ha hb W)
  generalize sub a b false = r at *
  generalize subO a b false = rc at *
  generalize ovS a b r = ro at *
  go_enter Tryz.func210, Tryz.ntmps210
  go_wp2_with fail
  have HBf := Lib.hid ((Bk.new w 174 #[.bool fc, .bool fo, .bool fz]).alloc (.cells #[.bool false, .bool false, .bool false] 174))
  have HB0 := Lib.hid (Bk.new' (w := w.alloc (.cells #[.bool fc, .bool fo, .bool fz] 174)) (t := 174) (cs := #[.bool false, .bool false, .bool false]) (g := w.heap.size + 1) (by simp))
  have HW := Lib.hid (bel_al (bel_alloc (w := w) (.cells #[.bool fc, .bool fo, .bool fz] 174)) (.cells #[.bool false, .bool false, .bool false] 174))
  have hz : w.heap.size + 1 < ((w.alloc (.cells #[.bool fc, .bool fo, .bool fz] 174)).alloc (.cells #[.bool false, .bool false, .bool false] 174)).heap.size := by simp
  generalize (w.alloc (.cells #[.bool fc, .bool fo, .bool fz] 174)).alloc (.cells #[.bool false, .bool false, .bool false] 174) = W1 at *
  have l0 : W1.cell? ⟨w.heap.size, 0, none⟩ = some (.bool fc) := HBf.out.cell 0
  have l1 : W1.cell? ⟨w.heap.size, 1, none⟩ = some (.bool fo) := HBf.out.cell 1
  have l2 : W1.cell? ⟨w.heap.size, 2, none⟩ = some (.bool fz) := HBf.out.cell 2
  go_at_call 211
  refine (K0.out _).mono ?_
  rintro e y2 ⟨rfl, hb2⟩
  have HB4 := Lib.hid (HB0.out.below hb2 hz)
  have HM : Hid (Below w.heap.size w y2) := Lib.hid (bel_tr HW.out hb2)
  clear hb2 hz HB0 HW HBf
  obtain ⟨p0, p1, p2, f0, f1, f2⟩ := b3 HB4.out
  go_wp2_with fail
  exact ret_vf rfl rfl rfl rfl (((HB4.out.set_ 0 _).set_ 1 _).set_ 2 _) rfl ⟨rfl, ((HM.out.setCell (by show w.heap.size ≤ w.heap.size + 1; omega) _).setCell (by show w.heap.size ≤ w.heap.size + 1; omega) _).setCell (by show w.heap.size ≤ w.heap.size + 1; omega) _⟩
set_option maxRecDepth 100000 in
set_option maxHeartbeats 1000000 in
theorem rk9_l (a b : Int) (ha : W a) (hb : W b) (fc fo fz : Bool) (w : World) : Calls Tryz.prog 212 #[.int .u64 a, .int .u64 b, .agg #[.bool fc, .bool fo, .bool fz]] w fun e w' => e = .returned (.tuple #[.int .u64 (sub a b fc), .agg #[.bool (subO a b fc), .bool (ovS a b (sub a b fc)), .bool (decide (sub a b fc = 0))]]) ∧ Below w.heap.size w w' := by
  have K0 := Lib.hid (fun W => sub_l a b fc ha hb W)
  generalize sub a b fc = r at *
  generalize subO a b fc = rc at *
  generalize ovS a b r = ro at *
  go_enter Tryz.func212, Tryz.ntmps212
  go_wp2_with fail
  have HBf := Lib.hid ((Bk.new w 174 #[.bool fc, .bool fo, .bool fz]).alloc (.cells #[.bool false, .bool false, .bool false] 174))
  have HB0 := Lib.hid (Bk.new' (w := w.alloc (.cells #[.bool fc, .bool fo, .bool fz] 174)) (t := 174) (cs := #[.bool false, .bool false, .bool false]) (g := w.heap.size + 1) (by simp))
  have HW := Lib.hid (bel_al (bel_alloc (w := w) (.cells #[.bool fc, .bool fo, .bool fz] 174)) (.cells #[.bool false, .bool false, .bool false] 174))
  have hz : w.heap.size + 1 < ((w.alloc (.cells #[.bool fc, .bool fo, .bool fz] 174)).alloc (.cells #[.bool false, .bool false, .bool false] 174)).heap.size := by simp
  generalize (w.alloc (.cells #[.bool fc, .bool fo, .bool fz] 174)).alloc (.cells #[.bool false, .bool false, .bool false] 174) = W1 at *
  have l0 : W1.cell? ⟨w.heap.size, 0, none⟩ = some (.bool fc) := HBf.out.cell 0
  have l1 : W1.cell? ⟨w.heap.size, 1, none⟩ = some (.bool fo) := HBf.out.cell 1
  have l2 : W1.cell? ⟨w.heap.size, 2, none⟩ = some (.bool fz) := HBf.out.cell 2
  go_at_call 211
  refine (K0.out _).mono ?_
  rintro e y2 ⟨rfl, hb2⟩
  have HB4 := Lib.hid (HB0.out.below hb2 hz)
  have HM : Hid (Below w.heap.size w y2) := Lib.hid (bel_tr HW.out hb2)
  clear hb2 hz HB0 HW HBf
  obtain ⟨p0, p1, p2, f0, f1, f2⟩ := b3 HB4.out
  go_wp2_with fail
  exact ret_vf rfl rfl rfl rfl (((HB4.out.set_ 0 _).set_ 1 _).set_ 2 _) rfl ⟨rfl, ((HM.out.setCell (by show w.heap.size ≤ w.heap.size + 1; omega) _).setCell (by show w.heap.size ≤ w.heap.size + 1; omega) _).setCell (by show w.heap.size ≤ w.heap.size + 1; omega) _⟩
set_option maxRecDepth 100000 in
set_option maxHeartbeats 1000000 in
theorem rk11_l (a b : Int) (ha : W a) (hb : W b) (fc fo fz : Bool) (w : World) : Calls Tryz.prog 215 #[.int .u64 a, .int .u64 b, .agg #[.bool fc, .bool fo, .bool fz]] w fun e w' => e = .returned (.tuple #[.int .u64 (sub 0 a false), .agg #[.bool (subO 0 a false), .bool (ovS 0 a (sub 0 a false)), .bool (decide (sub 0 a false = 0))]]) ∧ Below w.heap.size w w' := by
  have hW0 : W 0 := ⟨by omega, by omega⟩
  have K0 := Lib.hid (fun W => sub_l 0 a false hW0 ha W)
  generalize sub 0 a false = r at *
  generalize subO 0 a false = rc at *
  generalize ovS 0 a r = ro at *
  go_enter Tryz.func215, Tryz.ntmps215
  go_wp2_with fail
  have HBf := Lib.hid ((Bk.new w 174 #[.bool fc, .bool fo, .bool fz]).alloc (.cells #[.bool false, .bool false, .bool false] 174))
  have HB0 := Lib.hid (Bk.new' (w := w.alloc (.cells #[.bool fc, .bool fo, .bool fz] 174)) (t := 174) (cs := #[.bool false, .bool false, .bool false]) (g := w.heap.size + 1) (by simp))
  have HW := Lib.hid (bel_al (bel_alloc (w := w) (.cells #[.bool fc, .bool fo, .bool fz] 174)) (.cells #[.bool false, .bool false, .bool false] 174))
  have hz : w.heap.size + 1 < ((w.alloc (.cells #[.bool fc, .bool fo, .bool fz] 174)).alloc (.cells #[.bool false, .bool false, .bool false] 174)).heap.size := by simp
  generalize (w.alloc (.cells #[.bool fc, .bool fo, .bool fz] 174)).alloc (.cells #[.bool false, .bool false, .bool false] 174) = W1 at *
  have l0 : W1.cell? ⟨w.heap.size, 0, none⟩ = some (.bool fc) := HBf.out.cell 0
  have l1 : W1.cell? ⟨w.heap.size, 1, none⟩ = some (.bool fo) := HBf.out.cell 1
  have l2 : W1.cell? ⟨w.heap.size, 2, none⟩ = some (.bool fz) := HBf.out.cell 2
  go_at_call 211
  refine (K0.out _).mono ?_
  rintro e y2 ⟨rfl, hb2⟩
  have HB4 := Lib.hid (HB0.out.below hb2 hz)
  have HM : Hid (Below w.heap.size w y2) := Lib.hid (bel_tr HW.out hb2)
  clear hb2 hz HB0 HW HBf
  obtain ⟨p0, p1, p2, f0, f1, f2⟩ := b3 HB4.out
  go_wp2_with fail
  exact ret_vf rfl rfl rfl rfl (((HB4.out.set_ 0 _).set_ 1 _).set_ 2 _) rfl ⟨rfl, ((HM.out.setCell (by show w.heap.size ≤ w.heap.size + 1; omega) _).setCell (by show w.heap.size ≤ w.heap.size + 1; omega) _).setCell (by show w.heap.size ≤ w.heap.size + 1; omega) _⟩
set_option maxRecDepth 100000 in
set_option maxHeartbeats 1000000 in
theorem rk10_l (a b : Int) (ha : W a) (hb : W b) (fc fo fz : Bool) (w : World) : Calls Tryz.prog 213 #[.int .u64 a, .int .u64 b, .agg #[.bool fc, .bool fo, .bool fz]] w fun e w' => e = .returned (.tuple #[.int .u64 a, .agg #[.bool (subO a b false), .bool (ovS a b (sub a b false)), .bool (decide (sub a b false = 0))]]) ∧ Below w.heap.size w w' := by
  have K1 := Lib.hid (fun W => flRest_l a b W)
  have hE : IntKind.u64.wrap (a - b) = sub a b false := by rw [IntKind.wrap_u64]; unfold sub b1; simp
  have HC := Lib.hid (cS_sub ha hb false)
  have HO := Lib.hid (ov_sub a b (sub a b false))
  have hs := W_sub a b false
  generalize sub a b false = s at *
  generalize subO a b false = so at *
  have K2 := Lib.hid (fun W g k h1 h2 => flRest1_l a b s ha hb hs g k W h1 h2)
  rw [HC.out, HO.out] at K2
  have heg : ∀ args w, (callFunc 258 args).run Tryz.prog w = .ok (.enter 258 args) w := enters_of Tryz.func258 (by kernel_rfl) rfl
  generalize ovS a b s = o at *
  clear ha hb hs HC HO
  go_enter Tryz.func213, Tryz.ntmps213
  go_wp2_with fail
  have HBf := Lib.hid ((Bk.new w 174 #[.bool fc, .bool fo, .bool fz]).alloc (.cells #[.bool false, .bool false, .bool false] 174))
  have HB0 := Lib.hid (Bk.new' (w := w.alloc (.cells #[.bool fc, .bool fo, .bool fz] 174)) (t := 174) (cs := #[.bool false, .bool false, .bool false]) (g := w.heap.size + 1) (by simp))
  have HW := Lib.hid (bel_al (bel_alloc (w := w) (.cells #[.bool fc, .bool fo, .bool fz] 174)) (.cells #[.bool false, .bool false, .bool false] 174))
  have hz : w.heap.size + 1 < ((w.alloc (.cells #[.bool fc, .bool fo, .bool fz] 174)).alloc (.cells #[.bool false, .bool false, .bool false] 174)).heap.size := by simp
  generalize (w.alloc (.cells #[.bool fc, .bool fo, .bool fz] 174)).alloc (.cells #[.bool false, .bool false, .bool false] 174) = W1 at *
  go_at_call 214
  refine (K1.out _).mono ?_
  rintro e y1 ⟨rfl, rfl⟩
  clear K1
  go_wp2_with fail
  go_at_call 258
  refine (K2.out _ _ _ cnew_a cnew_c).mono ?_
  rintro e y2 ⟨rfl, hb3⟩
  have hb2 : Below W1.heap.size W1 y2 := bel_tr (bel_al (bel_alloc _) _) hb3
  clear hb3 K2
  have HB4 := Lib.hid (HB0.out.below hb2 hz)
  have HM : Hid (Below w.heap.size w y2) := Lib.hid (bel_tr HW.out hb2)
  clear hb2 hz HB0 HW HBf
  obtain ⟨p0, p1, p2, f0, f1, f2⟩ := b3 HB4.out
  go_wp2_with fail
  exact ret_vf rfl rfl rfl rfl (((HB4.out.set_ 0 _).set_ 1 _).set_ 2 _) rfl ⟨rfl, ((HM.out.setCell (by show w.heap.size ≤ w.heap.size + 1; omega) _).setCell (by show w.heap.size ≤ w.heap.size + 1; omega) _).setCell (by show w.heap.size ≤ w.heap.size + 1; omega) _⟩
set_option maxRecDepth 100000 in
set_option maxHeartbeats 1000000 in
theorem rb1_l (a b : Int) (ha : W a) (hb : W b) (fc fo fz : Bool) (w : World) : Calls Tryz.prog 259 #[.int .u64 a, .int .u64 b, .agg #[.bool fc, .bool fo, .bool fz]] w fun e w' => e = .returned (.tuple #[.int .u64 (bits .and .u64 a b), .agg #[.bool false, .bool false, .bool (decide (bits .and .u64 a b = 0))]]) ∧ Below w.heap.size w w' := by
  have hv := (and_W ha hb).1
  have K0 := Lib.hid (fun W => flB_l (bits .and .u64 a b) hv W)
  change Hid (∀ W, Calls Tryz.prog 260 #[.int .u64 (bits .and .u64 a b)] W fun e w' => e = .returned (.agg #[.bool false, .bool false, .bool (decide (bits .and .u64 a b = 0))]) ∧ Below W.heap.size W w') at K0
  clear hv
  obtain ⟨r, hr⟩ : ∃ r, bits .and .u64 a b = r := ⟨_, rfl⟩
  rw [hr] at K0 ⊢
  go_enter Tryz.func259, Tryz.ntmps259
  go_wp2_with fail
  have HBf := Lib.hid ((Bk.new w 174 #[.bool fc, .bool fo, .bool fz]).alloc (.cells #[.bool false, .bool false, .bool false] 174))
  have HB0 := Lib.hid (Bk.new' (w := w.alloc (.cells #[.bool fc, .bool fo, .bool fz] 174)) (t := 174) (cs := #[.bool false, .bool false, .bool false]) (g := w.heap.size + 1) (by simp))
  have HW := Lib.hid (bel_al (bel_alloc (w := w) (.cells #[.bool fc, .bool fo, .bool fz] 174)) (.cells #[.bool false, .bool false, .bool false] 174))
  have hz : w.heap.size + 1 < ((w.alloc (.cells #[.bool fc, .bool fo, .bool fz] 174)).alloc (.cells #[.bool false, .bool false, .bool false] 174)).heap.size := by simp
  generalize (w.alloc (.cells #[.bool fc, .bool fo, .bool fz] 174)).alloc (.cells #[.bool false, .bool false, .bool false] 174) = W1 at *
  go_at_call 260
  refine (K0.out _).mono ?_
  rintro e y2 ⟨rfl, hb2⟩
  have HB4 := Lib.hid (HB0.out.below hb2 hz)
  have HM : Hid (Below w.heap.size w y2) := Lib.hid (bel_tr HW.out hb2)
  clear hb2 hz HB0 HW HBf
  obtain ⟨p0, p1, p2, f0, f1, f2⟩ := b3 HB4.out
  go_wp2_with fail
  exact ret_vf rfl rfl rfl rfl (((HB4.out.set_ 0 _).set_ 1 _).set_ 2 _) rfl ⟨rfl, ((HM.out.setCell (by show w.heap.size ≤ w.heap.size + 1; omega) _).setCell (by show w.heap.size ≤ w.heap.size + 1; omega) _).setCell (by show w.heap.size ≤ w.heap.size + 1; omega) _⟩
set_option maxRecDepth 100000 in
set_option maxHeartbeats 1000000 in
theorem rb2_l (a b : Int) (ha : W a) (hb : W b) (fc fo fz : Bool) (w : World) : Calls Tryz.prog 261 #[.int .u64 a, .int .u64 b, .agg #[.bool fc, .bool fo, .bool fz]] w fun e w' => e = .returned (.tuple #[.int .u64 (bits .or .u64 a b), .agg #[.bool false, .bool false, .bool (decide (bits .or .u64 a b = 0))]]) ∧ Below w.heap.size w w' := by
  have hv := (or_W ha hb).1
  have K0 := Lib.hid (fun W => flB_l (bits .or .u64 a b) hv W)
  change Hid (∀ W, Calls Tryz.prog 260 #[.int .u64 (bits .or .u64 a b)] W fun e w' => e = .returned (.agg #[.bool false, .bool false, .bool (decide (bits .or .u64 a b = 0))]) ∧ Below W.heap.size W w') at K0
  clear hv
  obtain ⟨r, hr⟩ : ∃ r, bits .or .u64 a b = r := ⟨_, rfl⟩
  rw [hr] at K0 ⊢
  go_enter Tryz.func261, Tryz.ntmps261
  go_wp2_with fail
  have HBf := Lib.hid ((Bk.new w 174 #[.bool fc, .bool fo, .bool fz]).alloc (.cells #[.bool false, .bool false, .bool false] 174))
  have HB0 := Lib.hid (Bk.new' (w := w.alloc (.cells #[.bool fc, .bool fo, .bool fz] 174)) (t := 174) (cs := #[.bool false, .bool false, .bool false]) (g := w.heap.size + 1) (by simp))
  have HW := Lib.hid (bel_al (bel_alloc (w := w) (.cells #[.bool fc, .bool fo, .bool fz] 174)) (.cells #[.bool false, .bool false, .bool false] 174))
  have hz : w.heap.size + 1 < ((w.alloc (.cells #[.bool fc, .bool fo, .bool fz] 174)).alloc (.cells #[.bool false, .bool false, .bool false] 174)).heap.size := by simp
  generalize (w.alloc (.cells #[.bool fc, .bool fo, .bool fz] 174)).alloc (.cells #[.bool false, .bool false, .bool false] 174) = W1 at *
  go_at_call 260
  refine (K0.out _).mono ?_
  rintro e y2 ⟨rfl, hb2⟩
  have HB4 := Lib.hid (HB0.out.below hb2 hz)
  have HM : Hid (Below w.heap.size w y2) := Lib.hid (bel_tr HW.out hb2)
  clear hb2 hz HB0 HW HBf
  obtain ⟨p0, p1, p2, f0, f1, f2⟩ := b3 HB4.out
  go_wp2_with fail
  exact ret_vf rfl rfl rfl rfl (((HB4.out.set_ 0 _).set_ 1 _).set_ 2 _) rfl ⟨rfl, ((HM.out.setCell (by show w.heap.size ≤ w.heap.size + 1; omega) _).setCell (by show w.heap.size ≤ w.heap.size + 1; omega) _).setCell (by show w.heap.size ≤ w.heap.size + 1; omega) _⟩
set_option maxRecDepth 100000 in
set_option maxHeartbeats 1000000 in
theorem rb3_l (a b : Int) (ha : W a) (hb : W b) (fc fo fz : Bool) (w : World) : Calls Tryz.prog 262 #[.int .u64 a, .int .u64 b, .agg #[.bool fc, .bool fo, .bool fz]] w fun e w' => e = .returned (.tuple #[.int .u64 (bits .xor .u64 a b), .agg #[.bool false, .bool false, .bool (decide (bits .xor .u64 a b = 0))]]) ∧ Below w.heap.size w w' := by
  have hv := (xor_W ha hb).1
  have K0 := Lib.hid (fun W => flB_l (bits .xor .u64 a b) hv W)
  change Hid (∀ W, Calls Tryz.prog 260 #[.int .u64 (bits .xor .u64 a b)] W fun e w' => e = .returned (.agg #[.bool false, .bool false, .bool (decide (bits .xor .u64 a b = 0))]) ∧ Below W.heap.size W w') at K0
  clear hv
  obtain ⟨r, hr⟩ : ∃ r, bits .xor .u64 a b = r := ⟨_, rfl⟩
  rw [hr] at K0 ⊢
  go_enter Tryz.func262, Tryz.ntmps262
  go_wp2_with fail
  have HBf := Lib.hid ((Bk.new w 174 #[.bool fc, .bool fo, .bool fz]).alloc (.cells #[.bool false, .bool false, .bool false] 174))
  have HB0 := Lib.hid (Bk.new' (w := w.alloc (.cells #[.bool fc, .bool fo, .bool fz] 174)) (t := 174) (cs := #[.bool false, .bool false, .bool false]) (g := w.heap.size + 1) (by simp))
  have HW := Lib.hid (bel_al (bel_alloc (w := w) (.cells #[.bool fc, .bool fo, .bool fz] 174)) (.cells #[.bool false, .bool false, .bool false] 174))
  have hz : w.heap.size + 1 < ((w.alloc (.cells #[.bool fc, .bool fo, .bool fz] 174)).alloc (.cells #[.bool false, .bool false, .bool false] 174)).heap.size := by simp
  generalize (w.alloc (.cells #[.bool fc, .bool fo, .bool fz] 174)).alloc (.cells #[.bool false, .bool false, .bool false] 174) = W1 at *
  go_at_call 260
  refine (K0.out _).mono ?_
  rintro e y2 ⟨rfl, hb2⟩
  have HB4 := Lib.hid (HB0.out.below hb2 hz)
  have HM : Hid (Below w.heap.size w y2) := Lib.hid (bel_tr HW.out hb2)
  clear hb2 hz HB0 HW HBf
  obtain ⟨p0, p1, p2, f0, f1, f2⟩ := b3 HB4.out
  go_wp2_with fail
  exact ret_vf rfl rfl rfl rfl (((HB4.out.set_ 0 _).set_ 1 _).set_ 2 _) rfl ⟨rfl, ((HM.out.setCell (by show w.heap.size ≤ w.heap.size + 1; omega) _).setCell (by show w.heap.size ≤ w.heap.size + 1; omega) _).setCell (by show w.heap.size ≤ w.heap.size + 1; omega) _⟩
set_option maxRecDepth 100000 in
set_option maxHeartbeats 1000000 in
theorem rb4_l (a b : Int) (ha : W a) (hb : W b) (fc fo fz : Bool) (w : World) : Calls Tryz.prog 263 #[.int .u64 a, .int .u64 b, .agg #[.bool fc, .bool fo, .bool fz]] w fun e w' => e = .returned (.tuple #[.int .u64 (a), .agg #[.bool false, .bool false, .bool (decide (bits .and .u64 a b = 0))]]) ∧ Below w.heap.size w w' := by
  have hv := (and_W ha hb).1
  have K0 := Lib.hid (fun W => flB_l (bits .and .u64 a b) hv W)
  change Hid (∀ W, Calls Tryz.prog 260 #[.int .u64 (bits .and .u64 a b)] W fun e w' => e = .returned (.agg #[.bool false, .bool false, .bool (decide (bits .and .u64 a b = 0))]) ∧ Below W.heap.size W w') at K0
  clear hv
  obtain ⟨r, hr⟩ : ∃ r, bits .and .u64 a b = r := ⟨_, rfl⟩
  rw [hr] at K0 ⊢
  go_enter Tryz.func263, Tryz.ntmps263
  go_wp2_with fail
  have HBf := Lib.hid ((Bk.new w 174 #[.bool fc, .bool fo, .bool fz]).alloc (.cells #[.bool false, .bool false, .bool false] 174))
  have HB0 := Lib.hid (Bk.new' (w := w.alloc (.cells #[.bool fc, .bool fo, .bool fz] 174)) (t := 174) (cs := #[.bool false, .bool false, .bool false]) (g := w.heap.size + 1) (by simp))
  have HW := Lib.hid (bel_al (bel_alloc (w := w) (.cells #[.bool fc, .bool fo, .bool fz] 174)) (.cells #[.bool false, .bool false, .bool false] 174))
  have hz : w.heap.size + 1 < ((w.alloc (.cells #[.bool fc, .bool fo, .bool fz] 174)).alloc (.cells #[.bool false, .bool false, .bool false] 174)).heap.size := by simp
  generalize (w.alloc (.cells #[.bool fc, .bool fo, .bool fz] 174)).alloc (.cells #[.bool false, .bool false, .bool false] 174) = W1 at *
  go_at_call 260
  refine (K0.out _).mono ?_
  rintro e y2 ⟨rfl, hb2⟩
  have HB4 := Lib.hid (HB0.out.below hb2 hz)
  have HM : Hid (Below w.heap.size w y2) := Lib.hid (bel_tr HW.out hb2)
  clear hb2 hz HB0 HW HBf
  obtain ⟨p0, p1, p2, f0, f1, f2⟩ := b3 HB4.out
  go_wp2_with fail
  exact ret_vf rfl rfl rfl rfl (((HB4.out.set_ 0 _).set_ 1 _).set_ 2 _) rfl ⟨rfl, ((HM.out.setCell (by show w.heap.size ≤ w.heap.size + 1; omega) _).setCell (by show w.heap.size ≤ w.heap.size + 1; omega) _).setCell (by show w.heap.size ≤ w.heap.size + 1; omega) _⟩
set_option maxRecDepth 100000 in
set_option maxHeartbeats 1000000 in
theorem rb7_l (a b : Int) (ha : W a) (hb : W b) (fc fo fz : Bool) (w : World) : Calls Tryz.prog 267 #[.int .u64 a, .int .u64 b, .agg #[.bool fc, .bool fo, .bool fz]] w fun e w' => e = .returned (.tuple #[.int .u64 (notI a), .agg #[.bool fc, .bool fo, .bool fz]]) ∧ Below w.heap.size w w' := by
  go_enter Tryz.func267, Tryz.ntmps267
  go_wp2_with fail
  have HBf := Lib.hid ((Bk.new w 174 #[.bool fc, .bool fo, .bool fz]).alloc (.cells #[.bool false, .bool false, .bool false] 174))
  have HB0 := Lib.hid (Bk.new' (w := w.alloc (.cells #[.bool fc, .bool fo, .bool fz] 174)) (t := 174) (cs := #[.bool false, .bool false, .bool false]) (g := w.heap.size + 1) (by simp))
  have HW := Lib.hid (bel_al (bel_alloc (w := w) (.cells #[.bool fc, .bool fo, .bool fz] 174)) (.cells #[.bool false, .bool false, .bool false] 174))
  have hz : w.heap.size + 1 < ((w.alloc (.cells #[.bool fc, .bool fo, .bool fz] 174)).alloc (.cells #[.bool false, .bool false, .bool false] 174)).heap.size := by simp
  generalize (w.alloc (.cells #[.bool fc, .bool fo, .bool fz] 174)).alloc (.cells #[.bool false, .bool false, .bool false] 174) = W1 at *
  have l0 : W1.drew.cell? ⟨w.heap.size, 0, none⟩ = some (.bool fc) := HBf.out.cell 0
  have l1 : W1.drew.cell? ⟨w.heap.size, 1, none⟩ = some (.bool fo) := HBf.out.cell 1
  have l2 : W1.drew.cell? ⟨w.heap.size, 2, none⟩ = some (.bool fz) := HBf.out.cell 2
  refine wp_region_still_tail 4 (by kernel_rfl) (by kernel_rfl) ?_
  simp only [List.take_succ_cons, List.take_zero, List.drop_succ_cons, List.drop_zero]
  iterate 4 still_step
  refine wpStill_nil ?_
  obtain ⟨p0, p1, p2, f0, f1, f2⟩ := b3 HB0.out
  go_wp2_with fail
  exact ret_vf rfl rfl rfl rfl (((HB0.out.set_ 0 _).set_ 1 _).set_ 2 _).drew rfl ⟨rfl, (((HW.out.setCell (by show w.heap.size ≤ w.heap.size + 1; omega) _).setCell (by show w.heap.size ≤ w.heap.size + 1; omega) _).setCell (by show w.heap.size ≤ w.heap.size + 1; omega) _).drew⟩
end Sp
end Go.Proofs.YtikbnfhnimjmmaaGreatDoor
namespace Go.Proofs.YtikbnfhnimjmmaaGreatDoor
open Go Go.RowKit Go.Shelf
namespace Sp
open Wd Nt Mm Is
set_option linter.unusedVariables false
set_option linter.unusedSimpArgs false
theorem shrI_W {a : Int} (ha : W a) (n : Int) : W (shrI a n) := by
  obtain ⟨h0, h1⟩ := ha
  unfold shrI
  have hp : (0 : Int) < 2 ^ n.toNat := Int.pow_pos (by decide)
  exact ⟨Int.ediv_nonneg h0 (Int.le_of_lt hp), Int.le_trans (Int.ediv_le_self _ h0) h1⟩
theorem sh_form (a n : Int) (h0 : 0 ≤ n) (h1 : n ≤ 64) : shrI a n = a / 2 ^ min (IntKind.u64.wrap n).toNat 64 := by
  have e : IntKind.u64.wrap n = n := by rw [IntKind.wrap_u64]; omega
  rw [e, Nat.min_eq_left (by omega)]; rfl

set_option maxRecDepth 100000 in
set_option maxHeartbeats 1000000 in
theorem rk6_l (a b : Int) (ha : W a) (hb : W b) (fc fo fz : Bool) (w : World) : Calls Tryz.prog 208 #[.int .u64 a, .int .u64 b, .agg #[.bool fc, .bool fo, .bool fz]] w fun e w' => e = .returned (.tuple #[.int .u64 (add a b fc), .agg #[.bool (addO a b fc), .bool fo, .bool fz]]) ∧ Below w.heap.size w w' := by
  have K0 := Lib.hid (fun W => add_l a b fc ha hb W)
  generalize add a b fc = r at *
  generalize addO a b fc = rc at *
  generalize ovA a b r = ro at *
  go_enter Tryz.func208, Tryz.ntmps208
  go_wp2_with fail
  have HBf := Lib.hid ((Bk.new w 174 #[.bool fc, .bool fo, .bool fz]).alloc (.cells #[.bool false, .bool false, .bool false] 174))
  have HB0 := Lib.hid (Bk.new' (w := w.alloc (.cells #[.bool fc, .bool fo, .bool fz] 174)) (t := 174) (cs := #[.bool false, .bool false, .bool false]) (g := w.heap.size + 1) (by simp))
  have HW := Lib.hid (bel_al (bel_alloc (w := w) (.cells #[.bool fc, .bool fo, .bool fz] 174)) (.cells #[.bool false, .bool false, .bool false] 174))
  have hz : w.heap.size + 1 < ((w.alloc (.cells #[.bool fc, .bool fo, .bool fz] 174)).alloc (.cells #[.bool false, .bool false, .bool false] 174)).heap.size := by simp
  generalize (w.alloc (.cells #[.bool fc, .bool fo, .bool fz] 174)).alloc (.cells #[.bool false, .bool false, .bool false] 174) = W1 at *
  have l0 : W1.cell? ⟨w.heap.size, 0, none⟩ = some (.bool fc) := HBf.out.cell 0
  have l1 : W1.cell? ⟨w.heap.size, 1, none⟩ = some (.bool fo) := HBf.out.cell 1
  have l2 : W1.cell? ⟨w.heap.size, 2, none⟩ = some (.bool fz) := HBf.out.cell 2
  go_at_call 206
  refine (K0.out _).mono ?_
  rintro e y2 ⟨rfl, hb2⟩
  clear l0 l1 l2
  have hz0 : w.heap.size < W1.heap.size := by omega
  have HF5 := Lib.hid (Bk.alloc (Bk.set_ (HBf.out.below hb2 hz0) 0 (.bool rc)) (.cells #[.bool rc, .bool ro, .bool (decide (r = 0))] 174))
  have HB5 := Lib.hid (Bk.alloc (Bk.far (p := ⟨w.heap.size, 0, none⟩) (HB0.out.below hb2 hz) (by show w.heap.size + 1 ≠ w.heap.size; omega) (.bool rc)) (.cells #[.bool rc, .bool ro, .bool (decide (r = 0))] 174))
  have HM5 := Lib.hid (bel_al (Below.setCell (p := ⟨w.heap.size, 0, none⟩) (bel_tr HW.out hb2) (Nat.le_refl _) (.bool rc)) (.cells #[.bool rc, .bool ro, .bool (decide (r = 0))] 174))
  obtain ⟨l0, l1, l2, g0, g1, g2⟩ := b3 (HBf.out.below hb2 hz0)
  have hly : w.heap.size < y2.heap.size := Nat.lt_of_lt_of_le hz0 hb2.size
  clear hb2 hz HW HBf HB0 hz0
  go_wp2_with fail
  change Hid (Bk _ _ _ #[.bool rc, .bool fo, .bool fz]) at HF5
  generalize World.alloc _ _ = X at *
  clear l0 l1 l2 g0 g1 g2
  obtain ⟨l0, l1, l2, g0, g1, g2⟩ := b3 HF5.out
  have l0 : X.drew.cell? ⟨w.heap.size, 0, none⟩ = _ := l0
  have l1 : X.drew.cell? ⟨w.heap.size, 1, none⟩ = _ := l1
  have l2 : X.drew.cell? ⟨w.heap.size, 2, none⟩ = _ := l2
  refine wp_region_still_tail 3 (by kernel_rfl) (by kernel_rfl) ?_
  simp only [List.take_succ_cons, List.take_zero, List.drop_succ_cons, List.drop_zero]
  iterate 3 still_step
  refine wpStill_nil ?_
  obtain ⟨p0, p1, p2, f0, f1, f2⟩ := b3 HB5.out
  go_wp2_with fail
  exact ret_vf rfl rfl rfl rfl (((HB5.out.set_ 0 _).set_ 1 _).set_ 2 _).drew rfl ⟨rfl, (((HM5.out.setCell (by show w.heap.size ≤ w.heap.size + 1; omega) _).setCell (by show w.heap.size ≤ w.heap.size + 1; omega) _).setCell (by show w.heap.size ≤ w.heap.size + 1; omega) _).drew⟩
set_option maxRecDepth 100000 in
set_option maxHeartbeats 1000000 in
theorem rk7_l (a b : Int) (ha : W a) (hb : W b) (fc fo fz : Bool) (w : World) : Calls Tryz.prog 209 #[.int .u64 a, .int .u64 b, .agg #[.bool fc, .bool fo, .bool fz]] w fun e w' => e = .returned (.tuple #[.int .u64 (add a b fo), .agg #[.bool fc, .bool (addO a b fo), .bool fz]]) ∧ Below w.heap.size w w' := by
  have K0 := Lib.hid (fun W => add_l a b fo ha hb W)
  generalize add a b fo = r at *
  generalize addO a b fo = rc at *
  generalize ovA a b r = ro at *
  go_enter Tryz.func209, Tryz.ntmps209
  go_wp2_with fail
  have HBf := Lib.hid ((Bk.new w 174 #[.bool fc, .bool fo, .bool fz]).alloc (.cells #[.bool false, .bool false, .bool false] 174))
  have HB0 := Lib.hid (Bk.new' (w := w.alloc (.cells #[.bool fc, .bool fo, .bool fz] 174)) (t := 174) (cs := #[.bool false, .bool false, .bool false]) (g := w.heap.size + 1) (by simp))
  have HW := Lib.hid (bel_al (bel_alloc (w := w) (.cells #[.bool fc, .bool fo, .bool fz] 174)) (.cells #[.bool false, .bool false, .bool false] 174))
  have hz : w.heap.size + 1 < ((w.alloc (.cells #[.bool fc, .bool fo, .bool fz] 174)).alloc (.cells #[.bool false, .bool false, .bool false] 174)).heap.size := by simp
  generalize (w.alloc (.cells #[.bool fc, .bool fo, .bool fz] 174)).alloc (.cells #[.bool false, .bool false, .bool false] 174) = W1 at *
  have l0 : W1.cell? ⟨w.heap.size, 0, none⟩ = some (.bool fc) := HBf.out.cell 0
  have l1 : W1.cell? ⟨w.heap.size, 1, none⟩ = some (.bool fo) := HBf.out.cell 1
  have l2 : W1.cell? ⟨w.heap.size, 2, none⟩ = some (.bool fz) := HBf.out.cell 2
  go_at_call 206
  refine (K0.out _).mono ?_
  rintro e y2 ⟨rfl, hb2⟩
  clear l0 l1 l2
  have hz0 : w.heap.size < W1.heap.size := by omega
  have HF5 := Lib.hid (Bk.alloc (Bk.set_ (HBf.out.below hb2 hz0) 1 (.bool rc)) (.cells #[.bool rc, .bool ro, .bool (decide (r = 0))] 174))
  have HB5 := Lib.hid (Bk.alloc (Bk.far (p := ⟨w.heap.size, 1, none⟩) (HB0.out.below hb2 hz) (by show w.heap.size + 1 ≠ w.heap.size; omega) (.bool rc)) (.cells #[.bool rc, .bool ro, .bool (decide (r = 0))] 174))
  have HM5 := Lib.hid (bel_al (Below.setCell (p := ⟨w.heap.size, 1, none⟩) (bel_tr HW.out hb2) (Nat.le_refl _) (.bool rc)) (.cells #[.bool rc, .bool ro, .bool (decide (r = 0))] 174))
  obtain ⟨l0, l1, l2, g0, g1, g2⟩ := b3 (HBf.out.below hb2 hz0)
  have hly : w.heap.size < y2.heap.size := Nat.lt_of_lt_of_le hz0 hb2.size
  clear hb2 hz HW HBf HB0 hz0
  go_wp2_with fail
  change Hid (Bk _ _ _ #[.bool fc, .bool rc, .bool fz]) at HF5
  generalize World.alloc _ _ = X at *
  clear l0 l1 l2 g0 g1 g2
  obtain ⟨l0, l1, l2, g0, g1, g2⟩ := b3 HF5.out
  have l0 : X.drew.cell? ⟨w.heap.size, 0, none⟩ = _ := l0
  have l1 : X.drew.cell? ⟨w.heap.size, 1, none⟩ = _ := l1
  have l2 : X.drew.cell? ⟨w.heap.size, 2, none⟩ = _ := l2
  refine wp_region_still_tail 3 (by kernel_rfl) (by kernel_rfl) ?_
  simp only [List.take_succ_cons, List.take_zero, List.drop_succ_cons, List.drop_zero]
  iterate 3 still_step
  refine wpStill_nil ?_
  obtain ⟨p0, p1, p2, f0, f1, f2⟩ := b3 HB5.out
  go_wp2_with fail
  exact ret_vf rfl rfl rfl rfl (((HB5.out.set_ 0 _).set_ 1 _).set_ 2 _).drew rfl ⟨rfl, (((HM5.out.setCell (by show w.heap.size ≤ w.heap.size + 1; omega) _).setCell (by show w.heap.size ≤ w.heap.size + 1; omega) _).setCell (by show w.heap.size ≤ w.heap.size + 1; omega) _).drew⟩
set_option maxRecDepth 100000 in
set_option maxHeartbeats 1000000 in
theorem rb5_l (a b : Int) (ha : W a) (hb : W b) (h1 : 1 ≤ b) (h63 : b ≤ 63) (fc fo fz : Bool) (w : World) : Calls Tryz.prog 264 #[.int .u64 a, .int .u64 b, .agg #[.bool fc, .bool fo, .bool fz]] w fun e w' => e = .returned (.tuple #[.int .u64 (shlI a b), .agg #[.bool (decide (shrI a (64 - b) % 2 = 1)), .bool fo, .bool (decide (shlI a b = 0))]]) ∧ Below w.heap.size w w' := by
  have K0 := Lib.hid (fun W => odd_l (shrI a (64 - b)) (shrI_W ha _) W)
  rw [show shrI a (64 - b) = a / 2 ^ min (IntKind.u64.wrap (64 - b)).toNat 64 from sh_form a (64 - b) (by omega) (by omega)] at K0
  rw [show decide (shrI a (64 - b) % 2 = 1) = decide (a / 2 ^ min (IntKind.u64.wrap (64 - b)).toNat 64 % 2 = 1) by rw [sh_form a (64 - b) (by omega) (by omega)]]
  obtain ⟨c, hc⟩ : ∃ c, decide (a / 2 ^ min (IntKind.u64.wrap (64 - b)).toNat 64 % 2 = 1) = c := ⟨_, rfl⟩
  rw [hc] at K0 ⊢
  clear hc
  have hr : IntKind.u64.wrap (a * 2 ^ b.toNat) = shlI a b := by rw [IntKind.wrap_u64]; rfl
  generalize shlI a b = r at *
  have hb64 : b.toNat ≤ 64 := by omega
  go_enter Tryz.func264, Tryz.ntmps264
  go_wp2_with fail
  have HBf := Lib.hid ((Bk.new w 174 #[.bool fc, .bool fo, .bool fz]).alloc (.cells #[.bool false, .bool false, .bool false] 174))
  have HB0 := Lib.hid (Bk.new' (w := w.alloc (.cells #[.bool fc, .bool fo, .bool fz] 174)) (t := 174) (cs := #[.bool false, .bool false, .bool false]) (g := w.heap.size + 1) (by simp))
  have HW := Lib.hid (bel_al (bel_alloc (w := w) (.cells #[.bool fc, .bool fo, .bool fz] 174)) (.cells #[.bool false, .bool false, .bool false] 174))
  have hz : w.heap.size + 1 < ((w.alloc (.cells #[.bool fc, .bool fo, .bool fz] 174)).alloc (.cells #[.bool false, .bool false, .bool false] 174)).heap.size := by simp
  generalize (w.alloc (.cells #[.bool fc, .bool fo, .bool fz] 174)).alloc (.cells #[.bool false, .bool false, .bool false] 174) = W1 at *
  have l0 : W1.drew.cell? ⟨w.heap.size, 0, none⟩ = some (.bool fc) := HBf.out.cell 0
  have l1 : W1.drew.cell? ⟨w.heap.size, 1, none⟩ = some (.bool fo) := HBf.out.cell 1
  have l2 : W1.drew.cell? ⟨w.heap.size, 2, none⟩ = some (.bool fz) := HBf.out.cell 2
  have K1 := K0.out W1.drew
  refine wp_region_still_tail 16 (by kernel_rfl) (by kernel_rfl) ?_
  simp only [List.take_succ_cons, List.take_zero, List.drop_succ_cons, List.drop_zero]
  iterate 7 still_step
  still_call K1
  iterate 8 still_step
  refine wpStill_nil ?_
  clear K1
  obtain ⟨p0, p1, p2, f0, f1, f2⟩ := b3 HB0.out
  go_wp2_with fail
  exact ret_vf rfl rfl rfl rfl (((HB0.out.set_ 0 _).set_ 1 _).set_ 2 _).drew rfl ⟨rfl, (((HW.out.setCell (by show w.heap.size ≤ w.heap.size + 1; omega) _).setCell (by show w.heap.size ≤ w.heap.size + 1; omega) _).setCell (by show w.heap.size ≤ w.heap.size + 1; omega) _).drew⟩
set_option maxRecDepth 100000 in
set_option maxHeartbeats 1000000 in
theorem rb6_l (a b : Int) (ha : W a) (hb : W b) (h1 : 1 ≤ b) (h63 : b ≤ 63) (fc fo fz : Bool) (w : World) : Calls Tryz.prog 266 #[.int .u64 a, .int .u64 b, .agg #[.bool fc, .bool fo, .bool fz]] w fun e w' => e = .returned (.tuple #[.int .u64 (shrI a b), .agg #[.bool (decide (shrI a (b - 1) % 2 = 1)), .bool fo, .bool (decide (shrI a b = 0))]]) ∧ Below w.heap.size w w' := by
  have K0 := Lib.hid (fun W => odd_l (shrI a (b - 1)) (shrI_W ha _) W)
  rw [show shrI a (b - 1) = a / 2 ^ min (IntKind.u64.wrap (b - 1)).toNat 64 from sh_form a (b - 1) (by omega) (by omega)] at K0
  rw [show decide (shrI a (b - 1) % 2 = 1) = decide (a / 2 ^ min (IntKind.u64.wrap (b - 1)).toNat 64 % 2 = 1) by rw [sh_form a (b - 1) (by omega) (by omega)]]
  obtain ⟨c, hc⟩ : ∃ c, decide (a / 2 ^ min (IntKind.u64.wrap (b - 1)).toNat 64 % 2 = 1) = c := ⟨_, rfl⟩
  rw [hc] at K0 ⊢
  clear hc
  have hr : a / 2 ^ b.toNat = shrI a b := rfl
  generalize shrI a b = r at *
  have hb64 : b.toNat ≤ 64 := by omega
  go_enter Tryz.func266, Tryz.ntmps266
  go_wp2_with fail
  have HBf := Lib.hid ((Bk.new w 174 #[.bool fc, .bool fo, .bool fz]).alloc (.cells #[.bool false, .bool false, .bool false] 174))
  have HB0 := Lib.hid (Bk.new' (w := w.alloc (.cells #[.bool fc, .bool fo, .bool fz] 174)) (t := 174) (cs := #[.bool false, .bool false, .bool false]) (g := w.heap.size + 1) (by simp))
  have HW := Lib.hid (bel_al (bel_alloc (w := w) (.cells #[.bool fc, .bool fo, .bool fz] 174)) (.cells #[.bool false, .bool false, .bool false] 174))
  have hz : w.heap.size + 1 < ((w.alloc (.cells #[.bool fc, .bool fo, .bool fz] 174)).alloc (.cells #[.bool false, .bool false, .bool false] 174)).heap.size := by simp
  generalize (w.alloc (.cells #[.bool fc, .bool fo, .bool fz] 174)).alloc (.cells #[.bool false, .bool false, .bool false] 174) = W1 at *
  have l0 : W1.drew.cell? ⟨w.heap.size, 0, none⟩ = some (.bool fc) := HBf.out.cell 0
  have l1 : W1.drew.cell? ⟨w.heap.size, 1, none⟩ = some (.bool fo) := HBf.out.cell 1
  have l2 : W1.drew.cell? ⟨w.heap.size, 2, none⟩ = some (.bool fz) := HBf.out.cell 2
  have K1 := K0.out W1.drew
  refine wp_region_still_tail 16 (by kernel_rfl) (by kernel_rfl) ?_
  simp only [List.take_succ_cons, List.take_zero, List.drop_succ_cons, List.drop_zero]
  iterate 7 still_step
  still_call K1
  iterate 8 still_step
  refine wpStill_nil ?_
  clear K1
  obtain ⟨p0, p1, p2, f0, f1, f2⟩ := b3 HB0.out
  go_wp2_with fail
  exact ret_vf rfl rfl rfl rfl (((HB0.out.set_ 0 _).set_ 1 _).set_ 2 _).drew rfl ⟨rfl, (((HW.out.setCell (by show w.heap.size ≤ w.heap.size + 1; omega) _).setCell (by show w.heap.size ≤ w.heap.size + 1; omega) _).setCell (by show w.heap.size ≤ w.heap.size + 1; omega) _).drew⟩
end Sp
end Go.Proofs.YtikbnfhnimjmmaaGreatDoor
