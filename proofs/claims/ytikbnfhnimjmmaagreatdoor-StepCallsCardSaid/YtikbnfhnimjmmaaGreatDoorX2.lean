/- The document's own step (layer 8): sums, rests, bits alone. | The document's own step (layer 8): what is reckoned, operation by operation. -/
import Derived.Test.YtikbnfhnimjmmaaGreatDoorX1
namespace Go.Proofs.YtikbnfhnimjmmaaGreatDoor
open Go Go.RowKit Go.Shelf
namespace Sp
open Wd Nt Mm Is
set_option linter.unusedVariables false
set_option linter.unusedSimpArgs false
set_option maxRecDepth 100000 in
set_option maxHeartbeats 4000000 in
theorem rsum_c (s : Stt) (a b : Int) (c : Bool) (ha : W a) (hb : W b) (w : World) : Calls Tryz.prog 132 #[.agg s.vs, .int .u64 a, .int .u64 b, .bool c] w fun e w' =>
    e = .returned (.tuple #[.agg (s.setF (flA a b c)).vs, .int .u64 (add a b c)]) ∧ Below w.heap.size w w' := by
  have HW : W (add a b c) := by unfold add; exact W_mod _
  have KA := Lib.hid (fun w => radd_c a b c w ha hb)
  have KT1 := Lib.hid (fun w => rtop_c a ha w)
  have KT2 := Lib.hid (fun w => rtop_c b hb w)
  have KT3 := Lib.hid (fun w => rtop_c (add a b c) HW w)
  have HFL : flA a b c = ⟨addO a b c, ovA a b (add a b c), decide (add a b c = 0)⟩ := rfl
  have HOV : ovA a b (add a b c) = ((tp a == tp b) && (tp (add a b c) != tp a)) := by exact ovA_ref _ _ _
  rw [HFL, HOV]
  clear ha hb HW HFL HOV
  generalize add a b c = r at *
  generalize addO a b c = co at *
  generalize tp a = ta at *
  generalize tp b = tb at *
  generalize tp r = tr at *
  have HZ : ∀ z : Bool, (r == 0) = z → decide (r = 0) = z := fun z h => h
  generalize hz : decide (r = 0) = zr at *
  have hz2 : (r == 0) = zr := hz
  clear hz HZ
  go_enter Tryz.func132, Tryz.ntmps132
  go_upto_region 1 with fail
  have HM : Hid (R2 w s s0 _) := Lib.hid (R2.new w s)
  rw [s0_vs]
  generalize World.alloc _ _ = W1 at *
  go_upto_region 2 with (first | (go_at_call 135; refine (KA.out _).mono ?_; rintro e x ⟨rfl, rfl⟩) | fail)
  have f17 := HM.out.s.frozen 17
  have c17 : W1.cell? ⟨w.heap.size, 17, none⟩ = some (.bool s.cf) := HM.out.s.cell 17
  have f18 := HM.out.s.frozen 18
  have c18 : W1.cell? ⟨w.heap.size, 18, none⟩ = some (.bool s.ov) := HM.out.s.cell 18
  have f19 := HM.out.s.frozen 19
  have c19 : W1.cell? ⟨w.heap.size, 19, none⟩ = some (.bool s.zf) := HM.out.s.cell 19
  clear KA
  cases ta <;> cases tb <;> cases tr
  · go_upto_region 3 with (first | (go_at_call 224; refine (KT1.out _).mono ?_; rintro e x1 ⟨rfl, rfl⟩) | (go_at_call 224; refine (KT2.out _).mono ?_; rintro e x1 ⟨rfl, rfl⟩) | (go_at_call 224; refine (KT3.out _).mono ?_; rintro e x1 ⟨rfl, rfl⟩) | fail)
    have HM2 := Lib.hid (HM.out.fl ⟨co, false, zr⟩)
    clear f17 c17 f18 c18 f19 c19 HM KT1 KT2 KT3
    generalize World.setCell _ _ _ = W2 at *
    go_wp2_with (first | (refine wpList_load_row rfl 42 (.tmp 4) rfl w.heap.size rfl 42 (s.setF ⟨co, false, zr⟩).vs (0, 0) _ HM2.out.s Tryz.underlying42 rfl i20 ?_) | (refine wpList_store_row rfl 42 (.tmp 8) (.tmp 37) rfl (w.heap.size + 1) (s.setF ⟨co, false, zr⟩).vs rfl rfl 42 s0.vs HM2.out.z i20 rfl (s.setF ⟨co, false, zr⟩).vs_one ?_) | fail)
    exact ret_sv rfl rfl rfl rfl (HM2.out.ans _).z ⟨rfl, (HM2.out.ans _).b⟩
  · go_upto_region 3 with (first | (go_at_call 224; refine (KT1.out _).mono ?_; rintro e x1 ⟨rfl, rfl⟩) | (go_at_call 224; refine (KT2.out _).mono ?_; rintro e x1 ⟨rfl, rfl⟩) | (go_at_call 224; refine (KT3.out _).mono ?_; rintro e x1 ⟨rfl, rfl⟩) | fail)
    have HM2 := Lib.hid (HM.out.fl ⟨co, true, zr⟩)
    clear f17 c17 f18 c18 f19 c19 HM KT1 KT2 KT3
    generalize World.setCell _ _ _ = W2 at *
    go_wp2_with (first | (refine wpList_load_row rfl 42 (.tmp 4) rfl w.heap.size rfl 42 (s.setF ⟨co, true, zr⟩).vs (0, 0) _ HM2.out.s Tryz.underlying42 rfl i20 ?_) | (refine wpList_store_row rfl 42 (.tmp 8) (.tmp 37) rfl (w.heap.size + 1) (s.setF ⟨co, true, zr⟩).vs rfl rfl 42 s0.vs HM2.out.z i20 rfl (s.setF ⟨co, true, zr⟩).vs_one ?_) | fail)
    exact ret_sv rfl rfl rfl rfl (HM2.out.ans _).z ⟨rfl, (HM2.out.ans _).b⟩
  · go_upto_region 3 with (first | (go_at_call 224; refine (KT1.out _).mono ?_; rintro e x1 ⟨rfl, rfl⟩) | (go_at_call 224; refine (KT2.out _).mono ?_; rintro e x1 ⟨rfl, rfl⟩) | (go_at_call 224; refine (KT3.out _).mono ?_; rintro e x1 ⟨rfl, rfl⟩) | fail)
    have HM2 := Lib.hid (HM.out.fl ⟨co, false, zr⟩)
    clear f17 c17 f18 c18 f19 c19 HM KT1 KT2 KT3
    generalize World.setCell _ _ _ = W2 at *
    go_wp2_with (first | (refine wpList_load_row rfl 42 (.tmp 4) rfl w.heap.size rfl 42 (s.setF ⟨co, false, zr⟩).vs (0, 0) _ HM2.out.s Tryz.underlying42 rfl i20 ?_) | (refine wpList_store_row rfl 42 (.tmp 8) (.tmp 37) rfl (w.heap.size + 1) (s.setF ⟨co, false, zr⟩).vs rfl rfl 42 s0.vs HM2.out.z i20 rfl (s.setF ⟨co, false, zr⟩).vs_one ?_) | fail)
    exact ret_sv rfl rfl rfl rfl (HM2.out.ans _).z ⟨rfl, (HM2.out.ans _).b⟩
  · go_upto_region 3 with (first | (go_at_call 224; refine (KT1.out _).mono ?_; rintro e x1 ⟨rfl, rfl⟩) | (go_at_call 224; refine (KT2.out _).mono ?_; rintro e x1 ⟨rfl, rfl⟩) | (go_at_call 224; refine (KT3.out _).mono ?_; rintro e x1 ⟨rfl, rfl⟩) | fail)
    have HM2 := Lib.hid (HM.out.fl ⟨co, false, zr⟩)
    clear f17 c17 f18 c18 f19 c19 HM KT1 KT2 KT3
    generalize World.setCell _ _ _ = W2 at *
    go_wp2_with (first | (refine wpList_load_row rfl 42 (.tmp 4) rfl w.heap.size rfl 42 (s.setF ⟨co, false, zr⟩).vs (0, 0) _ HM2.out.s Tryz.underlying42 rfl i20 ?_) | (refine wpList_store_row rfl 42 (.tmp 8) (.tmp 37) rfl (w.heap.size + 1) (s.setF ⟨co, false, zr⟩).vs rfl rfl 42 s0.vs HM2.out.z i20 rfl (s.setF ⟨co, false, zr⟩).vs_one ?_) | fail)
    exact ret_sv rfl rfl rfl rfl (HM2.out.ans _).z ⟨rfl, (HM2.out.ans _).b⟩
  · go_upto_region 3 with (first | (go_at_call 224; refine (KT1.out _).mono ?_; rintro e x1 ⟨rfl, rfl⟩) | (go_at_call 224; refine (KT2.out _).mono ?_; rintro e x1 ⟨rfl, rfl⟩) | (go_at_call 224; refine (KT3.out _).mono ?_; rintro e x1 ⟨rfl, rfl⟩) | fail)
    have HM2 := Lib.hid (HM.out.fl ⟨co, false, zr⟩)
    clear f17 c17 f18 c18 f19 c19 HM KT1 KT2 KT3
    generalize World.setCell _ _ _ = W2 at *
    go_wp2_with (first | (refine wpList_load_row rfl 42 (.tmp 4) rfl w.heap.size rfl 42 (s.setF ⟨co, false, zr⟩).vs (0, 0) _ HM2.out.s Tryz.underlying42 rfl i20 ?_) | (refine wpList_store_row rfl 42 (.tmp 8) (.tmp 37) rfl (w.heap.size + 1) (s.setF ⟨co, false, zr⟩).vs rfl rfl 42 s0.vs HM2.out.z i20 rfl (s.setF ⟨co, false, zr⟩).vs_one ?_) | fail)
    exact ret_sv rfl rfl rfl rfl (HM2.out.ans _).z ⟨rfl, (HM2.out.ans _).b⟩
  · go_upto_region 3 with (first | (go_at_call 224; refine (KT1.out _).mono ?_; rintro e x1 ⟨rfl, rfl⟩) | (go_at_call 224; refine (KT2.out _).mono ?_; rintro e x1 ⟨rfl, rfl⟩) | (go_at_call 224; refine (KT3.out _).mono ?_; rintro e x1 ⟨rfl, rfl⟩) | fail)
    have HM2 := Lib.hid (HM.out.fl ⟨co, false, zr⟩)
    clear f17 c17 f18 c18 f19 c19 HM KT1 KT2 KT3
    generalize World.setCell _ _ _ = W2 at *
    go_wp2_with (first | (refine wpList_load_row rfl 42 (.tmp 4) rfl w.heap.size rfl 42 (s.setF ⟨co, false, zr⟩).vs (0, 0) _ HM2.out.s Tryz.underlying42 rfl i20 ?_) | (refine wpList_store_row rfl 42 (.tmp 8) (.tmp 37) rfl (w.heap.size + 1) (s.setF ⟨co, false, zr⟩).vs rfl rfl 42 s0.vs HM2.out.z i20 rfl (s.setF ⟨co, false, zr⟩).vs_one ?_) | fail)
    exact ret_sv rfl rfl rfl rfl (HM2.out.ans _).z ⟨rfl, (HM2.out.ans _).b⟩
  · go_upto_region 3 with (first | (go_at_call 224; refine (KT1.out _).mono ?_; rintro e x1 ⟨rfl, rfl⟩) | (go_at_call 224; refine (KT2.out _).mono ?_; rintro e x1 ⟨rfl, rfl⟩) | (go_at_call 224; refine (KT3.out _).mono ?_; rintro e x1 ⟨rfl, rfl⟩) | fail)
    have HM2 := Lib.hid (HM.out.fl ⟨co, true, zr⟩)
    clear f17 c17 f18 c18 f19 c19 HM KT1 KT2 KT3
    generalize World.setCell _ _ _ = W2 at *
    go_wp2_with (first | (refine wpList_load_row rfl 42 (.tmp 4) rfl w.heap.size rfl 42 (s.setF ⟨co, true, zr⟩).vs (0, 0) _ HM2.out.s Tryz.underlying42 rfl i20 ?_) | (refine wpList_store_row rfl 42 (.tmp 8) (.tmp 37) rfl (w.heap.size + 1) (s.setF ⟨co, true, zr⟩).vs rfl rfl 42 s0.vs HM2.out.z i20 rfl (s.setF ⟨co, true, zr⟩).vs_one ?_) | fail)
    exact ret_sv rfl rfl rfl rfl (HM2.out.ans _).z ⟨rfl, (HM2.out.ans _).b⟩
  · go_upto_region 3 with (first | (go_at_call 224; refine (KT1.out _).mono ?_; rintro e x1 ⟨rfl, rfl⟩) | (go_at_call 224; refine (KT2.out _).mono ?_; rintro e x1 ⟨rfl, rfl⟩) | (go_at_call 224; refine (KT3.out _).mono ?_; rintro e x1 ⟨rfl, rfl⟩) | fail)
    have HM2 := Lib.hid (HM.out.fl ⟨co, false, zr⟩)
    clear f17 c17 f18 c18 f19 c19 HM KT1 KT2 KT3
    generalize World.setCell _ _ _ = W2 at *
    go_wp2_with (first | (refine wpList_load_row rfl 42 (.tmp 4) rfl w.heap.size rfl 42 (s.setF ⟨co, false, zr⟩).vs (0, 0) _ HM2.out.s Tryz.underlying42 rfl i20 ?_) | (refine wpList_store_row rfl 42 (.tmp 8) (.tmp 37) rfl (w.heap.size + 1) (s.setF ⟨co, false, zr⟩).vs rfl rfl 42 s0.vs HM2.out.z i20 rfl (s.setF ⟨co, false, zr⟩).vs_one ?_) | fail)
    exact ret_sv rfl rfl rfl rfl (HM2.out.ans _).z ⟨rfl, (HM2.out.ans _).b⟩
set_option maxRecDepth 100000 in
set_option maxHeartbeats 4000000 in
theorem rrest_c (s : Stt) (a b : Int) (c : Bool) (ha : W a) (hb : W b) (w : World) : Calls Tryz.prog 133 #[.agg s.vs, .int .u64 a, .int .u64 b, .bool c] w fun e w' =>
    e = .returned (.tuple #[.agg (s.setF (flS a b c)).vs, .int .u64 (sub a b c)]) ∧ Below w.heap.size w w' := by
  have HW : W (sub a b c) := by unfold sub; exact W_mod _
  have KA := Lib.hid (fun w => rsub_c a b c w ha hb)
  have KT1 := Lib.hid (fun w => rtop_c a ha w)
  have KT2 := Lib.hid (fun w => rtop_c b hb w)
  have KT3 := Lib.hid (fun w => rtop_c (sub a b c) HW w)
  have HFL : flS a b c = ⟨subO a b c, ovS a b (sub a b c), decide (sub a b c = 0)⟩ := rfl
  have HOV : ovS a b (sub a b c) = ((tp a != tp b) && (tp (sub a b c) != tp a)) := by rfl
  rw [HFL, HOV]
  clear ha hb HW HFL HOV
  generalize sub a b c = r at *
  generalize subO a b c = co at *
  generalize tp a = ta at *
  generalize tp b = tb at *
  generalize tp r = tr at *
  have HZ : ∀ z : Bool, (r == 0) = z → decide (r = 0) = z := fun z h => h
  generalize hz : decide (r = 0) = zr at *
  have hz2 : (r == 0) = zr := hz
  clear hz HZ
  go_enter Tryz.func133, Tryz.ntmps133
  go_upto_region 1 with fail
  have HM : Hid (R2 w s s0 _) := Lib.hid (R2.new w s)
  rw [s0_vs]
  generalize World.alloc _ _ = W1 at *
  go_upto_region 2 with (first | (go_at_call 225; refine (KA.out _).mono ?_; rintro e x ⟨rfl, rfl⟩) | fail)
  have f17 := HM.out.s.frozen 17
  have c17 : W1.cell? ⟨w.heap.size, 17, none⟩ = some (.bool s.cf) := HM.out.s.cell 17
  have f18 := HM.out.s.frozen 18
  have c18 : W1.cell? ⟨w.heap.size, 18, none⟩ = some (.bool s.ov) := HM.out.s.cell 18
  have f19 := HM.out.s.frozen 19
  have c19 : W1.cell? ⟨w.heap.size, 19, none⟩ = some (.bool s.zf) := HM.out.s.cell 19
  clear KA
  cases ta <;> cases tb <;> cases tr
  · go_upto_region 3 with (first | (go_at_call 224; refine (KT1.out _).mono ?_; rintro e x1 ⟨rfl, rfl⟩) | (go_at_call 224; refine (KT2.out _).mono ?_; rintro e x1 ⟨rfl, rfl⟩) | (go_at_call 224; refine (KT3.out _).mono ?_; rintro e x1 ⟨rfl, rfl⟩) | fail)
    have HM2 := Lib.hid (HM.out.fl ⟨co, false, zr⟩)
    clear f17 c17 f18 c18 f19 c19 HM KT1 KT2 KT3
    generalize World.setCell _ _ _ = W2 at *
    go_wp2_with (first | (refine wpList_load_row rfl 42 (.tmp 4) rfl w.heap.size rfl 42 (s.setF ⟨co, false, zr⟩).vs (0, 0) _ HM2.out.s Tryz.underlying42 rfl i20 ?_) | (refine wpList_store_row rfl 42 (.tmp 8) (.tmp 37) rfl (w.heap.size + 1) (s.setF ⟨co, false, zr⟩).vs rfl rfl 42 s0.vs HM2.out.z i20 rfl (s.setF ⟨co, false, zr⟩).vs_one ?_) | fail)
    exact ret_sv rfl rfl rfl rfl (HM2.out.ans _).z ⟨rfl, (HM2.out.ans _).b⟩
  · go_upto_region 3 with (first | (go_at_call 224; refine (KT1.out _).mono ?_; rintro e x1 ⟨rfl, rfl⟩) | (go_at_call 224; refine (KT2.out _).mono ?_; rintro e x1 ⟨rfl, rfl⟩) | (go_at_call 224; refine (KT3.out _).mono ?_; rintro e x1 ⟨rfl, rfl⟩) | fail)
    have HM2 := Lib.hid (HM.out.fl ⟨co, false, zr⟩)
    clear f17 c17 f18 c18 f19 c19 HM KT1 KT2 KT3
    generalize World.setCell _ _ _ = W2 at *
    go_wp2_with (first | (refine wpList_load_row rfl 42 (.tmp 4) rfl w.heap.size rfl 42 (s.setF ⟨co, false, zr⟩).vs (0, 0) _ HM2.out.s Tryz.underlying42 rfl i20 ?_) | (refine wpList_store_row rfl 42 (.tmp 8) (.tmp 37) rfl (w.heap.size + 1) (s.setF ⟨co, false, zr⟩).vs rfl rfl 42 s0.vs HM2.out.z i20 rfl (s.setF ⟨co, false, zr⟩).vs_one ?_) | fail)
    exact ret_sv rfl rfl rfl rfl (HM2.out.ans _).z ⟨rfl, (HM2.out.ans _).b⟩
  · go_upto_region 3 with (first | (go_at_call 224; refine (KT1.out _).mono ?_; rintro e x1 ⟨rfl, rfl⟩) | (go_at_call 224; refine (KT2.out _).mono ?_; rintro e x1 ⟨rfl, rfl⟩) | (go_at_call 224; refine (KT3.out _).mono ?_; rintro e x1 ⟨rfl, rfl⟩) | fail)
    have HM2 := Lib.hid (HM.out.fl ⟨co, false, zr⟩)
    clear f17 c17 f18 c18 f19 c19 HM KT1 KT2 KT3
    generalize World.setCell _ _ _ = W2 at *
    go_wp2_with (first | (refine wpList_load_row rfl 42 (.tmp 4) rfl w.heap.size rfl 42 (s.setF ⟨co, false, zr⟩).vs (0, 0) _ HM2.out.s Tryz.underlying42 rfl i20 ?_) | (refine wpList_store_row rfl 42 (.tmp 8) (.tmp 37) rfl (w.heap.size + 1) (s.setF ⟨co, false, zr⟩).vs rfl rfl 42 s0.vs HM2.out.z i20 rfl (s.setF ⟨co, false, zr⟩).vs_one ?_) | fail)
    exact ret_sv rfl rfl rfl rfl (HM2.out.ans _).z ⟨rfl, (HM2.out.ans _).b⟩
  · go_upto_region 3 with (first | (go_at_call 224; refine (KT1.out _).mono ?_; rintro e x1 ⟨rfl, rfl⟩) | (go_at_call 224; refine (KT2.out _).mono ?_; rintro e x1 ⟨rfl, rfl⟩) | (go_at_call 224; refine (KT3.out _).mono ?_; rintro e x1 ⟨rfl, rfl⟩) | fail)
    have HM2 := Lib.hid (HM.out.fl ⟨co, true, zr⟩)
    clear f17 c17 f18 c18 f19 c19 HM KT1 KT2 KT3
    generalize World.setCell _ _ _ = W2 at *
    go_wp2_with (first | (refine wpList_load_row rfl 42 (.tmp 4) rfl w.heap.size rfl 42 (s.setF ⟨co, true, zr⟩).vs (0, 0) _ HM2.out.s Tryz.underlying42 rfl i20 ?_) | (refine wpList_store_row rfl 42 (.tmp 8) (.tmp 37) rfl (w.heap.size + 1) (s.setF ⟨co, true, zr⟩).vs rfl rfl 42 s0.vs HM2.out.z i20 rfl (s.setF ⟨co, true, zr⟩).vs_one ?_) | fail)
    exact ret_sv rfl rfl rfl rfl (HM2.out.ans _).z ⟨rfl, (HM2.out.ans _).b⟩
  · go_upto_region 3 with (first | (go_at_call 224; refine (KT1.out _).mono ?_; rintro e x1 ⟨rfl, rfl⟩) | (go_at_call 224; refine (KT2.out _).mono ?_; rintro e x1 ⟨rfl, rfl⟩) | (go_at_call 224; refine (KT3.out _).mono ?_; rintro e x1 ⟨rfl, rfl⟩) | fail)
    have HM2 := Lib.hid (HM.out.fl ⟨co, true, zr⟩)
    clear f17 c17 f18 c18 f19 c19 HM KT1 KT2 KT3
    generalize World.setCell _ _ _ = W2 at *
    go_wp2_with (first | (refine wpList_load_row rfl 42 (.tmp 4) rfl w.heap.size rfl 42 (s.setF ⟨co, true, zr⟩).vs (0, 0) _ HM2.out.s Tryz.underlying42 rfl i20 ?_) | (refine wpList_store_row rfl 42 (.tmp 8) (.tmp 37) rfl (w.heap.size + 1) (s.setF ⟨co, true, zr⟩).vs rfl rfl 42 s0.vs HM2.out.z i20 rfl (s.setF ⟨co, true, zr⟩).vs_one ?_) | fail)
    exact ret_sv rfl rfl rfl rfl (HM2.out.ans _).z ⟨rfl, (HM2.out.ans _).b⟩
  · go_upto_region 3 with (first | (go_at_call 224; refine (KT1.out _).mono ?_; rintro e x1 ⟨rfl, rfl⟩) | (go_at_call 224; refine (KT2.out _).mono ?_; rintro e x1 ⟨rfl, rfl⟩) | (go_at_call 224; refine (KT3.out _).mono ?_; rintro e x1 ⟨rfl, rfl⟩) | fail)
    have HM2 := Lib.hid (HM.out.fl ⟨co, false, zr⟩)
    clear f17 c17 f18 c18 f19 c19 HM KT1 KT2 KT3
    generalize World.setCell _ _ _ = W2 at *
    go_wp2_with (first | (refine wpList_load_row rfl 42 (.tmp 4) rfl w.heap.size rfl 42 (s.setF ⟨co, false, zr⟩).vs (0, 0) _ HM2.out.s Tryz.underlying42 rfl i20 ?_) | (refine wpList_store_row rfl 42 (.tmp 8) (.tmp 37) rfl (w.heap.size + 1) (s.setF ⟨co, false, zr⟩).vs rfl rfl 42 s0.vs HM2.out.z i20 rfl (s.setF ⟨co, false, zr⟩).vs_one ?_) | fail)
    exact ret_sv rfl rfl rfl rfl (HM2.out.ans _).z ⟨rfl, (HM2.out.ans _).b⟩
  · go_upto_region 3 with (first | (go_at_call 224; refine (KT1.out _).mono ?_; rintro e x1 ⟨rfl, rfl⟩) | (go_at_call 224; refine (KT2.out _).mono ?_; rintro e x1 ⟨rfl, rfl⟩) | (go_at_call 224; refine (KT3.out _).mono ?_; rintro e x1 ⟨rfl, rfl⟩) | fail)
    have HM2 := Lib.hid (HM.out.fl ⟨co, false, zr⟩)
    clear f17 c17 f18 c18 f19 c19 HM KT1 KT2 KT3
    generalize World.setCell _ _ _ = W2 at *
    go_wp2_with (first | (refine wpList_load_row rfl 42 (.tmp 4) rfl w.heap.size rfl 42 (s.setF ⟨co, false, zr⟩).vs (0, 0) _ HM2.out.s Tryz.underlying42 rfl i20 ?_) | (refine wpList_store_row rfl 42 (.tmp 8) (.tmp 37) rfl (w.heap.size + 1) (s.setF ⟨co, false, zr⟩).vs rfl rfl 42 s0.vs HM2.out.z i20 rfl (s.setF ⟨co, false, zr⟩).vs_one ?_) | fail)
    exact ret_sv rfl rfl rfl rfl (HM2.out.ans _).z ⟨rfl, (HM2.out.ans _).b⟩
  · go_upto_region 3 with (first | (go_at_call 224; refine (KT1.out _).mono ?_; rintro e x1 ⟨rfl, rfl⟩) | (go_at_call 224; refine (KT2.out _).mono ?_; rintro e x1 ⟨rfl, rfl⟩) | (go_at_call 224; refine (KT3.out _).mono ?_; rintro e x1 ⟨rfl, rfl⟩) | fail)
    have HM2 := Lib.hid (HM.out.fl ⟨co, false, zr⟩)
    clear f17 c17 f18 c18 f19 c19 HM KT1 KT2 KT3
    generalize World.setCell _ _ _ = W2 at *
    go_wp2_with (first | (refine wpList_load_row rfl 42 (.tmp 4) rfl w.heap.size rfl 42 (s.setF ⟨co, false, zr⟩).vs (0, 0) _ HM2.out.s Tryz.underlying42 rfl i20 ?_) | (refine wpList_store_row rfl 42 (.tmp 8) (.tmp 37) rfl (w.heap.size + 1) (s.setF ⟨co, false, zr⟩).vs rfl rfl 42 s0.vs HM2.out.z i20 rfl (s.setF ⟨co, false, zr⟩).vs_one ?_) | fail)
    exact ret_sv rfl rfl rfl rfl (HM2.out.ans _).z ⟨rfl, (HM2.out.ans _).b⟩
set_option maxRecDepth 100000 in
set_option maxHeartbeats 4000000 in
theorem rplain_c (s : Stt) (r : Int) (hr : W r) (w : World) : Calls Tryz.prog 134 #[.agg s.vs, .int .u64 r] w fun e w' => e = .returned (.tuple #[.agg (s.setF (flB r)).vs, .int .u64 r]) ∧ Below w.heap.size w w' := by
  have HFL : flB r = ⟨false, false, decide (r = 0)⟩ := rfl
  rw [HFL]
  clear hr HFL
  generalize hz : decide (r = 0) = zr at *
  have hz2 : (r == 0) = zr := hz
  clear hz
  go_enter Tryz.func134, Tryz.ntmps134
  go_upto_region 1 with fail
  have HM : Hid (R2 w s s0 _) := Lib.hid (R2.new w s)
  rw [s0_vs]
  generalize World.alloc _ _ = W1 at *
  have f17 := HM.out.s.frozen 17
  have c17 : W1.cell? ⟨w.heap.size, 17, none⟩ = some (.bool s.cf) := HM.out.s.cell 17
  have f18 := HM.out.s.frozen 18
  have c18 : W1.cell? ⟨w.heap.size, 18, none⟩ = some (.bool s.ov) := HM.out.s.cell 18
  have f19 := HM.out.s.frozen 19
  have c19 : W1.cell? ⟨w.heap.size, 19, none⟩ = some (.bool s.zf) := HM.out.s.cell 19
  go_upto_region 2 with fail
  have HM2 := Lib.hid (HM.out.fl ⟨false, false, zr⟩)
  clear f17 c17 f18 c18 f19 c19 HM
  generalize World.setCell _ _ _ = W2 at *
  go_wp2_with (first | (refine wpList_load_row rfl 42 (.tmp 2) rfl w.heap.size rfl 42 (s.setF ⟨false, false, zr⟩).vs (0, 0) _ HM2.out.s Tryz.underlying42 rfl i20 ?_) | (refine wpList_store_row rfl 42 (.tmp 4) (.tmp 11) rfl (w.heap.size + 1) (s.setF ⟨false, false, zr⟩).vs rfl rfl 42 s0.vs HM2.out.z i20 rfl (s.setF ⟨false, false, zr⟩).vs_one ?_) | fail)
  exact ret_sv rfl rfl rfl rfl (HM2.out.ans _).z ⟨rfl, (HM2.out.ans _).b⟩
end Sp
end Go.Proofs.YtikbnfhnimjmmaaGreatDoor
namespace Go.Proofs.YtikbnfhnimjmmaaGreatDoor
open Go Go.RowKit Go.Shelf
namespace Sp
open Wd Nt Mm Is
set_option linter.unusedVariables false
set_option linter.unusedSimpArgs false
/-- what the document's own reckoning answers as the value -/
def rkV (op a b : Int) (f : Fl) : Int := if op = 13 ∨ op = 18 then sub a b false else if op = 14 then bits .and .u64 a b else (rkP op a b f).1
def ValP (s : Stt) (op a b : Int) (w : World) (e : Ending) (w' : World) : Prop := e = .returned (.tuple #[.agg (s.setF (rkP op a b s.fl).2).vs, .int .u64 (rkV op a b s.fl), .bool true]) ∧ Below w.heap.size w w'
end Sp
end Go.Proofs.YtikbnfhnimjmmaaGreatDoor
