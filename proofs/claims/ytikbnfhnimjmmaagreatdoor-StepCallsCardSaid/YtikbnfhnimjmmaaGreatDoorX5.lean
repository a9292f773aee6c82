/- The document's own step (layer 8): what is not reckoned. -/
import Derived.Test.YtikbnfhnimjmmaaGreatDoorX2
namespace Go.Proofs.YtikbnfhnimjmmaaGreatDoor
open Go Go.RowKit Go.Shelf
namespace Sp
open Wd Nt Mm Is
set_option linter.unusedVariables false
set_option linter.unusedSimpArgs false
set_option maxRecDepth 100000 in
set_option maxHeartbeats 4000000 in
theorem rval_3 (s : Stt) (a b : Int) (w : World) : Calls Tryz.prog 77 #[.agg s.vs, .int .i64 3, .int .u64 a, .int .u64 b] w fun e w' => e = .returned (.tuple #[.agg s.vs, .int .u64 0, .bool false]) ∧ Below w.heap.size w w' := by
  go_enter Tryz.func77, Tryz.ntmps77
  go_upto_region 1 with fail
  have HM : Hid (R2 w s s0 _) := Lib.hid (R2.new w s)
  rw [s0_vs]
  generalize World.alloc _ _ = W1 at *
  go_wp2_with (first | (refine wpList_load_row rfl 42 (.tmp 4) rfl w.heap.size rfl 42 s.vs (0, 0) _ HM.out.s Tryz.underlying42 rfl i20 ?_) | (refine wpList_store_row rfl 42 (.tmp 8) (.tmp 13) rfl (w.heap.size + 1) s.vs rfl rfl 42 s0.vs HM.out.z i20 rfl (Stt.vs_one _) ?_) | fail)
  exact ret_do rfl rfl rfl rfl rfl (HM.out.ans _).z ⟨rfl, (HM.out.ans _).b⟩
set_option maxRecDepth 100000 in
set_option maxHeartbeats 4000000 in
theorem rval_4 (s : Stt) (a b : Int) (w : World) : Calls Tryz.prog 77 #[.agg s.vs, .int .i64 4, .int .u64 a, .int .u64 b] w fun e w' => e = .returned (.tuple #[.agg s.vs, .int .u64 0, .bool false]) ∧ Below w.heap.size w w' := by
  go_enter Tryz.func77, Tryz.ntmps77
  go_upto_region 1 with fail
  have HM : Hid (R2 w s s0 _) := Lib.hid (R2.new w s)
  rw [s0_vs]
  generalize World.alloc _ _ = W1 at *
  go_wp2_with (first | (refine wpList_load_row rfl 42 (.tmp 4) rfl w.heap.size rfl 42 s.vs (0, 0) _ HM.out.s Tryz.underlying42 rfl i20 ?_) | (refine wpList_store_row rfl 42 (.tmp 8) (.tmp 13) rfl (w.heap.size + 1) s.vs rfl rfl 42 s0.vs HM.out.z i20 rfl (Stt.vs_one _) ?_) | fail)
  exact ret_do rfl rfl rfl rfl rfl (HM.out.ans _).z ⟨rfl, (HM.out.ans _).b⟩
set_option maxRecDepth 100000 in
set_option maxHeartbeats 4000000 in
theorem rval_5 (s : Stt) (a b : Int) (w : World) : Calls Tryz.prog 77 #[.agg s.vs, .int .i64 5, .int .u64 a, .int .u64 b] w fun e w' => e = .returned (.tuple #[.agg s.vs, .int .u64 0, .bool false]) ∧ Below w.heap.size w w' := by
  go_enter Tryz.func77, Tryz.ntmps77
  go_upto_region 1 with fail
  have HM : Hid (R2 w s s0 _) := Lib.hid (R2.new w s)
  rw [s0_vs]
  generalize World.alloc _ _ = W1 at *
  go_wp2_with (first | (refine wpList_load_row rfl 42 (.tmp 4) rfl w.heap.size rfl 42 s.vs (0, 0) _ HM.out.s Tryz.underlying42 rfl i20 ?_) | (refine wpList_store_row rfl 42 (.tmp 8) (.tmp 13) rfl (w.heap.size + 1) s.vs rfl rfl 42 s0.vs HM.out.z i20 rfl (Stt.vs_one _) ?_) | fail)
  exact ret_do rfl rfl rfl rfl rfl (HM.out.ans _).z ⟨rfl, (HM.out.ans _).b⟩
set_option maxRecDepth 100000 in
set_option maxHeartbeats 4000000 in
theorem rval_19 (s : Stt) (a b : Int) (w : World) : Calls Tryz.prog 77 #[.agg s.vs, .int .i64 19, .int .u64 a, .int .u64 b] w fun e w' => e = .returned (.tuple #[.agg s.vs, .int .u64 0, .bool false]) ∧ Below w.heap.size w w' := by
  go_enter Tryz.func77, Tryz.ntmps77
  go_upto_region 1 with fail
  have HM : Hid (R2 w s s0 _) := Lib.hid (R2.new w s)
  rw [s0_vs]
  generalize World.alloc _ _ = W1 at *
  go_wp2_with (first | (refine wpList_load_row rfl 42 (.tmp 4) rfl w.heap.size rfl 42 s.vs (0, 0) _ HM.out.s Tryz.underlying42 rfl i20 ?_) | (refine wpList_store_row rfl 42 (.tmp 8) (.tmp 13) rfl (w.heap.size + 1) s.vs rfl rfl 42 s0.vs HM.out.z i20 rfl (Stt.vs_one _) ?_) | fail)
  exact ret_do rfl rfl rfl rfl rfl (HM.out.ans _).z ⟨rfl, (HM.out.ans _).b⟩
set_option maxRecDepth 100000 in
set_option maxHeartbeats 4000000 in
theorem rval_28 (s : Stt) (a b : Int) (w : World) : Calls Tryz.prog 77 #[.agg s.vs, .int .i64 28, .int .u64 a, .int .u64 b] w fun e w' => e = .returned (.tuple #[.agg s.vs, .int .u64 0, .bool false]) ∧ Below w.heap.size w w' := by
  go_enter Tryz.func77, Tryz.ntmps77
  go_upto_region 1 with fail
  have HM : Hid (R2 w s s0 _) := Lib.hid (R2.new w s)
  rw [s0_vs]
  generalize World.alloc _ _ = W1 at *
  go_wp2_with (first | (refine wpList_load_row rfl 42 (.tmp 4) rfl w.heap.size rfl 42 s.vs (0, 0) _ HM.out.s Tryz.underlying42 rfl i20 ?_) | (refine wpList_store_row rfl 42 (.tmp 8) (.tmp 13) rfl (w.heap.size + 1) s.vs rfl rfl 42 s0.vs HM.out.z i20 rfl (Stt.vs_one _) ?_) | fail)
  exact ret_do rfl rfl rfl rfl rfl (HM.out.ans _).z ⟨rfl, (HM.out.ans _).b⟩
set_option maxRecDepth 100000 in
set_option maxHeartbeats 4000000 in
theorem rval_29 (s : Stt) (a b : Int) (w : World) : Calls Tryz.prog 77 #[.agg s.vs, .int .i64 29, .int .u64 a, .int .u64 b] w fun e w' => e = .returned (.tuple #[.agg s.vs, .int .u64 0, .bool false]) ∧ Below w.heap.size w w' := by
  go_enter Tryz.func77, Tryz.ntmps77
  go_upto_region 1 with fail
  have HM : Hid (R2 w s s0 _) := Lib.hid (R2.new w s)
  rw [s0_vs]
  generalize World.alloc _ _ = W1 at *
  go_wp2_with (first | (refine wpList_load_row rfl 42 (.tmp 4) rfl w.heap.size rfl 42 s.vs (0, 0) _ HM.out.s Tryz.underlying42 rfl i20 ?_) | (refine wpList_store_row rfl 42 (.tmp 8) (.tmp 13) rfl (w.heap.size + 1) s.vs rfl rfl 42 s0.vs HM.out.z i20 rfl (Stt.vs_one _) ?_) | fail)
  exact ret_do rfl rfl rfl rfl rfl (HM.out.ans _).z ⟨rfl, (HM.out.ans _).b⟩
set_option maxRecDepth 100000 in
set_option maxHeartbeats 4000000 in
theorem rval_30 (s : Stt) (a b : Int) (w : World) : Calls Tryz.prog 77 #[.agg s.vs, .int .i64 30, .int .u64 a, .int .u64 b] w fun e w' => e = .returned (.tuple #[.agg s.vs, .int .u64 0, .bool false]) ∧ Below w.heap.size w w' := by
  go_enter Tryz.func77, Tryz.ntmps77
  go_upto_region 1 with fail
  have HM : Hid (R2 w s s0 _) := Lib.hid (R2.new w s)
  rw [s0_vs]
  generalize World.alloc _ _ = W1 at *
  go_wp2_with (first | (refine wpList_load_row rfl 42 (.tmp 4) rfl w.heap.size rfl 42 s.vs (0, 0) _ HM.out.s Tryz.underlying42 rfl i20 ?_) | (refine wpList_store_row rfl 42 (.tmp 8) (.tmp 13) rfl (w.heap.size + 1) s.vs rfl rfl 42 s0.vs HM.out.z i20 rfl (Stt.vs_one _) ?_) | fail)
  exact ret_do rfl rfl rfl rfl rfl (HM.out.ans _).z ⟨rfl, (HM.out.ans _).b⟩
set_option maxRecDepth 100000 in
set_option maxHeartbeats 4000000 in
theorem rval_31 (s : Stt) (a b : Int) (w : World) : Calls Tryz.prog 77 #[.agg s.vs, .int .i64 31, .int .u64 a, .int .u64 b] w fun e w' => e = .returned (.tuple #[.agg s.vs, .int .u64 0, .bool false]) ∧ Below w.heap.size w w' := by
  go_enter Tryz.func77, Tryz.ntmps77
  go_upto_region 1 with fail
  have HM : Hid (R2 w s s0 _) := Lib.hid (R2.new w s)
  rw [s0_vs]
  generalize World.alloc _ _ = W1 at *
  go_wp2_with (first | (refine wpList_load_row rfl 42 (.tmp 4) rfl w.heap.size rfl 42 s.vs (0, 0) _ HM.out.s Tryz.underlying42 rfl i20 ?_) | (refine wpList_store_row rfl 42 (.tmp 8) (.tmp 13) rfl (w.heap.size + 1) s.vs rfl rfl 42 s0.vs HM.out.z i20 rfl (Stt.vs_one _) ?_) | fail)
  exact ret_do rfl rfl rfl rfl rfl (HM.out.ans _).z ⟨rfl, (HM.out.ans _).b⟩
set_option maxRecDepth 100000 in
set_option maxHeartbeats 4000000 in
theorem rval_32 (s : Stt) (a b : Int) (w : World) : Calls Tryz.prog 77 #[.agg s.vs, .int .i64 32, .int .u64 a, .int .u64 b] w fun e w' => e = .returned (.tuple #[.agg s.vs, .int .u64 0, .bool false]) ∧ Below w.heap.size w w' := by
  go_enter Tryz.func77, Tryz.ntmps77
  go_upto_region 1 with fail
  have HM : Hid (R2 w s s0 _) := Lib.hid (R2.new w s)
  rw [s0_vs]
  generalize World.alloc _ _ = W1 at *
  go_wp2_with (first | (refine wpList_load_row rfl 42 (.tmp 4) rfl w.heap.size rfl 42 s.vs (0, 0) _ HM.out.s Tryz.underlying42 rfl i20 ?_) | (refine wpList_store_row rfl 42 (.tmp 8) (.tmp 13) rfl (w.heap.size + 1) s.vs rfl rfl 42 s0.vs HM.out.z i20 rfl (Stt.vs_one _) ?_) | fail)
  exact ret_do rfl rfl rfl rfl rfl (HM.out.ans _).z ⟨rfl, (HM.out.ans _).b⟩
set_option maxRecDepth 100000 in
set_option maxHeartbeats 4000000 in
theorem rval_33 (s : Stt) (a b : Int) (w : World) : Calls Tryz.prog 77 #[.agg s.vs, .int .i64 33, .int .u64 a, .int .u64 b] w fun e w' => e = .returned (.tuple #[.agg s.vs, .int .u64 0, .bool false]) ∧ Below w.heap.size w w' := by
  go_enter Tryz.func77, Tryz.ntmps77
  go_upto_region 1 with fail
  have HM : Hid (R2 w s s0 _) := Lib.hid (R2.new w s)
  rw [s0_vs]
  generalize World.alloc _ _ = W1 at *
  go_wp2_with (first | (refine wpList_load_row rfl 42 (.tmp 4) rfl w.heap.size rfl 42 s.vs (0, 0) _ HM.out.s Tryz.underlying42 rfl i20 ?_) | (refine wpList_store_row rfl 42 (.tmp 8) (.tmp 13) rfl (w.heap.size + 1) s.vs rfl rfl 42 s0.vs HM.out.z i20 rfl (Stt.vs_one _) ?_) | fail)
  exact ret_do rfl rfl rfl rfl rfl (HM.out.ans _).z ⟨rfl, (HM.out.ans _).b⟩
end Sp
end Go.Proofs.YtikbnfhnimjmmaaGreatDoor
