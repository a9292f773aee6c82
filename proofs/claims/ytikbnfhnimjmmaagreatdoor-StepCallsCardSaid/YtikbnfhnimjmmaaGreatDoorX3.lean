/- The document's own step (layer 8): what is reckoned, operation by operation. -/
import Derived.Test.YtikbnfhnimjmmaaGreatDoorX2
namespace Go.Proofs.YtikbnfhnimjmmaaGreatDoor
open Go Go.RowKit Go.Shelf
namespace Sp
open Wd Nt Mm Is
set_option linter.unusedVariables false
set_option linter.unusedSimpArgs false
set_option maxRecDepth 100000 in
set_option maxHeartbeats 4000000 in
theorem rval_1 (s : Stt) (a b : Int) (ha : W a) (hb : W b) (w : World) : Calls Tryz.prog 77 #[.agg s.vs, .int .i64 1, .int .u64 a, .int .u64 b] w (ValP s 1 a b w) := by
  unfold ValP
  show Calls _ _ _ _ (fun e w' => e = .returned (.tuple #[.agg s.vs, .int .u64 b, .bool true]) ∧ Below w.heap.size w w')
  go_enter Tryz.func77, Tryz.ntmps77
  go_upto_region 1 with fail
  have HM : Hid (R2 w s s0 _) := Lib.hid (R2.new w s)
  rw [s0_vs]
  generalize World.alloc _ _ = W1 at *
  go_wp2_with (first | (refine wpList_load_row rfl 42 (.tmp 4) rfl w.heap.size rfl 42 s.vs (0, 0) _ HM.out.s Tryz.underlying42 rfl i20 ?_) | (refine wpList_store_row rfl 42 (.tmp 8) (.tmp 171) rfl (w.heap.size + 1) s.vs rfl rfl 42 s0.vs HM.out.z i20 rfl (Stt.vs_one _) ?_) | fail)
  exact ret_do rfl rfl rfl rfl rfl (HM.out.ans _).z ⟨rfl, (HM.out.ans _).b⟩
set_option maxRecDepth 100000 in
set_option maxHeartbeats 4000000 in
theorem rval_2 (s : Stt) (a b : Int) (ha : W a) (hb : W b) (w : World) : Calls Tryz.prog 77 #[.agg s.vs, .int .i64 2, .int .u64 a, .int .u64 b] w (ValP s 2 a b w) := by
  unfold ValP
  show Calls _ _ _ _ (fun e w' => e = .returned (.tuple #[.agg s.vs, .int .u64 b, .bool true]) ∧ Below w.heap.size w w')
  go_enter Tryz.func77, Tryz.ntmps77
  go_upto_region 1 with fail
  have HM : Hid (R2 w s s0 _) := Lib.hid (R2.new w s)
  rw [s0_vs]
  generalize World.alloc _ _ = W1 at *
  go_wp2_with (first | (refine wpList_load_row rfl 42 (.tmp 4) rfl w.heap.size rfl 42 s.vs (0, 0) _ HM.out.s Tryz.underlying42 rfl i20 ?_) | (refine wpList_store_row rfl 42 (.tmp 8) (.tmp 171) rfl (w.heap.size + 1) s.vs rfl rfl 42 s0.vs HM.out.z i20 rfl (Stt.vs_one _) ?_) | fail)
  exact ret_do rfl rfl rfl rfl rfl (HM.out.ans _).z ⟨rfl, (HM.out.ans _).b⟩
set_option maxRecDepth 100000 in
set_option maxHeartbeats 4000000 in
theorem rval_6 (s : Stt) (a b : Int) (ha : W a) (hb : W b) (w : World) : Calls Tryz.prog 77 #[.agg s.vs, .int .i64 6, .int .u64 a, .int .u64 b] w (ValP s 6 a b w) := by
  unfold ValP
  have KC := Lib.hid (fun w => rsum_c s a b false ha hb w)
  show Calls _ _ _ _ (fun e w' => e = .returned (.tuple #[.agg (s.setF (flA a b false)).vs, .int .u64 (add a b false), .bool true]) ∧ Below w.heap.size w w')
  obtain ⟨n, hn⟩ : ∃ n, s.setF (flA a b false) = n := ⟨_, rfl⟩
  obtain ⟨v, hv⟩ : ∃ v, (add a b false) = v := ⟨_, rfl⟩
  rw [hn, hv] at KC ⊢
  clear hn ha hb
  clear hv
  go_enter Tryz.func77, Tryz.ntmps77
  go_upto_region 1 with fail
  have HM : Hid (R2 w s s0 _) := Lib.hid (R2.new w s)
  rw [s0_vs]
  generalize World.alloc _ _ = W1 at *
  go_upto_region 49 with (first | (refine wpList_load_row rfl 42 (.tmp 4) rfl w.heap.size rfl 42 s.vs (0, 0) _ HM.out.s Tryz.underlying42 rfl i20 ?_) | (go_at_call 132; refine (KC.out _).mono ?_; rintro e x ⟨rfl, hb1⟩; have HM2 := Lib.hid (HM.out.below hb1); clear hb1) | (refine wpList_store_row rfl 42 (.tmp 4) (.tmp 22) rfl w.heap.size n.vs rfl rfl 42 s.vs HM2.out.s i20 rfl (Stt.vs_one _) ?_) | fail)
  have HM3 := Lib.hid (HM2.out.put n)
  clear HM HM2
  generalize World.setRow _ _ _ = W3 at *
  go_wp2_with (first | (refine wpList_load_row rfl 42 (.tmp 4) rfl w.heap.size rfl 42 n.vs (0, 0) _ HM3.out.s Tryz.underlying42 rfl i20 ?_) | (refine wpList_store_row rfl 42 (.tmp 8) (.tmp 171) rfl (w.heap.size + 1) n.vs rfl rfl 42 s0.vs HM3.out.z i20 rfl (Stt.vs_one _) ?_) | fail)
  exact ret_do rfl rfl rfl rfl rfl (HM3.out.ans _).z ⟨rfl, (HM3.out.ans _).b⟩
set_option maxRecDepth 100000 in
set_option maxHeartbeats 4000000 in
theorem rval_7 (s : Stt) (a b : Int) (ha : W a) (hb : W b) (w : World) : Calls Tryz.prog 77 #[.agg s.vs, .int .i64 7, .int .u64 a, .int .u64 b] w (ValP s 7 a b w) := by
  unfold ValP
  have KC := Lib.hid (fun w => rsum_c s a b s.cf ha hb w)
  show Calls _ _ _ _ (fun e w' => e = .returned (.tuple #[.agg (s.setF (flA a b s.cf)).vs, .int .u64 (add a b s.cf), .bool true]) ∧ Below w.heap.size w w')
  obtain ⟨n, hn⟩ : ∃ n, s.setF (flA a b s.cf) = n := ⟨_, rfl⟩
  obtain ⟨v, hv⟩ : ∃ v, (add a b s.cf) = v := ⟨_, rfl⟩
  rw [hn, hv] at KC ⊢
  clear hn ha hb
  clear hv
  go_enter Tryz.func77, Tryz.ntmps77
  go_upto_region 1 with fail
  have HM : Hid (R2 w s s0 _) := Lib.hid (R2.new w s)
  rw [s0_vs]
  generalize World.alloc _ _ = W1 at *
  have c17 : W1.cell? ⟨w.heap.size, 17, none⟩ = some (.bool s.cf) := HM.out.s.cell 17
  go_upto_region 49 with (first | (refine wpList_load_row rfl 42 (.tmp 4) rfl w.heap.size rfl 42 s.vs (0, 0) _ HM.out.s Tryz.underlying42 rfl i20 ?_) | (go_at_call 132; refine (KC.out _).mono ?_; rintro e x ⟨rfl, hb1⟩; have HM2 := Lib.hid (HM.out.below hb1); clear hb1) | (refine wpList_store_row rfl 42 (.tmp 4) (.tmp 33) rfl w.heap.size n.vs rfl rfl 42 s.vs HM2.out.s i20 rfl (Stt.vs_one _) ?_) | fail)
  have HM3 := Lib.hid (HM2.out.put n)
  clear HM HM2
  generalize World.setRow _ _ _ = W3 at *
  go_wp2_with (first | (refine wpList_load_row rfl 42 (.tmp 4) rfl w.heap.size rfl 42 n.vs (0, 0) _ HM3.out.s Tryz.underlying42 rfl i20 ?_) | (refine wpList_store_row rfl 42 (.tmp 8) (.tmp 171) rfl (w.heap.size + 1) n.vs rfl rfl 42 s0.vs HM3.out.z i20 rfl (Stt.vs_one _) ?_) | fail)
  exact ret_do rfl rfl rfl rfl rfl (HM3.out.ans _).z ⟨rfl, (HM3.out.ans _).b⟩
set_option maxRecDepth 100000 in
set_option maxHeartbeats 4000000 in
theorem rval_8 (s : Stt) (a b : Int) (ha : W a) (hb : W b) (w : World) : Calls Tryz.prog 77 #[.agg s.vs, .int .i64 8, .int .u64 a, .int .u64 b] w (ValP s 8 a b w) := by
  unfold ValP
  have KC := Lib.hid (fun w => rrest_c s a b false ha hb w)
  show Calls _ _ _ _ (fun e w' => e = .returned (.tuple #[.agg (s.setF (flS a b false)).vs, .int .u64 (sub a b false), .bool true]) ∧ Below w.heap.size w w')
  obtain ⟨n, hn⟩ : ∃ n, s.setF (flS a b false) = n := ⟨_, rfl⟩
  obtain ⟨v, hv⟩ : ∃ v, (sub a b false) = v := ⟨_, rfl⟩
  rw [hn, hv] at KC ⊢
  clear hn ha hb
  clear hv
  go_enter Tryz.func77, Tryz.ntmps77
  go_upto_region 1 with fail
  have HM : Hid (R2 w s s0 _) := Lib.hid (R2.new w s)
  rw [s0_vs]
  generalize World.alloc _ _ = W1 at *
  go_upto_region 49 with (first | (refine wpList_load_row rfl 42 (.tmp 4) rfl w.heap.size rfl 42 s.vs (0, 0) _ HM.out.s Tryz.underlying42 rfl i20 ?_) | (go_at_call 133; refine (KC.out _).mono ?_; rintro e x ⟨rfl, hb1⟩; have HM2 := Lib.hid (HM.out.below hb1); clear hb1) | (refine wpList_store_row rfl 42 (.tmp 4) (.tmp 45) rfl w.heap.size n.vs rfl rfl 42 s.vs HM2.out.s i20 rfl (Stt.vs_one _) ?_) | fail)
  have HM3 := Lib.hid (HM2.out.put n)
  clear HM HM2
  generalize World.setRow _ _ _ = W3 at *
  go_wp2_with (first | (refine wpList_load_row rfl 42 (.tmp 4) rfl w.heap.size rfl 42 n.vs (0, 0) _ HM3.out.s Tryz.underlying42 rfl i20 ?_) | (refine wpList_store_row rfl 42 (.tmp 8) (.tmp 171) rfl (w.heap.size + 1) n.vs rfl rfl 42 s0.vs HM3.out.z i20 rfl (Stt.vs_one _) ?_) | fail)
  exact ret_do rfl rfl rfl rfl rfl (HM3.out.ans _).z ⟨rfl, (HM3.out.ans _).b⟩
set_option maxRecDepth 100000 in
set_option maxHeartbeats 4000000 in
theorem rval_9 (s : Stt) (a b : Int) (ha : W a) (hb : W b) (w : World) : Calls Tryz.prog 77 #[.agg s.vs, .int .i64 9, .int .u64 a, .int .u64 b] w (ValP s 9 a b w) := by
  unfold ValP
  have KC := Lib.hid (fun w => rrest_c s a b s.cf ha hb w)
  show Calls _ _ _ _ (fun e w' => e = .returned (.tuple #[.agg (s.setF (flS a b s.cf)).vs, .int .u64 (sub a b s.cf), .bool true]) ∧ Below w.heap.size w w')
  obtain ⟨n, hn⟩ : ∃ n, s.setF (flS a b s.cf) = n := ⟨_, rfl⟩
  obtain ⟨v, hv⟩ : ∃ v, (sub a b s.cf) = v := ⟨_, rfl⟩
  rw [hn, hv] at KC ⊢
  clear hn ha hb
  clear hv
  go_enter Tryz.func77, Tryz.ntmps77
  go_upto_region 1 with fail
  have HM : Hid (R2 w s s0 _) := Lib.hid (R2.new w s)
  rw [s0_vs]
  generalize World.alloc _ _ = W1 at *
  have c17 : W1.cell? ⟨w.heap.size, 17, none⟩ = some (.bool s.cf) := HM.out.s.cell 17
  go_upto_region 49 with (first | (refine wpList_load_row rfl 42 (.tmp 4) rfl w.heap.size rfl 42 s.vs (0, 0) _ HM.out.s Tryz.underlying42 rfl i20 ?_) | (go_at_call 133; refine (KC.out _).mono ?_; rintro e x ⟨rfl, hb1⟩; have HM2 := Lib.hid (HM.out.below hb1); clear hb1) | (refine wpList_store_row rfl 42 (.tmp 4) (.tmp 56) rfl w.heap.size n.vs rfl rfl 42 s.vs HM2.out.s i20 rfl (Stt.vs_one _) ?_) | fail)
  have HM3 := Lib.hid (HM2.out.put n)
  clear HM HM2
  generalize World.setRow _ _ _ = W3 at *
  go_wp2_with (first | (refine wpList_load_row rfl 42 (.tmp 4) rfl w.heap.size rfl 42 n.vs (0, 0) _ HM3.out.s Tryz.underlying42 rfl i20 ?_) | (refine wpList_store_row rfl 42 (.tmp 8) (.tmp 171) rfl (w.heap.size + 1) n.vs rfl rfl 42 s0.vs HM3.out.z i20 rfl (Stt.vs_one _) ?_) | fail)
  exact ret_do rfl rfl rfl rfl rfl (HM3.out.ans _).z ⟨rfl, (HM3.out.ans _).b⟩
set_option maxRecDepth 100000 in
set_option maxHeartbeats 4000000 in
theorem rval_10 (s : Stt) (a b : Int) (ha : W a) (hb : W b) (w : World) : Calls Tryz.prog 77 #[.agg s.vs, .int .i64 10, .int .u64 a, .int .u64 b] w (ValP s 10 a b w) := by
  unfold ValP
  have KC := Lib.hid (fun w => rplain_c s _ (and_W ha hb).1 w)
  show Calls _ _ _ _ (fun e w' => e = .returned (.tuple #[.agg (s.setF (flB (bits .and .u64 a b))).vs, .int .u64 (bits .and .u64 a b), .bool true]) ∧ Below w.heap.size w w')
  obtain ⟨n, hn⟩ : ∃ n, s.setF (flB (bits .and .u64 a b)) = n := ⟨_, rfl⟩
  obtain ⟨v, hv⟩ : ∃ v, (bits .and .u64 a b) = v := ⟨_, rfl⟩
  rw [hn, hv] at KC ⊢
  clear hn ha hb
  go_enter Tryz.func77, Tryz.ntmps77
  go_upto_region 1 with fail
  have HM : Hid (R2 w s s0 _) := Lib.hid (R2.new w s)
  rw [s0_vs]
  generalize World.alloc _ _ = W1 at *
  go_upto_region 49 with (first | (refine wpList_load_row rfl 42 (.tmp 4) rfl w.heap.size rfl 42 s.vs (0, 0) _ HM.out.s Tryz.underlying42 rfl i20 ?_) | (go_at_call 134; refine (KC.out _).mono ?_; rintro e x ⟨rfl, hb1⟩; have HM2 := Lib.hid (HM.out.below hb1); clear hb1) | (refine wpList_store_row rfl 42 (.tmp 4) (.tmp 68) rfl w.heap.size n.vs rfl rfl 42 s.vs HM2.out.s i20 rfl (Stt.vs_one _) ?_) | fail)
  have HM3 := Lib.hid (HM2.out.put n)
  clear HM HM2
  generalize World.setRow _ _ _ = W3 at *
  go_wp2_with (first | (refine wpList_load_row rfl 42 (.tmp 4) rfl w.heap.size rfl 42 n.vs (0, 0) _ HM3.out.s Tryz.underlying42 rfl i20 ?_) | (refine wpList_store_row rfl 42 (.tmp 8) (.tmp 171) rfl (w.heap.size + 1) n.vs rfl rfl 42 s0.vs HM3.out.z i20 rfl (Stt.vs_one _) ?_) | fail)
  exact ret_do rfl rfl rfl rfl rfl (HM3.out.ans _).z ⟨rfl, (HM3.out.ans _).b⟩
set_option maxRecDepth 100000 in
set_option maxHeartbeats 4000000 in
theorem rval_11 (s : Stt) (a b : Int) (ha : W a) (hb : W b) (w : World) : Calls Tryz.prog 77 #[.agg s.vs, .int .i64 11, .int .u64 a, .int .u64 b] w (ValP s 11 a b w) := by
  unfold ValP
  have KC := Lib.hid (fun w => rplain_c s _ (or_W ha hb).1 w)
  show Calls _ _ _ _ (fun e w' => e = .returned (.tuple #[.agg (s.setF (flB (bits .or .u64 a b))).vs, .int .u64 (bits .or .u64 a b), .bool true]) ∧ Below w.heap.size w w')
  obtain ⟨n, hn⟩ : ∃ n, s.setF (flB (bits .or .u64 a b)) = n := ⟨_, rfl⟩
  obtain ⟨v, hv⟩ : ∃ v, (bits .or .u64 a b) = v := ⟨_, rfl⟩
  rw [hn, hv] at KC ⊢
  clear hn ha hb
  go_enter Tryz.func77, Tryz.ntmps77
  go_upto_region 1 with fail
  have HM : Hid (R2 w s s0 _) := Lib.hid (R2.new w s)
  rw [s0_vs]
  generalize World.alloc _ _ = W1 at *
  go_upto_region 49 with (first | (refine wpList_load_row rfl 42 (.tmp 4) rfl w.heap.size rfl 42 s.vs (0, 0) _ HM.out.s Tryz.underlying42 rfl i20 ?_) | (go_at_call 134; refine (KC.out _).mono ?_; rintro e x ⟨rfl, hb1⟩; have HM2 := Lib.hid (HM.out.below hb1); clear hb1) | (refine wpList_store_row rfl 42 (.tmp 4) (.tmp 78) rfl w.heap.size n.vs rfl rfl 42 s.vs HM2.out.s i20 rfl (Stt.vs_one _) ?_) | fail)
  have HM3 := Lib.hid (HM2.out.put n)
  clear HM HM2
  generalize World.setRow _ _ _ = W3 at *
  go_wp2_with (first | (refine wpList_load_row rfl 42 (.tmp 4) rfl w.heap.size rfl 42 n.vs (0, 0) _ HM3.out.s Tryz.underlying42 rfl i20 ?_) | (refine wpList_store_row rfl 42 (.tmp 8) (.tmp 171) rfl (w.heap.size + 1) n.vs rfl rfl 42 s0.vs HM3.out.z i20 rfl (Stt.vs_one _) ?_) | fail)
  exact ret_do rfl rfl rfl rfl rfl (HM3.out.ans _).z ⟨rfl, (HM3.out.ans _).b⟩
set_option maxRecDepth 100000 in
set_option maxHeartbeats 4000000 in
theorem rval_12 (s : Stt) (a b : Int) (ha : W a) (hb : W b) (w : World) : Calls Tryz.prog 77 #[.agg s.vs, .int .i64 12, .int .u64 a, .int .u64 b] w (ValP s 12 a b w) := by
  unfold ValP
  have KC := Lib.hid (fun w => rplain_c s _ (xor_W ha hb).1 w)
  show Calls _ _ _ _ (fun e w' => e = .returned (.tuple #[.agg (s.setF (flB (bits .xor .u64 a b))).vs, .int .u64 (bits .xor .u64 a b), .bool true]) ∧ Below w.heap.size w w')
  obtain ⟨n, hn⟩ : ∃ n, s.setF (flB (bits .xor .u64 a b)) = n := ⟨_, rfl⟩
  obtain ⟨v, hv⟩ : ∃ v, (bits .xor .u64 a b) = v := ⟨_, rfl⟩
  rw [hn, hv] at KC ⊢
  clear hn ha hb
  go_enter Tryz.func77, Tryz.ntmps77
  go_upto_region 1 with fail
  have HM : Hid (R2 w s s0 _) := Lib.hid (R2.new w s)
  rw [s0_vs]
  generalize World.alloc _ _ = W1 at *
  go_upto_region 49 with (first | (refine wpList_load_row rfl 42 (.tmp 4) rfl w.heap.size rfl 42 s.vs (0, 0) _ HM.out.s Tryz.underlying42 rfl i20 ?_) | (go_at_call 134; refine (KC.out _).mono ?_; rintro e x ⟨rfl, hb1⟩; have HM2 := Lib.hid (HM.out.below hb1); clear hb1) | (refine wpList_store_row rfl 42 (.tmp 4) (.tmp 88) rfl w.heap.size n.vs rfl rfl 42 s.vs HM2.out.s i20 rfl (Stt.vs_one _) ?_) | fail)
  have HM3 := Lib.hid (HM2.out.put n)
  clear HM HM2
  generalize World.setRow _ _ _ = W3 at *
  go_wp2_with (first | (refine wpList_load_row rfl 42 (.tmp 4) rfl w.heap.size rfl 42 n.vs (0, 0) _ HM3.out.s Tryz.underlying42 rfl i20 ?_) | (refine wpList_store_row rfl 42 (.tmp 8) (.tmp 171) rfl (w.heap.size + 1) n.vs rfl rfl 42 s0.vs HM3.out.z i20 rfl (Stt.vs_one _) ?_) | fail)
  exact ret_do rfl rfl rfl rfl rfl (HM3.out.ans _).z ⟨rfl, (HM3.out.ans _).b⟩
set_option maxRecDepth 100000 in
set_option maxHeartbeats 4000000 in
theorem rval_13 (s : Stt) (a b : Int) (ha : W a) (hb : W b) (w : World) : Calls Tryz.prog 77 #[.agg s.vs, .int .i64 13, .int .u64 a, .int .u64 b] w (ValP s 13 a b w) := by
  unfold ValP
  have KC := Lib.hid (fun w => rrest_c s a b false ha hb w)
  show Calls _ _ _ _ (fun e w' => e = .returned (.tuple #[.agg (s.setF (flS a b false)).vs, .int .u64 (sub a b false), .bool true]) ∧ Below w.heap.size w w')
  obtain ⟨n, hn⟩ : ∃ n, s.setF (flS a b false) = n := ⟨_, rfl⟩
  obtain ⟨v, hv⟩ : ∃ v, (sub a b false) = v := ⟨_, rfl⟩
  rw [hn, hv] at KC ⊢
  clear hn ha hb
  clear hv
  go_enter Tryz.func77, Tryz.ntmps77
  go_upto_region 1 with fail
  have HM : Hid (R2 w s s0 _) := Lib.hid (R2.new w s)
  rw [s0_vs]
  generalize World.alloc _ _ = W1 at *
  go_upto_region 49 with (first | (refine wpList_load_row rfl 42 (.tmp 4) rfl w.heap.size rfl 42 s.vs (0, 0) _ HM.out.s Tryz.underlying42 rfl i20 ?_) | (go_at_call 133; refine (KC.out _).mono ?_; rintro e x ⟨rfl, hb1⟩; have HM2 := Lib.hid (HM.out.below hb1); clear hb1) | (refine wpList_store_row rfl 42 (.tmp 4) (.tmp 45) rfl w.heap.size n.vs rfl rfl 42 s.vs HM2.out.s i20 rfl (Stt.vs_one _) ?_) | fail)
  have HM3 := Lib.hid (HM2.out.put n)
  clear HM HM2
  generalize World.setRow _ _ _ = W3 at *
  go_wp2_with (first | (refine wpList_load_row rfl 42 (.tmp 4) rfl w.heap.size rfl 42 n.vs (0, 0) _ HM3.out.s Tryz.underlying42 rfl i20 ?_) | (refine wpList_store_row rfl 42 (.tmp 8) (.tmp 171) rfl (w.heap.size + 1) n.vs rfl rfl 42 s0.vs HM3.out.z i20 rfl (Stt.vs_one _) ?_) | fail)
  exact ret_do rfl rfl rfl rfl rfl (HM3.out.ans _).z ⟨rfl, (HM3.out.ans _).b⟩
set_option maxRecDepth 100000 in
set_option maxHeartbeats 4000000 in
theorem rval_14 (s : Stt) (a b : Int) (ha : W a) (hb : W b) (w : World) : Calls Tryz.prog 77 #[.agg s.vs, .int .i64 14, .int .u64 a, .int .u64 b] w (ValP s 14 a b w) := by
  unfold ValP
  have KC := Lib.hid (fun w => rplain_c s _ (and_W ha hb).1 w)
  show Calls _ _ _ _ (fun e w' => e = .returned (.tuple #[.agg (s.setF (flB (bits .and .u64 a b))).vs, .int .u64 (bits .and .u64 a b), .bool true]) ∧ Below w.heap.size w w')
  obtain ⟨n, hn⟩ : ∃ n, s.setF (flB (bits .and .u64 a b)) = n := ⟨_, rfl⟩
  obtain ⟨v, hv⟩ : ∃ v, (bits .and .u64 a b) = v := ⟨_, rfl⟩
  rw [hn, hv] at KC ⊢
  clear hn ha hb
  go_enter Tryz.func77, Tryz.ntmps77
  go_upto_region 1 with fail
  have HM : Hid (R2 w s s0 _) := Lib.hid (R2.new w s)
  rw [s0_vs]
  generalize World.alloc _ _ = W1 at *
  go_upto_region 49 with (first | (refine wpList_load_row rfl 42 (.tmp 4) rfl w.heap.size rfl 42 s.vs (0, 0) _ HM.out.s Tryz.underlying42 rfl i20 ?_) | (go_at_call 134; refine (KC.out _).mono ?_; rintro e x ⟨rfl, hb1⟩; have HM2 := Lib.hid (HM.out.below hb1); clear hb1) | (refine wpList_store_row rfl 42 (.tmp 4) (.tmp 68) rfl w.heap.size n.vs rfl rfl 42 s.vs HM2.out.s i20 rfl (Stt.vs_one _) ?_) | fail)
  have HM3 := Lib.hid (HM2.out.put n)
  clear HM HM2
  generalize World.setRow _ _ _ = W3 at *
  go_wp2_with (first | (refine wpList_load_row rfl 42 (.tmp 4) rfl w.heap.size rfl 42 n.vs (0, 0) _ HM3.out.s Tryz.underlying42 rfl i20 ?_) | (refine wpList_store_row rfl 42 (.tmp 8) (.tmp 171) rfl (w.heap.size + 1) n.vs rfl rfl 42 s0.vs HM3.out.z i20 rfl (Stt.vs_one _) ?_) | fail)
  exact ret_do rfl rfl rfl rfl rfl (HM3.out.ans _).z ⟨rfl, (HM3.out.ans _).b⟩
end Sp
end Go.Proofs.YtikbnfhnimjmmaaGreatDoor
