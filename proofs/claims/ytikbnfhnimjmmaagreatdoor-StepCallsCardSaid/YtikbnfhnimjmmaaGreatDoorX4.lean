/- The document's own step (layer 8): what is reckoned, the other operations. -/
import Derived.Test.YtikbnfhnimjmmaaGreatDoorX2
namespace Go.Proofs.YtikbnfhnimjmmaaGreatDoor
open Go Go.RowKit Go.Shelf
namespace Sp
open Wd Nt Mm Is
set_option linter.unusedVariables false
set_option linter.unusedSimpArgs false
set_option maxRecDepth 100000 in
set_option maxHeartbeats 4000000 in
theorem rval_15 (s : Stt) (a b : Int) (ha : W a) (hb : W b) (w : World) : Calls Tryz.prog 77 #[.agg s.vs, .int .i64 15, .int .u64 a, .int .u64 b] w (ValP s 15 a b w) := by
  unfold ValP
  have KC := Lib.hid (fun w => rsum_c s a b false ha hb w)
  show Calls _ _ _ _ (fun e w' => e = .returned (.tuple #[.agg (s.setF (flA a b false)).vs, .int .u64 (add a b false), .bool true]) ∧ Below w.heap.size w w')
  obtain ⟨n, hn⟩ : ∃ n, s.setF (flA a b false) = n := ⟨_, rfl⟩
  obtain ⟨v, hv⟩ : ∃ v, (add a b false) = v := ⟨_, rfl⟩
  rw [hn, hv] at KC ⊢
  clear hn ha hb
  clear hv
  go_enter Tryz.func77, Tryz.ntmps77
  go_upto_region 1 with fail
  have HM : Hid (R2 w s s0 _) := Lib.hid (R2.new w s)
  rw [s0_vs]
  generalize World.alloc _ _ = W1 at *
  go_upto_region 49 with (first | (refine wpList_load_row rfl 42 (.tmp 4) rfl w.heap.size rfl 42 s.vs (0, 0) _ HM.out.s Tryz.underlying42 rfl i20 ?_) | (go_at_call 132; refine (KC.out _).mono ?_; rintro e x ⟨rfl, hb1⟩; have HM2 := Lib.hid (HM.out.below hb1); clear hb1) | (refine wpList_store_row rfl 42 (.tmp 4) (.tmp 22) rfl w.heap.size n.vs rfl rfl 42 s.vs HM2.out.s i20 rfl (Stt.vs_one _) ?_) | fail)
  have HM3 := Lib.hid (HM2.out.put n)
  clear HM HM2
  generalize World.setRow _ _ _ = W3 at *
  go_wp2_with (first | (refine wpList_load_row rfl 42 (.tmp 4) rfl w.heap.size rfl 42 n.vs (0, 0) _ HM3.out.s Tryz.underlying42 rfl i20 ?_) | (refine wpList_store_row rfl 42 (.tmp 8) (.tmp 171) rfl (w.heap.size + 1) n.vs rfl rfl 42 s0.vs HM3.out.z i20 rfl (Stt.vs_one _) ?_) | fail)
  exact ret_do rfl rfl rfl rfl rfl (HM3.out.ans _).z ⟨rfl, (HM3.out.ans _).b⟩
set_option maxRecDepth 100000 in
set_option maxHeartbeats 4000000 in
theorem rval_16 (s : Stt) (a b : Int) (ha : W a) (hb : W b) (w : World) : Calls Tryz.prog 77 #[.agg s.vs, .int .i64 16, .int .u64 a, .int .u64 b] w (ValP s 16 a b w) := by
  unfold ValP
  have KC := Lib.hid (fun w => rplain_c s _ (and_W ha hb).1 w)
  show Calls _ _ _ _ (fun e w' => e = .returned (.tuple #[.agg (s.setF (flB (bits .and .u64 a b))).vs, .int .u64 (bits .and .u64 a b), .bool true]) ∧ Below w.heap.size w w')
  obtain ⟨n, hn⟩ : ∃ n, s.setF (flB (bits .and .u64 a b)) = n := ⟨_, rfl⟩
  obtain ⟨v, hv⟩ : ∃ v, (bits .and .u64 a b) = v := ⟨_, rfl⟩
  rw [hn, hv] at KC ⊢
  clear hn ha hb
  go_enter Tryz.func77, Tryz.ntmps77
  go_upto_region 1 with fail
  have HM : Hid (R2 w s s0 _) := Lib.hid (R2.new w s)
  rw [s0_vs]
  generalize World.alloc _ _ = W1 at *
  go_upto_region 49 with (first | (refine wpList_load_row rfl 42 (.tmp 4) rfl w.heap.size rfl 42 s.vs (0, 0) _ HM.out.s Tryz.underlying42 rfl i20 ?_) | (go_at_call 134; refine (KC.out _).mono ?_; rintro e x ⟨rfl, hb1⟩; have HM2 := Lib.hid (HM.out.below hb1); clear hb1) | (refine wpList_store_row rfl 42 (.tmp 4) (.tmp 68) rfl w.heap.size n.vs rfl rfl 42 s.vs HM2.out.s i20 rfl (Stt.vs_one _) ?_) | fail)
  have HM3 := Lib.hid (HM2.out.put n)
  clear HM HM2
  generalize World.setRow _ _ _ = W3 at *
  go_wp2_with (first | (refine wpList_load_row rfl 42 (.tmp 4) rfl w.heap.size rfl 42 n.vs (0, 0) _ HM3.out.s Tryz.underlying42 rfl i20 ?_) | (refine wpList_store_row rfl 42 (.tmp 8) (.tmp 171) rfl (w.heap.size + 1) n.vs rfl rfl 42 s0.vs HM3.out.z i20 rfl (Stt.vs_one _) ?_) | fail)
  exact ret_do rfl rfl rfl rfl rfl (HM3.out.ans _).z ⟨rfl, (HM3.out.ans _).b⟩
set_option maxRecDepth 100000 in
set_option maxHeartbeats 4000000 in
theorem rval_17 (s : Stt) (a b : Int) (ha : W a) (hb : W b) (w : World) : Calls Tryz.prog 77 #[.agg s.vs, .int .i64 17, .int .u64 a, .int .u64 b] w (ValP s 17 a b w) := by
  unfold ValP
  have KC := Lib.hid (fun w => rrest_c s a b false ha hb w)
  show Calls _ _ _ _ (fun e w' => e = .returned (.tuple #[.agg (s.setF (flS a b false)).vs, .int .u64 (sub a b false), .bool true]) ∧ Below w.heap.size w w')
  obtain ⟨n, hn⟩ : ∃ n, s.setF (flS a b false) = n := ⟨_, rfl⟩
  obtain ⟨v, hv⟩ : ∃ v, (sub a b false) = v := ⟨_, rfl⟩
  rw [hn, hv] at KC ⊢
  clear hn ha hb
  clear hv
  go_enter Tryz.func77, Tryz.ntmps77
  go_upto_region 1 with fail
  have HM : Hid (R2 w s s0 _) := Lib.hid (R2.new w s)
  rw [s0_vs]
  generalize World.alloc _ _ = W1 at *
  go_upto_region 49 with (first | (refine wpList_load_row rfl 42 (.tmp 4) rfl w.heap.size rfl 42 s.vs (0, 0) _ HM.out.s Tryz.underlying42 rfl i20 ?_) | (go_at_call 133; refine (KC.out _).mono ?_; rintro e x ⟨rfl, hb1⟩; have HM2 := Lib.hid (HM.out.below hb1); clear hb1) | (refine wpList_store_row rfl 42 (.tmp 4) (.tmp 45) rfl w.heap.size n.vs rfl rfl 42 s.vs HM2.out.s i20 rfl (Stt.vs_one _) ?_) | fail)
  have HM3 := Lib.hid (HM2.out.put n)
  clear HM HM2
  generalize World.setRow _ _ _ = W3 at *
  go_wp2_with (first | (refine wpList_load_row rfl 42 (.tmp 4) rfl w.heap.size rfl 42 n.vs (0, 0) _ HM3.out.s Tryz.underlying42 rfl i20 ?_) | (refine wpList_store_row rfl 42 (.tmp 8) (.tmp 171) rfl (w.heap.size + 1) n.vs rfl rfl 42 s0.vs HM3.out.z i20 rfl (Stt.vs_one _) ?_) | fail)
  exact ret_do rfl rfl rfl rfl rfl (HM3.out.ans _).z ⟨rfl, (HM3.out.ans _).b⟩
set_option maxRecDepth 100000 in
set_option maxHeartbeats 4000000 in
theorem rval_18 (s : Stt) (a b : Int) (ha : W a) (hb : W b) (w : World) : Calls Tryz.prog 77 #[.agg s.vs, .int .i64 18, .int .u64 a, .int .u64 b] w (ValP s 18 a b w) := by
  unfold ValP
  have KC := Lib.hid (fun w => rrest_c s a b false ha hb w)
  show Calls _ _ _ _ (fun e w' => e = .returned (.tuple #[.agg (s.setF (flS a b false)).vs, .int .u64 (sub a b false), .bool true]) ∧ Below w.heap.size w w')
  obtain ⟨n, hn⟩ : ∃ n, s.setF (flS a b false) = n := ⟨_, rfl⟩
  obtain ⟨v, hv⟩ : ∃ v, (sub a b false) = v := ⟨_, rfl⟩
  rw [hn, hv] at KC ⊢
  clear hn ha hb
  clear hv
  go_enter Tryz.func77, Tryz.ntmps77
  go_upto_region 1 with fail
  have HM : Hid (R2 w s s0 _) := Lib.hid (R2.new w s)
  rw [s0_vs]
  generalize World.alloc _ _ = W1 at *
  go_upto_region 49 with (first | (refine wpList_load_row rfl 42 (.tmp 4) rfl w.heap.size rfl 42 s.vs (0, 0) _ HM.out.s Tryz.underlying42 rfl i20 ?_) | (go_at_call 133; refine (KC.out _).mono ?_; rintro e x ⟨rfl, hb1⟩; have HM2 := Lib.hid (HM.out.below hb1); clear hb1) | (refine wpList_store_row rfl 42 (.tmp 4) (.tmp 45) rfl w.heap.size n.vs rfl rfl 42 s.vs HM2.out.s i20 rfl (Stt.vs_one _) ?_) | fail)
  have HM3 := Lib.hid (HM2.out.put n)
  clear HM HM2
  generalize World.setRow _ _ _ = W3 at *
  go_wp2_with (first | (refine wpList_load_row rfl 42 (.tmp 4) rfl w.heap.size rfl 42 n.vs (0, 0) _ HM3.out.s Tryz.underlying42 rfl i20 ?_) | (refine wpList_store_row rfl 42 (.tmp 8) (.tmp 171) rfl (w.heap.size + 1) n.vs rfl rfl 42 s0.vs HM3.out.z i20 rfl (Stt.vs_one _) ?_) | fail)
  exact ret_do rfl rfl rfl rfl rfl (HM3.out.ans _).z ⟨rfl, (HM3.out.ans _).b⟩
set_option maxRecDepth 100000 in
set_option maxHeartbeats 4000000 in
theorem rval_20 (s : Stt) (a b : Int) (ha : W a) (hb : W b) (w : World) : Calls Tryz.prog 77 #[.agg s.vs, .int .i64 20, .int .u64 a, .int .u64 b] w (ValP s 20 a b w) := by
  unfold ValP
  have KC := Lib.hid (fun w => radd_c a b s.cf w ha hb)
  show Calls _ _ _ _ (fun e w' => e = .returned (.tuple #[.agg ({ s with cf := addO a b s.cf } : Stt).vs, .int .u64 (add a b s.cf), .bool true]) ∧ Below w.heap.size w w')
  obtain ⟨c, hc⟩ : ∃ c, addO a b s.cf = c := ⟨_, rfl⟩
  obtain ⟨v, hv⟩ : ∃ v, add a b s.cf = v := ⟨_, rfl⟩
  rw [hc, hv] at KC ⊢
  clear hc hv ha hb
  go_enter Tryz.func77, Tryz.ntmps77
  go_upto_region 1 with fail
  have HM : Hid (R2 w s s0 _) := Lib.hid (R2.new w s)
  rw [s0_vs]
  generalize World.alloc _ _ = W1 at *
  have cc : W1.cell? ⟨w.heap.size, 17, none⟩ = some (.bool s.cf) := HM.out.s.cell 17
  have ff := HM.out.s.frozen 17
  go_upto_region 49 with (first | (go_at_call 135; refine (KC.out _).mono ?_; rintro e x ⟨rfl, rfl⟩) | fail)
  have HM3 := Lib.hid (HM.out.cf c)
  clear HM cc ff
  generalize World.setCell _ _ _ = W3 at *
  go_wp2_with (first | (refine wpList_load_row rfl 42 (.tmp 4) rfl w.heap.size rfl 42 ({ s with cf := c } : Stt).vs (0, 0) _ HM3.out.s Tryz.underlying42 rfl i20 ?_) | (refine wpList_store_row rfl 42 (.tmp 8) (.tmp 171) rfl (w.heap.size + 1) ({ s with cf := c } : Stt).vs rfl rfl 42 s0.vs HM3.out.z i20 rfl (Stt.vs_one _) ?_) | fail)
  exact ret_do rfl rfl rfl rfl rfl (HM3.out.ans _).z ⟨rfl, (HM3.out.ans _).b⟩
set_option maxRecDepth 100000 in
set_option maxHeartbeats 4000000 in
theorem rval_21 (s : Stt) (a b : Int) (ha : W a) (hb : W b) (w : World) : Calls Tryz.prog 77 #[.agg s.vs, .int .i64 21, .int .u64 a, .int .u64 b] w (ValP s 21 a b w) := by
  unfold ValP
  have KC := Lib.hid (fun w => radd_c a b s.ov w ha hb)
  show Calls _ _ _ _ (fun e w' => e = .returned (.tuple #[.agg ({ s with ov := addO a b s.ov } : Stt).vs, .int .u64 (add a b s.ov), .bool true]) ∧ Below w.heap.size w w')
  obtain ⟨c, hc⟩ : ∃ c, addO a b s.ov = c := ⟨_, rfl⟩
  obtain ⟨v, hv⟩ : ∃ v, add a b s.ov = v := ⟨_, rfl⟩
  rw [hc, hv] at KC ⊢
  clear hc hv ha hb
  go_enter Tryz.func77, Tryz.ntmps77
  go_upto_region 1 with fail
  have HM : Hid (R2 w s s0 _) := Lib.hid (R2.new w s)
  rw [s0_vs]
  generalize World.alloc _ _ = W1 at *
  have cc : W1.cell? ⟨w.heap.size, 18, none⟩ = some (.bool s.ov) := HM.out.s.cell 18
  have ff := HM.out.s.frozen 18
  go_upto_region 49 with (first | (go_at_call 135; refine (KC.out _).mono ?_; rintro e x ⟨rfl, rfl⟩) | fail)
  have HM3 := Lib.hid (HM.out.of c)
  clear HM cc ff
  generalize World.setCell _ _ _ = W3 at *
  go_wp2_with (first | (refine wpList_load_row rfl 42 (.tmp 4) rfl w.heap.size rfl 42 ({ s with ov := c } : Stt).vs (0, 0) _ HM3.out.s Tryz.underlying42 rfl i20 ?_) | (refine wpList_store_row rfl 42 (.tmp 8) (.tmp 171) rfl (w.heap.size + 1) ({ s with ov := c } : Stt).vs rfl rfl 42 s0.vs HM3.out.z i20 rfl (Stt.vs_one _) ?_) | fail)
  exact ret_do rfl rfl rfl rfl rfl (HM3.out.ans _).z ⟨rfl, (HM3.out.ans _).b⟩
set_option maxRecDepth 100000 in
set_option maxHeartbeats 4000000 in
theorem rval_22 (s : Stt) (a b : Int) (ha : W a) (hb : W b) (w : World) : Calls Tryz.prog 77 #[.agg s.vs, .int .i64 22, .int .u64 a, .int .u64 b] w (ValP s 22 a b w) := by
  unfold ValP
  have KC := Lib.hid (fun w => rrest_c s 0 a false ⟨by decide, by decide⟩ ha w)
  show Calls _ _ _ _ (fun e w' => e = .returned (.tuple #[.agg (s.setF (flS 0 a false)).vs, .int .u64 (sub 0 a false), .bool true]) ∧ Below w.heap.size w w')
  obtain ⟨n, hn⟩ : ∃ n, s.setF (flS 0 a false) = n := ⟨_, rfl⟩
  obtain ⟨v, hv⟩ : ∃ v, (sub 0 a false) = v := ⟨_, rfl⟩
  rw [hn, hv] at KC ⊢
  clear hn ha hb
  clear hv
  go_enter Tryz.func77, Tryz.ntmps77
  go_upto_region 1 with fail
  have HM : Hid (R2 w s s0 _) := Lib.hid (R2.new w s)
  rw [s0_vs]
  generalize World.alloc _ _ = W1 at *
  go_upto_region 49 with (first | (refine wpList_load_row rfl 42 (.tmp 4) rfl w.heap.size rfl 42 s.vs (0, 0) _ HM.out.s Tryz.underlying42 rfl i20 ?_) | (go_at_call 133; refine (KC.out _).mono ?_; rintro e x ⟨rfl, hb1⟩; have HM2 := Lib.hid (HM.out.below hb1); clear hb1) | (refine wpList_store_row rfl 42 (.tmp 4) (.tmp 96) rfl w.heap.size n.vs rfl rfl 42 s.vs HM2.out.s i20 rfl (Stt.vs_one _) ?_) | fail)
  have HM3 := Lib.hid (HM2.out.put n)
  clear HM HM2
  generalize World.setRow _ _ _ = W3 at *
  go_wp2_with (first | (refine wpList_load_row rfl 42 (.tmp 4) rfl w.heap.size rfl 42 n.vs (0, 0) _ HM3.out.s Tryz.underlying42 rfl i20 ?_) | (refine wpList_store_row rfl 42 (.tmp 8) (.tmp 171) rfl (w.heap.size + 1) n.vs rfl rfl 42 s0.vs HM3.out.z i20 rfl (Stt.vs_one _) ?_) | fail)
  exact ret_do rfl rfl rfl rfl rfl (HM3.out.ans _).z ⟨rfl, (HM3.out.ans _).b⟩
set_option maxRecDepth 100000 in
set_option maxHeartbeats 4000000 in
theorem rval_23 (s : Stt) (a b : Int) (ha : W a) (hb : W b) (w : World) : Calls Tryz.prog 77 #[.agg s.vs, .int .i64 23, .int .u64 a, .int .u64 b] w (ValP s 23 a b w) := by
  unfold ValP
  show Calls _ _ _ _ (fun e w' => e = .returned (.tuple #[.agg s.vs, .int .u64 (notI a), .bool true]) ∧ Below w.heap.size w w')
  go_enter Tryz.func77, Tryz.ntmps77
  go_upto_region 1 with fail
  have HM : Hid (R2 w s s0 _) := Lib.hid (R2.new w s)
  rw [s0_vs]
  generalize World.alloc _ _ = W1 at *
  go_wp2_with (first | (refine wpList_load_row rfl 42 (.tmp 4) rfl w.heap.size rfl 42 s.vs (0, 0) _ HM.out.s Tryz.underlying42 rfl i20 ?_) | (refine wpList_store_row rfl 42 (.tmp 8) (.tmp 171) rfl (w.heap.size + 1) s.vs rfl rfl 42 s0.vs HM.out.z i20 rfl (Stt.vs_one _) ?_) | fail)
  exact ret_do rfl rfl rfl rfl rfl (HM.out.ans _).z ⟨rfl, (HM.out.ans _).b⟩
set_option maxRecDepth 100000 in
set_option maxHeartbeats 4000000 in
theorem rval_24 (s : Stt) (a b : Int) (ha : W a) (hb : W b) (h1 : 1 ≤ b) (h63 : b ≤ 63) (w : World) : Calls Tryz.prog 77 #[.agg s.vs, .int .i64 24, .int .u64 a, .int .u64 b] w (ValP s 24 a b w) := by
  unfold ValP
  show Calls _ _ _ _ (fun e w' => e = .returned (.tuple #[.agg (s.setF ⟨decide ((shrI a (64 - b)) % 2 = 1), s.ov, decide ((shlI a b) = 0)⟩).vs, .int .u64 (shlI a b), .bool true]) ∧ Below w.heap.size w w')
  have hA := and_one (shrI a (64 - b)) (shrI_W ha _).1 (shrI_W ha _).2
  obtain ⟨c, hc⟩ : ∃ c, decide ((shrI a (64 - b)) % 2 = 1) = c := ⟨_, rfl⟩
  have hA2 : (bits BinOp.and IntKind.u64 (a / 2 ^ (64 - b).toNat) 1 == 1) = c := by rw [show a / 2 ^ (64 - b).toNat = (shrI a (64 - b)) from rfl, hA, ← hc]; rfl
  rw [hc]
  clear hA hc
  have hr : IntKind.u64.wrap (a * 2 ^ b.toNat) = shlI a b := by rw [IntKind.wrap_u64]; rfl
  generalize shlI a b = r at *
  have hb64 : b.toNat ≤ 64 := by omega
  obtain ⟨z, hz⟩ : ∃ z, decide (r = 0) = z := ⟨_, rfl⟩
  have hz2 : (r == 0) = z := hz
  rw [hz]
  clear hz
  go_enter Tryz.func77, Tryz.ntmps77
  go_upto_region 1 with fail
  have HM : Hid (R2 w s s0 _) := Lib.hid (R2.new w s)
  rw [s0_vs]
  generalize World.alloc _ _ = W1 at *
  have c17 : W1.cell? ⟨w.heap.size, 17, none⟩ = some (.bool s.cf) := HM.out.s.cell 17
  have f17 := HM.out.s.frozen 17
  have c19 : W1.cell? ⟨w.heap.size, 19, none⟩ = some (.bool s.zf) := HM.out.s.cell 19
  have f19 := HM.out.s.frozen 19
  go_upto_region 49 with fail
  have HM3 := Lib.hid ((HM.out.cf c).zf z)
  clear HM c17 f17 c19 f19
  generalize World.setCell _ _ _ = W3 at *
  go_wp2_with (first | (refine wpList_load_row rfl 42 (.tmp 4) rfl w.heap.size rfl 42 (s.setF ⟨c, s.ov, z⟩).vs (0, 0) _ HM3.out.s Tryz.underlying42 rfl i20 ?_) | (refine wpList_store_row rfl 42 (.tmp 8) (.tmp 171) rfl (w.heap.size + 1) (s.setF ⟨c, s.ov, z⟩).vs rfl rfl 42 s0.vs HM3.out.z i20 rfl (Stt.vs_one _) ?_) | fail)
  exact ret_do rfl rfl rfl rfl rfl (HM3.out.ans _).z ⟨rfl, (HM3.out.ans _).b⟩
set_option maxRecDepth 100000 in
set_option maxHeartbeats 4000000 in
theorem rval_25 (s : Stt) (a b : Int) (ha : W a) (hb : W b) (h1 : 1 ≤ b) (h63 : b ≤ 63) (w : World) : Calls Tryz.prog 77 #[.agg s.vs, .int .i64 25, .int .u64 a, .int .u64 b] w (ValP s 25 a b w) := by
  unfold ValP
  show Calls _ _ _ _ (fun e w' => e = .returned (.tuple #[.agg (s.setF ⟨decide ((shrI a (b - 1)) % 2 = 1), s.ov, decide ((shrI a b) = 0)⟩).vs, .int .u64 (shrI a b), .bool true]) ∧ Below w.heap.size w w')
  have hA := and_one (shrI a (b - 1)) (shrI_W ha _).1 (shrI_W ha _).2
  obtain ⟨c, hc⟩ : ∃ c, decide ((shrI a (b - 1)) % 2 = 1) = c := ⟨_, rfl⟩
  have hA2 : (bits BinOp.and IntKind.u64 (a / 2 ^ (b.toNat - 1)) 1 == 1) = c := by rw [show a / 2 ^ (b.toNat - 1) = (shrI a (b - 1)) from by unfold shrI; rw [show b.toNat - 1 = (b - 1).toNat from by omega], hA, ← hc]; rfl
  rw [hc]
  clear hA hc
  have hr : a / 2 ^ b.toNat = shrI a b := rfl
  generalize shrI a b = r at *
  have hb64 : b.toNat ≤ 64 := by omega
  obtain ⟨z, hz⟩ : ∃ z, decide (r = 0) = z := ⟨_, rfl⟩
  have hz2 : (r == 0) = z := hz
  rw [hz]
  clear hz
  go_enter Tryz.func77, Tryz.ntmps77
  go_upto_region 1 with fail
  have HM : Hid (R2 w s s0 _) := Lib.hid (R2.new w s)
  rw [s0_vs]
  generalize World.alloc _ _ = W1 at *
  have c17 : W1.cell? ⟨w.heap.size, 17, none⟩ = some (.bool s.cf) := HM.out.s.cell 17
  have f17 := HM.out.s.frozen 17
  have c19 : W1.cell? ⟨w.heap.size, 19, none⟩ = some (.bool s.zf) := HM.out.s.cell 19
  have f19 := HM.out.s.frozen 19
  go_upto_region 49 with fail
  have HM3 := Lib.hid ((HM.out.cf c).zf z)
  clear HM c17 f17 c19 f19
  generalize World.setCell _ _ _ = W3 at *
  go_wp2_with (first | (refine wpList_load_row rfl 42 (.tmp 4) rfl w.heap.size rfl 42 (s.setF ⟨c, s.ov, z⟩).vs (0, 0) _ HM3.out.s Tryz.underlying42 rfl i20 ?_) | (refine wpList_store_row rfl 42 (.tmp 8) (.tmp 171) rfl (w.heap.size + 1) (s.setF ⟨c, s.ov, z⟩).vs rfl rfl 42 s0.vs HM3.out.z i20 rfl (Stt.vs_one _) ?_) | fail)
  exact ret_do rfl rfl rfl rfl rfl (HM3.out.ans _).z ⟨rfl, (HM3.out.ans _).b⟩
set_option maxRecDepth 100000 in
set_option maxHeartbeats 4000000 in
theorem rval_26 (s : Stt) (a b : Int) (ha : W a) (hb : W b) (w : World) : Calls Tryz.prog 77 #[.agg s.vs, .int .i64 26, .int .u64 a, .int .u64 b] w (ValP s 26 a b w) := by
  unfold ValP
  show Calls _ _ _ _ (fun e w' => e = .returned (.tuple #[.agg s.vs, .int .u64 (if s.cf then b else a), .bool true]) ∧ Below w.heap.size w w')
  obtain ⟨f, hf⟩ : ∃ f, s.cf = f := ⟨_, rfl⟩
  rw [hf]
  have HF := Lib.hid hf
  clear hf
  cases f
  · go_enter Tryz.func77, Tryz.ntmps77
    go_upto_region 1 with fail
    have HM : Hid (R2 w s s0 _) := Lib.hid (R2.new w s)
    rw [s0_vs]
    generalize World.alloc _ _ = W1 at *
    have cc : W1.cell? ⟨w.heap.size, 17, none⟩ = some (.bool false) := (HM.out.s.cell 17).trans (by show some (Value.bool s.cf) = _; rw [HF.out])
    go_wp2_with (first | (refine wpList_load_row rfl 42 (.tmp 4) rfl w.heap.size rfl 42 s.vs (0, 0) _ HM.out.s Tryz.underlying42 rfl i20 ?_) | (refine wpList_store_row rfl 42 (.tmp 8) (.tmp 171) rfl (w.heap.size + 1) s.vs rfl rfl 42 s0.vs HM.out.z i20 rfl (Stt.vs_one _) ?_) | fail)
    exact ret_do rfl rfl rfl rfl rfl (HM.out.ans _).z ⟨rfl, (HM.out.ans _).b⟩
  · go_enter Tryz.func77, Tryz.ntmps77
    go_upto_region 1 with fail
    have HM : Hid (R2 w s s0 _) := Lib.hid (R2.new w s)
    rw [s0_vs]
    generalize World.alloc _ _ = W1 at *
    have cc : W1.cell? ⟨w.heap.size, 17, none⟩ = some (.bool true) := (HM.out.s.cell 17).trans (by show some (Value.bool s.cf) = _; rw [HF.out])
    go_wp2_with (first | (refine wpList_load_row rfl 42 (.tmp 4) rfl w.heap.size rfl 42 s.vs (0, 0) _ HM.out.s Tryz.underlying42 rfl i20 ?_) | (refine wpList_store_row rfl 42 (.tmp 8) (.tmp 171) rfl (w.heap.size + 1) s.vs rfl rfl 42 s0.vs HM.out.z i20 rfl (Stt.vs_one _) ?_) | fail)
    exact ret_do rfl rfl rfl rfl rfl (HM.out.ans _).z ⟨rfl, (HM.out.ans _).b⟩
set_option maxRecDepth 100000 in
set_option maxHeartbeats 4000000 in
theorem rval_27 (s : Stt) (a b : Int) (ha : W a) (hb : W b) (w : World) : Calls Tryz.prog 77 #[.agg s.vs, .int .i64 27, .int .u64 a, .int .u64 b] w (ValP s 27 a b w) := by
  unfold ValP
  show Calls _ _ _ _ (fun e w' => e = .returned (.tuple #[.agg s.vs, .int .u64 (if s.zf then a else b), .bool true]) ∧ Below w.heap.size w w')
  obtain ⟨f, hf⟩ : ∃ f, s.zf = f := ⟨_, rfl⟩
  rw [hf]
  have HF := Lib.hid hf
  clear hf
  cases f
  · go_enter Tryz.func77, Tryz.ntmps77
    go_upto_region 1 with fail
    have HM : Hid (R2 w s s0 _) := Lib.hid (R2.new w s)
    rw [s0_vs]
    generalize World.alloc _ _ = W1 at *
    have cc : W1.cell? ⟨w.heap.size, 19, none⟩ = some (.bool false) := (HM.out.s.cell 19).trans (by show some (Value.bool s.zf) = _; rw [HF.out])
    go_wp2_with (first | (refine wpList_load_row rfl 42 (.tmp 4) rfl w.heap.size rfl 42 s.vs (0, 0) _ HM.out.s Tryz.underlying42 rfl i20 ?_) | (refine wpList_store_row rfl 42 (.tmp 8) (.tmp 171) rfl (w.heap.size + 1) s.vs rfl rfl 42 s0.vs HM.out.z i20 rfl (Stt.vs_one _) ?_) | fail)
    exact ret_do rfl rfl rfl rfl rfl (HM.out.ans _).z ⟨rfl, (HM.out.ans _).b⟩
  · go_enter Tryz.func77, Tryz.ntmps77
    go_upto_region 1 with fail
    have HM : Hid (R2 w s s0 _) := Lib.hid (R2.new w s)
    rw [s0_vs]
    generalize World.alloc _ _ = W1 at *
    have cc : W1.cell? ⟨w.heap.size, 19, none⟩ = some (.bool true) := (HM.out.s.cell 19).trans (by show some (Value.bool s.zf) = _; rw [HF.out])
    go_wp2_with (first | (refine wpList_load_row rfl 42 (.tmp 4) rfl w.heap.size rfl 42 s.vs (0, 0) _ HM.out.s Tryz.underlying42 rfl i20 ?_) | (refine wpList_store_row rfl 42 (.tmp 8) (.tmp 171) rfl (w.heap.size + 1) s.vs rfl rfl 42 s0.vs HM.out.z i20 rfl (Stt.vs_one _) ?_) | fail)
    exact ret_do rfl rfl rfl rfl rfl (HM.out.ans _).z ⟨rfl, (HM.out.ans _).b⟩
end Sp
end Go.Proofs.YtikbnfhnimjmmaaGreatDoor
