/- The landed package step: the functions that move, one by one. -/
import Derived.Test.YtikbnfhnimjmmaaGreatDoorS6
import Derived.Test.YtikbnfhnimjmmaaGreatDoorShelf
namespace Go.Proofs.YtikbnfhnimjmmaaGreatDoor
open Go Go.RowKit Go.Shelf
namespace Sp
open Wd Nt Mm Is
set_option linter.unusedVariables false
set_option linter.unusedSimpArgs false
theorem i9 : (Tryz.prog.info? 26).map (·.size) = some 9 := by kernel_rfl
theorem mul64_l (x y : Int) (hx : W x) (hy : W y) (w : World) : Calls Tryz.prog 193 #[.int .u64 x, .int .u64 y] w fun e w' => e = .returned (.tuple #[.int .u64 (mulH x y), .int .u64 (mulL x y)]) ∧ w' = w := by
  obtain ⟨n, rfl, hn⟩ := W_nat hx
  obtain ⟨m, rfl, hm⟩ := W_nat hy
  exact Tryz.bits_Mul64 n m hn hm w
set_option maxRecDepth 100000 in
set_option maxHeartbeats 1000000 in
theorem jump_t (s : Stt) (i : Ins) (w : World) : Calls Tryz.prog 197 #[.agg s.vs, .agg i.vs, .bool true] w fun e w' => e = .returned (.agg (jmpS s i true).vs) ∧ Below w.heap.size w w' := by
  go_enter Tryz.func197, Tryz.ntmps197
  go_upto_region 1 with fail
  rw [s0_vs]
  have HM := Lib.hid (M3.new w s i)
  generalize World.alloc _ _ = W1 at *
  have c8 : W1.cell? ⟨w.heap.size + 1, 8, none⟩ = some (.int .i64 i.im) := HM.out.i.cell 8
  have c16 : W1.cell? ⟨w.heap.size, 16, none⟩ = some (.int .u64 s.pc) := HM.out.s.cell 16
  have f16 := HM.out.s.frozen 16
  have hE : IntKind.u64.wrap (s.pc + IntKind.u64.wrap i.im) = u64 (s.pc + u64 i.im) := by unfold u64; simp only [IntKind.wrap_u64]
  have HM2 := Lib.hid (HM.out.setPc (u64 (s.pc + u64 i.im)))
  generalize hq : u64 (s.pc + u64 i.im) = q at *
  have HQ := Lib.hid hq
  clear hq
  go_wp2_with (first | (refine wpList_load_row rfl 42 (.tmp 3) rfl w.heap.size rfl 42 ({ s with pc := q } : Stt).vs (0, 0) _ HM2.out.s Tryz.underlying42 rfl i20 ?_) | (refine wpList_store_row rfl 42 (.tmp 6) (.tmp 15) rfl (w.heap.size + 1 + 1) ({ s with pc := q } : Stt).vs rfl rfl 42 s0.vs HM2.out.z i20 rfl ({ s with pc := q } : Stt).vs_one ?_) | fail)
  have hr : jmpS s i true = { s with pc := q } := by rw [← HQ.out]; rfl
  rw [hr]
  exact ret_st rfl rfl rfl (bk_row HM2.out.z) ⟨rfl, bel_row HM2.out.b (by omega) _⟩
set_option maxRecDepth 100000 in
set_option maxHeartbeats 1000000 in
theorem jump_f (s : Stt) (i : Ins) (w : World) : Calls Tryz.prog 197 #[.agg s.vs, .agg i.vs, .bool false] w fun e w' => e = .returned (.agg (jmpS s i false).vs) ∧ Below w.heap.size w w' := by
  go_enter Tryz.func197, Tryz.ntmps197
  go_upto_region 1 with fail
  rw [s0_vs]
  have HM := Lib.hid (M3.new w s i)
  generalize World.alloc _ _ = W1 at *
  go_wp2_with (first | (refine wpList_load_row rfl 42 (.tmp 3) rfl w.heap.size rfl 42 (s).vs (0, 0) _ HM.out.s Tryz.underlying42 rfl i20 ?_) | (refine wpList_store_row rfl 42 (.tmp 6) (.tmp 15) rfl (w.heap.size + 1 + 1) (s).vs rfl rfl 42 s0.vs HM.out.z i20 rfl (s).vs_one ?_) | fail)
  exact ret_st rfl rfl rfl (bk_row HM.out.z) ⟨rfl, bel_row HM.out.b (by omega) _⟩
set_option maxRecDepth 100000 in
set_option maxHeartbeats 1000000 in
theorem mv7_l (s : Stt) (i : Ins) (v : Int) (w : World) : Calls Tryz.prog 196 #[.agg s.vs, .agg i.vs, .int .u64 v] w fun e w' => e = .returned (.agg (jmpS s i true).vs) ∧ Below w.heap.size w w' := by
  go_enter Tryz.func196, Tryz.ntmps196
  go_upto_region 1 with fail
  rw [s0_vs]
  have HM := Lib.hid (M3.new w s i)
  generalize World.alloc _ _ = W1 at *
  have HT := Lib.hid (fun W => jump_t s i W)
  go_wp2_with (first | (refine wpList_load_row rfl 42 (.tmp 3) rfl w.heap.size rfl 42 (s).vs (0, 0) _ HM.out.s Tryz.underlying42 rfl i20 ?_) | (refine wpList_load_row rfl 26 (.tmp 4) rfl (w.heap.size + 1) rfl 26 i.vs (0, 0) _ HM.out.i Tryz.underlying26 rfl i9 ?_) | fail)
  go_at_call 197
  refine (HT.out _).mono ?_
  rintro e y2 ⟨rfl, hb⟩
  have HM2 := Lib.hid (HM.out.below hb)
  clear hb
  go_wp2_with (first | (refine wpList_store_row rfl 42 (.tmp 6) (.tmp 9) rfl (w.heap.size + 1 + 1) (jmpS s i true).vs rfl rfl 42 s0.vs HM2.out.z i20 rfl (jmpS s i true).vs_one ?_) | fail)
  exact ret_st rfl rfl rfl (bk_row HM2.out.z) ⟨rfl, bel_row HM2.out.b (by omega) _⟩
set_option maxRecDepth 100000 in
set_option maxHeartbeats 1000000 in
theorem mv8t (s : Stt) (i : Ins) (hz : s.zf = true) (v : Int) (w : World) : Calls Tryz.prog 198 #[.agg s.vs, .agg i.vs, .int .u64 v] w fun e w' => e = .returned (.agg (jmpS s i false).vs) ∧ Below w.heap.size w w' := by
  have HZ := Lib.hid hz
  clear hz
  go_enter Tryz.func198, Tryz.ntmps198
  go_upto_region 1 with fail
  rw [s0_vs]
  have HM := Lib.hid (M3.new w s i)
  generalize World.alloc _ _ = W1 at *
  have cf : W1.cell? ⟨w.heap.size, 19, none⟩ = some (.bool true) := by rw [← HZ.out]; exact HM.out.s.cell 19
  have HT := Lib.hid (fun W => jump_f s i W)
  go_wp2_with (first | (refine wpList_load_row rfl 42 (.tmp 3) rfl w.heap.size rfl 42 (s).vs (0, 0) _ HM.out.s Tryz.underlying42 rfl i20 ?_) | (refine wpList_load_row rfl 26 (.tmp 4) rfl (w.heap.size + 1) rfl 26 i.vs (0, 0) _ HM.out.i Tryz.underlying26 rfl i9 ?_) | fail)
  go_at_call 197
  refine (HT.out _).mono ?_
  rintro e y2 ⟨rfl, hb⟩
  have HM2 := Lib.hid (HM.out.below hb)
  clear hb
  go_wp2_with (first | (refine wpList_store_row rfl 42 (.tmp 6) (.tmp 12) rfl (w.heap.size + 1 + 1) (jmpS s i false).vs rfl rfl 42 s0.vs HM2.out.z i20 rfl (jmpS s i false).vs_one ?_) | fail)
  exact ret_st rfl rfl rfl (bk_row HM2.out.z) ⟨rfl, bel_row HM2.out.b (by omega) _⟩
set_option maxRecDepth 100000 in
set_option maxHeartbeats 1000000 in
theorem mv8f (s : Stt) (i : Ins) (hz : s.zf = false) (v : Int) (w : World) : Calls Tryz.prog 198 #[.agg s.vs, .agg i.vs, .int .u64 v] w fun e w' => e = .returned (.agg (jmpS s i true).vs) ∧ Below w.heap.size w w' := by
  have HZ := Lib.hid hz
  clear hz
  go_enter Tryz.func198, Tryz.ntmps198
  go_upto_region 1 with fail
  rw [s0_vs]
  have HM := Lib.hid (M3.new w s i)
  generalize World.alloc _ _ = W1 at *
  have cf : W1.cell? ⟨w.heap.size, 19, none⟩ = some (.bool false) := by rw [← HZ.out]; exact HM.out.s.cell 19
  have HT := Lib.hid (fun W => jump_t s i W)
  go_wp2_with (first | (refine wpList_load_row rfl 42 (.tmp 3) rfl w.heap.size rfl 42 (s).vs (0, 0) _ HM.out.s Tryz.underlying42 rfl i20 ?_) | (refine wpList_load_row rfl 26 (.tmp 4) rfl (w.heap.size + 1) rfl 26 i.vs (0, 0) _ HM.out.i Tryz.underlying26 rfl i9 ?_) | fail)
  go_at_call 197
  refine (HT.out _).mono ?_
  rintro e y2 ⟨rfl, hb⟩
  have HM2 := Lib.hid (HM.out.below hb)
  clear hb
  go_wp2_with (first | (refine wpList_store_row rfl 42 (.tmp 6) (.tmp 12) rfl (w.heap.size + 1 + 1) (jmpS s i true).vs rfl rfl 42 s0.vs HM2.out.z i20 rfl (jmpS s i true).vs_one ?_) | fail)
  exact ret_st rfl rfl rfl (bk_row HM2.out.z) ⟨rfl, bel_row HM2.out.b (by omega) _⟩
set_option maxRecDepth 100000 in
set_option maxHeartbeats 1000000 in
theorem mv9t (s : Stt) (i : Ins) (hz : s.cf = true) (v : Int) (w : World) : Calls Tryz.prog 199 #[.agg s.vs, .agg i.vs, .int .u64 v] w fun e w' => e = .returned (.agg (jmpS s i true).vs) ∧ Below w.heap.size w w' := by
  have HZ := Lib.hid hz
  clear hz
  go_enter Tryz.func199, Tryz.ntmps199
  go_upto_region 1 with fail
  rw [s0_vs]
  have HM := Lib.hid (M3.new w s i)
  generalize World.alloc _ _ = W1 at *
  have cf : W1.cell? ⟨w.heap.size, 17, none⟩ = some (.bool true) := by rw [← HZ.out]; exact HM.out.s.cell 17
  have HT := Lib.hid (fun W => jump_t s i W)
  go_wp2_with (first | (refine wpList_load_row rfl 42 (.tmp 3) rfl w.heap.size rfl 42 (s).vs (0, 0) _ HM.out.s Tryz.underlying42 rfl i20 ?_) | (refine wpList_load_row rfl 26 (.tmp 4) rfl (w.heap.size + 1) rfl 26 i.vs (0, 0) _ HM.out.i Tryz.underlying26 rfl i9 ?_) | fail)
  go_at_call 197
  refine (HT.out _).mono ?_
  rintro e y2 ⟨rfl, hb⟩
  have HM2 := Lib.hid (HM.out.below hb)
  clear hb
  go_wp2_with (first | (refine wpList_store_row rfl 42 (.tmp 6) (.tmp 11) rfl (w.heap.size + 1 + 1) (jmpS s i true).vs rfl rfl 42 s0.vs HM2.out.z i20 rfl (jmpS s i true).vs_one ?_) | fail)
  exact ret_st rfl rfl rfl (bk_row HM2.out.z) ⟨rfl, bel_row HM2.out.b (by omega) _⟩
set_option maxRecDepth 100000 in
set_option maxHeartbeats 1000000 in
theorem mv9f (s : Stt) (i : Ins) (hz : s.cf = false) (v : Int) (w : World) : Calls Tryz.prog 199 #[.agg s.vs, .agg i.vs, .int .u64 v] w fun e w' => e = .returned (.agg (jmpS s i false).vs) ∧ Below w.heap.size w w' := by
  have HZ := Lib.hid hz
  clear hz
  go_enter Tryz.func199, Tryz.ntmps199
  go_upto_region 1 with fail
  rw [s0_vs]
  have HM := Lib.hid (M3.new w s i)
  generalize World.alloc _ _ = W1 at *
  have cf : W1.cell? ⟨w.heap.size, 17, none⟩ = some (.bool false) := by rw [← HZ.out]; exact HM.out.s.cell 17
  have HT := Lib.hid (fun W => jump_f s i W)
  go_wp2_with (first | (refine wpList_load_row rfl 42 (.tmp 3) rfl w.heap.size rfl 42 (s).vs (0, 0) _ HM.out.s Tryz.underlying42 rfl i20 ?_) | (refine wpList_load_row rfl 26 (.tmp 4) rfl (w.heap.size + 1) rfl 26 i.vs (0, 0) _ HM.out.i Tryz.underlying26 rfl i9 ?_) | fail)
  go_at_call 197
  refine (HT.out _).mono ?_
  rintro e y2 ⟨rfl, hb⟩
  have HM2 := Lib.hid (HM.out.below hb)
  clear hb
  go_wp2_with (first | (refine wpList_store_row rfl 42 (.tmp 6) (.tmp 11) rfl (w.heap.size + 1 + 1) (jmpS s i false).vs rfl rfl 42 s0.vs HM2.out.z i20 rfl (jmpS s i false).vs_one ?_) | fail)
  exact ret_st rfl rfl rfl (bk_row HM2.out.z) ⟨rfl, bel_row HM2.out.b (by omega) _⟩
set_option maxRecDepth 100000 in
set_option maxHeartbeats 1000000 in
theorem mv5_l (s : Stt) (i : Ins) (v : Int) (w : World) : Calls Tryz.prog 194 #[.agg s.vs, .agg i.vs, .int .u64 v] w fun e w' => e = .returned (.agg (s.set 4 (u64 (s.r 4 - 8))).vs) ∧ Below w.heap.size w w' := by
  obtain ⟨q, hq⟩ : ∃ q, u64 (s.r 4 - 8) = q := ⟨_, rfl⟩
  rw [hq]
  have HQ := Lib.hid hq
  clear hq
  go_enter Tryz.func194, Tryz.ntmps194
  go_upto_region 1 with fail
  rw [s0_vs]
  have HM := Lib.hid (M3.new w s i)
  generalize World.alloc _ _ = W1 at *
  have c4 : W1.cell? ⟨w.heap.size, 4, none⟩ = some (.int .u64 (s.r 4)) := (HM.out.s.cell 4).trans (s.vs_r (by omega))
  have f4 := HM.out.s.frozen 4
  have hE : IntKind.u64.wrap (s.r 4 - 8) = q := by rw [← HQ.out]; unfold u64; simp only [IntKind.wrap_u64]
  have HM2 := Lib.hid (HM.out.set (d := 4) (by omega) q)
  go_wp2_with (first | (refine wpList_load_row rfl 42 (.tmp 3) rfl w.heap.size rfl 42 (s.set 4 q).vs (0, 0) _ HM2.out.s Tryz.underlying42 rfl i20 ?_) | (refine wpList_store_row rfl 42 (.tmp 6) (.tmp 13) rfl (w.heap.size + 1 + 1) (s.set 4 q).vs rfl rfl 42 s0.vs HM2.out.z i20 rfl (s.set 4 q).vs_one ?_) | fail)
  exact ret_st rfl rfl rfl (bk_row HM2.out.z) ⟨rfl, bel_row HM2.out.b (by omega) _⟩
set_option maxRecDepth 100000 in
set_option maxHeartbeats 1000000 in
theorem mv6_l (s : Stt) (i : Ins) (d : Nat) (hd : d < 16) (hi : i.d = d) (v : Int) (w : World) : Calls Tryz.prog 195 #[.agg s.vs, .agg i.vs, .int .u64 v] w fun e w' => e = .returned (.agg ((s.set 4 (u64 (s.r 4 + 8))).set d v).vs) ∧ Below w.heap.size w w' := by
  obtain ⟨q, hq⟩ : ∃ q, u64 (s.r 4 + 8) = q := ⟨_, rfl⟩
  rw [hq]
  have HQ := Lib.hid hq
  clear hq
  go_enter Tryz.func195, Tryz.ntmps195
  go_upto_region 1 with fail
  rw [s0_vs]
  have HM := Lib.hid (M3.new w s i)
  generalize World.alloc _ _ = W1 at *
  have c4 : W1.cell? ⟨w.heap.size, 4, none⟩ = some (.int .u64 (s.r 4)) := (HM.out.s.cell 4).trans (s.vs_r (by omega))
  have f4 := HM.out.s.frozen 4
  have ci : W1.cell? ⟨w.heap.size + 1, 1, none⟩ = some (.int .i64 (d : Int)) := by rw [← hi]; exact HM.out.i.cell 1
  have hdi : (d : Int) < 16 := by omega
  have hE : IntKind.u64.wrap (s.r 4 + 8) = q := by rw [← HQ.out]; unfold u64; simp only [IntKind.wrap_u64]
  have HM2 := Lib.hid (HM.out.set (d := 4) (by omega) q)
  have cd : (W1.setCell ⟨w.heap.size, 4, none⟩ (.int .u64 q)).cell? ⟨w.heap.size, d, none⟩ = some (.int .u64 ((s.set 4 q).r d)) := (HM2.out.s.cell d).trans ((s.set 4 q).vs_r hd)
  have fd := HM.out.s.frozen d
  have HM3 := Lib.hid (HM2.out.set hd v)
  clear hi
  go_wp2_with (first | (refine wpList_load_row rfl 42 (.tmp 3) rfl w.heap.size rfl 42 ((s.set 4 q).set d v).vs (0, 0) _ HM3.out.s Tryz.underlying42 rfl i20 ?_) | (refine wpList_store_row rfl 42 (.tmp 6) (.tmp 18) rfl (w.heap.size + 1 + 1) ((s.set 4 q).set d v).vs rfl rfl 42 s0.vs HM3.out.z i20 rfl ((s.set 4 q).set d v).vs_one ?_) | fail)
  exact ret_st rfl rfl rfl (bk_row HM3.out.z) ⟨rfl, bel_row HM3.out.b (by omega) _⟩
set_option maxRecDepth 100000 in
set_option maxHeartbeats 1000000 in
theorem mv10_l (s : Stt) (i : Ins) (v : Int) (w : World) : Calls Tryz.prog 200 #[.agg s.vs, .agg i.vs, .int .u64 v] w fun e w' => e = .returned (.agg ({ s.set 4 (u64 (s.r 4 + 8)) with pc := v }).vs) ∧ Below w.heap.size w w' := by
  obtain ⟨q, hq⟩ : ∃ q, u64 (s.r 4 + 8) = q := ⟨_, rfl⟩
  rw [hq]
  have HQ := Lib.hid hq
  clear hq
  go_enter Tryz.func200, Tryz.ntmps200
  go_upto_region 1 with fail
  rw [s0_vs]
  have HM := Lib.hid (M3.new w s i)
  generalize World.alloc _ _ = W1 at *
  have c4 : W1.cell? ⟨w.heap.size, 4, none⟩ = some (.int .u64 (s.r 4)) := (HM.out.s.cell 4).trans (s.vs_r (by omega))
  have f4 := HM.out.s.frozen 4
  have hE : IntKind.u64.wrap (s.r 4 + 8) = q := by rw [← HQ.out]; unfold u64; simp only [IntKind.wrap_u64]
  have HM2 := Lib.hid (HM.out.set (d := 4) (by omega) q)
  have c16 : W1.cell? ⟨w.heap.size, 16, none⟩ = some (.int .u64 s.pc) := HM.out.s.cell 16
  have f16 := HM.out.s.frozen 16
  have HM3 := Lib.hid (HM2.out.setPc v)
  go_wp2_with (first | (refine wpList_load_row rfl 42 (.tmp 3) rfl w.heap.size rfl 42 ({ s.set 4 q with pc := v } : Stt).vs (0, 0) _ HM3.out.s Tryz.underlying42 rfl i20 ?_) | (refine wpList_store_row rfl 42 (.tmp 6) (.tmp 15) rfl (w.heap.size + 1 + 1) ({ s.set 4 q with pc := v } : Stt).vs rfl rfl 42 s0.vs HM3.out.z i20 rfl ({ s.set 4 q with pc := v } : Stt).vs_one ?_) | fail)
  exact ret_st rfl rfl rfl (bk_row HM3.out.z) ⟨rfl, bel_row HM3.out.b (by omega) _⟩
end Sp
end Go.Proofs.YtikbnfhnimjmmaaGreatDoor
