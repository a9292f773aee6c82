/- The landed package step: the functions that move. -/
import Derived.Test.YtikbnfhnimjmmaaGreatDoorS4
import Derived.Test.YtikbnfhnimjmmaaGreatDoorB1
import Derived.Deep.Cut
import Derived.Laws.CopyOwn
namespace Go.Proofs.YtikbnfhnimjmmaaGreatDoor
open Go Go.RowKit Go.Shelf
namespace Sp
open Wd Nt Mm Is
set_option linter.unusedVariables false
set_option linter.unusedSimpArgs false
theorem i20 : (Tryz.prog.info? 42).map (·.size) = some 20 := by kernel_rfl
theorem ret_st {fn : Func} {p : Tmp} {R : Ending → World → Prop} {a : Act} {w : World} {g : Nat} {s : Stt} (h : fn.results = #[.cell p 42]) (hp : a.tmps.getD p undef = .pointer (some ⟨g, 0, none⟩)) (hd : a.defers = [])
    (hb : Bk w g 42 s.vs) (hR : R (.returned (.agg s.vs)) w) : bodyPost Tryz.prog fn R .ret a w :=
  bodyPost_ret (results_cell_row h _ _ g 42 s.vs (0, 0) _ hp hb Tryz.underlying42 rfl i20) hd hR
def s0 : Stt := ⟨fun _ => 0, 0, false, false, false⟩
theorem bk_row {w : World} {g : Nat} {t : TypeId} {cs ds : Array Value} (h : Bk w g t cs) : Bk (w.setRow g ds) g t ds := setRow_heap w g cs ds t (0, 0) h
theorem bel_row {w x : World} (h : Below w.heap.size w x) {g : Nat} (hg : w.heap.size ≤ g) (cs : Array Value) : Below w.heap.size w (x.setRow g cs) := below_setRow h hg cs

theorem s0_vs : (#[.int .u64 0, .int .u64 0, .int .u64 0, .int .u64 0, .int .u64 0, .int .u64 0, .int .u64 0, .int .u64 0, .int .u64 0, .int .u64 0, .int .u64 0, .int .u64 0, .int .u64 0, .int .u64 0, .int .u64 0, .int .u64 0, .int .u64 0, .bool false, .bool false, .bool false] : Array Value) = s0.vs := rfl
/-- the three blocks that a function that moves lays first: the state, the instruction, the state to be handed back -/
structure M3 (w : World) (s : Stt) (i : Ins) (W : World) : Prop where
  s : Bk W w.heap.size 42 s.vs
  i : Bk W (w.heap.size + 1) 26 i.vs
  z : Bk W (w.heap.size + 1 + 1) 42 s0.vs
  b : Below w.heap.size w W
theorem M3.new (w : World) (s : Stt) (i : Ins) : M3 w s i (((w.alloc (.cells s.vs 42)).alloc (.cells i.vs 26)).alloc (.cells s0.vs 42)) :=
  ⟨((Bk.new w _ _).alloc _).alloc _, (Bk.new' (w := w.alloc _) (by simp)).alloc _, Bk.new' (w := (w.alloc _).alloc _) (by simp), bel_al (bel_al (bel_alloc _) _) _⟩
theorem M3.set {w W : World} {s : Stt} {i : Ins} (h : M3 w s i W) {d : Nat} (hd : d < 16) (v : Int) : M3 w (s.set d v) i (W.setCell ⟨w.heap.size, d, none⟩ (.int .u64 v)) :=
  ⟨by rw [← s.vs_set hd v]; exact h.s.set_ d _, h.i.far (by show w.heap.size + 1 ≠ w.heap.size; omega) _, h.z.far (by show w.heap.size + 1 + 1 ≠ w.heap.size; omega) _, h.b.setCell (Nat.le_refl _) _⟩
theorem M3.setPc {w W : World} {s : Stt} {i : Ins} (h : M3 w s i W) (v : Int) : M3 w { s with pc := v } i (W.setCell ⟨w.heap.size, 16, none⟩ (.int .u64 v)) :=
  ⟨by rw [← s.vs_setPc v]; exact h.s.set_ 16 _, h.i.far (by show w.heap.size + 1 ≠ w.heap.size; omega) _, h.z.far (by show w.heap.size + 1 + 1 ≠ w.heap.size; omega) _, h.b.setCell (Nat.le_refl _) _⟩
theorem M3.drew {w W : World} {s : Stt} {i : Ins} (h : M3 w s i W) : M3 w s i W.drew := ⟨h.s, h.i, h.z, h.b.drew⟩
theorem M3.below {w W X : World} {s : Stt} {i : Ins} (h : M3 w s i W) (hb : Below W.heap.size W X) : M3 w s i X :=
  ⟨h.s.below hb h.s.lt, h.i.below hb h.i.lt, h.z.below hb h.z.lt, bel_tr h.b hb⟩

set_option maxRecDepth 100000 in
set_option maxHeartbeats 1000000 in
theorem mv2_l (s : Stt) (i : Ins) (v : Int) (w : World) : Calls Tryz.prog 190 #[.agg s.vs, .agg i.vs, .int .u64 v] w fun e w' => e = .returned (.agg s.vs) ∧ Below w.heap.size w w' := by
  go_enter Tryz.func190, Tryz.ntmps190
  go_upto_region 1 with fail
  rw [s0_vs]
  have HM := Lib.hid (M3.new w s i)
  generalize World.alloc _ _ = W1 at *
  go_wp2_with (first | (refine wpList_load_row rfl 42 (.tmp 3) rfl w.heap.size rfl 42 s.vs (0, 0) _ HM.out.s Tryz.underlying42 rfl i20 ?_) | (refine wpList_store_row rfl 42 (.tmp 6) (.tmp 7) rfl (w.heap.size + 1 + 1) s.vs rfl rfl 42 s0.vs HM.out.z i20 rfl s.vs_one ?_) | fail)
  exact ret_st rfl rfl rfl (bk_row HM.out.z) ⟨rfl, bel_row HM.out.b (by omega) _⟩
set_option maxRecDepth 100000 in
set_option maxHeartbeats 1000000 in
theorem mv1_l (s : Stt) (i : Ins) (d : Nat) (hd : d < 16) (hi : i.d = d) (v : Int) (w : World) : Calls Tryz.prog 189 #[.agg s.vs, .agg i.vs, .int .u64 v] w fun e w' => e = .returned (.agg (s.set d v).vs) ∧ Below w.heap.size w w' := by
  go_enter Tryz.func189, Tryz.ntmps189
  go_upto_region 1 with fail
  rw [s0_vs]
  have HM := Lib.hid (M3.new w s i)
  generalize World.alloc _ _ = W1 at *
  have c0 : W1.cell? ⟨w.heap.size + 1, 1, none⟩ = some (.int .i64 (d : Int)) := by rw [← hi]; exact HM.out.i.cell 1
  have c1 : W1.cell? ⟨w.heap.size, d, none⟩ = some (.int .u64 (s.r d)) := (HM.out.s.cell d).trans (s.vs_r hd)
  have f1 := HM.out.s.frozen d
  have hdi : (d : Int) < 16 := by omega
  have HM2 := Lib.hid (HM.out.set hd v)
  clear hi
  go_wp2_with (first | (refine wpList_load_row rfl 42 (.tmp 3) rfl w.heap.size rfl 42 (s.set d v).vs (0, 0) _ HM2.out.s Tryz.underlying42 rfl i20 ?_) | (refine wpList_store_row rfl 42 (.tmp 6) (.tmp 12) rfl (w.heap.size + 1 + 1) (s.set d v).vs rfl rfl 42 s0.vs HM2.out.z i20 rfl (s.set d v).vs_one ?_) | fail)
  exact ret_st rfl rfl rfl (bk_row HM2.out.z) ⟨rfl, bel_row HM2.out.b (by omega) _⟩
/-! ### registers, addresses -/
set_option maxRecDepth 100000 in
theorem held_l (s : Stt) (r : Int) (g : Nat) (w : World) (h : Bk w g 42 s.vs) : Calls Tryz.prog 67 #[.pointer (some ⟨g, 0, none⟩), .int .i64 r] w fun e w' => e = .returned (.int .u64 (held s r)) ∧ w' = w := by
  by_cases h0 : r < 0
  · have e : held s r = 0 := by unfold held; rw [if_neg (by omega)]
    rw [e]
    go_enter Tryz.func67, Tryz.ntmps67
    go_wp2_with fail
    go_ret
    exact ⟨rfl, rfl⟩
  · by_cases h1 : 16 ≤ r
    · have e : held s r = 0 := by unfold held; rw [if_neg (by omega)]
      rw [e]
      go_enter Tryz.func67, Tryz.ntmps67
      go_wp2_with fail
      go_ret
      exact ⟨rfl, rfl⟩
    · obtain ⟨d, rfl, hd⟩ : ∃ d : Nat, r = (d : Int) ∧ d < 16 := ⟨r.toNat, by omega, by omega⟩
      have e : held s (d : Int) = s.r d := by unfold held; rw [if_pos (by omega)]; rfl
      rw [e]
      have c1 : w.cell? ⟨g, d, none⟩ = some (.int .u64 (s.r d)) := (h.cell d).trans (s.vs_r hd)
      have hdi : (d : Int) < 16 := by omega
      have h1' : ¬ (16 : Int) ≤ (d : Int) := h1
      clear h0 h1 e h
      go_enter Tryz.func67, Tryz.ntmps67
      go_wp2_with fail
      go_ret
      exact ⟨rfl, rfl⟩
def memV (b x sc di : Int) : Array Value := #[.int .i64 b, .int .i64 x, .int .i64 sc, .int .i64 di]
set_option maxRecDepth 100000 in
set_option maxHeartbeats 1000000 in
theorem addr_l (s : Stt) (b x sc di : Int) (w : World) : Calls Tryz.prog 24 #[.agg s.vs, .agg #[.int .i64 b, .int .i64 x, .int .i64 sc, .int .i64 di]] w fun e w' => e = .returned (.int .u64 (addr s b x sc di)) ∧ Below w.heap.size w w' := by
  have HE : Hid (IntKind.u64.wrap (IntKind.u64.wrap (held s b + IntKind.u64.wrap (held s x * IntKind.u64.wrap sc)) + IntKind.u64.wrap di) = addr s b x sc di) := Lib.hid (by unfold addr u64; simp only [IntKind.wrap_u64])
  go_enter Tryz.func24, Tryz.ntmps24
  go_upto_region 1 with fail
  have HS : Hid (Bk ((w.alloc (.cells s.vs 42)).alloc (.cells #[.int .i64 b, .int .i64 x, .int .i64 sc, .int .i64 di] 24)) w.heap.size 42 s.vs) := Lib.hid ((Bk.new w _ _).alloc _)
  have HP : Hid (Bk ((w.alloc (.cells s.vs 42)).alloc (.cells #[.int .i64 b, .int .i64 x, .int .i64 sc, .int .i64 di] 24)) (w.heap.size + 1) 24 #[.int .i64 b, .int .i64 x, .int .i64 sc, .int .i64 di]) := Lib.hid (Bk.new' (w := w.alloc _) (by simp))
  have HB : Hid (Below w.heap.size w ((w.alloc (.cells s.vs 42)).alloc (.cells #[.int .i64 b, .int .i64 x, .int .i64 sc, .int .i64 di] 24))) := Lib.hid (bel_al (bel_alloc _) _)
  generalize World.alloc _ _ = W1 at *
  have K1 := held_l s b w.heap.size W1.drew HS.out.drew
  have K2 := held_l s x w.heap.size W1.drew HS.out.drew
  generalize held s b = hb at *
  generalize held s x = hx at *
  have c0 : W1.drew.cell? ⟨w.heap.size + 1, 0, none⟩ = some (.int .i64 b) := HP.out.cell 0
  have c1 : W1.drew.cell? ⟨w.heap.size + 1, 1, none⟩ = some (.int .i64 x) := HP.out.cell 1
  have c2 : W1.drew.cell? ⟨w.heap.size + 1, 2, none⟩ = some (.int .i64 sc) := HP.out.cell 2
  have c3 : W1.drew.cell? ⟨w.heap.size + 1, 3, none⟩ = some (.int .i64 di) := HP.out.cell 3
  refine wp_region_still_tail 15 (by kernel_rfl) (by kernel_rfl) ?_
  simp only [List.take_succ_cons, List.take_zero, List.drop_succ_cons, List.drop_zero]
  iterate 2 still_step
  still_call K1
  iterate 2 still_step
  still_call K2
  iterate 9 still_step
  refine wpStill_nil ?_
  rw [HE.out]
  clear K1 K2 HE
  go_wp2_with fail
  go_ret
  exact ⟨rfl, HB.out.drew⟩
end Sp
end Go.Proofs.YtikbnfhnimjmmaaGreatDoor
