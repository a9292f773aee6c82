/- The landed package step: jumps, what is taken beside D, what is touched, where it goes on. -/
import Derived.Test.YtikbnfhnimjmmaaGreatDoorS8
import Derived.Test.YtikbnfhnimjmmaaGreatDoorJ4
namespace Go.Proofs.YtikbnfhnimjmmaaGreatDoor
open Go Go.RowKit Go.Shelf
namespace Sp
open Wd Nt Mm Is
set_option linter.unusedVariables false
set_option linter.unusedSimpArgs false
set_option maxRecDepth 100000 in
set_option maxHeartbeats 1000000 in
theorem ijump_l (i : Ins) (hi : i.wf) (w : World) (hT : Tab w) : Calls Tryz.prog 144 #[.agg i.vs] w fun e w' => e = .returned (.bool (jmpB i)) ∧ Below w.heap.size w w' := by
  by_cases hop : i.op = 30 ∨ i.op = 31 ∨ i.op = 32
  · have e1 : jmpB i = okI i := by
      unfold jmpB
      have : (decide (i.op = 30) || decide (i.op = 31) || decide (i.op = 32)) = true := by simp; omega
      rw [this, Bool.and_true]
    rw [e1]
    have K := Lib.hid (fun W h => check_l i hi W h)
    have HC : Hid (chk i = if okI i then 0 else 2) := Lib.hid rfl
    generalize okI i = ok at *
    have HE : Hid ((chk i == 0) = ok) := Lib.hid (by rw [HC.out]; cases ok <;> rfl)
    generalize chk i = r at *
    have HT := Lib.hid hT
    clear hT e1 HC
    rcases hop with h | h | h
    all_goals
      go_enter Tryz.func144, Tryz.ntmps144
      go_upto_region 1 with fail
      have HB := Lib.hid (Bk.new w 26 i.vs)
      have HW := Lib.hid (bel_alloc (w := w) (.cells i.vs 26))
      have HT1 := Lib.hid (HT.out.keep HW.out)
      generalize World.alloc _ _ = W1 at *
      have c0 := HB.out.cell 0
      change _ = some (Value.int .i64 i.op) at c0
      rw [h] at c0
      clear h HT
      go_wp2_with (first | (refine wpList_load_row rfl 26 (.tmp 1) rfl w.heap.size rfl 26 i.vs (0, 0) _ HB.out Tryz.underlying26 rfl i9 ?_) | (go_at_call 112; refine (K.out _ HT1.out).mono ?_; rintro e y ⟨rfl, hg⟩; have HG := Lib.hid hg.below; clear hg) | fail)
      go_ret
      exact ⟨ret_b HE.out, bel_tr HW.out HG.out⟩
  · have e1 : jmpB i = false := by
      unfold jmpB
      have : (decide (i.op = 30) || decide (i.op = 31) || decide (i.op = 32)) = false := by simp; omega
      rw [this, Bool.and_false]
    rw [e1]
    have n0 : (i.op == 30) = false := by rw [beq_eq_false_iff_ne]; omega
    have n1 : (i.op == 31) = false := by rw [beq_eq_false_iff_ne]; omega
    have n2 : (i.op == 32) = false := by rw [beq_eq_false_iff_ne]; omega
    clear hop e1
    go_enter Tryz.func144, Tryz.ntmps144
    go_upto_region 1 with fail
    have HB := Lib.hid (Bk.new w 26 i.vs)
    have HW := Lib.hid (bel_alloc (w := w) (.cells i.vs 26))
    generalize World.alloc _ _ = W1 at *
    have c0 := HB.out.cell 0
    change _ = some (Value.int .i64 i.op) at c0
    go_wp2_with fail
    go_ret
    exact ⟨rfl, HW.out⟩
theorem ops7 {op : Int} (h : ¬ (op = 2 ∨ (15 ≤ op ∧ op ≤ 18) ∨ op = 24 ∨ op = 25)) : (op == 2) = false ∧ (op == 15) = false ∧ (op == 16) = false ∧ (op == 17) = false ∧ (op == 18) = false ∧ (op == 24) = false ∧ (op == 25) = false := by
  refine ⟨?_, ?_, ?_, ?_, ?_, ?_, ?_⟩ <;> (rw [beq_eq_false_iff_ne]; omega)
set_option maxRecDepth 100000 in
set_option maxHeartbeats 1000000 in
theorem second_l (s : Stt) (i : Ins) (c : Nat) (hc : c < 16) (hi : i.s = c) (g : Nat) (w : World) (hs : Bk w g 42 s.vs) : Calls Tryz.prog 119 #[.pointer (some ⟨g, 0, none⟩), .agg i.vs] w fun e w' => e = .returned (.int .u64 (secd s i)) ∧ Below w.heap.size w w' := by
  have HS := Lib.hid (hs.alloc (.cells i.vs 26))
  clear hs
  by_cases hop : i.op = 2 ∨ (15 ≤ i.op ∧ i.op ≤ 18) ∨ i.op = 24 ∨ i.op = 25
  · have e1 : secd s i = IntKind.u64.wrap i.im := by unfold secd; rw [if_pos hop, IntKind.wrap_u64]; rfl
    rw [e1]
    have h7 : i.op = 2 ∨ i.op = 15 ∨ i.op = 16 ∨ i.op = 17 ∨ i.op = 18 ∨ i.op = 24 ∨ i.op = 25 := by omega
    clear hop e1
    rcases h7 with h | h | h | h | h | h | h
    all_goals
      go_enter Tryz.func119, Tryz.ntmps119
      go_upto_region 1 with fail
      have HB := Lib.hid (Bk.new w 26 i.vs)
      have HW := Lib.hid (bel_alloc (w := w) (.cells i.vs 26))
      generalize World.alloc _ _ = W1 at *
      have c0 := HB.out.cell 0
      change _ = some (Value.int .i64 i.op) at c0
      rw [h] at c0
      have c8 := HB.out.cell 8
      change _ = some (Value.int .i64 i.im) at c8
      clear h
      go_wp2_with fail
      go_ret
      exact ⟨rfl, HW.out⟩
  · have e1 : secd s i = s.r c := by unfold secd; rw [if_neg hop, hi]; rfl
    rw [e1]
    obtain ⟨n0, n1, n2, n3, n4, n5, n6⟩ := ops7 hop
    have hci : (c : Int) < 16 := by omega
    clear hop e1
    go_enter Tryz.func119, Tryz.ntmps119
    go_upto_region 1 with fail
    have HB := Lib.hid (Bk.new w 26 i.vs)
    have HW := Lib.hid (bel_alloc (w := w) (.cells i.vs 26))
    generalize World.alloc _ _ = W1 at *
    have c0 := HB.out.cell 0
    change _ = some (Value.int .i64 i.op) at c0
    go_wp2_with fail
    have c2 := HB.out.cell 2
    change _ = some (Value.int .i64 i.s) at c2
    rw [hi] at c2
    have c2 : W1.drew.cell? ⟨w.heap.size, 2, none⟩ = some (.int .i64 (c : Int)) := c2
    have cc : W1.drew.cell? ⟨g, c, none⟩ = some (.int .u64 (s.r c)) := (HS.out.cell c).trans (s.vs_r hc)
    clear c0 n0 n1 n2 n3 n4 n5 n6
    refine wp_region_still_tail 7 (by kernel_rfl) (by kernel_rfl) ?_
    simp only [List.take_succ_cons, List.take_zero, List.drop_succ_cons, List.drop_zero]
    iterate 7 still_step
    refine wpStill_nil ?_
    go_wp2_with fail
    go_ret
    exact ⟨rfl, HW.out.drew⟩
/-! ### events -/
theorem i2 : (Tryz.prog.info? 51).map (·.size) = some 2 := by kernel_rfl
theorem ret_ev {fn : Func} {p : Tmp} {R : Ending → World → Prop} {a : Act} {w : World} {g : Nat} {v : Ev} (h : fn.results = #[.cell p 51]) (hp : a.tmps.getD p undef = .pointer (some ⟨g, 0, none⟩)) (hd : a.defers = [])
    (hb : Bk w g 51 v.vs) (hR : R (.returned (.agg v.vs)) w) : bodyPost Tryz.prog fn R .ret a w :=
  bodyPost_ret (results_cell_row h _ _ g 51 v.vs (0, 0) _ hp hb Tryz.underlying51 rfl i2) hd hR
theorem ev2 {w : World} {g : Nat} {v : Ev} (h : Bk w g 51 v.vs) : w.cell? ⟨g, 0, none⟩ = some (.int .i64 v.k) ∧ w.cell? ⟨g, 1, none⟩ = some (.int .u64 v.a) ∧ w.frozen? ⟨g, 0, none⟩ = false ∧ w.frozen? ⟨g, 1, none⟩ = false := ⟨h.cell 0, h.cell 1, h.frozen 0, h.frozen 1⟩
theorem ev_set {w : World} {g : Nat} {v : Ev} (h : Bk w g 51 v.vs) (k a : Int) : Bk ((w.setCell ⟨g, 0, none⟩ (.int .i64 k)).setCell ⟨g, 1, none⟩ (.int .u64 a)) g 51 (Ev.vs ⟨k, a⟩) := (h.set_ 0 _).set_ 1 _
theorem ops5 {op : Int} (h : ¬ (op = 3 ∨ op = 4 ∨ op = 28 ∨ op = 29 ∨ op = 33)) : (op == 3) = false ∧ (op == 4) = false ∧ (op == 28) = false ∧ (op == 29) = false ∧ (op == 33) = false := by
  refine ⟨?_, ?_, ?_, ?_, ?_⟩ <;> (rw [beq_eq_false_iff_ne]; omega)
set_option maxRecDepth 100000 in
set_option maxHeartbeats 1000000 in
theorem touch_l (s : Stt) (i : Ins) (w : World) : Calls Tryz.prog 63 #[.agg s.vs, .agg i.vs] w fun e w' => e = .returned (.agg (tch s i).vs) ∧ Below w.heap.size w w' := by
  by_cases hop : i.op = 3 ∨ i.op = 4 ∨ i.op = 28 ∨ i.op = 29 ∨ i.op = 33
  · rcases hop with h | h | h | h | h
    · have e1 : tch s i = ⟨2, atI i s⟩ := by unfold tch; rw [if_pos h]
      rw [e1]
      have K1 : Hid (∀ W, Calls Tryz.prog 24 #[.agg s.vs, .agg #[.int .i64 i.b, .int .i64 i.x, .int .i64 i.sc, .int .i64 i.di]] W fun e w' => e = .returned (.int .u64 (atI i s)) ∧ Below W.heap.size W w') := Lib.hid (fun W => addr_l s i.b i.x i.sc i.di W)
      generalize atI i s = q at *
      clear e1
      go_enter Tryz.func63, Tryz.ntmps63
      go_upto_region 1 with fail
      have HS := Lib.hid (((Bk.new w 42 s.vs).alloc (.cells i.vs 26)).alloc (.cells (Ev.vs ev0) 51))
      have HI := Lib.hid ((Bk.new' (w := w.alloc (.cells s.vs 42)) (t := 26) (cs := i.vs) (g := w.heap.size + 1) (by simp)).alloc (.cells (Ev.vs ev0) 51))
      have HZ := Lib.hid (Bk.new' (w := (w.alloc (.cells s.vs 42)).alloc (.cells i.vs 26)) (t := 51) (cs := Ev.vs ev0) (g := w.heap.size + 1 + 1) (by simp))
      have HW := Lib.hid (bel_al (bel_al (bel_alloc (w := w) (.cells s.vs 42)) (.cells i.vs 26)) (.cells (Ev.vs ev0) 51))
      change Code.wp _ _ _ _ (((w.alloc (.cells s.vs 42)).alloc (.cells i.vs 26)).alloc (.cells (Ev.vs ev0) 51))
      generalize World.alloc _ _ = W1 at *
      have c0 := HI.out.cell 0
      change _ = some (Value.int .i64 i.op) at c0
      rw [h] at c0
      clear h
      obtain ⟨z0, z1, f0, f1⟩ := ev2 HZ.out
      change _ = some (Value.int .i64 0) at z0
      change _ = some (Value.int .u64 0) at z1
      have c4 : W1.cell? ⟨w.heap.size + 1, 4, none⟩ = some (.int .i64 i.b) := HI.out.cell 4
      have c5 : W1.cell? ⟨w.heap.size + 1, 5, none⟩ = some (.int .i64 i.x) := HI.out.cell 5
      have c6 : W1.cell? ⟨w.heap.size + 1, 6, none⟩ = some (.int .i64 i.sc) := HI.out.cell 6
      have c7 : W1.cell? ⟨w.heap.size + 1, 7, none⟩ = some (.int .i64 i.di) := HI.out.cell 7
      go_wp2_with (first | (refine wpList_load_row rfl 42 (.tmp 2) rfl w.heap.size rfl 42 s.vs (0, 0) _ HS.out Tryz.underlying42 rfl i20 ?_) | fail)
      go_at_call 24
      refine (K1.out _).mono ?_
      rintro e y2 ⟨rfl, hb⟩
      have HZ2 := Lib.hid (HZ.out.below hb HZ.out.lt)
      have HW2 := Lib.hid (bel_tr HW.out hb)
      clear hb z0 z1 f0 f1 c0 c4 c5 c6 c7
      obtain ⟨z0, z1, f0, f1⟩ := ev2 HZ2.out
      change _ = some (Value.int .i64 0) at z0
      change _ = some (Value.int .u64 0) at z1
      go_wp2_with fail
      exact ret_ev rfl rfl rfl (ev_set HZ2.out _ _) ⟨rfl, (HW2.out.setCell (by show w.heap.size ≤ w.heap.size + 1 + 1; omega) _).setCell (by show w.heap.size ≤ w.heap.size + 1 + 1; omega) _⟩
    · have e1 : tch s i = ⟨3, atI i s⟩ := by unfold tch; rw [if_neg (by omega), if_pos h]
      rw [e1]
      have K1 : Hid (∀ W, Calls Tryz.prog 24 #[.agg s.vs, .agg #[.int .i64 i.b, .int .i64 i.x, .int .i64 i.sc, .int .i64 i.di]] W fun e w' => e = .returned (.int .u64 (atI i s)) ∧ Below W.heap.size W w') := Lib.hid (fun W => addr_l s i.b i.x i.sc i.di W)
      generalize atI i s = q at *
      clear e1
      go_enter Tryz.func63, Tryz.ntmps63
      go_upto_region 1 with fail
      have HS := Lib.hid (((Bk.new w 42 s.vs).alloc (.cells i.vs 26)).alloc (.cells (Ev.vs ev0) 51))
      have HI := Lib.hid ((Bk.new' (w := w.alloc (.cells s.vs 42)) (t := 26) (cs := i.vs) (g := w.heap.size + 1) (by simp)).alloc (.cells (Ev.vs ev0) 51))
      have HZ := Lib.hid (Bk.new' (w := (w.alloc (.cells s.vs 42)).alloc (.cells i.vs 26)) (t := 51) (cs := Ev.vs ev0) (g := w.heap.size + 1 + 1) (by simp))
      have HW := Lib.hid (bel_al (bel_al (bel_alloc (w := w) (.cells s.vs 42)) (.cells i.vs 26)) (.cells (Ev.vs ev0) 51))
      change Code.wp _ _ _ _ (((w.alloc (.cells s.vs 42)).alloc (.cells i.vs 26)).alloc (.cells (Ev.vs ev0) 51))
      generalize World.alloc _ _ = W1 at *
      have c0 := HI.out.cell 0
      change _ = some (Value.int .i64 i.op) at c0
      rw [h] at c0
      clear h
      obtain ⟨z0, z1, f0, f1⟩ := ev2 HZ.out
      change _ = some (Value.int .i64 0) at z0
      change _ = some (Value.int .u64 0) at z1
      have c4 : W1.cell? ⟨w.heap.size + 1, 4, none⟩ = some (.int .i64 i.b) := HI.out.cell 4
      have c5 : W1.cell? ⟨w.heap.size + 1, 5, none⟩ = some (.int .i64 i.x) := HI.out.cell 5
      have c6 : W1.cell? ⟨w.heap.size + 1, 6, none⟩ = some (.int .i64 i.sc) := HI.out.cell 6
      have c7 : W1.cell? ⟨w.heap.size + 1, 7, none⟩ = some (.int .i64 i.di) := HI.out.cell 7
      go_wp2_with (first | (refine wpList_load_row rfl 42 (.tmp 2) rfl w.heap.size rfl 42 s.vs (0, 0) _ HS.out Tryz.underlying42 rfl i20 ?_) | fail)
      go_at_call 24
      refine (K1.out _).mono ?_
      rintro e y2 ⟨rfl, hb⟩
      have HZ2 := Lib.hid (HZ.out.below hb HZ.out.lt)
      have HW2 := Lib.hid (bel_tr HW.out hb)
      clear hb z0 z1 f0 f1 c0 c4 c5 c6 c7
      obtain ⟨z0, z1, f0, f1⟩ := ev2 HZ2.out
      change _ = some (Value.int .i64 0) at z0
      change _ = some (Value.int .u64 0) at z1
      go_wp2_with fail
      exact ret_ev rfl rfl rfl (ev_set HZ2.out _ _) ⟨rfl, (HW2.out.setCell (by show w.heap.size ≤ w.heap.size + 1 + 1; omega) _).setCell (by show w.heap.size ≤ w.heap.size + 1 + 1; omega) _⟩
    · have e1 : tch s i = ⟨3, u64 (s.r 4 - 8)⟩ := by unfold tch; rw [if_neg (by omega), if_neg (by omega), if_pos h]
      rw [e1]
      have hE : IntKind.u64.wrap (s.r 4 - 8) = u64 (s.r 4 - 8) := by unfold u64; simp only [IntKind.wrap_u64]
      generalize u64 (s.r 4 - 8) = q at *
      clear e1
      go_enter Tryz.func63, Tryz.ntmps63
      go_upto_region 1 with fail
      have HS := Lib.hid (((Bk.new w 42 s.vs).alloc (.cells i.vs 26)).alloc (.cells (Ev.vs ev0) 51))
      have HI := Lib.hid ((Bk.new' (w := w.alloc (.cells s.vs 42)) (t := 26) (cs := i.vs) (g := w.heap.size + 1) (by simp)).alloc (.cells (Ev.vs ev0) 51))
      have HZ := Lib.hid (Bk.new' (w := (w.alloc (.cells s.vs 42)).alloc (.cells i.vs 26)) (t := 51) (cs := Ev.vs ev0) (g := w.heap.size + 1 + 1) (by simp))
      have HW := Lib.hid (bel_al (bel_al (bel_alloc (w := w) (.cells s.vs 42)) (.cells i.vs 26)) (.cells (Ev.vs ev0) 51))
      change Code.wp _ _ _ _ (((w.alloc (.cells s.vs 42)).alloc (.cells i.vs 26)).alloc (.cells (Ev.vs ev0) 51))
      generalize World.alloc _ _ = W1 at *
      have c0 := HI.out.cell 0
      change _ = some (Value.int .i64 i.op) at c0
      rw [h] at c0
      clear h
      obtain ⟨z0, z1, f0, f1⟩ := ev2 HZ.out
      change _ = some (Value.int .i64 0) at z0
      change _ = some (Value.int .u64 0) at z1
      have c4 : W1.cell? ⟨w.heap.size, 4, none⟩ = some (.int .u64 (s.r 4)) := HS.out.cell 4
      go_wp2_with fail
      exact ret_ev rfl rfl rfl (ev_set HZ.out _ _) ⟨rfl, (HW.out.setCell (by show w.heap.size ≤ w.heap.size + 1 + 1; omega) _).setCell (by show w.heap.size ≤ w.heap.size + 1 + 1; omega) _⟩
    · have e1 : tch s i = ⟨2, s.r 4⟩ := by unfold tch; rw [if_neg (by omega), if_neg (by omega), if_neg (by omega), if_pos (by omega)]
      rw [e1]
      clear e1
      go_enter Tryz.func63, Tryz.ntmps63
      go_upto_region 1 with fail
      have HS := Lib.hid (((Bk.new w 42 s.vs).alloc (.cells i.vs 26)).alloc (.cells (Ev.vs ev0) 51))
      have HI := Lib.hid ((Bk.new' (w := w.alloc (.cells s.vs 42)) (t := 26) (cs := i.vs) (g := w.heap.size + 1) (by simp)).alloc (.cells (Ev.vs ev0) 51))
      have HZ := Lib.hid (Bk.new' (w := (w.alloc (.cells s.vs 42)).alloc (.cells i.vs 26)) (t := 51) (cs := Ev.vs ev0) (g := w.heap.size + 1 + 1) (by simp))
      have HW := Lib.hid (bel_al (bel_al (bel_alloc (w := w) (.cells s.vs 42)) (.cells i.vs 26)) (.cells (Ev.vs ev0) 51))
      change Code.wp _ _ _ _ (((w.alloc (.cells s.vs 42)).alloc (.cells i.vs 26)).alloc (.cells (Ev.vs ev0) 51))
      generalize World.alloc _ _ = W1 at *
      have c0 := HI.out.cell 0
      change _ = some (Value.int .i64 i.op) at c0
      rw [h] at c0
      clear h
      obtain ⟨z0, z1, f0, f1⟩ := ev2 HZ.out
      change _ = some (Value.int .i64 0) at z0
      change _ = some (Value.int .u64 0) at z1
      have c4 : W1.cell? ⟨w.heap.size, 4, none⟩ = some (.int .u64 (s.r 4)) := HS.out.cell 4
      go_wp2_with fail
      exact ret_ev rfl rfl rfl (ev_set HZ.out _ _) ⟨rfl, (HW.out.setCell (by show w.heap.size ≤ w.heap.size + 1 + 1; omega) _).setCell (by show w.heap.size ≤ w.heap.size + 1 + 1; omega) _⟩
    · have e1 : tch s i = ⟨2, s.r 4⟩ := by unfold tch; rw [if_neg (by omega), if_neg (by omega), if_neg (by omega), if_pos (by omega)]
      rw [e1]
      clear e1
      go_enter Tryz.func63, Tryz.ntmps63
      go_upto_region 1 with fail
      have HS := Lib.hid (((Bk.new w 42 s.vs).alloc (.cells i.vs 26)).alloc (.cells (Ev.vs ev0) 51))
      have HI := Lib.hid ((Bk.new' (w := w.alloc (.cells s.vs 42)) (t := 26) (cs := i.vs) (g := w.heap.size + 1) (by simp)).alloc (.cells (Ev.vs ev0) 51))
      have HZ := Lib.hid (Bk.new' (w := (w.alloc (.cells s.vs 42)).alloc (.cells i.vs 26)) (t := 51) (cs := Ev.vs ev0) (g := w.heap.size + 1 + 1) (by simp))
      have HW := Lib.hid (bel_al (bel_al (bel_alloc (w := w) (.cells s.vs 42)) (.cells i.vs 26)) (.cells (Ev.vs ev0) 51))
      change Code.wp _ _ _ _ (((w.alloc (.cells s.vs 42)).alloc (.cells i.vs 26)).alloc (.cells (Ev.vs ev0) 51))
      generalize World.alloc _ _ = W1 at *
      have c0 := HI.out.cell 0
      change _ = some (Value.int .i64 i.op) at c0
      rw [h] at c0
      clear h
      obtain ⟨z0, z1, f0, f1⟩ := ev2 HZ.out
      change _ = some (Value.int .i64 0) at z0
      change _ = some (Value.int .u64 0) at z1
      have c4 : W1.cell? ⟨w.heap.size, 4, none⟩ = some (.int .u64 (s.r 4)) := HS.out.cell 4
      go_wp2_with fail
      exact ret_ev rfl rfl rfl (ev_set HZ.out _ _) ⟨rfl, (HW.out.setCell (by show w.heap.size ≤ w.heap.size + 1 + 1; omega) _).setCell (by show w.heap.size ≤ w.heap.size + 1 + 1; omega) _⟩
  · have e1 : tch s i = ev0 := by unfold tch; rw [if_neg (by omega), if_neg (by omega), if_neg (by omega), if_neg (by omega)]
    obtain ⟨n0, n1, n2, n3, n4⟩ := ops5 hop
    rw [e1]
    clear hop e1
    go_enter Tryz.func63, Tryz.ntmps63
    go_upto_region 1 with fail
    have HS := Lib.hid (((Bk.new w 42 s.vs).alloc (.cells i.vs 26)).alloc (.cells (Ev.vs ev0) 51))
    have HI := Lib.hid ((Bk.new' (w := w.alloc (.cells s.vs 42)) (t := 26) (cs := i.vs) (g := w.heap.size + 1) (by simp)).alloc (.cells (Ev.vs ev0) 51))
    have HZ := Lib.hid (Bk.new' (w := (w.alloc (.cells s.vs 42)).alloc (.cells i.vs 26)) (t := 51) (cs := Ev.vs ev0) (g := w.heap.size + 1 + 1) (by simp))
    have HW := Lib.hid (bel_al (bel_al (bel_alloc (w := w) (.cells s.vs 42)) (.cells i.vs 26)) (.cells (Ev.vs ev0) 51))
    change Code.wp _ _ _ _ (((w.alloc (.cells s.vs 42)).alloc (.cells i.vs 26)).alloc (.cells (Ev.vs ev0) 51))
    generalize World.alloc _ _ = W1 at *
    have c0 := HI.out.cell 0
    change _ = some (Value.int .i64 i.op) at c0
    obtain ⟨z0, z1, f0, f1⟩ := ev2 HZ.out
    change _ = some (Value.int .i64 0) at z0
    change _ = some (Value.int .u64 0) at z1
    go_wp2_with fail
    exact ret_ev rfl rfl rfl (ev_set HZ.out _ _) ⟨rfl, (HW.out.setCell (by show w.heap.size ≤ w.heap.size + 1 + 1; omega) _).setCell (by show w.heap.size ≤ w.heap.size + 1 + 1; omega) _⟩
set_option maxRecDepth 100000 in
set_option maxHeartbeats 1000000 in
theorem goes_l (i : Ins) (hi : i.wf) (n : Stt) (w : World) (hT : Tab w) : Calls Tryz.prog 120 #[.agg i.vs, .agg n.vs] w fun e w' => e = .returned (.agg (goe i n).vs) ∧ Below w.heap.size w w' := by
  have K1 := Lib.hid (fun W h => ijump_l i hi W h)
  have HG : Hid (goe i n = if jmpB i || decide (i.op = 33) then ⟨4, n.pc⟩ else ev0) := Lib.hid rfl
  generalize jmpB i = j at *
  obtain ⟨v, hv⟩ : ∃ v, goe i n = v := ⟨_, rfl⟩
  rw [hv] at HG ⊢
  clear hv
  have HT := Lib.hid hT
  clear hT
  obtain ⟨b, hb⟩ : ∃ b, decide (i.op = 33) = b := ⟨_, rfl⟩
  rw [hb] at HG
  have hb' : (i.op == 33) = b := hb
  clear hb
  cases j with
  | true =>
    obtain rfl : v = ⟨4, n.pc⟩ := HG.out
    go_enter Tryz.func120, Tryz.ntmps120
    go_upto_region 1 with fail
    have HI := Lib.hid (((Bk.new w 26 i.vs).alloc (.cells n.vs 42)).alloc (.cells (Ev.vs ev0) 51))
    have HS := Lib.hid ((Bk.new' (w := w.alloc (.cells i.vs 26)) (t := 42) (cs := n.vs) (g := w.heap.size + 1) (by simp)).alloc (.cells (Ev.vs ev0) 51))
    have HZ := Lib.hid (Bk.new' (w := (w.alloc (.cells i.vs 26)).alloc (.cells n.vs 42)) (t := 51) (cs := Ev.vs ev0) (g := w.heap.size + 1 + 1) (by simp))
    have HW := Lib.hid (bel_al (bel_al (bel_alloc (w := w) (.cells i.vs 26)) (.cells n.vs 42)) (.cells (Ev.vs ev0) 51))
    have HT1 := Lib.hid (HT.out.keep HW.out)
    change Code.wp _ _ _ _ (((w.alloc (.cells i.vs 26)).alloc (.cells n.vs 42)).alloc (.cells (Ev.vs ev0) 51))
    generalize World.alloc _ _ = W1 at *
    go_wp2_with (first | (refine wpList_load_row rfl 26 (.tmp 2) rfl w.heap.size rfl 26 i.vs (0, 0) _ HI.out Tryz.underlying26 rfl i9 ?_) | (go_at_call 144; refine (K1.out _ HT1.out).mono ?_; rintro e y2 ⟨rfl, hb⟩; have HZ2 := Lib.hid (HZ.out.below hb HZ.out.lt); have HW2 := Lib.hid (bel_tr HW.out hb); have c0 := (HI.out.below hb HI.out.lt).cell 0; have c16 := (HS.out.below hb HS.out.lt).cell 16; change _ = some (Value.int .i64 i.op) at c0; change _ = some (Value.int .u64 n.pc) at c16; obtain ⟨z0, z1, f0, f1⟩ := ev2 HZ2.out; change _ = some (Value.int .i64 0) at z0; change _ = some (Value.int .u64 0) at z1; clear hb) | fail)
    exact ret_ev rfl rfl rfl (ev_set HZ2.out _ _) ⟨rfl, (HW2.out.setCell (by show w.heap.size ≤ w.heap.size + 1 + 1; omega) _).setCell (by show w.heap.size ≤ w.heap.size + 1 + 1; omega) _⟩
  | false =>
    cases b with
    | true =>
      obtain rfl : v = ⟨4, n.pc⟩ := HG.out
      go_enter Tryz.func120, Tryz.ntmps120
      go_upto_region 1 with fail
      have HI := Lib.hid (((Bk.new w 26 i.vs).alloc (.cells n.vs 42)).alloc (.cells (Ev.vs ev0) 51))
      have HS := Lib.hid ((Bk.new' (w := w.alloc (.cells i.vs 26)) (t := 42) (cs := n.vs) (g := w.heap.size + 1) (by simp)).alloc (.cells (Ev.vs ev0) 51))
      have HZ := Lib.hid (Bk.new' (w := (w.alloc (.cells i.vs 26)).alloc (.cells n.vs 42)) (t := 51) (cs := Ev.vs ev0) (g := w.heap.size + 1 + 1) (by simp))
      have HW := Lib.hid (bel_al (bel_al (bel_alloc (w := w) (.cells i.vs 26)) (.cells n.vs 42)) (.cells (Ev.vs ev0) 51))
      have HT1 := Lib.hid (HT.out.keep HW.out)
      change Code.wp _ _ _ _ (((w.alloc (.cells i.vs 26)).alloc (.cells n.vs 42)).alloc (.cells (Ev.vs ev0) 51))
      generalize World.alloc _ _ = W1 at *
      go_wp2_with (first | (refine wpList_load_row rfl 26 (.tmp 2) rfl w.heap.size rfl 26 i.vs (0, 0) _ HI.out Tryz.underlying26 rfl i9 ?_) | (go_at_call 144; refine (K1.out _ HT1.out).mono ?_; rintro e y2 ⟨rfl, hb⟩; have HZ2 := Lib.hid (HZ.out.below hb HZ.out.lt); have HW2 := Lib.hid (bel_tr HW.out hb); have c0 := (HI.out.below hb HI.out.lt).cell 0; have c16 := (HS.out.below hb HS.out.lt).cell 16; change _ = some (Value.int .i64 i.op) at c0; change _ = some (Value.int .u64 n.pc) at c16; obtain ⟨z0, z1, f0, f1⟩ := ev2 HZ2.out; change _ = some (Value.int .i64 0) at z0; change _ = some (Value.int .u64 0) at z1; clear hb) | fail)
      exact ret_ev rfl rfl rfl (ev_set HZ2.out _ _) ⟨rfl, (HW2.out.setCell (by show w.heap.size ≤ w.heap.size + 1 + 1; omega) _).setCell (by show w.heap.size ≤ w.heap.size + 1 + 1; omega) _⟩
    | false =>
      obtain rfl : v = ev0 := HG.out
      go_enter Tryz.func120, Tryz.ntmps120
      go_upto_region 1 with fail
      have HI := Lib.hid (((Bk.new w 26 i.vs).alloc (.cells n.vs 42)).alloc (.cells (Ev.vs ev0) 51))
      have HS := Lib.hid ((Bk.new' (w := w.alloc (.cells i.vs 26)) (t := 42) (cs := n.vs) (g := w.heap.size + 1) (by simp)).alloc (.cells (Ev.vs ev0) 51))
      have HZ := Lib.hid (Bk.new' (w := (w.alloc (.cells i.vs 26)).alloc (.cells n.vs 42)) (t := 51) (cs := Ev.vs ev0) (g := w.heap.size + 1 + 1) (by simp))
      have HW := Lib.hid (bel_al (bel_al (bel_alloc (w := w) (.cells i.vs 26)) (.cells n.vs 42)) (.cells (Ev.vs ev0) 51))
      have HT1 := Lib.hid (HT.out.keep HW.out)
      change Code.wp _ _ _ _ (((w.alloc (.cells i.vs 26)).alloc (.cells n.vs 42)).alloc (.cells (Ev.vs ev0) 51))
      generalize World.alloc _ _ = W1 at *
      go_wp2_with (first | (refine wpList_load_row rfl 26 (.tmp 2) rfl w.heap.size rfl 26 i.vs (0, 0) _ HI.out Tryz.underlying26 rfl i9 ?_) | (go_at_call 144; refine (K1.out _ HT1.out).mono ?_; rintro e y2 ⟨rfl, hb⟩; have HZ2 := Lib.hid (HZ.out.below hb HZ.out.lt); have HW2 := Lib.hid (bel_tr HW.out hb); have c0 := (HI.out.below hb HI.out.lt).cell 0; have c16 := (HS.out.below hb HS.out.lt).cell 16; change _ = some (Value.int .i64 i.op) at c0; change _ = some (Value.int .u64 n.pc) at c16; obtain ⟨z0, z1, f0, f1⟩ := ev2 HZ2.out; change _ = some (Value.int .i64 0) at z0; change _ = some (Value.int .u64 0) at z1; clear hb) | fail)
      exact ret_ev rfl rfl rfl (ev_set HZ2.out _ _) ⟨rfl, (HW2.out.setCell (by show w.heap.size ≤ w.heap.size + 1 + 1; omega) _).setCell (by show w.heap.size ≤ w.heap.size + 1 + 1; omega) _⟩
end Sp
end Go.Proofs.YtikbnfhnimjmmaaGreatDoor
