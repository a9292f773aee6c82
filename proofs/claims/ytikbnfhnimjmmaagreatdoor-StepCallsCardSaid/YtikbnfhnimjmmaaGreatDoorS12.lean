/- The landed package step: events that are nothing are left out. -/
import Derived.Test.YtikbnfhnimjmmaaGreatDoorS11
import Derived.LoopN
namespace Go.Proofs.YtikbnfhnimjmmaaGreatDoor
open Go Go.RowKit Go.Shelf
namespace Sp
open Wd Nt Mm Is
set_option linter.unusedVariables false
set_option linter.unusedSimpArgs false
theorem evEq (a b c d : Int) (W : World) : (binOp .eql 51 (.agg #[.int .i64 a, .int .u64 b]) (.agg #[.int .i64 c, .int .u64 d])).run Tryz.prog W = .ok (.bool (decide ((⟨a, b⟩ : Ev) = ⟨c, d⟩))) W := by
  have u3 := Tryz.underlying3
  have a3 := Tryz.isAgg3
  have z3 := Tryz.sizeOf3
  have u2 := Tryz.underlying39
  have a2 := Tryz.isAgg39
  have z2 := Tryz.sizeOf39
  have hS : Tryz.prog.underlying 51 = some (.struct (Tryz.prog.fieldsOf 51)) := by kernel_rfl
  have hp : Tryz.prog.stoodInHeld 51 = false := by kernel_rfl
  rw [run_eql_struct, show (10000 : Nat) = 9999 + 1 from rfl, run_equalIn_agg W 9999 51 _ _ hS hp]
  simp only [Program.fieldsOf, Tryz.underlying51]
  go_simp
  by_cases h1 : a = c <;> by_cases h2 : b = d <;> simp [h1, h2]
theorem evNe (a b c d : Int) (W : World) : (binOp .neq 51 (.agg #[.int .i64 a, .int .u64 b]) (.agg #[.int .i64 c, .int .u64 d])).run Tryz.prog W = .ok (.bool (!decide ((⟨a, b⟩ : Ev) = ⟨c, d⟩))) W := by
  have h := evEq a b c d W
  simp only [binOp] at h ⊢
  cases hq : (Op.equal 51 (.agg #[.int .i64 a, .int .u64 b]) (.agg #[.int .i64 c, .int .u64 d])).run Tryz.prog W with
  | ok x W' => simp [hq, Result.andThen] at h ⊢; exact ⟨by rw [h.1], h.2⟩
  | halt x W' => simp [hq, Result.andThen] at h
set_option maxRecDepth 100000 in
theorem seen1_l (v : Ev) (w : World) : Calls Tryz.prog 122 #[.agg #[.int .i64 v.k, .int .u64 v.a]] w fun e w' => e = .returned (.bool (decide (v = ev0))) ∧ Below w.heap.size w w' := by
  have hq : ∀ W, (binOp .eql 51 (.agg #[.int .i64 v.k, .int .u64 v.a]) (.agg #[.int .i64 0, .int .u64 0])).run Tryz.prog W = .ok (.bool (decide (v = ev0))) W := fun W => evEq v.k v.a 0 0 W
  generalize decide (v = ev0) = b at *
  go_enter Tryz.func122, Tryz.ntmps122
  go_wp2_with fail
  go_ret
  exact ⟨rfl, bel_alloc _⟩
/-- three events in a block, as a row -/
structure E3 (w : World) (g : Nat) (e : Nat → Ev) : Prop where
  lt : g < w.heap.size
  k : ∀ j, j < 3 → w.cell? ⟨g, j * 2, none⟩ = some (.int .i64 (e j).k) ∧ w.cell? ⟨g, j * 2 + 1, none⟩ = some (.int .u64 (e j).a)
  f : ∀ j, w.frozen? ⟨g, j, none⟩ = false
theorem E3.below {w w' : World} {g : Nat} {e : Nat → Ev} (h : E3 w g e) (hb : Below w.heap.size w w') : E3 w' g e :=
  ⟨Nat.lt_of_lt_of_le h.lt hb.size, fun j hj => ⟨(hb.cell (p := ⟨g, j * 2, none⟩) h.lt).trans (h.k j hj).1, (hb.cell (p := ⟨g, j * 2 + 1, none⟩) h.lt).trans (h.k j hj).2⟩, fun j => (hb.frozen (p := ⟨g, j, none⟩) h.lt).trans (h.f j)⟩
set_option maxRecDepth 100000 in
set_option maxHeartbeats 1000000 in
theorem index_l (e : Nat → Ev) (m : Nat) (hm : m ≤ 3) (hlo : ∀ j, j < m → e j ≠ ev0) (hat : m < 3 → e m = ev0) (g : Nat) (w : World) (hE : E3 w g e) :
    Calls Tryz.prog 217 #[.slice (some ⟨g, 0, none⟩) 3 3, .func (.func 122) #[] #[]] w fun r w' => r = .returned (.int .i64 (if m < 3 then (m : Int) else -1)) ∧ Below w.heap.size w w' := by
  have heg : ∀ args w, (callFunc 122 args).run Tryz.prog w = .ok (.enter 122 args) w := enters_of Tryz.func122 (by kernel_rfl) rfl
  have HE := Lib.hid hE
  have HLO := Lib.hid hlo
  have HAT := Lib.hid hat
  have HR : Hid ((if m < 3 then (m : Int) else -1) = if m < 3 then (m : Int) else -1) := Lib.hid rfl
  obtain ⟨r, hr⟩ : ∃ r, (if m < 3 then (m : Int) else -1) = r := ⟨_, rfl⟩
  rw [hr] at HR ⊢
  have HRR := Lib.hid hr
  clear hE hlo hat hr
  go_enter Tryz.func217, Tryz.ntmps217
  go_wp2_with fail
  go_loopw [8] (fun i wr => ∃ k : Nat, k ≤ m ∧ i = .int .i64 (k : Int) ∧ Hid (Below w.heap.size w wr)) (fun i _ => 3 - (intOf i).toNat)
  case atStart => exact ⟨0, Nat.zero_le _, rfl, Lib.hid (Below.refl _ _)⟩
  case round =>
    obtain ⟨k, hk, rfl, HW⟩ := hrel
    rcases Nat.lt_or_ge k 3 with hk3 | hk3
    · obtain ⟨c0, c1⟩ := (HE.out.below HW.out).k k hk3
      have hki : (k : Int) < 3 := by omega
      rcases Nat.lt_or_ge k m with hkm | hkm
      · have K := Lib.hid (fun W => seen1_l (e k) W)
        rw [decide_eq_false (HLO.out k hkm)] at K
        have HK := Lib.hid hkm
        clear hkm hk
        go_wp2_with (first | (go_at_call 122; refine (K.out _).mono ?_; rintro x y ⟨rfl, hb⟩; have HW2 := Lib.hid (bel_tr HW.out hb); clear hb) | fail)
        go_roundw
        case rel => exact ⟨k + 1, HK.out, by go_num, HW2⟩
        case measure => (simp [intOf] <;> omega)
      · obtain rfl : k = m := by omega
        have K := Lib.hid (fun W => seen1_l (e k) W)
        rw [decide_eq_true (HAT.out hk3)] at K
        obtain rfl : (k : Int) = r := by rw [← HRR.out, if_pos hk3]
        go_wp2_with (first | (go_at_call 122; refine (K.out _).mono ?_; rintro x y ⟨rfl, hb⟩; have HW2 := Lib.hid (bel_tr HW.out hb); clear hb) | fail)
        go_ret
        exact ⟨rfl, HW2.out⟩
    · obtain rfl : k = 3 := by omega
      obtain rfl : m = 3 := by omega
      obtain rfl : (-1 : Int) = r := by rw [← HRR.out]; rfl
      go_wp2_with fail
      go_ret
      exact ⟨rfl, HW.out⟩
theorem E3.cells {w : World} {g : Nat} {e : Nat → Ev} (h : E3 w g e) : (w.cell? ⟨g, 0, none⟩ = some (.int .i64 (e 0).k) ∧ w.cell? ⟨g, 1, none⟩ = some (.int .u64 (e 0).a) ∧ w.cell? ⟨g, 2, none⟩ = some (.int .i64 (e 1).k) ∧ w.cell? ⟨g, 3, none⟩ = some (.int .u64 (e 1).a) ∧ w.cell? ⟨g, 4, none⟩ = some (.int .i64 (e 2).k) ∧ w.cell? ⟨g, 5, none⟩ = some (.int .u64 (e 2).a)) ∧
    (w.frozen? ⟨g, 0, none⟩ = false ∧ w.frozen? ⟨g, 1, none⟩ = false ∧ w.frozen? ⟨g, 2, none⟩ = false ∧ w.frozen? ⟨g, 3, none⟩ = false ∧ w.frozen? ⟨g, 4, none⟩ = false ∧ w.frozen? ⟨g, 5, none⟩ = false) :=
  ⟨⟨(h.k 0 (by omega)).1, (h.k 0 (by omega)).2, (h.k 1 (by omega)).1, (h.k 1 (by omega)).2, (h.k 2 (by omega)).1, (h.k 2 (by omega)).2⟩, h.f 0, h.f 1, h.f 2, h.f 3, h.f 4, h.f 5⟩
set_option maxRecDepth 100000 in
set_option maxHeartbeats 1000000 in
theorem del3_l (e : Nat → Ev) (hlo : ∀ j, j < 3 → e j ≠ ev0) (g : Nat) (w : World) (hE : E3 w g e) :
    Calls Tryz.prog 121 #[.slice (some ⟨g, 0, none⟩) 3 3, .func (.func 122) #[] #[]] w fun r w' => r = .returned (.slice (some ⟨g, 0, none⟩) 3 3) ∧ Below w.heap.size w w' := by
  have K := Lib.hid (index_l e 3 (by omega) hlo (fun h => absurd h (by omega)) g w hE)
  change Hid (Calls _ _ _ _ fun r w' => r = .returned (.int .i64 (-1)) ∧ _) at K
  clear hE hlo
  go_enter Tryz.func121, Tryz.ntmps121
  go_wp2_with (first | (go_at_call 217; refine K.out.mono ?_; rintro x y ⟨rfl, hb⟩; have HW := Lib.hid hb; clear hb) | fail)
  go_ret
  exact ⟨rfl, HW.out⟩
theorem clear1 (g o c : Nat) (ty : TypeId) (W : World) (hc : ∀ j, j < 2 → (W.cell? ⟨g, o + j, none⟩).isSome = true) (hf : ∀ j, j < 2 → W.frozen? ⟨g, o + j, none⟩ = false) :
    (Builtin.clear_ #[46] ty #[.slice (some ⟨g, o, none⟩) 1 c]).run Tryz.prog W = .ok (.tuple #[]) ((W.setCell ⟨g, o + 0, none⟩ (.int .i64 0)).setCell ⟨g, o + 1, none⟩ (.int .u64 0)) := by
  have hz : (zeroValue 51).run Tryz.prog W = .ok (.agg #[.int .i64 0, .int .u64 0]) W := Tryz.zeroValue51 W
  have hl : (Builtin.zeroCells #[Value.int .i64 0, Value.int .u64 0] 1).toList = [Value.int .i64 0, Value.int .u64 0] := by kernel_rfl
  have hs := run_storeCells_cells (P := Tryz.prog) g o [Value.int .i64 0, Value.int .u64 0] 0 W (fun j hj => by rw [Nat.add_zero]; exact hc j hj) (fun j hj => by rw [Nat.add_zero]; exact hf j hj) (by intro v hv; simp only [List.mem_cons, List.not_mem_nil, or_false] at hv; rcases hv with rfl | rfl <;> rfl)
  simp only [World.setCells, Nat.add_zero, Nat.add_assoc, Nat.reduceAdd] at hs
  unfold Builtin.clear_
  simp [Sem.run_bind, run_underlying Tryz.underlying46, hz, Value.cells, go_sem]
  rw [hl, hs]
  rfl
theorem clear2 (g o c : Nat) (ty : TypeId) (W : World) (hc : ∀ j, j < 4 → (W.cell? ⟨g, o + j, none⟩).isSome = true) (hf : ∀ j, j < 4 → W.frozen? ⟨g, o + j, none⟩ = false) :
    (Builtin.clear_ #[46] ty #[.slice (some ⟨g, o, none⟩) 2 c]).run Tryz.prog W = .ok (.tuple #[]) ((((W.setCell ⟨g, o + 0, none⟩ (.int .i64 0)).setCell ⟨g, o + 1, none⟩ (.int .u64 0)).setCell ⟨g, o + 2, none⟩ (.int .i64 0)).setCell ⟨g, o + 3, none⟩ (.int .u64 0)) := by
  have hz : (zeroValue 51).run Tryz.prog W = .ok (.agg #[.int .i64 0, .int .u64 0]) W := Tryz.zeroValue51 W
  have hl : (Builtin.zeroCells #[Value.int .i64 0, Value.int .u64 0] 2).toList = [Value.int .i64 0, Value.int .u64 0, Value.int .i64 0, Value.int .u64 0] := by kernel_rfl
  have hs := run_storeCells_cells (P := Tryz.prog) g o [Value.int .i64 0, Value.int .u64 0, Value.int .i64 0, Value.int .u64 0] 0 W (fun j hj => by rw [Nat.add_zero]; exact hc j hj) (fun j hj => by rw [Nat.add_zero]; exact hf j hj) (by intro v hv; simp only [List.mem_cons, List.not_mem_nil, or_false] at hv; rcases hv with rfl | rfl | rfl | rfl <;> rfl)
  simp only [World.setCells, Nat.add_zero, Nat.add_assoc, Nat.reduceAdd] at hs
  unfold Builtin.clear_
  simp [Sem.run_bind, run_underlying Tryz.underlying46, hz, Value.cells, go_sem]
  rw [hl, hs]
  rfl
/-- the row with one event put in another's place -/
def upd (e : Nat → Ev) (j : Nat) (v : Ev) : Nat → Ev := fun k => if k = j then v else e k
theorem E3.set {w : World} {g : Nat} {e : Nat → Ev} (h : E3 w g e) {j : Nat} (hj : j < 3) (v : Ev) : E3 ((w.setCell ⟨g, j * 2, none⟩ (.int .i64 v.k)).setCell ⟨g, j * 2 + 1, none⟩ (.int .u64 v.a)) g (upd e j v) := by
  refine ⟨by rw [World.size_setCell, World.size_setCell]; exact h.lt, fun k hk => ?_, fun k => by rw [World.frozen?_setCell, World.frozen?_setCell]; exact h.f k⟩
  unfold upd
  by_cases hkj : k = j
  · subst hkj
    rw [if_pos rfl]
    refine ⟨?_, ?_⟩
    · rw [World.cell?_setCell_other _ _ _ _ (by simp), World.cell?_setCell_same _ _ _ (h.k k hk).1]
    · exact World.cell?_setCell_same _ _ _ ((World.cell?_setCell_other _ _ _ _ (by simp)).trans (h.k k hk).2)
  · rw [if_neg hkj]
    refine ⟨?_, ?_⟩
    · rw [World.cell?_setCell_other _ _ _ _ (by first | (simp; done) | (simp; omega)), World.cell?_setCell_other _ _ _ _ (by first | (simp; done) | (simp; omega))]; exact (h.k k hk).1
    · rw [World.cell?_setCell_other _ _ _ _ (by first | (simp; done) | (simp; omega)), World.cell?_setCell_other _ _ _ _ (by first | (simp; done) | (simp; omega))]; exact (h.k k hk).2
/-- a slice of events that reads as es, below block B -/
structure RdE (w : World) (B : Nat) (A : Option Addr) (n : Nat) (es : List Ev) : Prop where
  len : es.length = n
  rd : 0 < n → ∃ ad, A = some ad ∧ ad.block < B ∧ ∀ (j : Nat) (e : Ev), es[j]? = some e → w.cell? (ad.add (j * 2)) = some (.int .i64 e.k) ∧ w.cell? ⟨ad.block, (ad.add (j * 2)).off + 1, none⟩ = some (.int .u64 e.a)
theorem E3.rd {w : World} {g : Nat} {e : Nat → Ev} (h : E3 w g e) {n : Nat} (hn : n ≤ 3) : RdE w w.heap.size (some ⟨g, 0, none⟩) n ((List.range n).map e) :=
  ⟨by simp, fun h0 => ⟨_, rfl, h.lt, fun j v hv => by
    obtain ⟨hj, hv2⟩ := List.getElem?_eq_some_iff.1 hv
    have hj' : j < n := by simpa using hj
    have : v = e j := by rw [← hv2]; simp
    subst this
    have ha : (⟨g, 0, none⟩ : Addr).add (j * 2) = ⟨g, j * 2, none⟩ := by unfold Addr.add; split <;> simp_all
    rw [ha]
    exact h.k j (by omega)⟩⟩
set_option maxRecDepth 100000 in
set_option maxHeartbeats 1000000 in
theorem del2_l (e : Nat → Ev) (h0 : e 0 ≠ ev0) (h1 : e 1 ≠ ev0) (h2 : e 2 = ev0) (g : Nat) (w : World) (hE : E3 w g e) (B : Nat) (hB : B ≤ g) (hBw : B ≤ w.heap.size) (w0 : World) (hw0 : Below B w0 w) :
    Calls Tryz.prog 121 #[.slice (some ⟨g, 0, none⟩) 3 3, .func (.func 122) #[] #[]] w fun r w' => r = .returned (.slice (some ⟨g, 0, none⟩) 2 3) ∧ RdE w' w'.heap.size (some ⟨g, 0, none⟩) 2 [e 0, e 1] ∧ Below B w0 w' := by
  have K := Lib.hid (index_l e 2 (by omega) (fun j hj => by rcases (show j = 0 ∨ j = 1 by omega) with rfl | rfl <;> assumption) (fun _ => h2) g w hE)
  change Hid (Calls _ _ _ _ fun r w' => r = .returned (.int .i64 2) ∧ _) at K
  have HE := Lib.hid hE
  have HW0 := Lib.hid hw0
  have HB := Lib.hid hB
  have HBW := Lib.hid hBw
  clear hE hw0 hB hBw
  go_enter Tryz.func121, Tryz.ntmps121
  go_wp2_with (first | (go_at_call 217; refine K.out.mono ?_; rintro x y ⟨rfl, hb⟩; have HW := Lib.hid hb; clear hb) | fail)
  clear h0 h1 h2
  obtain ⟨⟨c0, c1, c2, c3, c4, c5⟩, f0, f1, f2, f3, f4, f5⟩ := (HE.out.below HW.out).cells
  have hc := clear1 g 4 1 0 y (fun j hj => by rcases (show j = 0 ∨ j = 1 by omega) with rfl | rfl <;> simp only [c4, c5, Nat.reduceAdd, Option.isSome_some]) (fun j hj => (HE.out.below HW.out).f _)
  simp only [Nat.reduceAdd] at hc
  refine wp_loop_rounds 1 ?_
  rw [rounds_succ]
  go_wp2_with fail
  go_ret
  exact ⟨rfl, ((HE.out.below HW.out).set (j := 2) (by omega) ev0).rd (n := 2) (by omega), ((HW0.out.trans (HW.out.mono HBW.out)).setCell HB.out _).setCell HB.out _⟩
set_option maxRecDepth 100000 in
set_option maxHeartbeats 1000000 in
theorem delC_l (e : Nat → Ev) (h0 : e 0 ≠ ev0) (h1 : e 1 = ev0) (h2 : e 2 ≠ ev0) (g : Nat) (w : World) (hE : E3 w g e) (B : Nat) (hB : B ≤ g) (hBw : B ≤ w.heap.size) (w0 : World) (hw0 : Below B w0 w) :
    Calls Tryz.prog 121 #[.slice (some ⟨g, 0, none⟩) 3 3, .func (.func 122) #[] #[]] w fun r w' => r = .returned (.slice (some ⟨g, 0, none⟩) 2 3) ∧ RdE w' w'.heap.size (some ⟨g, 0, none⟩) 2 [e 0, e 2] ∧ Below B w0 w' := by
  have K := Lib.hid (index_l e 1 (by omega) (fun j hj => by rcases (show j = 0 by omega) with rfl <;> assumption) (fun _ => h1) g w hE)
  change Hid (Calls _ _ _ _ fun r w' => r = .returned (.int .i64 1) ∧ _) at K
  have HE := Lib.hid hE
  have HW0 := Lib.hid hw0
  have HB := Lib.hid hB
  have HBW := Lib.hid hBw
  clear hE hw0 hB hBw
  go_enter Tryz.func121, Tryz.ntmps121
  go_wp2_with (first | (go_at_call 217; refine K.out.mono ?_; rintro x y ⟨rfl, hb⟩; have HW := Lib.hid hb; clear hb) | fail)
  obtain ⟨⟨c0, c1, c2, c3, c4, c5⟩, f0, f1, f2, f3, f4, f5⟩ := (HE.out.below HW.out).cells
  have K2 := Lib.hid (fun W => seen1_l (e 2) W)
  rw [decide_eq_false h2] at K2
  clear h0 h1 h2
  have heg : ∀ args w, (callFunc 122 args).run Tryz.prog w = .ok (.enter 122 args) w := enters_of Tryz.func122 (by kernel_rfl) rfl
  refine wp_loop_rounds 2 ?_
  rw [rounds_succ]
  go_wp2_with fail
  go_at_call 122
  refine (K2.out _).mono ?_
  rintro x z ⟨rfl, hb⟩
  have HZ := Lib.hid (bel_tr (bel_alloc _) hb)
  have HE2 := Lib.hid ((HE.out.below HW.out).below HZ.out)
  have HW2 := Lib.hid (HW0.out.trans ((bel_tr HW.out HZ.out).mono HBW.out))
  have d0 := hb.cell (p := ⟨y.heap.size, 0, none⟩) (by simp)
  have d1 := hb.cell (p := ⟨y.heap.size, 1, none⟩) (by simp)
  have v0 : z.cell? ⟨y.heap.size, 0, none⟩ = some (.int .i64 (e 2).k) := d0.trans ((Bk.new y _ #[.int .i64 (e 2).k, .int .u64 (e 2).a]).cell 0)
  have v1 : z.cell? ⟨y.heap.size, 1, none⟩ = some (.int .u64 (e 2).a) := d1.trans ((Bk.new y _ #[.int .i64 (e 2).k, .int .u64 (e 2).a]).cell 1)
  clear hb d0 d1 c0 c1 c2 c3 c4 c5 f0 f1 f2 f3 f4 f5
  obtain ⟨⟨c0, c1, c2, c3, c4, c5⟩, f0, f1, f2, f3, f4, f5⟩ := HE2.out.cells
  have HE3 := Lib.hid (HE2.out.set (j := 1) (by omega) (e 2))
  have HW3 := Lib.hid ((HW2.out.setCell (p := ⟨g, 2, none⟩) HB.out (.int .i64 (e 2).k)).setCell (p := ⟨g, 3, none⟩) HB.out (.int .u64 (e 2).a))
  have hc := clear1 g 4 1 0 ((z.setCell ⟨g, 2, none⟩ (.int .i64 (e 2).k)).setCell ⟨g, 3, none⟩ (.int .u64 (e 2).a)) (fun j hj => by rcases (show j = 0 ∨ j = 1 by omega) with rfl | rfl <;> (first | (have := (HE3.out.k 2 (by omega)).1; simp only [Nat.reduceMul, Nat.reduceAdd] at this ⊢; rw [this]; rfl) | (have := (HE3.out.k 2 (by omega)).2; simp only [Nat.reduceMul, Nat.reduceAdd] at this ⊢; rw [this]; rfl))) (fun j hj => HE3.out.f _)
  simp only [Nat.reduceAdd] at hc
  go_wp2_with fail
  rw [rounds_succ]
  go_wp2_with fail
  go_ret
  exact ⟨rfl, (HE3.out.set (j := 2) (by omega) ev0).rd (n := 2) (by omega), (HW3.out.setCell HB.out _).setCell HB.out _⟩
set_option maxRecDepth 100000 in
set_option maxHeartbeats 1000000 in
theorem delD_l (e : Nat → Ev) (h0 : e 0 ≠ ev0) (h1 : e 1 = ev0) (h2 : e 2 = ev0) (g : Nat) (w : World) (hE : E3 w g e) (B : Nat) (hB : B ≤ g) (hBw : B ≤ w.heap.size) (w0 : World) (hw0 : Below B w0 w) :
    Calls Tryz.prog 121 #[.slice (some ⟨g, 0, none⟩) 3 3, .func (.func 122) #[] #[]] w fun r w' => r = .returned (.slice (some ⟨g, 0, none⟩) 1 3) ∧ RdE w' w'.heap.size (some ⟨g, 0, none⟩) 1 [e 0] ∧ Below B w0 w' := by
  have K := Lib.hid (index_l e 1 (by omega) (fun j hj => by rcases (show j = 0 by omega) with rfl <;> assumption) (fun _ => h1) g w hE)
  change Hid (Calls _ _ _ _ fun r w' => r = .returned (.int .i64 1) ∧ _) at K
  have HE := Lib.hid hE
  have HW0 := Lib.hid hw0
  have HB := Lib.hid hB
  have HBW := Lib.hid hBw
  clear hE hw0 hB hBw
  go_enter Tryz.func121, Tryz.ntmps121
  go_wp2_with (first | (go_at_call 217; refine K.out.mono ?_; rintro x y ⟨rfl, hb⟩; have HW := Lib.hid hb; clear hb) | fail)
  obtain ⟨⟨c0, c1, c2, c3, c4, c5⟩, f0, f1, f2, f3, f4, f5⟩ := (HE.out.below HW.out).cells
  have K2 := Lib.hid (fun W => seen1_l (e 2) W)
  rw [decide_eq_true h2] at K2
  clear h0 h1 h2
  have heg : ∀ args w, (callFunc 122 args).run Tryz.prog w = .ok (.enter 122 args) w := enters_of Tryz.func122 (by kernel_rfl) rfl
  refine wp_loop_rounds 2 ?_
  rw [rounds_succ]
  go_wp2_with fail
  go_at_call 122
  refine (K2.out _).mono ?_
  rintro x z ⟨rfl, hb⟩
  have HZ := Lib.hid (bel_tr (bel_alloc _) hb)
  have HE2 := Lib.hid ((HE.out.below HW.out).below HZ.out)
  have HW2 := Lib.hid (HW0.out.trans ((bel_tr HW.out HZ.out).mono HBW.out))
  have d0 := hb.cell (p := ⟨y.heap.size, 0, none⟩) (by simp)
  have d1 := hb.cell (p := ⟨y.heap.size, 1, none⟩) (by simp)
  have v0 : z.cell? ⟨y.heap.size, 0, none⟩ = some (.int .i64 (e 2).k) := d0.trans ((Bk.new y _ #[.int .i64 (e 2).k, .int .u64 (e 2).a]).cell 0)
  have v1 : z.cell? ⟨y.heap.size, 1, none⟩ = some (.int .u64 (e 2).a) := d1.trans ((Bk.new y _ #[.int .i64 (e 2).k, .int .u64 (e 2).a]).cell 1)
  clear hb d0 d1 c0 c1 c2 c3 c4 c5 f0 f1 f2 f3 f4 f5
  obtain ⟨⟨c0, c1, c2, c3, c4, c5⟩, f0, f1, f2, f3, f4, f5⟩ := HE2.out.cells
  have hc := clear2 g 2 2 0 z (fun j hj => by rcases (show j = 0 ∨ j = 1 ∨ j = 2 ∨ j = 3 by omega) with rfl | rfl | rfl | rfl <;> simp only [c2, c3, c4, c5, Nat.reduceAdd, Option.isSome_some]) (fun j hj => HE2.out.f _)
  simp only [Nat.reduceAdd] at hc
  go_wp2_with fail
  rw [rounds_succ]
  go_wp2_with fail
  go_ret
  exact ⟨rfl, ((HE2.out.set (j := 1) (by omega) ev0).set (j := 2) (by omega) ev0).rd (n := 1) (by omega), (((HW2.out.setCell HB.out _).setCell HB.out _).setCell HB.out _).setCell HB.out _⟩
end Sp
end Go.Proofs.YtikbnfhnimjmmaaGreatDoor
