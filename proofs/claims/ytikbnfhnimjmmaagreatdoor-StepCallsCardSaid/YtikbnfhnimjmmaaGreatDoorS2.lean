/- The landed package step: the highest bit, flags of sums and rests. | The landed package step: sums and rests with their flags. -/
import Derived.Test.YtikbnfhnimjmmaaGreatDoorS1
import Derived.Test.YtikbnfhnimjmmaaGreatDoorA7
import Derived.Deep.Draws
import Derived.Deep.MidRow
import Derived.StillTail
import Derived.StillTailTactics
import Derived.Laws.ResultCell
import Derived.Lib.Hide
import Derived.BigQuiet
import Derived.Deep.QuietTactic
import Derived.Deep.RegionHeld3
import Derived.Shelf.Abstract
namespace Go.Proofs.YtikbnfhnimjmmaaGreatDoor
open Go Go.RowKit Go.Shelf
namespace Sp
open Wd Nt Mm Is
set_option linter.unusedVariables false
set_option linter.unusedSimpArgs false
set_option maxRecDepth 100000 in
theorem neg_l (a : Int) (ha : W a) (w : World) : Calls Tryz.prog 287 #[.int .u64 a] w fun e w' => e = .returned (.bool (tp a)) ∧ w' = w := by
  obtain ⟨h0, h1⟩ := ha
  have H : Hid ((a / 9223372036854775808 == 1) = tp a) := Lib.hid (by
    unfold tp
    show decide (a / 9223372036854775808 = 1) = _
    rw [decide_eq_decide]; omega)
  go_enter Tryz.func287, Tryz.ntmps287
  go_wp2_with fail
  go_ret
  exact ⟨ret_b H.out, rfl⟩
set_option maxRecDepth 100000 in
theorem odd_l (a : Int) (ha : W a) (w : World) : Calls Tryz.prog 265 #[.int .u64 a] w fun e w' => e = .returned (.bool (decide (a % 2 = 1))) ∧ w' = w := by
  have hb := and_one a ha.1 ha.2
  obtain ⟨h0, h1⟩ := ha
  go_enter Tryz.func265, Tryz.ntmps265
  go_wp2_with fail
  go_ret
  exact ⟨rfl, rfl⟩
set_option maxRecDepth 100000 in
theorem choose_l (c : Bool) (a b : Int) (w : World) : Calls Tryz.prog 203 #[.bool c, .int .u64 a, .int .u64 b] w fun e w' => e = .returned (.int .u64 (if c then a else b)) ∧ w' = w := by
  cases c
  all_goals
    go_enter Tryz.func203, Tryz.ntmps203
    go_wp2_with fail
    go_ret
    exact ⟨rfl, rfl⟩
/-! ### cells that stay -/
theorem cell_al {w : World} {p : Addr} {v : Value} (h : w.cell? p = some v) (o : Obj) : (w.alloc o).cell? p = some v := by
  rw [World.cell?_alloc_lt _ _ _ (World.block_lt_of_cell? w _ h)]; exact h
theorem bel_cell {w w' : World} {p : Addr} {v : Value} (hb : Below w.heap.size w w') (h : w.cell? p = some v) : w'.cell? p = some v := (hb.cell (World.block_lt_of_cell? w _ h)).trans h
theorem bk_new0 {X y : World} {t : TypeId} {cs : Array Value} {N : Nat} (hN : X.heap.size = N) (hb : Below (X.alloc (.cells cs t)).drew.heap.size (X.alloc (.cells cs t)).drew y) : Bk y N t cs := by
  subst hN
  exact Bk.below (Bk.drew (Bk.new X t cs)) hb (by show X.heap.size < (X.alloc (.cells cs t)).heap.size; simp)
theorem bk_new2 {X y : World} {t : TypeId} {cs : Array Value} {o1 o2 : Obj} (hb : Below (((X.alloc (.cells cs t)).alloc o1).alloc o2).drew.heap.size (((X.alloc (.cells cs t)).alloc o1).alloc o2).drew y) : Bk y X.heap.size t cs :=
  Bk.below (Bk.drew (((Bk.new X t cs).alloc _).alloc _)) hb (by show X.heap.size < (((X.alloc (.cells cs t)).alloc o1).alloc o2).heap.size; simp; omega)
theorem b3 {w : World} {g : Nat} {t : TypeId} {x y z : Value} (h : Bk w g t #[x, y, z]) : w.cell? ⟨g, 0, none⟩ = some x ∧ w.cell? ⟨g, 1, none⟩ = some y ∧ w.cell? ⟨g, 2, none⟩ = some z ∧ w.frozen? ⟨g, 0, none⟩ = false ∧ w.frozen? ⟨g, 1, none⟩ = false ∧ w.frozen? ⟨g, 2, none⟩ = false :=
  ⟨h.cell 0, h.cell 1, h.cell 2, h.frozen 0, h.frozen 1, h.frozen 2⟩
theorem bel_al {w x : World} (h : Below w.heap.size w x) (o : Obj) : Below w.heap.size w (x.alloc o) := h.alloc h.size o
theorem bel_dr {w x : World} (h : Below w.heap.size w x) : Below w.heap.size w x.drew := h.drew
theorem bel_tr {a b c : World} (h : Below a.heap.size a b) (k : Below b.heap.size b c) : Below a.heap.size a c := bel_trans h k
theorem bel_set {w x : World} (h : Below w.heap.size w x) {b i : Nat} {v : Value} (hb : w.heap.size ≤ b) : Below w.heap.size w (x.setCell ⟨b, i, none⟩ v) := h.setCell hb v
theorem new_a {X : World} {t : TypeId} {v : Value} {o : Obj} {N : Nat} (hN : X.heap.size = N) : ((X.alloc (.cells #[v] t)).alloc o).drew.cell? ⟨N, 0, none⟩ = some v := by
  subst hN; exact ((Bk.new X t #[v]).alloc o).cell 0
theorem new_b {X : World} {t : TypeId} {v : Value} {o o2 : Obj} {N : Nat} (hN : X.heap.size = N) : (((X.alloc (.cells #[v] t)).alloc o).alloc o2).drew.cell? ⟨N, 0, none⟩ = some v := by
  subst hN; exact (((Bk.new X t #[v]).alloc o).alloc o2).cell 0
theorem new_c {X : World} {t : TypeId} {v : Value} {o : Obj} {N : Nat} (hN : X.heap.size + 1 = N) : ((X.alloc o).alloc (.cells #[v] t)).drew.cell? ⟨N, 0, none⟩ = some v := by
  subst hN; exact (Bk.new' (w := X.alloc o) (t := t) (cs := #[v]) (by simp)).cell 0
theorem new_d {X : World} {t : TypeId} {v : Value} {o o2 : Obj} {N : Nat} (hN : X.heap.size + 1 = N) : (((X.alloc o).alloc (.cells #[v] t)).alloc o2).drew.cell? ⟨N, 0, none⟩ = some v := by
  subst hN; exact ((Bk.new' (w := X.alloc o) (t := t) (cs := #[v]) (by simp)).alloc o2).cell 0
/-! ### what is handed back -/
theorem i3 : (Tryz.prog.info? 174).map (·.size) = some 3 := by kernel_rfl
theorem ret_fl {fn : Func} {p : Tmp} {R : Ending → World → Prop} {a : Act} {w : World} {g : Nat} {cs : Array Value} (h : fn.results = #[.cell p 174]) (hp : a.tmps.getD p undef = .pointer (some ⟨g, 0, none⟩)) (hd : a.defers = [])
    (hb : Bk w g 174 cs) (h3 : cs.size = 3) (hR : R (.returned (.agg cs)) w) : bodyPost Tryz.prog fn R .ret a w :=
  bodyPost_ret (results_cell_row h _ _ g 174 cs (0, 0) _ hp hb Tryz.underlying174 rfl (by rw [h3]; exact i3)) hd hR
/-- a word and flags -/
theorem results_vf {fn : Func} {u p : Tmp} {v : Value} {cs : Array Value} (h : fn.results = #[.tmp u, .cell p 174]) (tmps : Array Value) (w : World) (g : Nat)
    (hu : tmps.getD u undef = v) (hp : tmps.getD p undef = .pointer (some ⟨g, 0, none⟩)) (hb : Bk w g 174 cs) (h3 : cs.size = 3) :
    (results fn tmps).run Tryz.prog w = .ok (.tuple #[v, .agg cs]) w := by
  have hu' : tmps[u]?.getD undef = v := by simpa using hu
  have hp' : tmps[p]?.getD undef = .pointer (some ⟨g, 0, none⟩) := by simpa using hp
  simp [results, h, hp', hu', asAddr, Sem.run_bind, run_loadVar_row w g 174 174 cs (0, 0) _ hb Tryz.underlying174 rfl (by rw [h3]; exact i3)]
theorem ret_vf {fn : Func} {u p : Tmp} {v : Value} {R : Ending → World → Prop} {a : Act} {w : World} {g : Nat} {cs : Array Value} (h : fn.results = #[.tmp u, .cell p 174]) (hu : a.tmps.getD u undef = v) (hp : a.tmps.getD p undef = .pointer (some ⟨g, 0, none⟩)) (hd : a.defers = [])
    (hb : Bk w g 174 cs) (h3 : cs.size = 3) (hR : R (.returned (.tuple #[v, .agg cs])) w) : bodyPost Tryz.prog fn R .ret a w :=
  bodyPost_ret (results_vf h _ _ g hu hp hb h3) hd hR
set_option maxRecDepth 100000 in
theorem flB_l (v : Int) (hv : W v) (w : World) : Calls Tryz.prog 260 #[.int .u64 v] w fun e w' => e = .returned (.agg (flB v).vs) ∧ Below w.heap.size w w' := by
  obtain ⟨h0, h1⟩ := hv
  go_enter Tryz.func260, Tryz.ntmps260
  go_wp2_with fail
  exact ret_fl rfl rfl rfl (Bk.new _ _ _) rfl ⟨rfl, bel_alloc _⟩
/-! ### flags of a sum -/
set_option maxRecDepth 100000 in
theorem flSum_l (a b : Int) (w : World) : Calls Tryz.prog 257 #[.int .u64 a, .int .u64 b] w fun e w' =>
    e = .returned (.func (.func 286) #[] #[.pointer (some ⟨w.heap.size, 0, none⟩), .pointer (some ⟨w.heap.size + 1, 0, none⟩)]) ∧ w' = (w.alloc (.cells #[.int .u64 a] 39)).alloc (.cells #[.int .u64 b] 39) := by
  go_enter Tryz.func257, Tryz.ntmps257
  go_wp2_with fail
  go_ret
  exact ⟨rfl, rfl⟩
set_option maxRecDepth 100000 in
set_option maxHeartbeats 1000000 in
theorem flSum1_l (a b s : Int) (ha : W a) (hb : W b) (hs : W s) (g k : Nat) (w : World) (hg : w.cell? ⟨g, 0, none⟩ = some (.int .u64 a)) (hk : w.cell? ⟨k, 0, none⟩ = some (.int .u64 b)) :
    Calls Tryz.prog 286 #[.int .u64 s, .pointer (some ⟨g, 0, none⟩), .pointer (some ⟨k, 0, none⟩)] w fun e w' => e = .returned (.agg #[.bool (cS a b s), .bool (ovA a b s), .bool (decide (s = 0))]) ∧ Below w.heap.size w w' := by
  have H1 := Lib.hid (and_W ha hb)
  have H2 := Lib.hid (or_W ha hb)
  have H3 := Lib.hid (andNot_W H2.out.1 hs)
  have H4 := Lib.hid (or_W H1.out.1 H3.out.1)
  have H5 := Lib.hid (xor_W ha hs)
  have H6 := Lib.hid (xor_W hb hs)
  have H7 := Lib.hid (and_W H5.out.1 H6.out.1)
  have E1 : Hid (tp (bits .or .u64 (bits .and .u64 a b) (bits .andNot .u64 (bits .or .u64 a b) s)) = cS a b s) := Lib.hid (by rw [H4.out.2, H1.out.2, H3.out.2, H2.out.2]; rfl)
  have E2 : Hid (tp (bits .and .u64 (bits .xor .u64 a s) (bits .xor .u64 b s)) = ovA a b s) := Lib.hid (by rw [H7.out.2, H5.out.2, H6.out.2]; rfl)
  have K1 : Hid (∀ W, Calls Tryz.prog 287 #[.int .u64 (bits .or .u64 (bits .and .u64 a b) (bits .andNot .u64 (bits .or .u64 a b) s))] W fun e w' => e = .returned (.bool (cS a b s)) ∧ w' = W) := Lib.hid (fun W => by rw [← E1.out]; exact neg_l _ H4.out.1 W)
  have K2 : Hid (∀ W, Calls Tryz.prog 287 #[.int .u64 (bits .and .u64 (bits .xor .u64 a s) (bits .xor .u64 b s))] W fun e w' => e = .returned (.bool (ovA a b s)) ∧ w' = W) := Lib.hid (fun W => by rw [← E2.out]; exact neg_l _ H7.out.1 W)
  clear H1 H2 H3 H4 H5 H6 H7 E1 E2
  have hgl := World.block_lt_of_cell? w _ hg
  have hkl := World.block_lt_of_cell? w _ hk
  go_enter Tryz.func286, Tryz.ntmps286
  go_wp2_with fail
  have HB := Lib.hid ((Bk.new w 174 #[.bool false, .bool false, .bool false]))
  have HW := Lib.hid (bel_alloc (w := w) (.cells #[.bool false, .bool false, .bool false] 174))
  have hz : (w.alloc (.cells #[.bool false, .bool false, .bool false] 174)).heap.size = w.heap.size + 1 := by simp
  generalize w.alloc (.cells #[.bool false, .bool false, .bool false] 174) = W1 at *
  have c0 : W1.drew.cell? ⟨g, 0, none⟩ = some (.int .u64 a) := (HW.out.cell (p := ⟨g, 0, none⟩) hgl).trans hg
  have c1 : W1.drew.cell? ⟨k, 0, none⟩ = some (.int .u64 b) := (HW.out.cell (p := ⟨k, 0, none⟩) hkl).trans hk
  have K3 := K1.out W1.drew
  have K4 := K2.out W1.drew
  have HZ := Lib.hid hz
  clear hz hg hk
  refine wp_region_still_tail 21 (by kernel_rfl) (by kernel_rfl) ?_
  simp only [List.take_succ_cons, List.take_zero, List.drop_succ_cons, List.drop_zero]
  iterate 9 still_step
  still_call K3
  iterate 7 still_step
  still_call K4
  iterate 3 still_step
  refine wpStill_nil ?_
  clear K3 K4
  have p0 : W1.cell? ⟨w.heap.size, 0, none⟩ = some (.bool false) := HB.out.cell 0
  have p1 : W1.cell? ⟨w.heap.size, 1, none⟩ = some (.bool false) := HB.out.cell 1
  have p2 : W1.cell? ⟨w.heap.size, 2, none⟩ = some (.bool false) := HB.out.cell 2
  have f0 := HB.out.frozen 0
  have f1 := HB.out.frozen 1
  have f2 := HB.out.frozen 2
  go_wp2_with fail
  exact ret_fl rfl rfl rfl (((HB.out.set_ 0 _).set_ 1 _).set_ 2 _).drew rfl ⟨rfl, (((HW.out.setCell (Nat.le_refl _) _).setCell (Nat.le_refl _) _).setCell (Nat.le_refl _) _).drew⟩
set_option maxRecDepth 100000 in
theorem flRest_l (a b : Int) (w : World) : Calls Tryz.prog 214 #[.int .u64 a, .int .u64 b] w fun e w' =>
    e = .returned (.func (.func 258) #[] #[.pointer (some ⟨w.heap.size + 1, 0, none⟩), .pointer (some ⟨w.heap.size, 0, none⟩)]) ∧ w' = (w.alloc (.cells #[.int .u64 a] 39)).alloc (.cells #[.int .u64 b] 39) := by
  go_enter Tryz.func214, Tryz.ntmps214
  go_wp2_with fail
  go_ret
  exact ⟨rfl, rfl⟩
set_option maxRecDepth 100000 in
set_option maxHeartbeats 1000000 in
theorem flRest1_l (a b s : Int) (ha : W a) (hb : W b) (hs : W s) (g k : Nat) (w : World) (hg : w.cell? ⟨g, 0, none⟩ = some (.int .u64 a)) (hk : w.cell? ⟨k, 0, none⟩ = some (.int .u64 b)) :
    Calls Tryz.prog 258 #[.int .u64 s, .pointer (some ⟨k, 0, none⟩), .pointer (some ⟨g, 0, none⟩)] w fun e w' => e = .returned (.agg #[.bool (cS b s a), .bool (ovA b s a), .bool (decide (s = 0))]) ∧ Below w.heap.size w w' := by
  have hgl := World.block_lt_of_cell? w _ hg
  have hkl := World.block_lt_of_cell? w _ hk
  have K1 := Lib.hid (fun W => flSum_l b s W)
  have K2 := Lib.hid (fun W g k h1 h2 => flSum1_l b s a hb hs ha g k W h1 h2)
  have heg : ∀ args w, (callFunc 286 args).run Tryz.prog w = .ok (.enter 286 args) w := enters_of Tryz.func286 (by kernel_rfl) rfl
  go_enter Tryz.func258, Tryz.ntmps258
  go_wp2_with fail
  have HB0 := Lib.hid ((Bk.new w 174 #[.bool false, .bool false, .bool false]))
  have HW := Lib.hid (bel_alloc (w := w) (.cells #[.bool false, .bool false, .bool false] 174))
  have hz : w.heap.size < (w.alloc (.cells #[.bool false, .bool false, .bool false] 174)).heap.size := by simp
  generalize w.alloc (.cells #[.bool false, .bool false, .bool false] 174) = W1 at *
  have c0 : W1.cell? ⟨g, 0, none⟩ = some (.int .u64 a) := (HW.out.cell (p := ⟨g, 0, none⟩) hgl).trans hg
  have c1 : W1.cell? ⟨k, 0, none⟩ = some (.int .u64 b) := (HW.out.cell (p := ⟨k, 0, none⟩) hkl).trans hk
  have HC : Hid (∀ X, Below W1.heap.size W1 X → X.cell? ⟨g, 0, none⟩ = some (.int .u64 a) ∧ X.cell? ⟨k, 0, none⟩ = some (.int .u64 b)) := Lib.hid (fun X h => ⟨bel_cell h c0, bel_cell h c1⟩)
  have HN : Hid (((W1.alloc (.cells #[.int .u64 b] 39)).alloc (.cells #[.int .u64 s] 39)).heap.size = W1.heap.size + 1 + 1) := Lib.hid (by simp)
  have HN1 : Hid ((W1.alloc (.cells #[.bool false, .bool false, .bool false] 174)).heap.size = W1.heap.size + 1) := Lib.hid (by simp)
  have HN2 : Hid ((W1.alloc (.cells #[.bool false, .bool false, .bool false] 174)).heap.size + 1 = W1.heap.size + 1 + 1) := Lib.hid (by simp)
  clear hg hk c0 c1
  go_region_held3 (fun w' => w'.cell? ⟨g, 0, none⟩ = some (.int .u64 a) ∧ w'.cell? ⟨k, 0, none⟩ = some (.int .u64 b))
    (exact HC.out _ (by (repeat (first | assumption | exact HY.out | exact Below.refl _ _ | apply bel_dr | apply bel_al | apply bel_set | omega | exact HY.out.size))))
    (first | (go_at_call 257; refine (K1.out _).mono ?_; rintro e y1 ⟨rfl, rfl⟩) | (go_at_call 286; refine (K2.out _ _ _ ?_ ?_).mono ?_; (first | exact new_a rfl | exact new_b rfl | exact new_a HN1.out); (first | exact new_c rfl | exact new_d rfl | exact new_c HN2.out); rintro e y2 ⟨rfl, hb⟩; have HY : Hid (Below W1.heap.size W1 y2) := Lib.hid (by refine bel_tr ?_ hb; (repeat (first | assumption | exact HY.out | exact Below.refl _ _ | apply bel_dr | apply bel_al | apply bel_set | omega | exact HY.out.size))); (first | (have B5 : Bk y2 W1.heap.size 174 #[.bool false, .bool false, .bool false] := bk_new2 hb; obtain ⟨p0, p1, p2, f0, f1, f2⟩ := b3 B5) | (have B5 : Bk y2 (W1.heap.size + 1 + 1) 174 #[.bool false, .bool false, .bool false] := bk_new0 HN.out hb; obtain ⟨p0, p1, p2, f0, f1, f2⟩ := b3 B5) | skip); clear hb) | fail)
  · have HX : Hid (Below W1.heap.size W1 (y2.alloc (.cells #[.bool (cS b s a), .bool (ovA b s a), .bool (decide (a = 0))] 174))) := Lib.hid (by (repeat (first | assumption | exact HY.out | exact Below.refl _ _ | apply bel_dr | apply bel_al | apply bel_set | omega | exact HY.out.size)))
    have HB5 : Hid (Bk (y2.alloc (.cells #[.bool (cS b s a), .bool (ovA b s a), .bool (decide (a = 0))] 174)) (y2.heap.size) 174 #[.bool (cS b s a), .bool (ovA b s a), .bool (decide (a = 0))]) := Lib.hid (Bk.new _ _ _)
    have HB4 := Lib.hid (HB0.out.below HX.out hz)
    have HM : Hid (Below w.heap.size w (y2.alloc (.cells #[.bool (cS b s a), .bool (ovA b s a), .bool (decide (a = 0))] 174))) := Lib.hid (HW.out.trans (HX.out.mono (Nat.le_of_lt hz)))
    generalize y2.alloc (.cells #[.bool (cS b s a), .bool (ovA b s a), .bool (decide (a = 0))] 174) = X at *
    clear HY
    have q0 : X.cell? ⟨y2.heap.size, 0, none⟩ = some (.bool (cS b s a)) := HB5.out.cell 0
    have q1 : X.cell? ⟨y2.heap.size, 1, none⟩ = some (.bool (ovA b s a)) := HB5.out.cell 1
    have p0 : X.cell? ⟨w.heap.size, 0, none⟩ = some (.bool false) := HB4.out.cell 0
    have p1 : X.cell? ⟨w.heap.size, 1, none⟩ = some (.bool false) := HB4.out.cell 1
    have p2 : X.cell? ⟨w.heap.size, 2, none⟩ = some (.bool false) := HB4.out.cell 2
    have f0 := HB4.out.frozen 0
    have f1 := HB4.out.frozen 1
    have f2 := HB4.out.frozen 2
    go_wp2_with fail
    exact ret_fl rfl rfl rfl (((HB4.out.set_ 0 _).set_ 1 _).set_ 2 _) rfl ⟨rfl, ((HM.out.setCell (Nat.le_refl _) _).setCell (Nat.le_refl _) _).setCell (Nat.le_refl _) _⟩
  · have HX : Hid (Below W1.heap.size W1 (((y2.setCell ⟨W1.heap.size + 1 + 1, 0, none⟩ (.bool (cS b s a))).setCell ⟨W1.heap.size + 1 + 1, 1, none⟩ (.bool (ovA b s a))).setCell ⟨W1.heap.size + 1 + 1, 2, none⟩ (.bool (decide (a = 0))))) := Lib.hid (by (repeat (first | assumption | exact HY.out | exact Below.refl _ _ | apply bel_dr | apply bel_al | apply bel_set | omega | exact HY.out.size)))
    have HB5 : Hid (Bk (((y2.setCell ⟨W1.heap.size + 1 + 1, 0, none⟩ (.bool (cS b s a))).setCell ⟨W1.heap.size + 1 + 1, 1, none⟩ (.bool (ovA b s a))).setCell ⟨W1.heap.size + 1 + 1, 2, none⟩ (.bool (decide (a = 0)))) (W1.heap.size + 1 + 1) 174 #[.bool (cS b s a), .bool (ovA b s a), .bool (decide (a = 0))]) := Lib.hid (((B5.set_ 0 _).set_ 1 _).set_ 2 _)
    have HB4 := Lib.hid (HB0.out.below HX.out hz)
    have HM : Hid (Below w.heap.size w (((y2.setCell ⟨W1.heap.size + 1 + 1, 0, none⟩ (.bool (cS b s a))).setCell ⟨W1.heap.size + 1 + 1, 1, none⟩ (.bool (ovA b s a))).setCell ⟨W1.heap.size + 1 + 1, 2, none⟩ (.bool (decide (a = 0))))) := Lib.hid (HW.out.trans (HX.out.mono (Nat.le_of_lt hz)))
    generalize ((y2.setCell ⟨W1.heap.size + 1 + 1, 0, none⟩ (.bool (cS b s a))).setCell ⟨W1.heap.size + 1 + 1, 1, none⟩ (.bool (ovA b s a))).setCell ⟨W1.heap.size + 1 + 1, 2, none⟩ (.bool (decide (a = 0))) = X at *
    clear HY
    have q0 : X.cell? ⟨W1.heap.size + 1 + 1, 0, none⟩ = some (.bool (cS b s a)) := HB5.out.cell 0
    have q1 : X.cell? ⟨W1.heap.size + 1 + 1, 1, none⟩ = some (.bool (ovA b s a)) := HB5.out.cell 1
    have p0 : X.cell? ⟨w.heap.size, 0, none⟩ = some (.bool false) := HB4.out.cell 0
    have p1 : X.cell? ⟨w.heap.size, 1, none⟩ = some (.bool false) := HB4.out.cell 1
    have p2 : X.cell? ⟨w.heap.size, 2, none⟩ = some (.bool false) := HB4.out.cell 2
    have f0 := HB4.out.frozen 0
    have f1 := HB4.out.frozen 1
    have f2 := HB4.out.frozen 2
    go_wp2_with fail
    exact ret_fl rfl rfl rfl (((HB4.out.set_ 0 _).set_ 1 _).set_ 2 _) rfl ⟨rfl, ((HM.out.setCell (Nat.le_refl _) _).setCell (Nat.le_refl _) _).setCell (Nat.le_refl _) _⟩
  · have HX : Hid (Below W1.heap.size W1 (((y2.setCell ⟨W1.heap.size, 0, none⟩ (.bool (cS b s a))).setCell ⟨W1.heap.size, 1, none⟩ (.bool (ovA b s a))).setCell ⟨W1.heap.size, 2, none⟩ (.bool (decide (a = 0))))) := Lib.hid (by (repeat (first | assumption | exact HY.out | exact Below.refl _ _ | apply bel_dr | apply bel_al | apply bel_set | omega | exact HY.out.size)))
    have HB5 : Hid (Bk (((y2.setCell ⟨W1.heap.size, 0, none⟩ (.bool (cS b s a))).setCell ⟨W1.heap.size, 1, none⟩ (.bool (ovA b s a))).setCell ⟨W1.heap.size, 2, none⟩ (.bool (decide (a = 0)))) (W1.heap.size) 174 #[.bool (cS b s a), .bool (ovA b s a), .bool (decide (a = 0))]) := Lib.hid (((B5.set_ 0 _).set_ 1 _).set_ 2 _)
    have HB4 := Lib.hid (HB0.out.below HX.out hz)
    have HM : Hid (Below w.heap.size w (((y2.setCell ⟨W1.heap.size, 0, none⟩ (.bool (cS b s a))).setCell ⟨W1.heap.size, 1, none⟩ (.bool (ovA b s a))).setCell ⟨W1.heap.size, 2, none⟩ (.bool (decide (a = 0))))) := Lib.hid (HW.out.trans (HX.out.mono (Nat.le_of_lt hz)))
    generalize ((y2.setCell ⟨W1.heap.size, 0, none⟩ (.bool (cS b s a))).setCell ⟨W1.heap.size, 1, none⟩ (.bool (ovA b s a))).setCell ⟨W1.heap.size, 2, none⟩ (.bool (decide (a = 0))) = X at *
    clear HY
    have q0 : X.cell? ⟨W1.heap.size, 0, none⟩ = some (.bool (cS b s a)) := HB5.out.cell 0
    have q1 : X.cell? ⟨W1.heap.size, 1, none⟩ = some (.bool (ovA b s a)) := HB5.out.cell 1
    have p0 : X.cell? ⟨w.heap.size, 0, none⟩ = some (.bool false) := HB4.out.cell 0
    have p1 : X.cell? ⟨w.heap.size, 1, none⟩ = some (.bool false) := HB4.out.cell 1
    have p2 : X.cell? ⟨w.heap.size, 2, none⟩ = some (.bool false) := HB4.out.cell 2
    have f0 := HB4.out.frozen 0
    have f1 := HB4.out.frozen 1
    have f2 := HB4.out.frozen 2
    go_wp2_with fail
    exact ret_fl rfl rfl rfl (((HB4.out.set_ 0 _).set_ 1 _).set_ 2 _) rfl ⟨rfl, ((HM.out.setCell (Nat.le_refl _) _).setCell (Nat.le_refl _) _).setCell (Nat.le_refl _) _⟩
end Sp
end Go.Proofs.YtikbnfhnimjmmaaGreatDoor
namespace Go.Proofs.YtikbnfhnimjmmaaGreatDoor
open Go Go.RowKit Go.Shelf
namespace Sp
open Wd Nt Mm Is
set_option linter.unusedVariables false
set_option linter.unusedSimpArgs false
theorem cnew_a {X : World} {t : TypeId} {v : Value} {o : Obj} : ((X.alloc (.cells #[v] t)).alloc o).cell? ⟨X.heap.size, 0, none⟩ = some v := ((Bk.new X t #[v]).alloc o).cell 0
theorem cnew_c {X : World} {t : TypeId} {v : Value} {o : Obj} : ((X.alloc o).alloc (.cells #[v] t)).cell? ⟨X.heap.size + 1, 0, none⟩ = some v := (Bk.new' (w := X.alloc o) (t := t) (cs := #[v]) (by simp)).cell 0
theorem add_wrap (a b : Int) (c : Bool) : IntKind.u64.wrap (IntKind.u64.wrap (a + b) + b1 c) = add a b c := by rw [IntKind.wrap_u64, IntKind.wrap_u64]; unfold add; omega
theorem sub_wrap (a b : Int) (c : Bool) : IntKind.u64.wrap (IntKind.u64.wrap (a - b) - b1 c) = sub a b c := by rw [IntKind.wrap_u64, IntKind.wrap_u64]; unfold sub; omega
set_option maxRecDepth 100000 in
set_option maxHeartbeats 1000000 in
theorem add_l (a b : Int) (c : Bool) (ha : W a) (hb : W b) (w : World) : Calls Tryz.prog 206 #[.int .u64 a, .int .u64 b, .bool c] w fun e w' => e = .returned (.tuple #[.int .u64 (add a b c), .agg #[.bool (addO a b c), .bool (ovA a b (add a b c)), .bool (decide (add a b c = 0))]]) ∧ Below w.heap.size w w' := by
  have K0 := Lib.hid (fun W => choose_l c 1 0 W)
  have K1 := Lib.hid (fun W => flSum_l a b W)
  have hE := add_wrap a b c
  have HC := Lib.hid (cS_add ha hb c)
  have HO := Lib.hid (rfl : ovA a b (add a b c) = ovA a b (add a b c))
  have hs := W_add a b c
  change Hid (∀ W, Calls Tryz.prog 203 #[.bool c, .int .u64 1, .int .u64 0] W fun e w' => e = .returned (.int .u64 (b1 c)) ∧ w' = W) at K0
  generalize add a b c = s at *
  generalize addO a b c = so at *
  have K2 := Lib.hid (fun W g k h1 h2 => flSum1_l a b s ha hb hs g k W h1 h2)
  rw [HC.out, HO.out] at K2
  have heg : ∀ args w, (callFunc 286 args).run Tryz.prog w = .ok (.enter 286 args) w := enters_of Tryz.func286 (by kernel_rfl) rfl
  generalize b1 c = d at *
  generalize ovA a b s = o at *
  clear ha hb hs HC HO
  go_enter Tryz.func206, Tryz.ntmps206
  go_wp2_with fail
  have HB0 := Lib.hid ((Bk.new w 174 #[.bool false, .bool false, .bool false]))
  have HW := Lib.hid (bel_alloc (w := w) (.cells #[.bool false, .bool false, .bool false] 174))
  have hz : w.heap.size < (w.alloc (.cells #[.bool false, .bool false, .bool false] 174)).heap.size := by simp
  generalize w.alloc (.cells #[.bool false, .bool false, .bool false] 174) = W1 at *
  go_at_call 203
  refine (K0.out _).mono ?_
  rintro e y0 ⟨rfl, rfl⟩
  clear K0
  go_wp2_with fail
  go_at_call 257
  refine (K1.out _).mono ?_
  rintro e y1 ⟨rfl, rfl⟩
  clear K1
  go_wp2_with fail
  go_at_call 286
  refine (K2.out _ _ _ cnew_a cnew_c).mono ?_
  rintro e y2 ⟨rfl, hb⟩
  have HX : Hid (Below y0.heap.size y0 y2) := Lib.hid (bel_tr (bel_al (bel_alloc _) _) hb)
  have HB4 := Lib.hid (HB0.out.below HX.out hz)
  have HM : Hid (Below w.heap.size w y2) := Lib.hid (HW.out.trans (HX.out.mono (Nat.le_of_lt hz)))
  clear K2 hb HX hz HB0 HW
  obtain ⟨p0, p1, p2, f0, f1, f2⟩ := b3 HB4.out
  go_wp2_with fail
  exact ret_vf rfl rfl rfl rfl (((HB4.out.set_ 0 _).set_ 1 _).set_ 2 _) rfl ⟨rfl, ((HM.out.setCell (Nat.le_refl _) _).setCell (Nat.le_refl _) _).setCell (Nat.le_refl _) _⟩
set_option maxRecDepth 100000 in
set_option maxHeartbeats 1000000 in
theorem sub_l (a b : Int) (c : Bool) (ha : W a) (hb : W b) (w : World) : Calls Tryz.prog 211 #[.int .u64 a, .int .u64 b, .bool c] w fun e w' => e = .returned (.tuple #[.int .u64 (sub a b c), .agg #[.bool (subO a b c), .bool (ovS a b (sub a b c)), .bool (decide (sub a b c = 0))]]) ∧ Below w.heap.size w w' := by
  have K0 := Lib.hid (fun W => choose_l c 1 0 W)
  have K1 := Lib.hid (fun W => flRest_l a b W)
  have hE := sub_wrap a b c
  have HC := Lib.hid (cS_sub ha hb c)
  have HO := Lib.hid (ov_sub a b (sub a b c))
  have hs := W_sub a b c
  change Hid (∀ W, Calls Tryz.prog 203 #[.bool c, .int .u64 1, .int .u64 0] W fun e w' => e = .returned (.int .u64 (b1 c)) ∧ w' = W) at K0
  generalize sub a b c = s at *
  generalize subO a b c = so at *
  have K2 := Lib.hid (fun W g k h1 h2 => flRest1_l a b s ha hb hs g k W h1 h2)
  rw [HC.out, HO.out] at K2
  have heg : ∀ args w, (callFunc 258 args).run Tryz.prog w = .ok (.enter 258 args) w := enters_of Tryz.func258 (by kernel_rfl) rfl
  generalize b1 c = d at *
  generalize ovS a b s = o at *
  clear ha hb hs HC HO
  go_enter Tryz.func211, Tryz.ntmps211
  go_wp2_with fail
  have HB0 := Lib.hid ((Bk.new w 174 #[.bool false, .bool false, .bool false]))
  have HW := Lib.hid (bel_alloc (w := w) (.cells #[.bool false, .bool false, .bool false] 174))
  have hz : w.heap.size < (w.alloc (.cells #[.bool false, .bool false, .bool false] 174)).heap.size := by simp
  generalize w.alloc (.cells #[.bool false, .bool false, .bool false] 174) = W1 at *
  go_at_call 203
  refine (K0.out _).mono ?_
  rintro e y0 ⟨rfl, rfl⟩
  clear K0
  go_wp2_with fail
  go_at_call 214
  refine (K1.out _).mono ?_
  rintro e y1 ⟨rfl, rfl⟩
  clear K1
  go_wp2_with fail
  go_at_call 258
  refine (K2.out _ _ _ cnew_a cnew_c).mono ?_
  rintro e y2 ⟨rfl, hb⟩
  have HX : Hid (Below y0.heap.size y0 y2) := Lib.hid (bel_tr (bel_al (bel_alloc _) _) hb)
  have HB4 := Lib.hid (HB0.out.below HX.out hz)
  have HM : Hid (Below w.heap.size w y2) := Lib.hid (HW.out.trans (HX.out.mono (Nat.le_of_lt hz)))
  clear K2 hb HX hz HB0 HW
  obtain ⟨p0, p1, p2, f0, f1, f2⟩ := b3 HB4.out
  go_wp2_with fail
  exact ret_vf rfl rfl rfl rfl (((HB4.out.set_ 0 _).set_ 1 _).set_ 2 _) rfl ⟨rfl, ((HM.out.setCell (Nat.le_refl _) _).setCell (Nat.le_refl _) _).setCell (Nat.le_refl _) _⟩
end Sp
end Go.Proofs.YtikbnfhnimjmmaaGreatDoor
