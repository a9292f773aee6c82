/- Chapter 12's example; the laws' first look. -/
import Derived.Test.YtbdhibgljaelbaaDoorN3
import Derived.Test.YtbdhibgljaelbaaDoorMF
namespace Go.Proofs.YtbdhibgljaelbaaDoor
open Go Go.RowKit Go.Sort Go.Shelf
namespace Lb
open Wd Nt Gr
set_option linter.unusedVariables false
set_option linter.unusedSimpArgs false
theorem bk_rws {T : Type} [Sh T] {w : World} {B g : Nat} {t : TypeId} {xs : List T} (h : Bk w g t (row xs).toArray) (hB : B ≤ g) (hl : xs.length ≤ 1000000) : Rws t B (.slice (some ⟨g, 0, none⟩) xs.length xs.length) xs w := by
  have hsz : (row xs).toArray.size = xs.length * Sh.k T := by rw [List.size_toArray, row_len]
  exact ⟨row_len xs, .inr ⟨g, xs.length, (row xs).toArray, rfl, hB, h, Nat.le_refl _, by simp only [maxLen]; omega, hsz, List.take_of_length_le (by rw [Array.length_toList, hsz]; exact Nat.le_refl _)⟩⟩
set_option maxRecDepth 100000 in
theorem lop_l (k d e a b c im : Int) (w : World) : Calls Tryd.prog 9 #[.int .i64 k, .int .i64 d, .int .i64 e, .int .i64 a, .int .i64 b, .int .i64 c, .int .u64 im] w fun r w' => r = .returned (.agg (Op.vs ⟨k, d, e, a, b, c, 0, im⟩).toArray) ∧ w' = w.alloc (.cells (Op.vs ⟨k, d, e, a, b, c, 0, im⟩).toArray 33) := by
  unfold Op.vs
  dsimp only
  simp only [List.toArray]
  go_enter Tryd.func9, Tryd.ntmps9
  go_wp2_with fail
  exact bodyPost_ret (results_cell_row rfl _ _ w.heap.size 33 #[.int .i64 k, .int .i64 d, .int .i64 e, .int .i64 a, .int .i64 b, .int .i64 c, .int .i64 0, .int .u64 im] (0, 0) _ rfl (Bk.new w _ _) Tryd.underlying33 rfl (by kernel_rfl)) rfl ⟨rfl, rfl⟩
def endO : Op := ⟨17, -1, -1, -1, -1, -1, 0, 0⟩
set_option maxRecDepth 100000 in
theorem lend_l (w : World) : Calls Tryd.prog 10 #[] w fun r w' => r = .returned (.agg (Op.vs endO).toArray) ∧ w' = (w.alloc (.cells (Op.vs endO).toArray 33)).alloc (.cells (Op.vs endO).toArray 33) := by
  have HO := Lib.hid (fun W => lop_l 17 (-1) (-1) (-1) (-1) (-1) 0 W)
  unfold Op.vs at *
  unfold endO
  dsimp only at *
  simp only [List.toArray] at *
  go_enter Tryd.func10, Tryd.ntmps10
  go_wp2_with fail
  go_at_call 9
  refine (HO.out _).mono ?_
  rintro r w1 ⟨rfl, rfl⟩
  go_wp2_with fail
  exact bodyPost_ret (results_cell_row rfl _ _ w.heap.size 33 #[.int .i64 17, .int .i64 (-1), .int .i64 (-1), .int .i64 (-1), .int .i64 (-1), .int .i64 (-1), .int .i64 0, .int .u64 0] (0, 0) _ rfl ((Bk.new w _ _).alloc _) Tryd.underlying33 rfl (by kernel_rfl)) rfl ⟨rfl, rfl⟩
def exB : Bf := ⟨2, 2, false⟩
def exO1 : Op := ⟨16, 0, -1, -1, -1, -1, 0, 2⟩
def exO2 : Op := ⟨15, -1, -1, 0, 0, -1, 0, 0⟩
def exP : Pg := ⟨2, [exB], [exO1, exO2, endO]⟩
set_option maxRecDepth 100000 in
theorem lexample_l (w : World) : Calls Tryd.prog 7 #[] w fun r w' => (∃ A X c d, r = .returned (pgV exP A c X d) ∧ Rws 29 w.heap.size (.slice A 1 c) exP.bf w' ∧ Rws 33 w.heap.size (.slice X 3 d) exP.op w') ∧ Below w.heap.size w w' := by
  have HO1 := Lib.hid (fun W => lop_l 16 0 (-1) (-1) (-1) (-1) 2 W)
  have HO2 := Lib.hid (fun W => lop_l 15 (-1) (-1) 0 0 (-1) 0 W)
  have HE := Lib.hid (fun W => lend_l W)
  unfold endO at HE
  unfold Op.vs at HO1 HO2 HE
  dsimp only at *
  simp only [List.toArray] at HO1 HO2 HE
  go_enter Tryd.func7, Tryd.ntmps7
  go_wp2_with fail
  go_at_call 9
  refine (HO1.out _).mono ?_
  rintro r w1 ⟨rfl, rfl⟩
  go_wp2_with fail
  go_at_call 9
  refine (HO2.out _).mono ?_
  rintro r w2 ⟨rfl, rfl⟩
  go_wp2_with fail
  go_at_call 10
  refine (HE.out _).mono ?_
  rintro r w3 ⟨rfl, rfl⟩
  go_wp2_with fail
  refine bodyPost_ret (results_cell_row rfl _ _ w.heap.size 26 #[.int .i64 2, .slice (some ⟨w.heap.size + 1, 0, none⟩) 1 1, .slice (some ⟨w.heap.size + 1 + 1 + 1 + 1 + 1 + 1, 0, none⟩) 3 3] (0, 0) _ rfl (((((((Bk.new w _ _).alloc _).alloc _).alloc _).alloc _).alloc _).alloc _) Tryd.underlying26 rfl (by kernel_rfl)) rfl ⟨⟨_, _, _, _, rfl, ?_, ?_⟩, ?_⟩
  · exact bk_rws (xs := [exB]) ((((((Bk.new' (by simp)).alloc _).alloc _).alloc _).alloc _).alloc _) (by omega) (by decide)
  · exact bk_rws (xs := [exO1, exO2, endO]) (Bk.new' (by simp)) (by omega) (by decide)
  · exact bel_al' (bel_al' (bel_al' (bel_al' (bel_al' (bel_al' (bel_al _) _) _) _) _) _) _
/-! ### a run that is reckoned -/
theorem RunP.is {p : Pg} {h : List (List Int)} {r : Ans} {N : Nat} {f : Bool} {s : St} (hr : RunP p h r) (h0 : (chkP p).2 = 0) (h1 : ¬ 16777216 < evP p.op) (h2 : fitP p.bf h = true) (hrun : runF p.op (enP p.op) N (st0 p h) = some (f, s)) : r = (if f then ⟨s.rows, s.seen, 0⟩ else ⟨[], s.seen, 11⟩) := by
  unfold RunP at hr
  rw [if_neg (by simpa using h0), if_neg h1, if_neg (by rw [h2]; decide)] at hr
  obtain ⟨f', s', ⟨n', h3⟩, h4⟩ := hr
  cases runF_det h3 hrun
  exact h4
/-- what a run comes to, reckoned: its end, rows, events -/
def told (p : Pg) (h : List (List Int)) (N : Nat) : Option (Bool × List (List Int) × List Ev) := (runF p.op (enP p.op) N (st0 p h)).map fun q => (q.1, q.2.rows, q.2.seen)
theorem RunP.told {p : Pg} {h : List (List Int)} {r : Ans} {N : Nat} {f : Bool} {rows : List (List Int)} {seen : List Ev} (hr : RunP p h r) (h0 : ((chkP p).2 = 0 ∧ ¬ 16777216 < evP p.op ∧ fitP p.bf h = true)) (ht : told p h N = some (f, rows, seen)) : r = (if f then ⟨rows, seen, 0⟩ else ⟨[], seen, 11⟩) := by
  unfold Lb.told at ht
  rw [Option.map_eq_some_iff] at ht
  obtain ⟨⟨f', s⟩, h3, h4⟩ := ht
  cases h4
  exact hr.is h0.1 h0.2.1 h0.2.2 h3
theorem ex_run {r : Ans} (hr : RunP exP [[7, 7]] r) : r = ⟨[[0, 1]], [(0, -1), (1, 0), (0, -1), (1, 1)], 0⟩ :=
  hr.told (N := 20) (f := true) (by decide +kernel) (by decide +kernel)
theorem exP_wf : exP.wf := ⟨by unfold I64 exP; decide, fun b hb => by
  obtain rfl := List.mem_singleton.1 hb
  exact ⟨by unfold I64 exB; decide, by unfold I64 exB; decide⟩, fun o ho => by
  simp only [exP, List.mem_cons, List.not_mem_nil, or_false] at ho
  rcases ho with rfl | rfl | rfl <;> exact ⟨by unfold I64; decide, by unfold I64; decide, by unfold I64; decide, by unfold I64; decide, by unfold I64; decide, by unfold I64; decide, by unfold I64; decide, by unfold W; decide⟩⟩
theorem lit_u (w : World) (ys : List Int) (g : Nat) (hg : g = w.heap.size) (hw : Ws ys) (hl : ys.length ≤ 1000000) : HrW ((w.alloc (.cells (us ys) 31)).alloc (.cells #[.slice (some ⟨g, 0, none⟩) ys.length ys.length] 43)) (w.heap.size + 2) (some ⟨g + 1, 0, none⟩) 1 [⟨some ⟨g, 0, none⟩, ys.length, ys.length, ys⟩] := by
  subst hg
  refine ⟨?_, fun x hx => ?_⟩
  · exact bk_rdr (xs := [(⟨some ⟨w.heap.size, 0, none⟩, ys.length, ys.length, ys⟩ : Hr)]) (t := 43) (Bk.new' (by simp)) (by omega)
  · obtain rfl := List.mem_singleton.1 hx
    have hb : Bk ((w.alloc (.cells (us ys) 31)).alloc (.cells #[.slice (some ⟨w.heap.size, 0, none⟩) ys.length ys.length] 43)) w.heap.size 31 (us ys) := (Bk.new w _ _).alloc _
    exact ⟨hb.rd0 (by omega) hw rfl, Nat.le_refl _, by show ys.length ≤ _; omega⟩
set_option maxRecDepth 100000 in
set_option maxHeartbeats 4000000 in
theorem lives_l (w : World) (hT : TabF w) : Calls Tryd.prog 6 #[] w fun e w' => e = .returned (.bool true) ∧ Below w.heap.size w w' := by
  have HT := Lib.hid hT
  have HEX := Lib.hid (lexample_l w)
  clear hT
  go_enter Tryd.func6, Tryd.ntmps6
  go_wp2_with fail
  go_at_call 7
  refine HEX.out.mono ?_
  rintro e w1 ⟨⟨A, X, c, d, rfl, hA, hX⟩, hb⟩
  have HB1 := Lib.hid hb
  have HA := Lib.hid (rws_rd hA).2.1
  have HX := Lib.hid (rws_rd hX).2.1
  have H7 := Lib.hid (lit_u w1 [7, 7] w1.heap.size rfl (by intro x hx; simp at hx; subst hx; unfold W; decide) (by decide))
  clear hb hA hX HEX
  have HBL := Lib.hid (fun (o o' : Obj) => bel_al' (bel_al (w := w1) o) o')
  have HRU := Lib.hid (fun (o o' : Obj) (hh : HrW ((w1.alloc o).alloc o') (w1.heap.size + 2) (some ⟨w1.heap.size + 1, 0, none⟩) 1 [⟨some ⟨w1.heap.size, 0, none⟩, 2, 2, [7, 7]⟩]) => run_l exP exP_wf A X (some ⟨w1.heap.size + 1, 0, none⟩) c d 1 1 _ ((w1.alloc o).alloc o') (HT.out.keep (bel_tr HB1.out (HBL.out o o'))) ((HA.out.below (HBL.out o o')).more (HBL.out o o').size) ((HX.out.below (HBL.out o o')).more (HBL.out o o').size) (hh.more (by simp)) (by decide))
  unfold pgV at *
  go_wp2_with fail
  go_at_call 13
  refine (HRU.out _ _ H7.out).mono ?_
  rintro e w2 ⟨⟨vo, vl, r, rfl, hr, ho, hv⟩, hb⟩
  obtain rfl := ex_run hr
  have HB2 := Lib.hid (bel_tr (bel_tr HB1.out (HBL.out _ _)) hb)
  obtain ⟨Ao, co, hso, rfl, hoh, hoy, hoc⟩ := ho.hr (by intro y hy; simp at hy; subst hy; decide)
  obtain ⟨Av, cv, rfl, hcv⟩ := rws_form hv
  have HV := Lib.hid (rws_rd hv).2.1
  have H01 := Lib.hid (lit_u w2 [0, 1] w2.heap.size rfl (by intro x hx; simp at hx; rcases hx with rfl | rfl <;> (unfold W; decide)) (by decide))
  have HBM := Lib.hid (fun (o o' : Obj) => bel_al' (bel_al (w := w2) o) o')
  have HRW : Hid (∀ (o o' : Obj), HrW ((w2.alloc o).alloc o') (w2.heap.size + 2) (some ⟨w2.heap.size + 1, 0, none⟩) 1 [⟨some ⟨w2.heap.size, 0, none⟩, 2, 2, [0, 1]⟩] → Calls Tryd.prog 14 #[.slice Ao 1 co, .slice (some ⟨w2.heap.size + 1, 0, none⟩) 1 1] ((w2.alloc o).alloc o') fun e w' => e = .returned (.bool true) ∧ ∃ q, w' = ((w2.alloc o).alloc o').drewN q) := Lib.hid (fun o o' hh => by
    have hx := rows_u Ao (some ⟨w2.heap.size + 1, 0, none⟩) 1 co 1 1 _ _ hso _ ((w2.alloc o).alloc o') (hoh.below (HBM.out o o')) hh (by decide) (by decide) (fun x hx => by
      have h1 : x.ys ∈ hrYs hso := List.mem_map.2 ⟨x, hx, rfl⟩
      rw [hoy] at h1
      obtain h2 := List.mem_singleton.1 h1
      have h3 := (hoh.each x hx).1.len
      rw [h2] at h3
      rw [← h3]; decide) (fun x hx => by obtain rfl := List.mem_singleton.1 hx; show (2 : Nat) ≤ 1000000; decide)
    rw [hoy] at hx
    exact hx)
  have HVS : Hid (∀ (W : World) (h : Below w2.heap.size w2 W) (g : Nat) (hg : Bk W g 46 #[.int .i64 0, .int .i64 (-1), .int .i64 1, .int .i64 0, .int .i64 0, .int .i64 (-1), .int .i64 1, .int .i64 1]), Calls Tryd.prog 30 #[.slice Av 4 cv, .slice (some ⟨g, 0, none⟩) 4 4] W fun e w' => e = .returned (.bool true) ∧ ∃ q, w' = W.drewN q) := Lib.hid (fun W h g hg => by
    have hx := same_ev Av (some ⟨g, 0, none⟩) 4 cv 4 4 _ (g + 1) _ [(0, -1), (1, 0), (0, -1), (1, 1)] W (HV.out.below h) (bk_rdr (xs := [((0 : Int), (-1 : Int)), (1, 0), (0, -1), (1, 1)]) hg (Nat.lt_succ_self g)) (by decide) (by decide)
    exact hx)
  clear hb hr ho hv hoh hoy HRU H7 HV HT HA HX HBL hoc hcv
  go_wp2_with fail
  go_at_call 14
  refine (HRW.out _ _ H01.out).mono ?_
  rintro e w3 ⟨rfl, q, rfl⟩
  go_wp2_with fail
  go_at_call 30
  refine (HVS.out _ (((HBM.out _ _).trans (below_drewN (Below.refl _ _) _)).alloc (by simp; omega) _) _ (Bk.new' (by simp))).mono ?_
  rintro e w4 ⟨rfl, q4, rfl⟩
  go_wp2_with fail
  go_ret
  exact ⟨rfl, below_drewN (bel_al' (below_drewN (bel_tr HB2.out (HBM.out _ _)) _) _) _⟩
end Lb
end Go.Proofs.YtbdhibgljaelbaaDoor
