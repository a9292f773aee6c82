/- Chapter 13's example; the laws' first look. -/
import Derived.Test.YtjdpbelfagkaiaaDoorS8
import Derived.Test.YtjdpbelfagkaiaaDoorN4
namespace Go.Proofs.YtjdpbelfagkaiaaDoor
open Go Go.RowKit Go.Sort Go.Shelf
namespace Lb
open Wd Nt Gr
set_option linter.unusedVariables false
set_option linter.unusedSimpArgs false
set_option maxRecDepth 100000 in
theorem sop_l (k d a b bf im : Int) (w : World) : Calls Tryd.prog 41 #[.int .i64 k, .int .i64 d, .int .i64 a, .int .i64 b, .int .i64 bf, .int .u64 im] w fun r w' => r = .returned (.agg (Op.vs ⟨k, d, -1, a, b, -1, bf, im⟩).toArray) ∧ w' = w.alloc (.cells (Op.vs ⟨k, d, -1, a, b, -1, bf, im⟩).toArray 33) := by
  unfold Op.vs
  dsimp only
  simp only [List.toArray]
  go_enter Tryd.func41, Tryd.ntmps41
  go_wp2_with fail
  exact bodyPost_ret (results_cell_row rfl _ _ w.heap.size 33 #[.int .i64 k, .int .i64 d, .int .i64 (-1), .int .i64 a, .int .i64 b, .int .i64 (-1), .int .i64 bf, .int .u64 im] (0, 0) _ rfl (Bk.new w _ _) Tryd.underlying33 rfl (by kernel_rfl)) rfl ⟨rfl, rfl⟩
def sxB : List Bf := [⟨2, 1, true⟩, ⟨2, 2, false⟩]
def sxO1 : Op := ⟨14, 0, -1, -1, -1, -1, 0, 0⟩
def sxO2 : Op := ⟨14, 1, -1, 0, -1, -1, 0, 0⟩
def sxP : Pg := ⟨3, sxB, [sxO1, sxO2]⟩
set_option maxRecDepth 100000 in
set_option maxHeartbeats 2000000 in
theorem sexample_l (w : World) : Calls Tryd.prog 40 #[] w fun r w' => (∃ A X c d, r = .returned (pgV sxP A c X d) ∧ Rws 29 w.heap.size (.slice A 2 c) sxP.bf w' ∧ Rws 33 w.heap.size (.slice X 2 d) sxP.op w') ∧ Below w.heap.size w w' := by
  have HO1 := Lib.hid (fun W => sop_l 14 0 (-1) (-1) 0 0 W)
  have HO2 := Lib.hid (fun W => sop_l 14 1 0 (-1) 0 0 W)
  unfold Op.vs at HO1 HO2
  dsimp only at *
  simp only [List.toArray] at HO1 HO2
  go_enter Tryd.func40, Tryd.ntmps40
  go_wp2_with fail
  go_at_call 41
  refine (HO1.out _).mono ?_
  rintro r w1 ⟨rfl, rfl⟩
  go_wp2_with fail
  go_at_call 41
  refine (HO2.out _).mono ?_
  rintro r w2 ⟨rfl, rfl⟩
  go_wp2_with fail
  refine bodyPost_ret (results_cell_row rfl _ _ w.heap.size 26 #[.int .i64 3, .slice (some ⟨w.heap.size + 1, 0, none⟩) 2 2, .slice (some ⟨w.heap.size + 1 + 1 + 1 + 1, 0, none⟩) 2 2] (0, 0) _ rfl (((((Bk.new w _ _).alloc _).alloc _).alloc _).alloc _) Tryd.underlying26 rfl (by kernel_rfl)) rfl ⟨⟨_, _, _, _, rfl, ?_, ?_⟩, ?_⟩
  · exact bk_rws (xs := sxB) ((((Bk.new' (by simp)).alloc _).alloc _).alloc _) (by omega) (by decide)
  · exact bk_rws (xs := [sxO1, sxO2]) (Bk.new' (by simp)) (by omega) (by decide)
  · exact bel_al' (bel_al' (bel_al' (bel_al' (bel_al _) _) _) _) _
theorem sxP_wf : sxP.wf := ⟨by unfold I64 sxP; decide, fun b hb => by
  simp only [sxP, sxB, List.mem_cons, List.not_mem_nil, or_false] at hb
  rcases hb with rfl | rfl <;> exact ⟨by unfold I64; decide, by unfold I64; decide⟩, fun o ho => by
  simp only [sxP, List.mem_cons, List.not_mem_nil, or_false] at ho
  rcases ho with rfl | rfl <;> exact ⟨by unfold I64; decide, by unfold I64; decide, by unfold I64; decide, by unfold I64; decide, by unfold I64; decide, by unfold I64; decide, by unfold I64; decide, by unfold W; decide⟩⟩
/-- a set that is reckoned -/
theorem SecN.is {bufs : List Bf} {ops : List Op} {s : Nat} (h : SecN bufs ops s) {n t : Nat} (ht : itr bufs ops n = t) (hf : grown bufs ops t = t) : s = t := h.1.uniq ⟨hf, n, ht.symm⟩
theorem SecA.is {p : Pg} {r : Nat × Int} (h : SecA p r) (h0 : (chkP p).2 = 0) {n t : Nat} (ht : itr p.bf p.op n = t) (hf : grown p.bf p.op t = t) : r = chkL p.bf t p.op 0 := by
  unfold SecA at h
  rw [if_neg (by simpa using h0)] at h
  obtain ⟨s, hs, rfl⟩ := h
  rw [hs.is ht hf]
theorem sx_chk {r : Nat × Int} (h : SecA sxP r) : r = (1, 12) := by
  rw [h.is (n := 3) (t := 3) (by decide +kernel) (by decide +kernel) (by decide +kernel)]
  decide +kernel
set_option maxRecDepth 100000 in
set_option maxHeartbeats 2000000 in
theorem slives_l (w : World) (hT : TabF w) : Calls Tryd.prog 39 #[] w fun e w' => e = .returned (.bool true) ∧ Below w.heap.size w w' := by
  have HT := Lib.hid hT
  have HEX := Lib.hid (sexample_l w)
  clear hT
  go_enter Tryd.func39, Tryd.ntmps39
  go_wp2_with fail
  go_at_call 40
  refine HEX.out.mono ?_
  rintro e w1 ⟨⟨A, X, c, d, rfl, hA, hX⟩, hb⟩
  have HB1 := Lib.hid hb
  have HC := Lib.hid (scheck_s sxP sxP_wf A X c d w1 (HT.out.keep hb) (rws_rd hA).2.1 (rws_rd hX).2.1)
  clear hb hA hX HEX
  unfold pgV at *
  go_wp2_with fail
  go_at_call 42
  refine HC.out.mono ?_
  rintro e w2 ⟨⟨r, rfl, hr⟩, hb⟩
  obtain rfl := sx_chk hr
  have HB2 := Lib.hid (bel_tr HB1.out hb)
  clear hb hr HC
  go_wp2_with fail
  go_ret
  exact ⟨rfl, HB2.out⟩
end Lb
end Go.Proofs.YtjdpbelfagkaiaaDoor
