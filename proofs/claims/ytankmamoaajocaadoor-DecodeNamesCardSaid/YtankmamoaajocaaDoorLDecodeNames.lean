/- DecodeNames' walk. -/
import Derived.Test.YtankmamoaajocaaDoorLDecodeEach
namespace Go.Proofs.YtankmamoaajocaaDoor
open Go Go.RowKit Go.Shelf
namespace decodeNames
open Is Nt decodeEach
set_option linter.unusedVariables false
set_option linter.unusedSimpArgs false
attribute [local go_sem] Oper.semAt_some
theorem at_k {s : ByteArray} {l : List Int} {k : Nat} (h : (l.zipIdx.all fun x => bA s (k + x.2) == x.1) = true) (hl : k + l.length ≤ s.size) : Pre s k l := by
  refine ⟨hl, fun j c hj => ?_⟩
  rw [List.all_eq_true] at h
  have h2 := h (c, j) (by rw [List.mem_zipIdx_iff_getElem?]; exact hj)
  simpa using h2
theorem nA : rD ⟨#[195]⟩ 2 = (zI, 0, 2) := rD_out (.inr (by decide))
theorem nB : rD ⟨#[195]⟩ 1 = (zI, 0, 8) := rD_end rfl
theorem nC : (allD ⟨#[195, 72, 17, 200, 0]⟩).1.length = 2 ∧ (allD ⟨#[195, 72, 17, 200, 0]⟩).2 = 4 := by decide +kernel
theorem nD : rD ⟨#[144, 75, 137, 148, 165, 128, 0, 0, 0]⟩ 1 = (⟨4, 0, 2, 0, 13, 12, 4, 128, 0⟩, 8, 0) :=
  rD_eq (s := ⟨#[144, 75, 137, 148, 165, 128, 0, 0, 0]⟩) (k := 1) (by decide) (by decide) (wf_small (by decide)) (at_k (by decide +kernel) (by decide))
theorem nE : (allD ⟨#[195, 195, 0]⟩).1.length = 2 := by decide +kernel
theorem nF : posN ⟨#[195, 195, 0]⟩ 0 = 0 ∧ posN ⟨#[195, 195, 0]⟩ 1 = 1 := by decide +kernel
theorem nG : (insN ⟨#[195, 195, 0]⟩ 0).op = 33 ∧ (insN ⟨#[195, 195, 0]⟩ 1).op = 33 := by decide +kernel
theorem nb0 : rD ⟨#[72, 139, 5]⟩ 0 = (zI, 0, 4) := rD_bad (s := ⟨#[72, 139, 5]⟩) (k := 0) (by decide) (by decide +kernel)
theorem nb1 : rD ⟨#[74, 17, 200]⟩ 0 = (zI, 0, 4) := rD_bad (s := ⟨#[74, 17, 200]⟩) (k := 0) (by decide) (by decide +kernel)
theorem nb2 : rD ⟨#[72, 139, 132, 36, 5, 0, 0, 0]⟩ 0 = (zI, 0, 4) := rD_bad (s := ⟨#[72, 139, 132, 36, 5, 0, 0, 0]⟩) (k := 0) (by decide) (by decide +kernel)
theorem nb3 : rD ⟨#[65, 96]⟩ 0 = (zI, 0, 4) := rD_bad (s := ⟨#[65, 96]⟩) (k := 0) (by decide) (by decide +kernel)
theorem nb4 : rD ⟨#[72, 193, 224, 0]⟩ 0 = (zI, 0, 4) := rD_bad (s := ⟨#[72, 193, 224, 0]⟩) (k := 0) (by decide) (by decide +kernel)
theorem nb5 : rD ⟨#[196, 226, 243, 246, 6]⟩ 0 = (zI, 0, 4) := rD_bad (s := ⟨#[196, 226, 243, 246, 6]⟩) (k := 0) (by decide) (by decide +kernel)
theorem nb6 : rD ⟨#[72, 139, 4, 32]⟩ 0 = (zI, 0, 4) := rD_bad (s := ⟨#[72, 139, 4, 32]⟩) (k := 0) (by decide) (by decide +kernel)
set_option maxRecDepth 100000 in
set_option maxHeartbeats 4000000 in
theorem bad_c {G : World → Prop} (dc : DecC G) (s : ByteArray) (hs : s.size ≤ 100) (h : rD s 0 = (zI, 0, 4)) (w : World) (HG : Hid (G w)) : Calls Tryd.prog 11 #[.string s] w fun e w' => e = .returned (.bool true) ∧ Below w.heap.size w w' := by
  have HB0 := Lib.hid (Below.refl w.heap.size w)
  have H1 := Lib.hid (fun W hg => dc.inst s 0 W hg i64_z (by omega))
  rw [h] at H1
  have HEQ := instEq 0 0 0 0 0 0 0 0 0 0 0 0 0 0 0 0 0 0
  rw [show eqI ⟨0, 0, 0, 0, 0, 0, 0, 0, 0⟩ ⟨0, 0, 0, 0, 0, 0, 0, 0, 0⟩ = true from rfl] at HEQ
  unfold tD zI Ins.vs at H1
  dsimp only at H1
  clear h hs
  go_enter Tryd.func11, Tryd.ntmps11
  go_wp2_with fail
  go_at_call 8
  refine (H1.out _ (dc.tb HG (by assumption))).mono ?_
  rintro e w1 ⟨rfl, hb⟩
  have HB1 : Hid (Below w.heap.size w (w1.alloc (.cells #[.int .i64 0, .int .i64 0, .int .i64 0, .int .i64 0, .int .i64 0, .int .i64 0, .int .i64 0, .int .i64 0, .int .i64 0] 26))) := Lib.hid (below_al hb _)
  have HI1 := Lib.hid (Bk.new w1 26 #[.int .i64 0, .int .i64 0, .int .i64 0, .int .i64 0, .int .i64 0, .int .i64 0, .int .i64 0, .int .i64 0, .int .i64 0])
  clear hb
  obtain ⟨b0, b1, b2, b3, b4, b5, b6, b7, b8⟩ := c9 HI1.out
  go_wp2_with fail
  go_ret
  exact ⟨rfl, HB1.out⟩
set_option maxRecDepth 100000 in
set_option maxHeartbeats 4000000 in
theorem walk_ (dc : DecC TabE) (w : World) (HG : Hid (TabE w)) :
    Calls Tryd.prog 3 #[] w fun e w' => e = .returned (.bool true) ∧ Below w.heap.size w w' := by
  have HL := Lib.hid (fun W hg => dlives_c dc W (Lib.hid hg))
  have H1 := Lib.hid (fun W hg => dc.inst ⟨#[195]⟩ 2 W hg (i64s (by decide) (by decide)) (by decide))
  have H2 := Lib.hid (fun W hg => dc.inst ⟨#[195]⟩ 1 W hg (i64s (by decide) (by decide)) (by decide))
  have H3 := Lib.hid (fun W hg => dc.all ⟨#[195, 72, 17, 200, 0]⟩ W hg (by decide))
  have H4 := Lib.hid (fun W hg => dc.inst ⟨#[144, 75, 137, 148, 165, 128, 0, 0, 0]⟩ 1 W hg (i64s (by decide) (by decide)) (by decide))
  rw [nA] at H1
  rw [nB] at H2
  rw [nD] at H4
  unfold TellA at H3
  rw [nC.1, nC.2, if_neg (by decide)] at H3
  unfold tD zI Ins.vs at H1 H2
  unfold tD Ins.vs at H4
  dsimp only at H1 H2 H4
  generalize (allD ⟨#[195, 72, 17, 200, 0]⟩).1 = rows at H3
  refine (callsIn_wide (n := 5)).1 ?_
  refine callsIn_of_wp_marks Tryd.func3 rfl trivial ?_ rfl
  simp only [Tryd.ntmps3, List.size_toArray, List.length_cons, List.length_nil, Nat.reduceAdd, Nat.reduceSub, Array.replicate_succ, Array.replicate_zero, List.push_toArray, List.append_toArray, List.nil_append, List.cons_append]
  have HB0 : Hid (Below w.heap.size w (w.alloc (.cells #[.bool false] 4))) := Lib.hid ((Below.refl w.heap.size w).alloc (Nat.le_refl _) _)
  have HR0 : Hid (Bk (w.alloc (.cells #[.bool false] 4)) w.heap.size 4 #[.bool false]) := Lib.hid (Bk.new _ _ _)
  gi_wp2
  refine ⟨trivial, ?_⟩
  gi_at_call 7
  refine (callsIn_wide.2 (HL.out _ (HG.out.keep HB0.out))).mono ?_
  rintro e w1 ⟨rfl, hb⟩
  have HB1 := Lib.hid (bel3 HB0.out hb)
  have HR1 := Lib.hid (HR0.out.below hb HR0.out.lt)
  clear hb HR0 HB0 HL
  gi_wp2
  refine ⟨trivial, ?_⟩
  gi_at_call 8
  refine (callsIn_wide.2 (H1.out _ (HG.out.keep HB1.out))).mono ?_
  rintro e w2 ⟨rfl, hb⟩
  have HB2 : Hid (Below w.heap.size w (w2.alloc (.cells #[.int .i64 0, .int .i64 0, .int .i64 0, .int .i64 0, .int .i64 0, .int .i64 0, .int .i64 0, .int .i64 0, .int .i64 0] 26))) := Lib.hid (below_al (bel3 HB1.out hb) _)
  have HR2 : Hid (Bk (w2.alloc (.cells #[.int .i64 0, .int .i64 0, .int .i64 0, .int .i64 0, .int .i64 0, .int .i64 0, .int .i64 0, .int .i64 0, .int .i64 0] 26)) w.heap.size 4 #[.bool false]) := Lib.hid ((HR1.out.below hb HR1.out.lt).alloc _)
  clear hb HR1 HB1 H1
  gi_wp2
  refine ⟨trivial, ?_⟩
  gi_at_call 8
  refine (callsIn_wide.2 (H2.out _ (HG.out.keep HB2.out))).mono ?_
  rintro e w3 ⟨rfl, hb⟩
  have HB3 : Hid (Below w.heap.size w (w3.alloc (.cells #[.int .i64 0, .int .i64 0, .int .i64 0, .int .i64 0, .int .i64 0, .int .i64 0, .int .i64 0, .int .i64 0, .int .i64 0] 26))) := Lib.hid (below_al (bel3 HB2.out hb) _)
  have HR3 : Hid (Bk (w3.alloc (.cells #[.int .i64 0, .int .i64 0, .int .i64 0, .int .i64 0, .int .i64 0, .int .i64 0, .int .i64 0, .int .i64 0, .int .i64 0] 26)) w.heap.size 4 #[.bool false]) := Lib.hid ((HR2.out.below hb HR2.out.lt).alloc _)
  clear hb HR2 HB2 H2
  gi_wp2
  refine ⟨trivial, ?_⟩
  gi_at_call 9
  refine (callsIn_wide.2 (H3.out _ (HG.out.keep HB3.out))).mono ?_
  rintro e w4 ⟨A, c, rfl, _, _, hb⟩
  have HB4 := Lib.hid (bel3 HB3.out hb)
  have HR4 := Lib.hid (HR3.out.below hb HR3.out.lt)
  clear hb HR3 HB3 H3
  gi_wp2
  refine ⟨trivial, ?_⟩
  gi_at_call 8
  refine (callsIn_wide.2 (H4.out _ (HG.out.keep HB4.out))).mono ?_
  rintro e w5 ⟨rfl, hb⟩
  have HB5 : Hid (Below w.heap.size w (w5.alloc (.cells #[.int .i64 4, .int .i64 0, .int .i64 2, .int .i64 0, .int .i64 13, .int .i64 12, .int .i64 4, .int .i64 128, .int .i64 0] 26))) := Lib.hid (below_al (bel3 HB4.out hb) _)
  have HR5 : Hid (Bk (w5.alloc (.cells #[.int .i64 4, .int .i64 0, .int .i64 2, .int .i64 0, .int .i64 13, .int .i64 12, .int .i64 4, .int .i64 128, .int .i64 0] 26)) w.heap.size 4 #[.bool false]) := Lib.hid ((HR4.out.below hb HR4.out.lt).alloc _)
  have HI5 : Hid (Bk (w5.alloc (.cells #[.int .i64 4, .int .i64 0, .int .i64 2, .int .i64 0, .int .i64 13, .int .i64 12, .int .i64 4, .int .i64 128, .int .i64 0] 26)) w5.heap.size 26 #[.int .i64 4, .int .i64 0, .int .i64 2, .int .i64 0, .int .i64 13, .int .i64 12, .int .i64 4, .int .i64 128, .int .i64 0]) := Lib.hid (Bk.new _ _ _)
  have hlw : w.heap.size < w5.heap.size := Nat.lt_of_lt_of_le HR4.out.lt hb.size
  clear hb HR4 HB4 H4
  gi_wp2
  refine ⟨trivial, ?_⟩
  gi_at_call 10
  refine (each_in _ ⟨#[195, 195, 0]⟩ _).mono ?_
  rintro e w6 ⟨rfl, hw6⟩
  have HB6 : Hid (Below w.heap.size w w6) := Lib.hid (by rw [hw6]; exact below_al HB5.out _)
  have HR6 : Hid (Bk w6 w.heap.size 4 #[.bool false]) := Lib.hid (by rw [hw6]; exact HR5.out.alloc _)
  have HI6 : Hid (Bk w6 w5.heap.size 26 #[.int .i64 4, .int .i64 0, .int .i64 2, .int .i64 0, .int .i64 13, .int .i64 12, .int .i64 4, .int .i64 128, .int .i64 0]) := Lib.hid (by rw [hw6]; exact HI5.out.alloc _)
  have hsz6 : w6.heap.size = w5.heap.size + 2 := by rw [hw6]; simp
  have HK6 : Hid (Bk w6 (w5.heap.size + 1) 9 #[.string ⟨#[195, 195, 0]⟩]) := Lib.hid (by rw [hw6]; exact Bk.new' (by simp))
  have hsC : (w5.alloc (.cells #[.int .i64 4, .int .i64 0, .int .i64 2, .int .i64 0, .int .i64 13, .int .i64 12, .int .i64 4, .int .i64 128, .int .i64 0] 26)).heap.size = w5.heap.size + 1 := by simp
  rw [hsC]
  clear hw6 HB5 HR5 HI5 hsC
  generalize w5.heap.size = L at *
  have hnf : ∀ W : World, (binOp .eql 34 (.func (.func 23) #[] #[.pointer (some ⟨L + 1, 0, none⟩)]) .nilFunc).run Tryd.prog W = .ok (.bool false) W := fun W => by kernel_rfl
  gi_wp2
  have hcs : (⟨#[195, 195, 0]⟩ : ByteArray).size ≤ 400 := by decide
  have e1 := nE
  have e2 := nF
  have e3 := nG
  generalize (⟨#[195, 195, 0]⟩ : ByteArray) = code at e1 e2 e3 HK6 hcs
  obtain ⟨W0, hW0⟩ : ∃ W0, w6.alloc (.cells #[.int .i64 0] 3) = W0 := ⟨_, rfl⟩
  have hs0 : W0.heap.size = L + 3 := by rw [← hW0]; simp [hsz6]
  have HB4 : Hid (Below w.heap.size w W0) := Lib.hid (by rw [← hW0]; exact below_al HB6.out _)
  have HR4 : Hid (Bk W0 w.heap.size 4 #[.bool false]) := Lib.hid (by rw [← hW0]; exact HR6.out.alloc _)
  have HI4 : Hid (Bk W0 L 26 #[.int .i64 4, .int .i64 0, .int .i64 2, .int .i64 0, .int .i64 13, .int .i64 12, .int .i64 4, .int .i64 128, .int .i64 0]) := Lib.hid (by rw [← hW0]; exact HI6.out.alloc _)
  have HK4 : Hid (Bk W0 (L + 1) 9 #[.string code]) := Lib.hid (by rw [← hW0]; exact HK6.out.alloc _)
  have HN4 : Hid (Bk W0 (L + 2) 3 #[.int .i64 0]) := Lib.hid (by rw [← hW0]; exact Bk.new' (by rw [hsz6]))
  have HT4 : Hid (TabE W0) := Lib.hid (HG.out.keep HB4.out)
  have HG3 : Hid (G3 (L + 2)) := Lib.hid ⟨by have := HG.out.inst.lt; omega, by have := HG.out.lt; omega, by have := HG.out.tlt; omega⟩
  rw [hW0]
  clear hW0 HB6 HR6 HI6 HK6 hsz6 hnf
  refine wpIn_rangeFunc_ownH rfl (by omega) (gf := 23) (lb := #[.pointer (some ⟨L + 1, 0, none⟩)]) rfl trivial (enters_of Tryd.func23 (by kernel_rfl) rfl)
    (each_stops _ (by omega) (L + 1) (L + 2) code hcs W0 HT4.out HG3.out HK4.out (by omega) (by omega)) belowK_t (belowK_b (by omega)) (Below.refl _ _) (fun _ => rfl)
    (fun pre W => pre = List.range pre.length ∧ pre.length ≤ 2 ∧ Bk W (L + 2) 3 #[.int .i64 (pre.length : Int)] ∧ Below (L + 2) W0 W)
    (fun cc pre W => cc = .ret ∧ ¬ ∃ k, pre = List.range k) ?own ?ownx ?start
    (fun x a' W => ∃ Bx, L + 3 ≤ Bx ∧ Bk W Bx 26 (insN code x).vs ∧ a' = { tmps := #[.pointer (some ⟨w.heap.size, 0, none⟩), .pointer (some ⟨w2.heap.size, 0, none⟩), .int .i64 0, .int .i64 2, .pointer (some ⟨w3.heap.size, 0, none⟩), .int .i64 0, .int .i64 8, .slice A 2 c, .int .i64 4, .int .i64 4, .pointer (some ⟨L, 0, none⟩), .int .i64 8, .int .i64 0, .func (.func 23) #[] #[.pointer (some ⟨L + 1, 0, none⟩)], .pointer (some ⟨L + 2, 0, none⟩), .int .i64 (posN code x), .pointer (some ⟨Bx, 0, none⟩), .bool true, .bool false, .tuple #[(.agg #[.int .i64 0, .int .i64 0, .int .i64 0, .int .i64 0, .int .i64 0, .int .i64 0, .int .i64 0, .int .i64 0, .int .i64 0]), .int .i64 0, .int .i64 2], .tuple #[(.agg #[.int .i64 0, .int .i64 0, .int .i64 0, .int .i64 0, .int .i64 0, .int .i64 0, .int .i64 0, .int .i64 0, .int .i64 0]), .int .i64 0, .int .i64 2], (.agg #[.int .i64 0, .int .i64 0, .int .i64 0, .int .i64 0, .int .i64 0, .int .i64 0, .int .i64 0, .int .i64 0, .int .i64 0]), .int .i64 0, .int .i64 2, .tuple #[(.agg #[.int .i64 0, .int .i64 0, .int .i64 0, .int .i64 0, .int .i64 0, .int .i64 0, .int .i64 0, .int .i64 0, .int .i64 0]), .int .i64 0, .int .i64 8], .tuple #[(.agg #[.int .i64 0, .int .i64 0, .int .i64 0, .int .i64 0, .int .i64 0, .int .i64 0, .int .i64 0, .int .i64 0, .int .i64 0]), .int .i64 0, .int .i64 8], (.agg #[.int .i64 0, .int .i64 0, .int .i64 0, .int .i64 0, .int .i64 0, .int .i64 0, .int .i64 0, .int .i64 0, .int .i64 0]), .int .i64 0, .int .i64 8, .tuple #[.slice A 2 c, .int .i64 4, .int .i64 4], .tuple #[.slice A 2 c, .int .i64 4, .int .i64 4], .slice A 2 c, .int .i64 4, .int .i64 4, .tuple #[(.agg #[.int .i64 4, .int .i64 0, .int .i64 2, .int .i64 0, .int .i64 13, .int .i64 12, .int .i64 4, .int .i64 128, .int .i64 0]), .int .i64 8, .int .i64 0], .tuple #[(.agg #[.int .i64 4, .int .i64 0, .int .i64 2, .int .i64 0, .int .i64 13, .int .i64 12, .int .i64 4, .int .i64 128, .int .i64 0]), .int .i64 8, .int .i64 0], (.agg #[.int .i64 4, .int .i64 0, .int .i64 2, .int .i64 0, .int .i64 13, .int .i64 12, .int .i64 4, .int .i64 128, .int .i64 0]), .int .i64 8, .int .i64 0, .func (.func 23) #[] #[.pointer (some ⟨L + 1, 0, none⟩)], .func (.func 23) #[] #[.pointer (some ⟨L + 1, 0, none⟩)], .bool false, .func (.func 23) #[] #[.pointer (some ⟨L + 1, 0, none⟩)], .int .i64 (posN code x), .agg (insN code x).vs, undef, undef, undef, undef, undef, undef, undef, undef, undef, undef, undef, undef, undef, undef, undef, undef, undef, undef, undef, undef, undef, undef, undef, undef, undef, undef, undef, undef, undef, undef, undef, undef, undef, undef, undef, undef, undef, undef, undef, undef, undef, undef, undef, undef, undef, undef, undef, undef, undef, undef, undef, undef, undef, undef, undef, undef, undef, undef, undef, undef, undef, undef, undef, undef, undef, undef, undef, undef, undef, undef, undef, undef], defers := [] }) ?ownax ?assign ?body ?done ?stop
  case own =>
    rintro s X Y row ⟨h1, h2, h4, h6⟩ hg hr
    have hr' : ∀ r, row = some r → ∃ o : Obj, X.heap[r]? = some o ∧ o.isCells = false := fun r e => (hr r e).2
    exact ⟨h1, h2, h4.grown hg hr', h6.grown hg (by have := h6.size; omega) (fun r e => by have := (hr r e).1; omega)⟩
  case ownx =>
    rintro cc s X Y row h hg hr
    exact h
  case start => exact ⟨rfl, Nat.zero_le _, HN4.out, Below.refl _ _⟩
  case ownax =>
    rintro x a' s X Y row ⟨Bx, h1, h2, h3⟩ hg hr
    exact ⟨Bx, h1, h2.grown hg (fun r e => (hr r e).2), h3⟩
  case assign =>
    rintro l pre x W K hI hK
    have hsz := hI.2.2.2.size
    unfold encE
    generalize hii : insN code x = ii
    obtain ⟨i0, i1, i2, i3, i4, i5, i6, i7, i8⟩ := ii
    unfold Ins.vs
    dsimp only
    gi_wp2
    refine hK _ _ ((KeepsOthers.alloc _ _).from _) ((Below.refl _ W).alloc (by omega) _) ?_ ⟨W.heap.size, by omega, ?_, ?_⟩
    · obtain ⟨h1, h2, h4, h6⟩ := hI
      exact ⟨h1, h2, h4.alloc _, h6.alloc (by omega) _⟩
    · rw [hii]; exact Bk.new _ _ _
    · rw [hii]; rfl
  case body =>
    rintro l pre x a' W hl _ ⟨hp, hpN, hn9, hB⟩ ⟨Bx, hBx, hbx, rfl⟩ hlen
    rw [e1] at hlen
    have hsz := hB.size
    have c9' : W.cell? ⟨L + 2, 0, none⟩ = some (.int .i64 (pre.length : Int)) := hn9.cell 0
    have fk : W.frozen? ⟨L + 2, 0, none⟩ = false := hn9.frozen 0
    have hR5 : Bk W w.heap.size 4 #[.bool false] := HR4.out.below hB (by omega)
    have cR : W.cell? ⟨w.heap.size, 0, none⟩ = some (.bool false) := hR5.cell 0
    have fR : W.frozen? ⟨w.heap.size, 0, none⟩ = false := hR5.frozen 0
    have HHB := Lib.hid hB
    have HN9 := Lib.hid hn9
    have HP := Lib.hid hp
    have hpp : posN code pre.length = (pre.length : Int) := by
      rcases (by omega : pre.length = 0 ∨ pre.length = 1) with h | h <;> rw [h]
      · exact e2.1
      · exact e2.2
    have hop : (insN code pre.length).op = 33 := by
      rcases (by omega : pre.length = 0 ∨ pre.length = 1) with h | h <;> rw [h]
      · exact e3.1
      · exact e3.2
    by_cases hx : x = pre.length
    · subst hx
      rw [hpp]
      generalize insN code pre.length = ii at *
      obtain ⟨i0, i1, i2, i3, i4, i5, i6, i7, i8⟩ := ii
      dsimp only at hop
      subst hop
      unfold Ins.vs
      dsimp only
      have b0 : W.cell? ⟨Bx, 0, none⟩ = some (.int .i64 33) := hbx.cell 0
      have hl1 : (pre.length : Int) < 2 := by omega
      have hl0 : (0 : Int) ≤ (pre.length : Int) := by omega
      have HBL : Below (L + 2) W (W.setCell ⟨L + 2, 0, none⟩ (.int .i64 ((pre.length : Int) + 1))) := (Below.refl (L + 2) W).setCell (p := ⟨L + 2, 0, none⟩) (Nat.le_refl (L + 2)) _
      have K1 : KeepsFrom W0.heap.size W (W.setCell ⟨L + 2, 0, none⟩ (.int .i64 ((pre.length : Int) + 1))) := KeepsFrom.of_grownBy (grownBy_setCell' W (L + 2) _) (fun j e => by cases e; omega)
      have hlen1 : (pre ++ [pre.length]).length = pre.length + 1 := by simp
      have hlen2 : ((pre ++ [pre.length]).length : Int) = (pre.length : Int) + 1 := by rw [hlen1]; rfl
      have FIN : Hid (KeepsFrom W0.heap.size W (W.setCell ⟨L + 2, 0, none⟩ (.int .i64 ((pre.length : Int) + 1))) ∧ Below (L + 2) W (W.setCell ⟨L + 2, 0, none⟩ (.int .i64 ((pre.length : Int) + 1))) ∧ (pre ++ [pre.length]) = List.range (pre ++ [pre.length]).length ∧ (pre ++ [pre.length]).length ≤ 2 ∧ Bk (W.setCell ⟨L + 2, 0, none⟩ (.int .i64 ((pre.length : Int) + 1))) (L + 2) 3 #[.int .i64 ((pre ++ [pre.length]).length : Int)] ∧ Below (L + 2) W0 (W.setCell ⟨L + 2, 0, none⟩ (.int .i64 ((pre.length : Int) + 1)))) := Lib.hid ⟨K1, HBL, by rw [hlen1, List.range_succ, ← HP.out], by rw [hlen1]; omega, by rw [hlen2]; exact HN9.out.set_ 0 _, HHB.out.trans HBL⟩
      clear HBL K1 hlen1 hlen2 hp hB hn9 hR5 hbx
      gi_wp2
      exact FIN.out
    · have hne : posN code x ≠ (pre.length : Int) := by rw [← hpp]; exact posN_ne (by rw [e1]; exact hlen) hx
      have HNO : Hid (¬ ∃ k, pre ++ [x] = List.range k) := Lib.hid (fun h => hx (range_snoc (p := 0) hp h))
      have K1 : Hid (KeepsFrom W0.heap.size W (W.setCell ⟨w.heap.size, 0, none⟩ (.bool false))) := Lib.hid (KeepsFrom.of_grownBy (grownBy_setCell' W w.heap.size _) (fun j e => by cases e; omega))
      clear hp hB hn9 hR5 hbx hpp hop
      generalize posN code x = px at *
      gi_wp2
      exact ⟨K1.out, rfl, HNO.out⟩
  case done =>
    rintro D ys W hD hS ⟨hp, hpN, hn9, hB⟩ hK
    rw [hS, List.length_range, e1] at hn9
    have HR5 : Hid (Bk W w.heap.size 4 #[.bool false]) := Lib.hid (HR4.out.below hB (by omega))
    have hI5 : Bk W L 26 #[.int .i64 4, .int .i64 0, .int .i64 2, .int .i64 0, .int .i64 13, .int .i64 12, .int .i64 4, .int .i64 128, .int .i64 0] := HI4.out.below hB (by omega)
    obtain ⟨b0, b1, b2, b3, b4, b5, b6, b7, b8⟩ := c9 hI5
    have ck : W.cell? ⟨L + 2, 0, none⟩ = some (.int .i64 2) := hn9.cell 0
    have HBF := Lib.hid (HB4.out.trans (hB.mono (by omega)))
    have HEQ := instEq 4 0 2 0 13 12 4 128 0 4 0 2 0 13 12 4 128 0
    rw [show eqI ⟨4, 0, 2, 0, 13, 12, 4, 128, 0⟩ ⟨4, 0, 2, 0, 13, 12, 4, 128, 0⟩ = true from rfl] at HEQ
    have HK7 := Lib.hid hK
    clear hp hpN hn9 hB hI5 hK
    gi_wp2
    refine ⟨trivial, ?_⟩
    gi_at_call 11
    refine (callsIn_wide.2 (bad_c dc ⟨#[72, 139, 5]⟩ (by decide) nb0 _ (Lib.hid (HG.out.keep HBF.out)))).mono ?_
    rintro e y0 ⟨rfl, hb⟩
    have HBy0 := Lib.hid (bel3 HBF.out hb)
    have HRy0 := Lib.hid (HR5.out.below hb HR5.out.lt)
    have HKy0 := Lib.hid ((hb.block D (Array.getElem?_eq_some_iff.1 HK7.out).1).trans HK7.out)
    clear hb b0 b1 b2 b3 b4 b5 b6 b7 b8 ck HEQ
    gi_wp2
    refine ⟨trivial, ?_⟩
    gi_at_call 11
    refine (callsIn_wide.2 (bad_c dc ⟨#[74, 17, 200]⟩ (by decide) nb1 _ (Lib.hid (HG.out.keep HBy0.out)))).mono ?_
    rintro e y1 ⟨rfl, hb⟩
    have HBy1 := Lib.hid (bel3 HBy0.out hb)
    have HRy1 := Lib.hid (HRy0.out.below hb HRy0.out.lt)
    have HKy1 := Lib.hid ((hb.block D (Array.getElem?_eq_some_iff.1 HKy0.out).1).trans HKy0.out)
    clear hb 
    gi_wp2
    refine ⟨trivial, ?_⟩
    gi_at_call 11
    refine (callsIn_wide.2 (bad_c dc ⟨#[72, 139, 132, 36, 5, 0, 0, 0]⟩ (by decide) nb2 _ (Lib.hid (HG.out.keep HBy1.out)))).mono ?_
    rintro e y2 ⟨rfl, hb⟩
    have HBy2 := Lib.hid (bel3 HBy1.out hb)
    have HRy2 := Lib.hid (HRy1.out.below hb HRy1.out.lt)
    have HKy2 := Lib.hid ((hb.block D (Array.getElem?_eq_some_iff.1 HKy1.out).1).trans HKy1.out)
    clear hb 
    gi_wp2
    refine ⟨trivial, ?_⟩
    gi_at_call 11
    refine (callsIn_wide.2 (bad_c dc ⟨#[65, 96]⟩ (by decide) nb3 _ (Lib.hid (HG.out.keep HBy2.out)))).mono ?_
    rintro e y3 ⟨rfl, hb⟩
    have HBy3 := Lib.hid (bel3 HBy2.out hb)
    have HRy3 := Lib.hid (HRy2.out.below hb HRy2.out.lt)
    have HKy3 := Lib.hid ((hb.block D (Array.getElem?_eq_some_iff.1 HKy2.out).1).trans HKy2.out)
    clear hb 
    gi_wp2
    refine ⟨trivial, ?_⟩
    gi_at_call 11
    refine (callsIn_wide.2 (bad_c dc ⟨#[72, 193, 224, 0]⟩ (by decide) nb4 _ (Lib.hid (HG.out.keep HBy3.out)))).mono ?_
    rintro e y4 ⟨rfl, hb⟩
    have HBy4 := Lib.hid (bel3 HBy3.out hb)
    have HRy4 := Lib.hid (HRy3.out.below hb HRy3.out.lt)
    have HKy4 := Lib.hid ((hb.block D (Array.getElem?_eq_some_iff.1 HKy3.out).1).trans HKy3.out)
    clear hb 
    gi_wp2
    refine ⟨trivial, ?_⟩
    gi_at_call 11
    refine (callsIn_wide.2 (bad_c dc ⟨#[196, 226, 243, 246, 6]⟩ (by decide) nb5 _ (Lib.hid (HG.out.keep HBy4.out)))).mono ?_
    rintro e y5 ⟨rfl, hb⟩
    have HBy5 := Lib.hid (bel3 HBy4.out hb)
    have HRy5 := Lib.hid (HRy4.out.below hb HRy4.out.lt)
    have HKy5 := Lib.hid ((hb.block D (Array.getElem?_eq_some_iff.1 HKy4.out).1).trans HKy4.out)
    clear hb 
    gi_wp2
    refine ⟨trivial, ?_⟩
    gi_at_call 11
    refine (callsIn_wide.2 (bad_c dc ⟨#[72, 139, 4, 32]⟩ (by decide) nb6 _ (Lib.hid (HG.out.keep HBy5.out)))).mono ?_
    rintro e y6 ⟨rfl, hb⟩
    have HBy6 := Lib.hid (bel3 HBy5.out hb)
    have HRy6 := Lib.hid (HRy5.out.below hb HRy5.out.lt)
    have HKy6 := Lib.hid ((hb.block D (Array.getElem?_eq_some_iff.1 HKy5.out).1).trans HKy5.out)
    clear hb 
    have cR : y6.cell? ⟨w.heap.size, 0, none⟩ = some (.bool false) := HRy6.out.cell 0
    have fR : y6.frozen? ⟨w.heap.size, 0, none⟩ = false := HRy6.out.frozen 0
    gi_wp2
    have hK2 : (y6.setCell ⟨w.heap.size, 0, none⟩ (.bool true)).heap[D]? = some (.deferred (some [])) := (KeepsOthers.setCell _ _ _).same D _ HKy6.out rfl
    refine ⟨by simp, .inl ⟨_, _, rfl, run_takeDeferred hK2, ?_⟩⟩
    exact ⟨_, run_bool_cell rfl _ _ _ true rfl (((HRy6.out.set_ 0 (.bool true)).putObj _ hK2 rfl).cell 0), rfl, (HBy6.out.setCell (p := ⟨w.heap.size, 0, none⟩) (Nat.le_refl _) _).trans (belowK_b (w := W0) (by have := HB4.out.size; omega) _ D _ _ hD hK2 rfl rfl)⟩
  case stop =>
    rintro D cc pre W hD hSp h hK
    obtain ⟨k, _, hk⟩ := hSp
    exact (h.2 ⟨k, hk⟩).elim
end decodeNames
end Go.Proofs.YtankmamoaajocaaDoor
