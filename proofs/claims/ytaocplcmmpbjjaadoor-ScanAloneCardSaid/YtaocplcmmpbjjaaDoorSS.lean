/- The law's own all: what Each tells, as a row. -/
import Derived.Test.YtaocplcmmpbjjaaDoorSR
import Derived.Sort.CutIn
namespace Go.Proofs.YtaocplcmmpbjjaaDoor
open Go Go.RowKit Go.Maps Go.Shelf
namespace Sn
open Nt
set_option linter.unusedVariables false
set_option linter.unusedSimpArgs false
attribute [local go_sem] Oper.semAt_some
theorem below_al {a b : World} (h : Below a.heap.size a b) (o : Obj) : Below a.heap.size a (b.alloc o) := h.alloc h.size o
theorem run_row_bool {fn : Func} {p q : Tmp} (h : fn.results = #[.cell p 23, .cell q 4]) (tmps : Array Value) (w : World) (g g' n c : Nat) (A : Option Addr) (b : Bool) (hp : tmps.getD p undef = .pointer (some ⟨g, 0, none⟩)) (hq : tmps.getD q undef = .pointer (some ⟨g', 0, none⟩))
    (hc : w.cell? ⟨g, 0, none⟩ = some (.slice A n c)) (hc' : w.cell? ⟨g', 0, none⟩ = some (.bool b)) :
    (results fn tmps).run Tryd.prog w = .ok (.tuple #[.slice A n c, .bool b]) w := by
  have hp' : tmps[p]?.getD undef = .pointer (some ⟨g, 0, none⟩) := by simpa using hp
  have hq' : tmps[q]?.getD undef = .pointer (some ⟨g', 0, none⟩) := by simpa using hq
  have ha := Tryd.isAgg4 w
  have hb := Tryd.isAgg23 w
  simp [results, h, hp', hq', asAddr, loadVar, ha, hb, hc, hc', Sem.run_bind, Result.andThen]
theorem ownsRow_far {W : World} {b g : Nat} {e : TypeId} {size : Nat} {v : Value} {k : Nat} {xs : List Value} (h : W.ownsRow b e size v k xs) (hg : g < b) (u : Value) : (W.setCell ⟨g, 0, none⟩ u).ownsRow b e size v k xs := by
  refine h.kept (grownBy_setCell' W g u) ?_
  rcases hv : v.ownBlock with _ | k
  · exact .inl rfl
  · exact .inr (fun e => by cases e; have := (h.lt g hv).1; omega)
def LawAllP (s : ByteArray) (w : World) (e : Ending) (w' : World) : Prop :=
  ∃ v, e = .returned (.tuple #[v, .bool true]) ∧ w'.ownsRow w.heap.size 33 3 v (tl s s.size 0 0 4).1.length (tokRow s (tl s s.size 0 0 4).1) ∧ Below w.heap.size w w'
set_option maxRecDepth 100000 in
set_option maxHeartbeats 4000000 in
theorem lawAll_in (n : Nat) (hn : 7 ≤ n) (s : ByteArray) (hs : s.size ≤ 65536) (w : World) (hT : Lib.Utf8Tabs 0 1 w) : CallsIn Fence.wide n Tryd.prog 17 #[.string s] w (LawAllP s w) := by
  have hn1 : 1 ≤ n := by omega
  obtain ⟨i0, hi, hz, h2, h3⟩ := info_parts info_tok
  have HE := Lib.hid (fun W => each_l s W)
  have l0 : 0 < w.heap.size := World.block_lt_of_cell? w _ (hT.1 0 (by omega))
  have l1 : 1 < w.heap.size := World.block_lt_of_cell? w _ (hT.2 0 (by omega)).1
  have HL := Lib.hid (And.intro l0 l1)
  have HT := Lib.hid hT
  have HSS := Lib.hid hs
  clear hT l0 l1 hs
  refine callsIn_of_wp_marks Tryd.func17 rfl trivial ?_ rfl
  simp only [Tryd.ntmps17, List.size_toArray, List.length_cons, List.length_nil, Nat.reduceAdd, Nat.reduceSub, Array.replicate_succ, Array.replicate_zero, List.push_toArray, List.append_toArray, List.nil_append, List.cons_append]
  gi_wp2
  refine ⟨trivial, ?_⟩
  gi_at_call 19
  refine (callsIn_wide.2 (HE.out _)).mono ?_
  rintro e w4 ⟨rfl, rfl⟩
  have hnf : ∀ W : World, (binOp .eql 43 (.func (.func 27) #[] #[.pointer (some ⟨w.heap.size + 1 + 1 + 1, 0, none⟩)]) .nilFunc).run Tryd.prog W = .ok (.bool false) W := fun W => by kernel_rfl
  gi_wp2
  clear hnf
  obtain ⟨W0, hW0⟩ : ∃ W0, ((((w.alloc (.cells #[.string s] 9)).alloc (.cells #[.slice none 0 0] 23)).alloc (.cells #[.bool false] 4)).alloc (.cells #[.string s] 9)).alloc (.cells #[.slice none 0 0] 23) = W0 := ⟨_, rfl⟩
  have hs0 : W0.heap.size = w.heap.size + 5 := by rw [← hW0]; simp
  have HBW : Hid (Below w.heap.size w W0) := Lib.hid (by rw [← hW0]; exact below_al (below_al (below_al (below_al (below_al (Below.refl _ _) _) _) _) _) _)
  have HC0 : Hid (Bk W0 w.heap.size 9 #[.string s]) := Lib.hid (by rw [← hW0]; exact ((((Bk.new w 9 _).alloc _).alloc _).alloc _).alloc _)
  have HR1 : Hid (Bk W0 (w.heap.size + 1) 23 #[.slice none 0 0]) := Lib.hid (by rw [← hW0]; exact (((Bk.new' (by simp)).alloc _).alloc _).alloc _)
  have HR2 : Hid (Bk W0 (w.heap.size + 2) 4 #[.bool false]) := Lib.hid (by rw [← hW0]; exact ((Bk.new' (by simp)).alloc _).alloc _)
  have HC3 : Hid (Bk W0 (w.heap.size + 3) 9 #[.string s]) := Lib.hid (by rw [← hW0]; exact (Bk.new' (by simp)).alloc _)
  have HO4 : Hid (Bk W0 (w.heap.size + 4) 23 #[.slice none 0 0]) := Lib.hid (by rw [← hW0]; exact Bk.new' (by simp))
  have HT0 : Hid (Lib.Utf8Tabs 0 1 W0) := Lib.hid (tabs_eq HT.out (HBW.out.block _ HL.out.1) (HBW.out.block _ HL.out.2))
  rw [hW0]
  clear hW0
  refine wpIn_rangeR hn1 (gf := 27) (fb := #[]) (lb := #[.pointer (some ⟨w.heap.size + 3, 0, none⟩)]) rfl (enters_of Tryd.func27 (by kernel_rfl) rfl)
    (each_seq (n - 1) (by omega) w.heap.size (w.heap.size + 3) s HSS.out W0 (HC3.out.cell 0) HT0.out ⟨HL.out.1, HL.out.2, by omega⟩) (by omega) (Below.refl _ _) (fun _ => rfl)
    (fun R W1 X hs1 ho => by obtain ⟨h1, h2⟩ := ho; omega) (fun _ _ _ _ _ _ => trivial)
    (AllI (w.heap.size + 4) W0 s) (fun _ _ _ _ => False) (allI_ab (w.heap.size + 4) W0 (by omega) s) (fun _ _ _ _ _ _ hs _ _ => hs)
    ?start
    (fun x a' W => ∃ Bx, W0.heap.size ≤ Bx ∧ BoxT W Bx s x ∧ a' = { tmps := #[.string s, .pointer (some ⟨w.heap.size, 0, none⟩), .pointer (some ⟨w.heap.size + 1, 0, none⟩), .pointer (some ⟨w.heap.size + 1 + 1, 0, none⟩), .func (.func 27) #[] #[.pointer (some ⟨w.heap.size + 1 + 1 + 1, 0, none⟩)], .pointer (some ⟨w.heap.size + 1 + 1 + 1 + 1, 0, none⟩), .pointer (some ⟨Bx, 0, none⟩), .string s, .func (.func 27) #[] #[.pointer (some ⟨w.heap.size + 1 + 1 + 1, 0, none⟩)], .func (.func 27) #[] #[.pointer (some ⟨w.heap.size + 1 + 1 + 1, 0, none⟩)], .bool false, .func (.func 27) #[] #[.pointer (some ⟨w.heap.size + 1 + 1 + 1, 0, none⟩)], .agg (tokVs s x).toArray, undef, undef, undef, undef, undef, undef, undef, undef, undef, undef], defers := [] })
    (fun x a' => by
      rintro u X Y row ⟨Bx, hlt, hx, he⟩ hg hr
      exact ⟨Bx, hlt, boxT_own Bx s x () X Y row hx hg (fun r e => (hr r e).2), he⟩) ?assign ?body ?done ?stop
  case start =>
    rintro R W1 X hb1 hs1 ⟨h1, h2⟩ hbX
    refine ⟨⟨_, ((hbX.block _ (by omega)).trans (hb1.block _ (by omega))).trans HO4.out, World.ownsRow_nil _ _ _ _, by simp⟩, grown_weak _ (below_grown (hb1.trans (hbX.mono (by omega)))), h2, by omega⟩
  case assign =>
    rintro l R pre x W K ⟨hv, hB, hlt, hl⟩ hK
    unfold encT tokV
    gi_wp2
    have hsz := hB.size
    refine hK _ _ ((KeepsOthers.alloc _ _).from _) (kps_alloc _ (by omega) hlt) ?_ ⟨W.heap.size, by omega, World.alloc_heap_new W _, rfl⟩
    obtain ⟨v, hv1, hv2, hv3⟩ := hv
    exact ⟨⟨v, hv1.alloc _, hv2.alloc _, hv3⟩, ⟨hB.os, hB.tape, hB.output, by rw [World.size_alloc]; omega, fun k hk hne => (Below.heap_alloc W _ k (by omega)).trans (hB.block k hk hne)⟩, by rw [World.size_alloc]; omega, hl⟩
  case body =>
    rintro l R pre x a' W hl _ _ ⟨⟨v, hv, hrow, hnil⟩, hB, hlt, hRl⟩ ⟨Bx, hBx, hbx, rfl⟩ hpx
    have hpl : pre.length ≤ s.size := by have := hpx.length_le; have := tl_len1 s; rw [List.length_append, List.length_singleton] at *; omega
    have hpm : pre.length ≤ 100000 := by have := HSS.out; omega
    clear hpx
    obtain ⟨c0, c1, c2⟩ := hbx.cells
    have hcv := hv.cell
    have hsz := hB.size
    have HN := Lib.hid hnil
    have HB := Lib.hid hB
    have HV := Lib.hid hv
    have HR := Lib.hid hrow
    have cs : W.cell? ⟨w.heap.size, 0, none⟩ = some (.string s) := (World.cell?_of_block (a := ⟨w.heap.size, 0, none⟩) (hB.block w.heap.size (by omega) (by simp))).trans (HC0.out.cell 0)
    have hvl : ∃ A c, v = .slice A pre.length c := by
      rcases hrow.2 with ⟨rfl, h0⟩ | ⟨g, cap, cur, rfl, _⟩
      · exact ⟨_, _, by rw [h0]⟩
      · exact ⟨_, _, rfl⟩
    obtain ⟨A, c', rfl⟩ := hvl
    have hle : ((s.size : Int) < (pre.length : Int)) = False := eq_false (by omega)
    clear hnil hB hbx hv
    gi_upto_region 9 with fail
    generalize Value.slice A pre.length c' = v at *
    gi_wp2_with (gi_at_builtin; go_loud (refine wpListIn_append_own _ rfl _ _ 23 rfl (R + 1) 33 i0 _ 3 32 Tryd.underlying23 hi hz h2 h3 rfl (by decide) _ _ _ rfl (hrow.alloc _) ⟨W.heap.size, 0, none⟩ 1 1 (tokVs s x) rfl rfl (tok_new W s x) (tokVs_one s x) (by have := HSS.out; simp only [maxLen]; omega) (by omega) (by simp; omega) ?_); intro v' w1 hown' hgrow _; obtain ⟨g', cap', rfl⟩ := ownsRow_succ hown'; obtain ⟨hv1, hv2, hr2, hk2, hb2, ho2, ht2, hp2⟩ := Boxed.appendedR HV.out (by decide) HR.out hlt hown' hgrow; have hc1 := hv1.cell; have hf1 := hv1.frozen)
    have hb3 := HB.out
    refine ⟨hk2.from _, ⟨⟨ho2, ht2, hp2, hk2.size, fun k hk => hb2 k (by omega) (by omega)⟩, hk2.walks, hb2 R (Nat.le_refl _) (by omega)⟩, ⟨_, hv2, ?_, by simp⟩, ⟨ho2.trans hb3.os, ht2.trans hb3.tape, hp2.trans hb3.output, Nat.le_trans hb3.size hk2.size, fun k hk hne => (hb2 k (by omega) (fun e => hne (by rw [e]))).trans (hb3.block k hk hne)⟩, Nat.lt_of_lt_of_le hlt hk2.size, hRl⟩
    rw [List.length_append, tokRow_app, tokRow_one]
    exact hr2
  case done =>
    rintro D R W hD hne ⟨⟨v, hv, hrow, hnil⟩, hB, hlt, hRl⟩ _ hK
    have hcv := hv.cell
    have hsz := hB.size
    have HV := Lib.hid hv
    have HR := Lib.hid hrow
    have HB := Lib.hid hB
    have r1 : W.cell? ⟨w.heap.size + 1, 0, none⟩ = some (.slice none 0 0) := (World.cell?_of_block (a := ⟨w.heap.size + 1, 0, none⟩) (hB.block (w.heap.size + 1) (by omega) (by simp))).trans (HR1.out.cell 0)
    have r2 : W.cell? ⟨w.heap.size + 1 + 1, 0, none⟩ = some (.bool false) := (World.cell?_of_block (a := ⟨w.heap.size + 1 + 1, 0, none⟩) (hB.block (w.heap.size + 2) (by omega) (by simp))).trans (HR2.out.cell 0)
    have q1 : W.frozen? ⟨w.heap.size + 1, 0, none⟩ = false := (World.frozen?_of_block (a := ⟨w.heap.size + 1, 0, none⟩) (hB.block (w.heap.size + 1) (by omega) (by simp))).trans (HR1.out.frozen 0)
    have q2 : W.frozen? ⟨w.heap.size + 1 + 1, 0, none⟩ = false := (World.frozen?_of_block (a := ⟨w.heap.size + 1 + 1, 0, none⟩) (hB.block (w.heap.size + 2) (by omega) (by simp))).trans (HR2.out.frozen 0)
    have hvl : ∃ A n c, v = .slice A n c := by
      rcases hrow.2 with ⟨rfl, h0⟩ | ⟨g, cap, cur, rfl, _⟩
      · exact ⟨_, _, _, rfl⟩
      · exact ⟨_, _, _, rfl⟩
    obtain ⟨A, n', c', rfl⟩ := hvl
    clear hrow hnil hB hv
    gi_wp2
    have HR6 := ownsRow_far (ownsRow_far HR.out (g := w.heap.size + 1) (by omega) (.slice A n' c')) (g := w.heap.size + 1 + 1) (by omega) (.bool true)
    have hK2 : ((W.setCell ⟨w.heap.size + 1, 0, none⟩ (.slice A n' c')).setCell ⟨w.heap.size + 1 + 1, 0, none⟩ (.bool true)).heap[D]? = some (.deferred (some [])) := (KeepsOthers.setCell _ _ _).same D _ ((KeepsOthers.setCell _ _ _).same D _ hK rfl) rfl
    have b1 : Bk W (w.heap.size + 1) 23 #[.slice none 0 0] := (HB.out.block (w.heap.size + 1) (by omega) (by simp)).trans HR1.out
    have b2 : Bk W (w.heap.size + 1 + 1) 4 #[.bool false] := (HB.out.block (w.heap.size + 2) (by omega) (by simp)).trans HR2.out
    have b3 := (((b1.set_ 0 (.slice A n' c')).far (show w.heap.size + 1 ≠ w.heap.size + 1 + 1 by omega) (.bool true)).putObj (.deferred none) hK2 rfl).cell 0
    have b4 := ((((b2.far (show w.heap.size + 1 + 1 ≠ w.heap.size + 1 by omega) (.slice A n' c'))).set_ 0 (.bool true)).putObj (.deferred none) hK2 rfl).cell 0
    refine ⟨by simp, .inl ⟨_, _, rfl, run_takeDeferred hK2, ?_⟩⟩
    refine ⟨_, run_row_bool rfl _ _ (w.heap.size + 1) (w.heap.size + 1 + 1) n' c' A true rfl rfl b3 b4, _, rfl, ownsRow_putObj (ownsRow_base HR6 (by omega)) _ hK2 rfl, ?_⟩
    have hb := HB.out
    have h1 : Below w.heap.size w W := HBW.out.trans ⟨hb.os, hb.tape, hb.output, hb.size, fun k hk => hb.block k (by omega) (by simp; omega)⟩
    exact (((h1.setCell (p := ⟨w.heap.size + 1, 0, none⟩) (by show w.heap.size ≤ w.heap.size + 1; omega) _).setCell (p := ⟨w.heap.size + 1 + 1, 0, none⟩) (by show w.heap.size ≤ w.heap.size + 1 + 1; omega) _)).trans ⟨rfl, rfl, rfl, by simp, fun k hk => World.putObj_heap_other (by omega)⟩
  case stop =>
    rintro D R c pre W _ _ h _
    exact h.elim
end Sn
end Go.Proofs.YtaocplcmmpbjjaaDoor
