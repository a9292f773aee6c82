/- slices.AppendSeq and slices.Collect at regions, against whatever iterator. -/
import Derived.Test.YtkgbpcfpppceiaaQ2
import Derived.RangeFuncNested
import Derived.RangeFuncBound
import Derived.RangeFuncCalls
import Derived.RangeFuncLeaves
import Derived.Shelf.Abstract
import Derived.Shelf.RegionOpen
import Derived.WalkKit
import Derived.OwnWalkIn
import Derived.TacticsInMore
import Derived.LoopNIn
import Derived.LoopIn
import Derived.Maps.AppendAt
namespace Go.Proofs.Ytkgbpcfpppceiaa
open Go Go.RowKit Go.Shelf
namespace Mm
open Wd Nt
set_option linter.unusedVariables false
attribute [local go_sem] Oper.semAt_some
/-- the box of the loop's variable -/
def BoxR (W : World) (B : Nat) (x : Cel) : Prop := W.heap[B]? = some (.cells #[.int .u64 x.r.base, .slice x.A x.n x.c, .bool x.r.write] 31 (0, 0))
theorem BoxR.cells {W : World} {B : Nat} {x : Cel} (h : BoxR W B x) : W.cell? ⟨B, 0, none⟩ = some (.int .u64 x.r.base) ∧ W.cell? ⟨B, 1, none⟩ = some (.slice x.A x.n x.c) ∧ W.cell? ⟨B, 2, none⟩ = some (.bool x.r.write) := by
  unfold BoxR at h
  refine ⟨?_, ?_, ?_⟩ <;> simp [World.cell?, h]
theorem boxR_own (B : Nat) (x : Cel) : Own (fun (_ : Unit) W => BoxR W B x) := fun s X Y row hs hg hrow => by
  unfold BoxR at *
  refine (hg.block B (Array.getElem?_eq_some_iff.1 hs).1 (fun e' => ?_)).trans hs
  obtain ⟨o, ho, hc⟩ := hrow B e'.symm
  rw [hs] at ho; cases ho; cases hc
/-- what has been collected when pre has come -/
def Col (B : Nat) (w : World) (pre : List Cel) (W : World) : Prop :=
  ((∃ v, Boxed W B 32 v ∧ W.ownsRow w.heap.size 31 3 v pre.length (celRow pre) ∧ (v = .slice none 0 0 ↔ pre = [])) ∧ Below w.heap.size w W)
theorem col_own (w : World) : OwnFrom (w.heap.size + 1) (Col w.heap.size w) :=
  OwnFrom.and (Own.from (holdsRow_own w.heap.size w.heap.size 32 31 3 (fun pre => pre.length) celRow (fun pre v => v = .slice none 0 0 ↔ pre = [])) _) (ownFrom_below (Nat.le_refl _) (by omega))
theorem vs_new (W : World) (x : Cel) (j : Nat) (u : Value) (hu : x.vs[j]? = some u) : (W.alloc (.cells #[.int .u64 x.r.base, .slice x.A x.n x.c, .bool x.r.write] 31)).cell? ((⟨W.heap.size, 0, none⟩ : Addr).add j) = some u := by
  rw [add_at, Nat.zero_add]
  unfold Cel.vs at hu
  rw [World.cell?_alloc_at _ _ _ _ (by simp)]
  simpa using hu
set_option maxRecDepth 100000 in
set_option maxHeartbeats 4000000 in
theorem appSeq_in (F : Fence) (n : Nat) (h11 : F.fn 54) (hro : F.round = none) (hn : 2 ≤ n) (g : Nat) (lb : Array Value) (hFg : F.fn g) (eg : ∀ args w, (callFunc g args).run Try.prog w = .ok (.enter g args) w)
    (S Sp : List Cel → Prop) (N n₀ : Nat) (hN : N ≤ 1000000) (w : World) (hn0 : n₀ ≤ w.heap.size) (hseq : SeqStopsK F (n - 1) Try.prog g lb yieldCel (Below n₀) S Sp N w) :
    CallsIn F n Try.prog 54 #[.slice none 0 0, .func (.func g) #[] lb] w fun e w' => ∃ (v : Value) (xs : List Cel), e = .returned v ∧ S xs ∧ w'.ownsRow w.heap.size 31 3 v xs.length (celRow xs) ∧ (v = .slice none 0 0 ↔ xs = []) ∧ Below w.heap.size w w' := by
  have h1 : 1 ≤ n := by omega
  obtain ⟨i0, hi, hz, h2, h3⟩ := info_parts info_reg
  refine callsIn_of_wp_marks Try.func54 rfl h11 ?_ hro
  simp only [Try.ntmps54, List.size_toArray, List.length_cons, List.length_nil, Nat.reduceAdd, Nat.reduceSub, Array.replicate_succ, Array.replicate_zero, List.push_toArray, List.append_toArray, List.nil_append, List.cons_append]
  gi_wp2
  obtain ⟨W0, hW0⟩ : ∃ W0, w.alloc (.cells #[.slice none 0 0] 32) = W0 := ⟨_, rfl⟩
  have hs0 : W0.heap.size = w.heap.size + 1 := by rw [← hW0]; simp
  have hv0 : Boxed W0 w.heap.size 32 (.slice none 0 0) := by rw [← hW0]; exact Boxed.new _ _ _
  have hb0 : Below w.heap.size w W0 := by rw [← hW0]; exact (Below.refl _ w).alloc (Nat.le_refl _) _
  rw [hW0]
  clear hW0
  refine wpIn_rangeFunc_ownH hro h1 (gf := g) (lb := lb) rfl hFg eg hseq belowK_t (belowK_b (by omega)) hb0 (fun _ => rfl)
    (Col w.heap.size w) (fun _ _ _ => False) (by rw [hs0]; exact col_own w) (fun _ _ _ _ _ hs _ _ => hs)
    ⟨⟨_, hv0, World.ownsRow_nil _ _ _ _, by simp⟩, hb0⟩
    (fun x a' W => ∃ Bx, w.heap.size < Bx ∧ BoxR W Bx x ∧ a' = { tmps := #[.slice none 0 0, .func (.func g) #[] lb, .pointer (some ⟨w.heap.size, 0, none⟩), undef, .slice none 0 0, .pointer (some ⟨Bx, 0, none⟩), .func (.func g) #[] lb, .agg x.vs.toArray, undef, undef, undef, undef, undef], defers := [] })
    (fun x a' => by
      rintro s X Y row ⟨Bx, hlt, hx, he⟩ hg hr
      exact ⟨Bx, hlt, boxR_own Bx x () X Y row hx hg (fun r e => (hr r e).2), he⟩) ?assign ?body ?done ?stop
  case assign =>
    rintro l pre x W K ⟨hv, hB⟩ hK
    unfold yieldCel Cel.vs
    gi_wp2
    have hsz := hB.size
    refine hK _ _ ((KeepsOthers.alloc _ _).from _) ((Below.refl _ W).alloc (by omega) _) ?_ ⟨W.heap.size, ?_, World.alloc_heap_new W _, rfl⟩
    · obtain ⟨v, hv1, hv2, hv3⟩ := hv
      exact ⟨⟨v, hv1.alloc _, hv2.alloc _, hv3⟩, hB.alloc hB.size _⟩
    · obtain ⟨v, hv1, _⟩ := hv
      exact hv1.lt
  case body =>
    rintro l pre x a' W hl _ ⟨⟨v, hv, hrow, hnil⟩, hB⟩ ⟨Bx, hBx, hbx, rfl⟩ hlen
    obtain ⟨c0, c1, c2⟩ := hbx.cells
    have hcv := hv.cell
    have hsz := hB.size
    have HN := Lib.hid hnil
    have HB := Lib.hid hB
    have HV := Lib.hid hv
    have HR := Lib.hid hrow
    clear hnil hB hbx
    gi_wp2_with (gi_at_builtin; go_loud (refine wpListIn_append_own _ rfl _ _ 32 rfl w.heap.size 31 i0 _ 3 40 Try.underlying32 hi hz h2 h3 rfl (by decide) _ _ _ rfl (hrow.alloc _) ⟨W.heap.size, 0, none⟩ 1 1 x.vs rfl rfl (vs_new W x) x.vs_one (by simp only [maxLen]; omega) (by omega) (by simp; omega) ?_); intro v' w1 hown' hgrow _; obtain ⟨g', cap', rfl⟩ := ownsRow_succ hown'; obtain ⟨hv1, hv2, hr2, hk2, hb2⟩ := HV.out.appended (by decide) HR.out hsz (Nat.le_refl _) hown' hgrow; have hc1 := hv1.cell; have hf1 := hv1.frozen)
    refine ⟨hk2.from _, hb2.mono (by omega), ⟨_, hv2, ?_, by simp⟩, HB.out.trans hb2⟩
    rw [List.length_append, celRow_app, celRow_one]
    exact hr2
  case done =>
    rintro D ys W hD hS ⟨⟨v, hv, hrow, hnil⟩, hB⟩ hK
    have hcv := hv.cell
    have HR := Lib.hid hrow
    have HN := Lib.hid hnil
    have HB := Lib.hid hB
    clear hrow hnil hB
    gi_wp2
    refine ⟨by simp, .inl ⟨_, _, rfl, run_takeDeferred hK, ?_⟩⟩
    exact ⟨_, results_tmp rfl _ _ _, v, ys, rfl, hS, ownsRow_putObj HR.out _ hK rfl, HN.out, HB.out.trans (belowK_b (w := w) (Nat.le_refl _) W D _ _ (by omega) hK rfl rfl)⟩
  case stop =>
    rintro D c pre W _ _ h _
    exact h.elim
set_option maxHeartbeats 1000000 in
theorem collect_in (F : Fence) (n : Nat) (h8 : F.fn 50) (h11 : F.fn 54) (hro : F.round = none) (hn : 3 ≤ n) (g : Nat) (lb : Array Value) (hFg : F.fn g) (eg : ∀ args w, (callFunc g args).run Try.prog w = .ok (.enter g args) w)
    (S Sp : List Cel → Prop) (N n₀ : Nat) (hN : N ≤ 1000000) (w : World) (hn0 : n₀ ≤ w.heap.size) (hseq : SeqStopsK F (n - 1 - 1) Try.prog g lb yieldCel (Below n₀) S Sp N w) :
    CallsIn F n Try.prog 50 #[.func (.func g) #[] lb] w fun e w' => ∃ (v : Value) (xs : List Cel), e = .returned v ∧ S xs ∧ w'.ownsRow w.heap.size 31 3 v xs.length (celRow xs) ∧ (v = .slice none 0 0 ↔ xs = []) ∧ Below w.heap.size w w' := by
  have h1 : 1 ≤ n := by omega
  refine callsIn_of_wp Try.func50 rfl h8 ?_ hro
  simp only [Try.ntmps50, List.size_toArray, List.length_cons, List.length_nil, Nat.reduceAdd, Nat.reduceSub, Array.replicate_succ, Array.replicate_zero, List.push_toArray, List.append_toArray, List.nil_append, List.cons_append]
  gi_wp2_with (gi_at_call 54; refine (appSeq_in F (n - 1) h11 hro (by omega) g lb hFg eg S Sp N n₀ hN _ hn0 hseq).mono ?_; rintro e w' ⟨v, ss, rfl, hS, hrow, hnil, hb⟩)
  go_ret
  exact ⟨v, ss, rfl, hS, hrow, hnil, hb⟩
/-- what slices.Values tells, collected: a row of one's own of the same regions -/
def ColP (xs : List Cel) (w : World) (e : Ending) (w' : World) : Prop := ∃ v, e = .returned v ∧ w'.ownsRow w.heap.size 31 3 v xs.length (celRow xs) ∧ (v = .slice none 0 0 ↔ xs = []) ∧ Below w.heap.size w w'
theorem collect_c (Bs m c : Nat) (A : Option Addr) (rs : List Reg) (xs : List Cel) (hm : m ≤ 1000000) (w0 w : World) (hxs : Cels w0 A m rs xs) (hbw : Below w0.heap.size w0 w) (hBs : Bs < w.heap.size) (hc : w.cell? ⟨Bs, 0, none⟩ = some (.slice A m c)) :
    Calls Try.prog 50 #[.func (.func 52) #[] #[.pointer (some ⟨Bs, 0, none⟩)]] w (ColP xs w) := by
  refine (callsIn_wide (n := 4)).1 ((collect_in Fence.wide 4 trivial trivial rfl (by omega) _ _ trivial (enters_of Try.func52 (by kernel_rfl) rfl) (fun ys => ys = xs) _ xs.length w0.heap.size (by rw [hxs.len]; exact hm) w hbw.size
    (vals_stops Fence.wide _ trivial rfl (by omega) Bs m c w0.heap.size A rs xs hm w0 w hxs hbw rfl hBs hc)).mono ?_)
  rintro e w' ⟨v, ss, rfl, rfl, h1, h2, h3⟩
  exact ⟨v, rfl, h1, h2, h3⟩
end Mm
end Go.Proofs.Ytkgbpcfpppceiaa
