/- slices.AppendSeq and slices.Collect at regions, against whatever iterator. | The landed package's byAddress: the regions by their first addresses, a row of one's own. -/
import Derived.Test.YtikbnfhnimjmmaaGreatDoorQ1
import Derived.RangeFuncNested
import Derived.RangeFuncBound
import Derived.RangeFuncCalls
import Derived.RangeFuncLeaves
import Derived.Shelf.Abstract
import Derived.Shelf.RegionOpen
import Derived.WalkKit
import Derived.OwnWalkIn
import Derived.TacticsInMore
import Derived.LoopNIn
import Derived.LoopIn
import Derived.Maps.AppendAt
namespace Go.Proofs.YtikbnfhnimjmmaaGreatDoor
open Go Go.RowKit Go.Shelf
namespace Mm
open Wd Nt
set_option linter.unusedVariables false
attribute [local go_sem] Oper.semAt_some
/-- the box of the loop's variable -/
def BoxR (W : World) (B : Nat) (x : Cel) : Prop := W.heap[B]? = some (.cells #[.int .u64 x.r.base, .slice x.A x.n x.c, .bool x.r.write] 106 (0, 0))
theorem BoxR.cells {W : World} {B : Nat} {x : Cel} (h : BoxR W B x) : W.cell? ⟨B, 0, none⟩ = some (.int .u64 x.r.base) ∧ W.cell? ⟨B, 1, none⟩ = some (.slice x.A x.n x.c) ∧ W.cell? ⟨B, 2, none⟩ = some (.bool x.r.write) := by
  unfold BoxR at h
  refine ⟨?_, ?_, ?_⟩ <;> simp [World.cell?, h]
theorem boxR_own (B : Nat) (x : Cel) : Own (fun (_ : Unit) W => BoxR W B x) := fun s X Y row hs hg hrow => by
  unfold BoxR at *
  refine (hg.block B (Array.getElem?_eq_some_iff.1 hs).1 (fun e' => ?_)).trans hs
  obtain ⟨o, ho, hc⟩ := hrow B e'.symm
  rw [hs] at ho; cases ho; cases hc
/-- what has been collected when pre has come -/
def Col (B : Nat) (w : World) (pre : List Cel) (W : World) : Prop :=
  ((∃ v, Boxed W B 53 v ∧ W.ownsRow w.heap.size 106 3 v pre.length (celRow pre) ∧ (v = .slice none 0 0 ↔ pre = [])) ∧ Below w.heap.size w W)
theorem col_own (w : World) : OwnFrom (w.heap.size + 1) (Col w.heap.size w) :=
  OwnFrom.and (Own.from (holdsRow_own w.heap.size w.heap.size 53 106 3 (fun pre => pre.length) celRow (fun pre v => v = .slice none 0 0 ↔ pre = [])) _) (ownFrom_below (Nat.le_refl _) (by omega))
theorem vs_new (W : World) (x : Cel) (j : Nat) (u : Value) (hu : x.vs[j]? = some u) : (W.alloc (.cells #[.int .u64 x.r.base, .slice x.A x.n x.c, .bool x.r.write] 106)).cell? ((⟨W.heap.size, 0, none⟩ : Addr).add j) = some u := by
  rw [add_at, Nat.zero_add]
  unfold Cel.vs at hu
  rw [World.cell?_alloc_at _ _ _ _ (by simp)]
  simpa using hu
set_option maxRecDepth 100000 in
set_option maxHeartbeats 4000000 in
theorem appSeq_in (F : Fence) (n : Nat) (h11 : F.fn 288) (hro : F.round = none) (hn : 2 ≤ n) (g : Nat) (lb : Array Value) (hFg : F.fn g) (eg : ∀ args w, (callFunc g args).run Tryz.prog w = .ok (.enter g args) w)
    (S Sp : List Cel → Prop) (N n₀ : Nat) (hN : N ≤ 1000000) (w : World) (hn0 : n₀ ≤ w.heap.size) (hseq : SeqStopsK F (n - 1) Tryz.prog g lb yieldCel (Below n₀) S Sp N w) :
    CallsIn F n Tryz.prog 288 #[.slice none 0 0, .func (.func g) #[] lb] w fun e w' => ∃ (v : Value) (xs : List Cel), e = .returned v ∧ S xs ∧ w'.ownsRow w.heap.size 106 3 v xs.length (celRow xs) ∧ (v = .slice none 0 0 ↔ xs = []) ∧ Below w.heap.size w w' := by
  have h1 : 1 ≤ n := by omega
  obtain ⟨i0, hi, hz, h2, h3⟩ := info_parts info_reg
  refine callsIn_of_wp_marks Tryz.func288 rfl h11 ?_ hro
  simp only [Tryz.ntmps288, List.size_toArray, List.length_cons, List.length_nil, Nat.reduceAdd, Nat.reduceSub, Array.replicate_succ, Array.replicate_zero, List.push_toArray, List.append_toArray, List.nil_append, List.cons_append]
  gi_wp2
  obtain ⟨W0, hW0⟩ : ∃ W0, w.alloc (.cells #[.slice none 0 0] 53) = W0 := ⟨_, rfl⟩
  have hs0 : W0.heap.size = w.heap.size + 1 := by rw [← hW0]; simp
  have hv0 : Boxed W0 w.heap.size 53 (.slice none 0 0) := by rw [← hW0]; exact Boxed.new _ _ _
  have hb0 : Below w.heap.size w W0 := by rw [← hW0]; exact (Below.refl _ w).alloc (Nat.le_refl _) _
  rw [hW0]
  clear hW0
  refine wpIn_rangeFunc_ownH hro h1 (gf := g) (lb := lb) rfl hFg eg hseq belowK_t (belowK_b (by omega)) hb0 (fun _ => rfl)
    (Col w.heap.size w) (fun _ _ _ => False) (by rw [hs0]; exact col_own w) (fun _ _ _ _ _ hs _ _ => hs)
    ⟨⟨_, hv0, World.ownsRow_nil _ _ _ _, by simp⟩, hb0⟩
    (fun x a' W => ∃ Bx, w.heap.size < Bx ∧ BoxR W Bx x ∧ a' = { tmps := #[.slice none 0 0, .func (.func g) #[] lb, .pointer (some ⟨w.heap.size, 0, none⟩), undef, .slice none 0 0, .pointer (some ⟨Bx, 0, none⟩), .func (.func g) #[] lb, .agg x.vs.toArray, undef, undef, undef, undef, undef], defers := [] })
    (fun x a' => by
      rintro s X Y row ⟨Bx, hlt, hx, he⟩ hg hr
      exact ⟨Bx, hlt, boxR_own Bx x () X Y row hx hg (fun r e => (hr r e).2), he⟩) ?assign ?body ?done ?stop
  case assign =>
    rintro l pre x W K ⟨hv, hB⟩ hK
    unfold yieldCel Cel.vs
    gi_wp2
    have hsz := hB.size
    refine hK _ _ ((KeepsOthers.alloc _ _).from _) ((Below.refl _ W).alloc (by omega) _) ?_ ⟨W.heap.size, ?_, World.alloc_heap_new W _, rfl⟩
    · obtain ⟨v, hv1, hv2, hv3⟩ := hv
      exact ⟨⟨v, hv1.alloc _, hv2.alloc _, hv3⟩, hB.alloc hB.size _⟩
    · obtain ⟨v, hv1, _⟩ := hv
      exact hv1.lt
  case body =>
    rintro l pre x a' W hl _ ⟨⟨v, hv, hrow, hnil⟩, hB⟩ ⟨Bx, hBx, hbx, rfl⟩ hlen
    obtain ⟨c0, c1, c2⟩ := hbx.cells
    have hcv := hv.cell
    have hsz := hB.size
    have HN := Lib.hid hnil
    have HB := Lib.hid hB
    have HV := Lib.hid hv
    have HR := Lib.hid hrow
    clear hnil hB hbx
    gi_wp2_with (gi_at_builtin; go_loud (refine wpListIn_append_own _ rfl _ _ 53 rfl w.heap.size 106 i0 _ 3 40 Tryz.underlying53 hi hz h2 h3 rfl (by decide) _ _ _ rfl (hrow.alloc _) ⟨W.heap.size, 0, none⟩ 1 1 x.vs rfl rfl (vs_new W x) x.vs_one (by simp only [maxLen]; omega) (by omega) (by simp; omega) ?_); intro v' w1 hown' hgrow _; obtain ⟨g', cap', rfl⟩ := ownsRow_succ hown'; obtain ⟨hv1, hv2, hr2, hk2, hb2⟩ := HV.out.appended (by decide) HR.out hsz (Nat.le_refl _) hown' hgrow; have hc1 := hv1.cell; have hf1 := hv1.frozen)
    refine ⟨hk2.from _, hb2.mono (by omega), ⟨_, hv2, ?_, by simp⟩, HB.out.trans hb2⟩
    rw [List.length_append, celRow_app, celRow_one]
    exact hr2
  case done =>
    rintro D ys W hD hS ⟨⟨v, hv, hrow, hnil⟩, hB⟩ hK
    have hcv := hv.cell
    have HR := Lib.hid hrow
    have HN := Lib.hid hnil
    have HB := Lib.hid hB
    clear hrow hnil hB
    gi_wp2
    refine ⟨by simp, .inl ⟨_, _, rfl, run_takeDeferred hK, ?_⟩⟩
    exact ⟨_, results_tmp rfl _ _ _, v, ys, rfl, hS, ownsRow_putObj HR.out _ hK rfl, HN.out, HB.out.trans (belowK_b (w := w) (Nat.le_refl _) W D _ _ (by omega) hK rfl rfl)⟩
  case stop =>
    rintro D c pre W _ _ h _
    exact h.elim
set_option maxHeartbeats 1000000 in
theorem collect_in (F : Fence) (n : Nat) (h8 : F.fn 268) (h11 : F.fn 288) (hro : F.round = none) (hn : 3 ≤ n) (g : Nat) (lb : Array Value) (hFg : F.fn g) (eg : ∀ args w, (callFunc g args).run Tryz.prog w = .ok (.enter g args) w)
    (S Sp : List Cel → Prop) (N n₀ : Nat) (hN : N ≤ 1000000) (w : World) (hn0 : n₀ ≤ w.heap.size) (hseq : SeqStopsK F (n - 1 - 1) Tryz.prog g lb yieldCel (Below n₀) S Sp N w) :
    CallsIn F n Tryz.prog 268 #[.func (.func g) #[] lb] w fun e w' => ∃ (v : Value) (xs : List Cel), e = .returned v ∧ S xs ∧ w'.ownsRow w.heap.size 106 3 v xs.length (celRow xs) ∧ (v = .slice none 0 0 ↔ xs = []) ∧ Below w.heap.size w w' := by
  have h1 : 1 ≤ n := by omega
  refine callsIn_of_wp Tryz.func268 rfl h8 ?_ hro
  simp only [Tryz.ntmps268, List.size_toArray, List.length_cons, List.length_nil, Nat.reduceAdd, Nat.reduceSub, Array.replicate_succ, Array.replicate_zero, List.push_toArray, List.append_toArray, List.nil_append, List.cons_append]
  gi_wp2_with (gi_at_call 288; refine (appSeq_in F (n - 1) h11 hro (by omega) g lb hFg eg S Sp N n₀ hN _ hn0 hseq).mono ?_; rintro e w' ⟨v, ss, rfl, hS, hrow, hnil, hb⟩)
  go_ret
  exact ⟨v, ss, rfl, hS, hrow, hnil, hb⟩
/-- what slices.Values tells, collected: a row of one's own of the same regions -/
def ColP (xs : List Cel) (w : World) (e : Ending) (w' : World) : Prop := ∃ v, e = .returned v ∧ w'.ownsRow w.heap.size 106 3 v xs.length (celRow xs) ∧ (v = .slice none 0 0 ↔ xs = []) ∧ Below w.heap.size w w'
theorem collect_c (Bs m c : Nat) (A : Option Addr) (rs : List Reg) (xs : List Cel) (hm : m ≤ 1000000) (w0 w : World) (hxs : Cels w0 A m rs xs) (hbw : Below w0.heap.size w0 w) (hBs : Bs < w.heap.size) (hc : w.cell? ⟨Bs, 0, none⟩ = some (.slice A m c)) :
    Calls Tryz.prog 268 #[.func (.func 270) #[] #[.pointer (some ⟨Bs, 0, none⟩)]] w (ColP xs w) := by
  refine (callsIn_wide (n := 4)).1 ((collect_in Fence.wide 4 trivial trivial rfl (by omega) _ _ trivial (enters_of Tryz.func270 (by kernel_rfl) rfl) (fun ys => ys = xs) _ xs.length w0.heap.size (by rw [hxs.len]; exact hm) w hbw.size
    (vals_stops Fence.wide _ trivial rfl (by omega) Bs m c w0.heap.size A rs xs hm w0 w hxs hbw rfl hBs hc)).mono ?_)
  rintro e w' ⟨v, ss, rfl, rfl, h1, h2, h3⟩
  exact ⟨v, rfl, h1, h2, h3⟩
end Mm
end Go.Proofs.YtikbnfhnimjmmaaGreatDoor
namespace Go.Proofs.YtikbnfhnimjmmaaGreatDoor
open Go Go.RowKit Go.Shelf Go.Sort
namespace Mm
open Wd Nt
set_option linter.unusedVariables false
theorem compare_c (a b : Int) (w : World) : Calls Tryz.prog 223 #[.int .u64 a, .int .u64 b] w fun e w' => e = .returned (.int .i64 (cmpI a b)) ∧ w' = w := by
  by_cases h1 : a < b
  · have e : cmpI a b = -1 := by unfold cmpI; rw [if_pos h1]
    rw [e]
    clear e
    go_enter Tryz.func223, Tryz.ntmps223
    go_wp2_with (go_in)
    go_ret
    exact ⟨rfl, rfl⟩
  · by_cases h2 : b < a
    · have e : cmpI a b = 1 := by unfold cmpI; rw [if_neg h1, if_pos h2]
      rw [e]
      clear e
      go_enter Tryz.func223, Tryz.ntmps223
      go_wp2_with (go_in)
      go_ret
      exact ⟨rfl, rfl⟩
    · have e : cmpI a b = 0 := by unfold cmpI; rw [if_neg h1, if_neg h2]
      rw [e]
      clear e
      go_enter Tryz.func223, Tryz.ntmps223
      go_wp2_with (go_in)
      go_ret
      exact ⟨rfl, rfl⟩
set_option maxHeartbeats 1000000 in
theorem closure_c (x y : Cel) (W : World) : Calls Tryz.prog 222 #[.agg #[.int .u64 x.r.base, .slice x.A x.n x.c, .bool x.r.write], .agg #[.int .u64 y.r.base, .slice y.A y.n y.c, .bool y.r.write]] W fun e w' => e = .returned (.int .i64 (celCmp x y)) ∧ ∃ q os', w' = grow (W.drewN q) os' := by
  have hcon := fun W' => compare_c x.r.base y.r.base W'
  change ∀ W', Calls Tryz.prog _ _ _ (fun e w' => e = .returned (.int .i64 (celCmp x y)) ∧ w' = W') at hcon
  generalize celCmp x y = r at hcon ⊢
  go_enter Tryz.func222, Tryz.ntmps222
  go_wp2_with (go_at_call 223; refine (hcon _).mono ?_; rintro e w' ⟨rfl, rfl⟩)
  go_ret
  exact ⟨rfl, 0, _, by rw [alloc_eq_grow, alloc_eq_grow, grow_grow]; rfl⟩
theorem cmpLays_c (blk off size : Nat) (w : World) : CmpLays Tryz.prog 222 #[] Cel.vs 3 celCmp blk off size w := fun _ _ _ _ x y => closure_c x y _
theorem bitsLen_c (n : Nat) (W : World) (h : n ≤ 12) : Calls Tryz.prog 276 #[.int .u64 n] W fun e w' => (∃ l : Int, e = .returned (.int .i64 l)) ∧ w' = W :=
  (Tryz.bits_Len n W (by omega) (by omega)).mono fun _ _ ⟨he, hw⟩ => ⟨⟨_, he⟩, hw⟩
set_option maxRecDepth 100000 in
set_option maxHeartbeats 1000000 in
/-- slices.SortFunc at no region -/
theorem sortNone_c (w : World) : Calls Tryz.prog 269 #[.slice none 0 0, .func (.func 222) #[] #[]] w fun e w' => e = .returned (.tuple #[]) ∧ w' = w := by
  have hl := fun W => bitsLen_c 0 W (by omega)
  have hi : ∀ W, Calls Tryz.prog 303 #[.slice none 0 0, .int .i64 0, .int .i64 0, .func (.func 222) #[] #[]] W fun e w' => e = .returned (.tuple #[]) ∧ w' = W := fun W => by
    go_enter Tryz.func303, Tryz.ntmps303
    go_wp2
    refine wp_loop_rounds 1 ?_
    rw [rounds_succ]
    go_wp2
    go_end0
    exact ⟨rfl, rfl⟩
  have hp : ∀ (l : Int) W, Calls Tryz.prog 289 #[.slice none 0 0, .int .i64 0, .int .i64 0, .int .i64 l, .func (.func 222) #[] #[]] W fun e w' => e = .returned (.tuple #[]) ∧ w' = W := fun l W => by
    go_enter Tryz.func289, Tryz.ntmps289
    go_wp2_with fail
    refine wp_loop_rounds 1 ?_
    rw [rounds_succ]
    go_wp2_with (go_at_call 303; refine (hi _).mono ?_; rintro e w' ⟨rfl, rfl⟩)
    (try simp only [Exit.inBlock, Exit.then]); refine bodyPost_ret (results_none rfl _ _ _) rfl ?_
    exact ⟨rfl, rfl⟩
  go_enter Tryz.func269, Tryz.ntmps269
  go_wp2_with (first | (go_at_call 276; refine (hl _).mono ?_; rintro e w' ⟨⟨l, rfl⟩, rfl⟩) | (go_at_call 289; refine (hp _ _).mono ?_; rintro e w' ⟨rfl, rfl⟩))
  go_end0
  exact ⟨rfl, rfl⟩
/-- what slices.SortFunc leaves of a row of one's own -/
theorem sort_c {w : World} {B g n c : Nat} {xs : List Cel} (h : w.ownsRow B 106 3 (.slice (some ⟨g, 0, none⟩) n c) n (celRow xs)) (hl : xs.length = n) (h12 : n ≤ 12) :
    Calls Tryz.prog 269 #[.slice (some ⟨g, 0, none⟩) n c, .func (.func 222) #[] #[]] w fun e w' => e = .returned (.tuple #[]) ∧ ∃ ys : List Cel, ys.Perm xs ∧ (ys.map (·.r)).Pairwise (fun r s => r.base ≤ s.base) ∧
      w'.ownsRow B 106 3 (.slice (some ⟨g, 0, none⟩) n c) n (celRow ys) ∧ w.grownBy w' (some g) := by
  have hs : xs.toArray.size = n := by simpa using hl
  have hg : g < w.heap.size := (h.lt g rfl).2
  have hcon := AnyQ.slices_SortFunc_small_sorted Tryz.sortR 3 Tryz.isAgg106 Tryz.sizeOf106 Cel.vs Cel.vs_len Cel.vs_one celCmp 222 #[] cel_swo g 0 c xs.toArray w (enters_of Tryz.func222 (by kernel_rfl) rfl) (cmpLays_c _ _ _ _) (holds_cels h hl) hg (by omega) bitsLen_c
  rw [hs] at hcon
  refine Calls.mono hcon ?_
  rintro e w' ⟨rfl, d, m, os, hp, hso, rfl⟩
  rw [← hs] at hp hso
  obtain ⟨h1, h2⟩ := sorted_cels hp hso
  have hd : d.toList.length = n := by rw [h1.length_eq]; exact hl
  obtain ⟨h3, h4⟩ := own_sorted (ys := d.toList) (m := m) (os := os) h hd
  exact ⟨rfl, d.toList, h1, h2, h3, h4⟩
/-- a row of one's own: the regions by their first addresses, their bytes where they were -/
def ByP (xs : List Cel) (w : World) (e : Ending) (w' : World) : Prop := ∃ v ys, e = .returned v ∧ ys.Perm xs ∧ (ys.map (·.r)).Pairwise (fun r s => r.base ≤ s.base) ∧ w'.ownsRow w.heap.size 106 3 v ys.length (celRow ys) ∧ Below w.heap.size w w'
set_option maxRecDepth 100000 in
set_option maxHeartbeats 2000000 in
theorem sorted_c (Bs m c : Nat) (A : Option Addr) (rs : List Reg) (xs : List Cel) (hm : m ≤ 12) (w0 w : World) (hxs : Cels w0 A m rs xs) (hbw : Below w0.heap.size w0 w) (hBs : Bs < w.heap.size) (hc : w.cell? ⟨Bs, 0, none⟩ = some (.slice A m c)) :
    Calls Tryz.prog 220 #[.func (.func 270) #[] #[.pointer (some ⟨Bs, 0, none⟩)], .func (.func 222) #[] #[]] w (ByP xs w) := by
  have H1 := Lib.hid (collect_c Bs m c A rs xs (by omega) w0 w hxs hbw hBs hc)
  have HL := Lib.hid hxs.len
  clear hxs hbw hc
  go_enter Tryz.func220, Tryz.ntmps220
  go_wp2_with fail
  go_at_call 268
  refine H1.out.mono ?_
  rintro e w1 ⟨v, rfl, hrow, hnil, hb⟩
  have HB := Lib.hid hb
  have HR := Lib.hid hrow
  rcases hrow.2 with ⟨rfl, hz⟩ | ⟨g, cap, cur, rfl, hbase, hgb, r1, r2, r3, r4⟩
  · have hx0 : xs = [] := List.eq_nil_of_length_eq_zero hz
    have H2 := Lib.hid (sortNone_c w1)
    clear H1 hrow hnil hb
    go_wp2_with fail
    go_at_call 269
    refine H2.out.mono ?_
    rintro e w2 ⟨rfl, rfl⟩
    go_wp2_with fail
    go_ret
    exact ⟨_, [], rfl, hx0 ▸ List.Perm.refl _, List.Pairwise.nil, World.ownsRow_nil _ _ _ _, HB.out⟩
  · rw [HL.out] at hrow
    have H2 := Lib.hid (sort_c hrow HL.out hm)
    have HG := Lib.hid hbase
    rw [HL.out]
    clear H1 hrow hnil hb hgb r1 r2 r3 r4 hbase
    go_wp2_with fail
    go_at_call 269
    refine H2.out.mono ?_
    rintro e w2 ⟨rfl, ys, hp, hs, ho, hg⟩
    have HO := Lib.hid ho
    have HP := Lib.hid hp
    have HS := Lib.hid hs
    have HK := Lib.hid hg
    clear H2 hp hs ho hg
    go_wp2_with fail
    go_ret
    exact ⟨_, ys, rfl, HP.out, HS.out, by rw [HP.out.length_eq, HL.out]; exact HO.out, HB.out.grown HK.out HB.out.size (fun k e => by cases e; exact HG.out)⟩
set_option maxRecDepth 100000 in
set_option maxHeartbeats 2000000 in
theorem byAddr_c (A : Option Addr) (n c : Nat) (rs : List Reg) (xs : List Cel) (w : World) (h : Hid (Cels w A n rs xs)) (hn : n ≤ 12) :
    Calls Tryz.prog 127 #[.slice A n c] w (ByP xs w) := by
  have H1 := Lib.hid ((callsIn_wide (n := 4)).1 (vals_in Fence.wide 4 trivial rfl A n c w))
  have HB : Hid (Below w.heap.size w (w.alloc (.cells #[.slice A n c] 53))) := Lib.hid ((Below.refl _ w).alloc (Nat.le_refl _) _)
  have H2 := Lib.hid (sorted_c w.heap.size n c A rs xs hn w (w.alloc (.cells #[.slice A n c] 53)) h.out HB.out (by simp) (by rw [World.cell?_alloc_at _ _ _ _ (by simp)]; rfl))
  go_enter Tryz.func127, Tryz.ntmps127
  go_wp2_with fail
  go_at_call 221
  refine H1.out.mono ?_
  rintro e w1 ⟨rfl, rfl⟩
  go_wp2_with fail
  go_at_call 220
  refine H2.out.mono ?_
  rintro e w2 ⟨v, ys, rfl, hp, hs, ho, hb⟩
  have HO := Lib.hid ho
  have HP := Lib.hid hp
  have HS := Lib.hid hs
  have HK := Lib.hid hb
  clear H1 H2 hp hs ho hb
  go_wp2_with fail
  go_ret
  exact ⟨v, ys, rfl, HP.out, HS.out, ownsRow_base HO.out (by simp), bel_trans HB.out HK.out⟩
end Mm
end Go.Proofs.YtikbnfhnimjmmaaGreatDoor
