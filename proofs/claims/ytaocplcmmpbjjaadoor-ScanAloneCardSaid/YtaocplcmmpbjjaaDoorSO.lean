/- What a reading tells, collected; the landed All. -/
import Derived.Test.YtaocplcmmpbjjaaDoorSM
import Derived.Test.YtaocplcmmpbjjaaDoorSN
import Derived.RangeFuncBox
import Derived.Shelf.Abstract
import Derived.Shelf.RegionOpen
import Derived.WalkKit
import Derived.OwnWalkIn
import Derived.TacticsInMore
import Derived.LoopNIn
import Derived.LoopIn
import Derived.Maps.AppendAt
namespace Go.Proofs.YtaocplcmmpbjjaaDoor
open Go Go.RowKit Go.Maps Go.Shelf
namespace Sn
open Nt
set_option linter.unusedVariables false
set_option linter.unusedSimpArgs false
attribute [local go_sem] Oper.semAt_some
theorem add_at (b o k : Nat) : (⟨b, o, none⟩ : Addr).add k = ⟨b, o + k, none⟩ := by
  unfold Addr.add; split
  · rename_i e; rw [e]; rfl
  · rfl
def tokVs (s : ByteArray) (t : Tok) : List Value := [.int .i64 (t.k : Int), .string (s.extract t.p t.b), .int .i64 (t.p : Int)]
def tokRow (s : ByteArray) (xs : List Tok) : List Value := xs.flatMap (tokVs s)
theorem tokVs_one (s : ByteArray) (t : Tok) : ∀ v ∈ tokVs s t, v.oneCell' = true := by
  intro v hv
  unfold tokVs at hv
  simp only [List.mem_cons, List.not_mem_nil, or_false] at hv
  rcases hv with rfl | rfl | rfl <;> rfl
theorem tokRow_app (s : ByteArray) (xs ys : List Tok) : tokRow s (xs ++ ys) = tokRow s xs ++ tokRow s ys := List.flatMap_append
theorem tokRow_one (s : ByteArray) (x : Tok) : tokRow s [x] = tokVs s x := by unfold tokRow; simp
theorem info_tok : (Tryd.prog.info? 33).map (fun i => (i.zero, i.size, i.bytes)) = some (some (.agg #[.int .i64 0, .string ⟨#[]⟩, .int .i64 0]), 3, 32) := by kernel_rfl
def encT (s : ByteArray) (t : Tok) : Array Value := #[tokV s t]
/-- the box of the loop's variable -/
def BoxT (W : World) (B : Nat) (s : ByteArray) (x : Tok) : Prop := W.heap[B]? = some (.cells #[.int .i64 (x.k : Int), .string (s.extract x.p x.b), .int .i64 (x.p : Int)] 33 (0, 0))
theorem BoxT.cells {W : World} {B : Nat} {s : ByteArray} {x : Tok} (h : BoxT W B s x) : W.cell? ⟨B, 0, none⟩ = some (.int .i64 (x.k : Int)) ∧ W.cell? ⟨B, 1, none⟩ = some (.string (s.extract x.p x.b)) ∧ W.cell? ⟨B, 2, none⟩ = some (.int .i64 (x.p : Int)) := by
  unfold BoxT at h
  refine ⟨?_, ?_, ?_⟩ <;> simp [World.cell?, h]
theorem boxT_own (B : Nat) (s : ByteArray) (x : Tok) : Own (fun (_ : Unit) W => BoxT W B s x) := fun _ X Y row hs hg hrow => by
  unfold BoxT at *
  refine (hg.block B (Array.getElem?_eq_some_iff.1 hs).1 (fun e' => ?_)).trans hs
  obtain ⟨o, ho, hc⟩ := hrow B e'.symm
  rw [hs] at ho; cases ho; cases hc
theorem tok_new (W : World) (s : ByteArray) (x : Tok) (j : Nat) (u : Value) (hu : (tokVs s x)[j]? = some u) : (W.alloc (.cells #[.int .i64 (x.k : Int), .string (s.extract x.p x.b), .int .i64 (x.p : Int)] 33)).cell? ((⟨W.heap.size, 0, none⟩ : Addr).add j) = some u := by
  rw [add_at, Nat.zero_add]
  unfold tokVs at hu
  rw [World.cell?_alloc_at _ _ _ _ (by simp)]
  simpa using hu
theorem grown_on {w X Y : World} {R : Nat} {row : Option Nat} (h : w.grownBy X (some R)) (hg : X.grownBy Y row) (hr : ∀ r, row = some r → r = R ∨ w.heap.size ≤ r) : w.grownBy Y (some R) :=
  ⟨hg.os.trans h.os, hg.tape.trans h.tape, hg.output.trans h.output, Nat.le_trans h.size hg.size, fun k hk hne => by
    refine (hg.block k (Nat.lt_of_lt_of_le hk h.size) (fun e => ?_)).trans (h.block k hk hne)
    rcases hr k e.symm with h1 | h1
    · exact hne (by rw [h1])
    · omega⟩
theorem grown_weak {w X : World} (row : Option Nat) (h : w.grownBy X none) : w.grownBy X row := ⟨h.os, h.tape, h.output, h.size, fun k hk _ => h.block k hk (by simp)⟩
theorem grown_below {w X Y : World} {R : Nat} (h : w.grownBy X (some R)) (hb : Below w.heap.size X Y) : w.grownBy Y (some R) :=
  ⟨hb.os.trans h.os, hb.tape.trans h.tape, hb.output.trans h.output, Nat.le_trans h.size hb.size, fun k hk hne => (hb.block k hk).trans (h.block k hk hne)⟩
theorem kps_alloc {n₀ R : Nat} {W : World} (o : Obj) (hn : n₀ ≤ W.heap.size) (hR : R < W.heap.size) : Kps n₀ R W (W.alloc o) :=
  ⟨(Below.refl _ W).alloc hn o, KeepsWalks.alloc W o, Below.heap_alloc W o R hR⟩
/-- what a reading under way tells, for whoever ranges over it -/
def TelE (s : ByteArray) (M : Nat) (R : Nat) (W : World) : Prop := ∃ k p a y : Int, Rdg W R s (telF R) (.map (some M)) k p a y ∧ (match (tl s s.size 0 0 4).2 with | none => y = 0 | some er => a = (er.1 : Int) ∧ y = (er.2 : Int))
theorem telE_put (s : ByteArray) (M R : Nat) (X : World) (l : Nat) (o' : Obj) (hne : R ≠ l) (h : TelE s M R X) : TelE s M R (X.putObj l o') := by
  obtain ⟨k, p, a, y, hr, hm⟩ := h
  exact ⟨k, p, a, y, (World.putObj_heap_other hne).trans hr, hm⟩
theorem tell_seq (n : Nat) (hn : 3 ≤ n) (n₀ R M : Nat) (s : ByteArray) (hs : s.size ≤ 100000) (w : World) (hR : Rdg w R s (telF R) (.map (some M)) 4 0 0 0) (hM : GoM w M) (hT : Lib.Utf8Tabs 0 1 w)
    (hne : M ≠ R ∧ 0 ≠ R ∧ 1 ≠ R) (hlo : 0 < n₀ ∧ 1 < n₀ ∧ n₀ ≤ w.heap.size) :
    SeqR n Tryd.prog 29 #[.pointer (some ⟨R, 0, none⟩)] #[] (encT s) n₀ (fun R' W X => R' = R ∧ X = W) (tl s s.size 0 0 4).1 (TelE s M) w := fun l J Jx W hW hJ hY h0 => by
  have hRl : R < w.heap.size := Bk.lt hR
  have hR1 : Rdg W R s (telF R) (.map (some M)) 4 0 0 0 := (hW.block R hRl).trans hR
  refine (tell_in n hn l n₀ W.heap.size R M s hs W (Nat.le_refl _) (J R) (Jx R) (hJ R) (hY R) hR1 (gom_eq hM (hW.block M hM.lt)) (tabs_eq hT (hW.block _ (World.block_lt_of_cell? w _ (hT.1 0 (by omega)))) (hW.block _ (World.block_lt_of_cell? w _ (hT.2 0 (by omega)).1))) hne ⟨hlo.1, hlo.2.1, Nat.le_trans hlo.2.2 hW.size⟩ (h0 R W ⟨rfl, rfl⟩ (Below.refl _ _))).mono ?_
  rintro e W' ⟨hv, ⟨hj, k, p, a, y, hr, hm⟩ | ⟨pre, hpre, hx⟩⟩
  · exact ⟨hv, R, .inl ⟨hj, k, p, a, y, hr, hm⟩⟩
  · exact ⟨hv, R, .inr ⟨pre, hpre, hx⟩⟩
/-- what has been collected when pre has come -/
def ColT (R0 B : Nat) (w : World) (s : ByteArray) (R : Nat) (pre : List Tok) (W : World) : Prop :=
  (∃ v, Boxed W B 23 v ∧ W.ownsRow w.heap.size 33 3 v pre.length (tokRow s pre) ∧ (v = .slice none 0 0 ↔ pre = [])) ∧ w.grownBy W (some R) ∧ R < w.heap.size ∧ R = R0
theorem colT_ab (R0 B : Nat) (w : World) (s : ByteArray) (b₀ : Nat) (hb₀ : w.heap.size ≤ b₀) (hB : w.heap.size ≤ B) : ∀ R t X Y row, ColT R0 B w s R t X → X.grownBy Y row → AbR R b₀ X row → ColT R0 B w s R t Y := by
  rintro R t X Y row ⟨⟨v, hv, hr, hn⟩, hgr, hlt⟩ hg hrow
  refine ⟨⟨v, hv.kept hg (fun e' => ?_), hr.kept hg ?_, hn⟩, grown_on hgr hg (fun r e => ?_), hlt⟩
  · rcases hrow B e'.symm with h | ⟨_, o, ho, hc⟩
    · omega
    · rw [show X.heap[B]? = _ from hv] at ho; cases ho; cases hc
  · rcases hr.2 with ⟨rfl, _⟩ | ⟨g, cap, cur, rfl, hbg, hgb, _⟩
    · exact .inl rfl
    · refine .inr fun e' => ?_
      rcases hrow g (by simpa [Value.ownBlock] using e'.symm) with h | ⟨_, o, ho, hc⟩
      · omega
      · rw [hgb] at ho; cases ho; cases hc
  · rcases hrow r e with h | ⟨h, _⟩
    · exact .inl h
    · exact .inr (by omega)
/-- what is collected -/
def ColP (s : ByteArray) (R M : Nat) (xs : List Tok) (w : World) (e : Ending) (w' : World) : Prop := ∃ (v : Value), e = .returned v ∧ TelE s M R w' ∧ w'.ownsRow w.heap.size 33 3 v xs.length (tokRow s xs) ∧ (v = .slice none 0 0 ↔ xs = []) ∧ w.grownBy w' (some R)
set_option maxRecDepth 100000 in
set_option maxHeartbeats 4000000 in
theorem appSeq_in (n : Nat) (hn : 2 ≤ n) (g : Nat) (fb lb : Array Value) (eg : ∀ args w, (callFunc g args).run Tryd.prog w = .ok (.enter g args) w)
    (n₀ R0 M : Nat) (s : ByteArray) (hs : s.size ≤ 100000) (xs : List Tok) (hxl : xs.length ≤ 100000) (w : World) (hn0 : n₀ ≤ w.heap.size) (hR0 : R0 < n₀) (hseq : SeqR (n - 1) Tryd.prog g fb lb (encT s) n₀ (fun R' W X => R' = R0 ∧ X = W) xs (TelE s M) w) :
    CallsIn Fence.wide n Tryd.prog 30 #[.slice none 0 0, .func (.func g) fb lb] w (ColP s R0 M xs w) := by
  have h1 : 1 ≤ n := by omega
  obtain ⟨i0, hi, hz, h2, h3⟩ := info_parts info_tok
  refine callsIn_of_wp_marks Tryd.func30 rfl trivial ?_ rfl
  simp only [Tryd.ntmps30, List.size_toArray, List.length_cons, List.length_nil, Nat.reduceAdd, Nat.reduceSub, Array.replicate_succ, Array.replicate_zero, List.push_toArray, List.append_toArray, List.nil_append, List.cons_append]
  gi_wp2
  obtain ⟨W0, hW0⟩ : ∃ W0, w.alloc (.cells #[.slice none 0 0] 23) = W0 := ⟨_, rfl⟩
  have hs0 : W0.heap.size = w.heap.size + 1 := by rw [← hW0]; simp
  have hv0 : Boxed W0 w.heap.size 23 (.slice none 0 0) := by rw [← hW0]; exact Boxed.new _ _ _
  have hb0 : Below w.heap.size w W0 := by rw [← hW0]; exact (Below.refl _ w).alloc (Nat.le_refl _) _
  rw [hW0]
  clear hW0
  refine wpIn_rangeR h1 (gf := g) (fb := fb) (lb := lb) rfl eg hseq (by omega) hb0 (fun _ => rfl)
    (fun R W1 X hs1 ho => by obtain ⟨rfl, rfl⟩ := ho; omega) (fun R X l o' hne h => telE_put s M R X l o' hne h)
    (ColT R0 w.heap.size w s) (fun _ _ _ _ => False) (colT_ab R0 w.heap.size w s _ (by omega) (Nat.le_refl _)) (fun _ _ _ _ _ _ hs _ _ => hs)
    ?start
    (fun x a' W => ∃ Bx, w.heap.size < Bx ∧ BoxT W Bx s x ∧ a' = { tmps := #[.slice none 0 0, .func (.func g) fb lb, .pointer (some ⟨w.heap.size, 0, none⟩), undef, .slice none 0 0, .pointer (some ⟨Bx, 0, none⟩), .func (.func g) fb lb, .agg (tokVs s x).toArray, undef, undef, undef, undef, undef], defers := [] })
    (fun x a' => by
      rintro u X Y row ⟨Bx, hlt, hx, he⟩ hg hr
      exact ⟨Bx, hlt, boxT_own Bx s x () X Y row hx hg (fun r e => (hr r e).2), he⟩) ?assign ?body ?done ?stop
  case start =>
    rintro R W1 X hb1 hs1 ⟨rfl, rfl⟩ _
    refine ⟨⟨_, (hb1.block _ (by omega)).trans hv0, World.ownsRow_nil _ _ _ _, by simp⟩, grown_weak _ (below_grown (hb0.trans (hb1.mono (by omega)))), by omega, rfl⟩
  case assign =>
    rintro l R pre x W K ⟨hv, hB, hlt⟩ hK
    unfold encT tokV
    gi_wp2
    have hsz := hB.size
    refine hK _ _ ((KeepsOthers.alloc _ _).from _) (kps_alloc _ (by omega) (by omega)) ?_ ⟨W.heap.size, ?_, World.alloc_heap_new W _, rfl⟩
    · obtain ⟨v, hv1, hv2, hv3⟩ := hv
      exact ⟨⟨v, hv1.alloc _, hv2.alloc _, hv3⟩, grown_on hB (World.grownBy_alloc W _ none) (fun r e => by cases e), hlt⟩
    · obtain ⟨v, hv1, _⟩ := hv
      exact hv1.lt
  case body =>
    rintro l R pre x a' W hl _ _ ⟨⟨v, hv, hrow, hnil⟩, hB, hlt⟩ ⟨Bx, hBx, hbx, rfl⟩ hpx
    have hpl : pre.length ≤ 100000 := by have := hpx.length_le; simp at this; omega
    clear hpx
    obtain ⟨c0, c1, c2⟩ := hbx.cells
    have hcv := hv.cell
    have hsz := hB.size
    have HN := Lib.hid hnil
    have HB := Lib.hid hB
    have HV := Lib.hid hv
    have HR := Lib.hid hrow
    clear hnil hB hbx
    gi_wp2_with (gi_at_builtin; go_loud (refine wpListIn_append_own _ rfl _ _ 23 rfl w.heap.size 33 i0 _ 3 32 Tryd.underlying23 hi hz h2 h3 rfl (by decide) _ _ _ rfl (hrow.alloc _) ⟨W.heap.size, 0, none⟩ 1 1 (tokVs s x) rfl rfl (tok_new W s x) (tokVs_one s x) (by simp only [maxLen]; omega) (by omega) (by simp; omega) ?_); intro v' w1 hown' hgrow _; obtain ⟨g', cap', rfl⟩ := ownsRow_succ hown'; obtain ⟨hv1, hv2, hr2, hk2, hb2⟩ := HV.out.appended (by decide) HR.out hsz (Nat.le_refl _) hown' hgrow; have hc1 := hv1.cell; have hf1 := hv1.frozen)
    refine ⟨hk2.from _, ⟨hb2.mono (by omega), hk2.walks, hb2.block R hlt.1⟩, ⟨_, hv2, ?_, by simp⟩, ?_, hlt⟩
    · rw [List.length_append, tokRow_app, tokRow_one]
      exact hr2
    · exact grown_below HB.out hb2
  case done =>
    rintro D R W hD hne ⟨⟨v, hv, hrow, hnil⟩, hB, hlt, rfl⟩ hE hK
    have hcv := hv.cell
    have HR := Lib.hid hrow
    have HN := Lib.hid hnil
    have HB := Lib.hid hB
    have HE := Lib.hid hE
    clear hrow hnil hB hE
    gi_wp2
    refine ⟨by simp, .inl ⟨_, _, rfl, run_takeDeferred hK, ?_⟩⟩
    exact ⟨_, results_tmp rfl _ _ _, v, rfl, telE_put s M R _ _ _ hne HE.out, ownsRow_putObj HR.out _ hK rfl, HN.out, grown_on HB.out (grownBy_putObj' _ _ _) (fun r e => by cases e; exact .inr (by omega))⟩
  case stop =>
    rintro D R c pre W _ _ h _
    exact h.elim
end Sn
end Go.Proofs.YtaocplcmmpbjjaaDoor
