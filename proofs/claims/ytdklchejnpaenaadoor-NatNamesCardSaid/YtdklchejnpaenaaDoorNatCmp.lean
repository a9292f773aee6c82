/- Compare: how two naturals stand to each other. -/
import Derived.Test.YtdklchejnpaenaaDoorNatTake
namespace Go.Proofs.YtdklchejnpaenaaDoor
open Go Go.RowKit Go.Shelf
attribute [local go_sem] Oper.semAt_some
namespace Nt
open Wd Sti
set_option linter.unusedVariables false

def cmpN (a b : Int) : Int := if a < b then -1 else if a = b then 0 else 1
theorem cmp_lt {xs ys : List Int} {j : Nat} (hx : Ws xs) (hy : Ws ys) (he : hi xs (j + 1) = hi ys (j + 1)) (h : Nt.at_ xs j < Nt.at_ ys j) : V xs < V ys := by
  have a1 := V_split xs j
  have a2 := V_split ys j
  rw [hi_succ] at a1 a2
  have b1 := lo_lt hx j
  have b2 := lo_nonneg hy j
  have p := P_pos j
  rw [he] at a1
  generalize hi ys (j + 1) = t at *
  have h1 : P j * (Nt.at_ xs j + 1 + 18446744073709551616 * t) ≤ P j * (Nt.at_ ys j + 18446744073709551616 * t) := Int.mul_le_mul_of_nonneg_left (by omega) (by omega)
  have h2 : P j * (Nt.at_ xs j + 1 + 18446744073709551616 * t) = P j * (Nt.at_ xs j + 18446744073709551616 * t) + P j := by
    rw [show Nt.at_ xs j + 1 + 18446744073709551616 * t = (Nt.at_ xs j + 18446744073709551616 * t) + 1 by omega, Int.mul_add, Int.mul_one]
  omega
theorem cmp_at {xs ys : List Int} {j : Nat} (hx : Ws xs) (hy : Ws ys) (he : hi xs (j + 1) = hi ys (j + 1)) (h : Nt.at_ xs j ≠ Nt.at_ ys j) : cmpN (Nt.at_ xs j) (Nt.at_ ys j) = cmpN (V xs) (V ys) := by
  unfold cmpN
  by_cases hl : Nt.at_ xs j < Nt.at_ ys j
  · rw [if_pos hl, if_pos (cmp_lt hx hy he hl)]
  · have := cmp_lt hy hx he.symm (j := j) (by omega)
    rw [if_neg hl, if_neg h, if_neg (by omega), if_neg (by omega)]
theorem cmp_same {xs ys : List Int} (h : V xs = V ys) : cmpN (V xs) (V ys) = 0 := by unfold cmpN; rw [if_neg (by omega), if_pos h]

set_option maxHeartbeats 1000000 in
theorem ucmp_c (a b : Int) (w : World) : Calls Tryd.prog 56 #[.int .u64 a, .int .u64 b] w fun e w' => e = .returned (.int .i64 (cmpN a b)) ∧ w' = w := by
  have hn : ∀ (x : Int) (w : World), Calls Tryd.prog 73 #[.int .u64 x] w fun e w' => e = .returned (.bool false) ∧ w = w' := by
    intro x w
    have hxx : (x != x) = false := by simp
    go_enter Tryd.func73, Tryd.ntmps73
    go_wp2_with fail
    go_ret
    exact ⟨rfl, rfl⟩
  have HN := Lib.hid hn
  clear hn
  unfold cmpN
  by_cases h1 : a < b
  · rw [if_pos h1]
    go_enter Tryd.func56, Tryd.ntmps56
    go_wp2_with (go_at_call 73; refine (HN.out _ _).mono ?_; rintro e w' ⟨rfl, rfl⟩)
    go_ret
    exact ⟨rfl, rfl⟩
  · rw [if_neg h1]
    by_cases h2 : a = b
    · subst h2
      rw [if_pos rfl]
      go_enter Tryd.func56, Tryd.ntmps56
      go_wp2_with (go_at_call 73; refine (HN.out _ _).mono ?_; rintro e w' ⟨rfl, rfl⟩)
      go_ret
      exact ⟨rfl, rfl⟩
    · rw [if_neg h2]
      have h3 : b < a := by omega
      clear h2
      go_enter Tryd.func56, Tryd.ntmps56
      go_wp2_with (go_at_call 73; refine (HN.out _ _).mono ?_; rintro e w' ⟨rfl, rfl⟩)
      go_ret
      exact ⟨rfl, rfl⟩

structure CmpI (w : World) (N : Nat) (A B : Option Addr) (na ca nb cb : Nat) (xs ys : List Int) (k : Nat) (W : World) : Prop where
  le : k ≤ N
  same : hi xs (N - k) = hi ys (N - k)
  res : Bk W w.heap.size 3 #[.int .i64 0]
  ba : Bk W (w.heap.size + 1) 23 #[.slice A na ca]
  bb : Bk W (w.heap.size + 2) 23 #[.slice B nb cb]
  be : Below w.heap.size w W
structure CmpX (w : World) (xs ys : List Int) (c : Code) (W : World) : Prop where
  ret : c = .ret
  res : Bk W w.heap.size 3 #[.int .i64 (cmpN (V xs) (V ys))]
  be : Below w.heap.size w W
theorem CmpI.own {w : World} {N na ca nb cb C : Nat} {A B : Option Addr} {xs ys : List Int} (hC : w.heap.size ≤ C) : OwnFrom C (CmpI w N A B na ca nb cb xs ys) := by
  intro k W W' row h hg hr
  have hr' : ∀ r, row = some r → ∃ o : Obj, W.heap[r]? = some o ∧ o.isCells = false := fun r e => (hr r e).2
  exact ⟨h.le, h.same, h.res.grown hg hr', h.ba.grown hg hr', h.bb.grown hg hr', h.be.grown hg h.be.size (fun r e => Nat.le_trans hC (hr r e).1)⟩
theorem CmpX.own {w : World} {C : Nat} {xs ys : List Int} (hC : w.heap.size ≤ C) : OwnFrom C (CmpX w xs ys) := by
  intro k W W' row h hg hr
  have hr' : ∀ r, row = some r → ∃ o : Obj, W.heap[r]? = some o ∧ o.isCells = false := fun r e => (hr r e).2
  exact ⟨h.ret, h.res.grown hg hr', h.be.grown hg h.be.size (fun r e => Nat.le_trans hC (hr r e).1)⟩

set_option maxRecDepth 100000 in
set_option maxHeartbeats 4000000 in
theorem compare_n (A B : Option Addr) (na ca nb cb Ba Bb : Nat) (xs ys : List Int) (w : World) (ha : Rd w Ba A na xs) (hBa : Ba ≤ w.heap.size) (hb : Rd w Bb B nb ys) (hBb : Bb ≤ w.heap.size) (la : na ≤ 1073741824) (lb : nb ≤ 1073741824) :
    Calls Tryd.prog 21 #[.slice A na ca, .slice B nb cb] w fun e w' => e = .returned (.int .i64 (cmpN (V xs) (V ys))) ∧ Below w.heap.size w w' := by
  replace ha := ha.more hBa
  replace hb := hb.more hBb
  have hF : Wide Fence.wide Tryd.prog := wide _
  refine callsIn_wide (n := 3).1 (callsIn_of_wp_marks Tryd.func21 rfl trivial ?_ rfl)
  simp only [Tryd.ntmps21, List.size_toArray, List.length_cons, List.length_nil, Nat.reduceAdd, Nat.reduceSub, Array.replicate_succ, Array.replicate_zero, List.push_toArray, List.append_toArray, List.nil_append, List.cons_append]
  gi_wp2_with (refine ⟨trivial, ?_⟩; gi_at_call 55; refine (pairsDown_c hF rfl A B na ca nb cb _).mono ?_; rintro e w' ⟨rfl, rfl⟩)
  obtain ⟨N, hN⟩ : ∃ N, N = max na nb := ⟨_, rfl⟩
  refine wpIn_rangeB rfl (fun h => by cases h) (gf := 72) (lb := _) rfl trivial (enters_of Tryd.func72 (by kernel_rfl) rfl)
    (pairsDown_gives (n := 2) hF rfl (w.heap.size + 1) (w.heap.size + 2) A B na ca nb cb N hN (by omega) (by omega) (Nt.at_ xs) (Nt.at_ ys)) (fun _ => rfl)
    (CmpI w N A B na ca nb cb xs ys) (CmpX w xs ys) (CmpI.own (by simp; omega)) (CmpX.own (by simp; omega))
    ?rdy ?start (fun k b W => w.heap.size + 2 < b ∧ Bk W b 68 #[.int .u64 (Nt.at_ xs (N - 1 - k)), .int .u64 (Nt.at_ ys (N - 1 - k))]) ?ax
    (fun k b T => ((T.setIfInBounds 10 (.int .i64 ((N - 1 - k : Nat) : Int))).setIfInBounds 11 (.agg #[.int .u64 (Nt.at_ xs (N - 1 - k)), .int .u64 (Nt.at_ ys (N - 1 - k))])).setIfInBounds 6 (.pointer (some ⟨b, 0, none⟩))) ?assign ?body ?done ?stop
  case rdy => exact fun k W hi => ⟨hi.ba.cell 0, hi.bb.cell 0, fun _ => ⟨(ha.below hi.be).lat _, (hb.below hi.be).lat _⟩⟩
  case start =>
    refine ⟨Nat.zero_le _, ?_, ((Bk.new' rfl).alloc _).alloc _, (Bk.new' (by simp)).alloc _, Bk.new' (by simp), (((Below.refl _ w).alloc (Nat.le_refl _) _).alloc (by simp) _).alloc (by simp; omega) _⟩
    rw [hi_all (by rw [ha.len]; omega), hi_all (by rw [hb.len]; omega)]
  case ax => exact fun k b => fun _ W W' row h hg hr => ⟨h.1, h.2.grown hg (fun r e => (hr r e).2)⟩
  case assign =>
    intro l k W K hi hK
    clear hN
    gi_wp2
    exact hK W.heap.size _ ((KeepsOthers.alloc _ _).from _) ((CmpI.own (Nat.le_refl _)).alloc _ hi) ⟨hi.bb.lt, Bk.new W _ _⟩
  case body =>
    rintro l k b W hl ⟨g0, g1, g2, g3, g4, g5⟩ ⟨hb1, hb2⟩ hk
    clear hN
    obtain ⟨j, hj⟩ : ∃ j, N - 1 - k = j := ⟨_, rfl⟩
    rw [hj] at hb2
    have hjs : N - k = j + 1 := by omega
    rw [hjs] at g1
    have hjs' : N - (k + 1) = j := by omega
    have c3 : W.cell? ⟨b, 0, none⟩ = some (.int .u64 (Nt.at_ xs j)) := hb2.cell 0
    have c4 : W.cell? ⟨b, 1, none⟩ = some (.int .u64 (Nt.at_ ys j)) := hb2.cell 1
    have c0 : W.cell? ⟨w.heap.size, 0, none⟩ = some (.int .i64 0) := g2.cell 0
    have f0 : W.frozen? ⟨w.heap.size, 0, none⟩ = false := g2.frozen 0
    rw [hj]
    have G1 := Lib.hid g1
    have HJ := Lib.hid hjs'
    clear hj hjs hjs' g1
    have hxw := ha.ws.at_ j
    have hyw := hb.ws.at_ j
    have HI : Nt.at_ xs j = Nt.at_ ys j → Hid (hi xs j = hi ys j) := fun e => Lib.hid (by rw [hi_succ, hi_succ ys, e, G1.out])
    have HC : Nt.at_ xs j ≠ Nt.at_ ys j → Hid (cmpN (Nt.at_ xs j) (Nt.at_ ys j) = cmpN (V xs) (V ys)) := fun e => Lib.hid (cmp_at ha.ws hb.ws G1.out e)
    simp only [List.setIfInBounds_toArray]
    by_cases hx : Nt.at_ xs j = Nt.at_ ys j
    · have HI' := HI hx
      rw [hx] at c3
      clear HI HC hx
      generalize Nt.at_ ys j = z at *
      gi_wp2
      exact ⟨KeepsFrom.refl _ _, by omega, by rw [HJ.out]; exact HI'.out, g2, g3, g4, g5⟩
    · have HC' := HC hx
      have hxx : (Nt.at_ xs j != Nt.at_ ys j) = true := by simpa using hx
      have cc := ucmp_c (Nt.at_ xs j) (Nt.at_ ys j) W
      rw [HC'.out] at cc
      clear HI HC hx HC'
      generalize Nt.at_ ys j = z at *
      generalize Nt.at_ xs j = z' at *
      gi_wp2_with (refine ⟨trivial, ?_⟩; gi_at_call 56; refine (CallsIn.inRound l (callsIn_wide.2 cc)).mono ?_; rintro e w' ⟨rfl, rfl⟩)
      refine ⟨(KeepsOthers.setCell _ _ _).from _, rfl, g2.set_ 0 _, g5.setCell (Nat.le_refl _) _⟩
  case done =>
    rintro D W hD ⟨g0, g1, g2, g3, g4, g5⟩ hK
    have hDs : w.heap.size + 3 ≤ D := by simpa using hD
    have c0 : W.cell? ⟨w.heap.size, 0, none⟩ = some (.int .i64 0) := g2.cell 0
    have f0 : W.frozen? ⟨w.heap.size, 0, none⟩ = false := g2.frozen 0
    have hv : V xs = V ys := by rw [Nat.sub_self, hi_zero, hi_zero] at g1; exact g1
    have HV := Lib.hid hv
    clear hv g1
    gi_wp2
    have hK' := (KeepsOthers.setCell W ⟨w.heap.size, 0, none⟩ (.int .i64 0)).same D _ hK rfl
    have hc5 : ((W.setCell ⟨w.heap.size, 0, none⟩ (.int .i64 0)).putObj D (.deferred none)).cell? ⟨w.heap.size, 0, none⟩ = some (.int .i64 0) := ((g2.set_ 0 (.int .i64 0)).putObj (.deferred none) hK' rfl).cell 0
    refine ⟨by simp, .inl ⟨_, _, rfl, run_takeDeferred hK', ⟨.int .i64 0, by simp [results, Tryd.f21, go_sem, hc5], by rw [cmp_same HV.out], below_putObj (g5.setCell (Nat.le_refl _) _) (Nat.le_refl _) (by omega) _⟩⟩⟩
  case stop =>
    rintro D c W hD ⟨rfl, h1, h2⟩ hK
    have hDs : w.heap.size + 3 ≤ D := by simpa using hD
    gi_wp2
    have hc5 : (W.putObj D (.deferred none)).cell? ⟨w.heap.size, 0, none⟩ = some (.int .i64 (cmpN (V xs) (V ys))) := (h1.putObj (.deferred none) hK rfl).cell 0
    refine ⟨by simp, .inl ⟨_, _, rfl, run_takeDeferred hK, ⟨.int .i64 (cmpN (V xs) (V ys)), by simp [results, Tryd.f21, go_sem, hc5], rfl, below_putObj h2 (Nat.le_refl _) (by omega) _⟩⟩⟩
end Nt
end Go.Proofs.YtdklchejnpaenaaDoor
