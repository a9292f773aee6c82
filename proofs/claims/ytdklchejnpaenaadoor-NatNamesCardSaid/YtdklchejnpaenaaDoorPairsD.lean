/- The iterator of pairs, the highest limbs first. -/
import Derived.Test.YtdklchejnpaenaaDoorPairs
namespace Go.Proofs.YtdklchejnpaenaaDoor
open Go Go.RowKit Go.Shelf
attribute [local go_sem] Oper.semAt_some
namespace Nt
open Wd Sti
set_option linter.unusedVariables false

theorem pairsDown_c {F : Fence} {n : Nat} (hF : Wide F Tryd.prog) (hro : F.round = none) (a b : Option Addr) (na ca nb cb : Nat) (w : World) :
    CallsIn F n Tryd.prog 55 #[.slice a na ca, .slice b nb cb] w fun e w' =>
      e = .returned (.func (.func 72) #[] #[.pointer (some ⟨w.heap.size, 0, none⟩), .pointer (some ⟨w.heap.size + 1, 0, none⟩)]) ∧
      w' = (w.alloc (.cells #[.slice a na ca] 23)).alloc (.cells #[.slice b nb cb] 23) := by
  refine callsIn_of_wp Tryd.func55 rfl (hF.fn _) ?_ hro
  simp only [Tryd.ntmps55, List.size_toArray, List.length_cons, List.length_nil, Nat.reduceAdd, Nat.reduceSub, Array.replicate_succ, Array.replicate_zero, List.push_toArray, List.append_toArray, List.nil_append, List.cons_append]
  gi_wp2
  go_ret
  exact ⟨rfl, rfl⟩

set_option maxRecDepth 100000 in
set_option maxHeartbeats 2000000 in
theorem pairsDown_gives {F : Fence} {n : Nat} (hF : Wide F Tryd.prog) (hro : F.round = none) (Ba Bb : Nat) (A B : Option Addr) (na ca nb cb N : Nat) (hN : N = max na nb) (ha : na ≤ 4611686018427387904) (hb : nb ≤ 4611686018427387904) (x y : Nat → Int) :
    Gives F n Tryd.prog 72 #[.pointer (some ⟨Ba, 0, none⟩), .pointer (some ⟨Bb, 0, none⟩)] (fun k => #[.int .i64 ((N - 1 - k : Nat) : Int), .agg #[.int .u64 (x (N - 1 - k)), .int .u64 (y (N - 1 - k))]]) N
      (fun k W => W.cell? ⟨Ba, 0, none⟩ = some (.slice A na ca) ∧ W.cell? ⟨Bb, 0, none⟩ = some (.slice B nb cb) ∧ (k < N → LAt W A na (N - 1 - k) (x (N - 1 - k)) ∧ LAt W B nb (N - 1 - k) (y (N - 1 - k)))) := fun l J Jx W hJ hRdy hY h0 => by
  refine callsIn_of_wp Tryd.func72 rfl (hF.fn _) ?_ hro
  simp only [Tryd.ntmps72, List.size_toArray, List.length_cons, List.length_nil, Nat.reduceAdd, Nat.reduceSub, Array.replicate_succ, Array.replicate_zero, List.push_toArray, List.append_toArray, List.nil_append, List.cons_append]
  obtain ⟨hca, hcb, _⟩ := hRdy 0 W h0
  rcases (show (na < nb ∧ N ≤ nb ∧ nb ≤ N) ∨ (¬ na < nb ∧ N ≤ na ∧ na ≤ N) by omega) with ⟨hlt, hN1, hN2⟩ | ⟨hlt, hN1, hN2⟩ <;> clear hN
  all_goals
    gi_wp2
    gi_loopw [4] (fun i wr => ∃ k j : Nat, j + k = N ∧ i = .int .i64 ((j : Int) - 1) ∧ J k wr) (fun i _ => (intOf i + 1).toNat)
    case atStart => exact ⟨0, N, by omega, by go_num, h0⟩
    case round =>
      obtain ⟨k, j, hk, rfl, hJs⟩ := hrel
      obtain ⟨hca', hcb', hxy⟩ := hRdy k wr hJs
      by_cases hlt : k < N
      · obtain ⟨hx, hy'⟩ := hxy hlt
        have hJd : J k wr.drew := hJ k _ _ hJs ⟨rfl, rfl, rfl, Nat.le_refl _, fun _ _ _ => rfl⟩
        obtain ⟨fn, tmps, assign, body, hy, hR⟩ := hY k wr.drew hJd hlt
        obtain ⟨i, rfl⟩ : ∃ i, j = i + 1 := ⟨j - 1, by omega⟩
        have e : N - 1 - k = i := by omega
        rw [e] at hx hy' hy
        clear e
        have hi : ((i + 1 : Nat) : Int) - 1 = (i : Int) := by omega
        rw [hi]
        clear hi
        have hxd : LAt wr.drew A na i (x i) := hx
        have hyd : LAt wr.drew B nb i (y i) := hy'
        have cx := limb_at A na ca i (x i) wr.drew hxd (by omega)
        have cy := limb_at B nb cb i (y i) wr.drew hyd (by omega)
        clear hxd hyd hx hy' hxy hRdy hY hJd
        gi_wp2
        refine wpIn_region_still_tail hF 9 (by kernel_rfl) (by kernel_rfl) (by kernel_rfl) ?_
        simp only [List.take_succ_cons, List.take_zero, List.drop_succ_cons, List.drop_zero]
        iterate 4 still_step
        still_call cx
        iterate 2 still_step
        still_call cy
        still_step
        refine wpStill_nil ?_
        gi_wp2
        refine ⟨fun hd => (by rw [hF.depth] at hd; cases hd), hR.mono ?_⟩
        clear hy hR cx cy
        rintro e W3 (⟨rfl, hJ3⟩ | ⟨rfl, hJx3⟩)
        · gi_wp2
          go_roundw
          case rel => exact ⟨k + 1, i, by omega, by go_num, hJ3⟩
          case measure => (simp [intOf]; try omega)
        · gi_wp2
          refine bodyPost_ret (results_none rfl _ _ _) rfl ?_
          exact ⟨⟨_, rfl⟩, .inr hJx3⟩
      · obtain rfl : j = 0 := by omega
        obtain rfl : k = N := by omega
        gi_wp2
        go_end0
        exact ⟨⟨_, rfl⟩, .inl hJs⟩
end Nt
end Go.Proofs.YtdklchejnpaenaaDoor
