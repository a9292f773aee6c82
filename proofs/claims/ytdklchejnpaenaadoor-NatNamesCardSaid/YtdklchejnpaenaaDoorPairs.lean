/- The iterator of pairs: what it hands to the rounds. -/
import Derived.Test.YtdklchejnpaenaaDoorNatW
import Derived.Test.YtdklchejnpaenaaDoorSeqLaw
namespace Go.Proofs.YtdklchejnpaenaaDoor
open Go Go.RowKit Go.Shelf
attribute [local go_sem] Oper.semAt_some
namespace Nt
open Wd Sti
set_option linter.unusedVariables false

/-- the limb k of the slice '.slice A n c' reads x (0 beyond its end) -/
def LAt (w : World) (A : Option Addr) (n k : Nat) (x : Int) : Prop := (k < n → ∃ ad, A = some ad ∧ w.cell? (ad.add k) = some (.int .u64 x)) ∧ (n ≤ k → x = 0)
theorem Rd.lat {w : World} {B n : Nat} {A : Option Addr} {xs : List Int} (h : Rd w B A n xs) (k : Nat) : LAt w A n k (Nt.at_ xs k) :=
  ⟨fun hk => by obtain ⟨ad, e, _, hc⟩ := h.at_ hk; exact ⟨ad, e, hc⟩, fun hk => at_ge (by rw [h.len]; exact hk)⟩
theorem limb_at (A : Option Addr) (n c k : Nat) (x : Int) (w : World) (h : LAt w A n k x) (hk : k ≤ 4611686018427387904) :
    Calls Tryd.prog 51 #[.slice A n c, .int .i64 (k : Int)] w fun e w' => e = .returned (.int .u64 x) ∧ w' = w := by
  by_cases hlt : k < n
  · obtain ⟨ad, rfl, hc⟩ := h.1 hlt
    clear h
    go_enter Tryd.func51, Tryd.ntmps51
    go_wp2_with fail
    go_ret
    exact ⟨rfl, rfl⟩
  · obtain rfl := h.2 (by omega)
    clear h
    go_enter Tryd.func51, Tryd.ntmps51
    go_wp2_with fail
    go_ret
    exact ⟨rfl, rfl⟩

theorem pairs_c {F : Fence} {n : Nat} (hF : Wide F Tryd.prog) (hro : F.round = none) (a b : Option Addr) (na ca nb cb : Nat) (w : World) :
    CallsIn F n Tryd.prog 52 #[.slice a na ca, .slice b nb cb] w fun e w' =>
      e = .returned (.func (.func 70) #[] #[.pointer (some ⟨w.heap.size, 0, none⟩), .pointer (some ⟨w.heap.size + 1, 0, none⟩)]) ∧
      w' = (w.alloc (.cells #[.slice a na ca] 23)).alloc (.cells #[.slice b nb cb] 23) := by
  refine callsIn_of_wp Tryd.func52 rfl (hF.fn _) ?_ hro
  simp only [Tryd.ntmps52, List.size_toArray, List.length_cons, List.length_nil, Nat.reduceAdd, Nat.reduceSub, Array.replicate_succ, Array.replicate_zero, List.push_toArray, List.append_toArray, List.nil_append, List.cons_append]
  gi_wp2
  go_ret
  exact ⟨rfl, rfl⟩

set_option maxRecDepth 100000 in
set_option maxHeartbeats 2000000 in
theorem pairs_gives {F : Fence} {n : Nat} (hF : Wide F Tryd.prog) (hro : F.round = none) (Ba Bb : Nat) (A B : Option Addr) (na ca nb cb N : Nat) (hN : N = max na nb) (ha : na ≤ 4611686018427387904) (hb : nb ≤ 4611686018427387904) (x y : Nat → Int) :
    Gives F n Tryd.prog 70 #[.pointer (some ⟨Ba, 0, none⟩), .pointer (some ⟨Bb, 0, none⟩)] (fun k => #[.int .i64 (k : Int), .agg #[.int .u64 (x k), .int .u64 (y k)]]) N
      (fun k W => W.cell? ⟨Ba, 0, none⟩ = some (.slice A na ca) ∧ W.cell? ⟨Bb, 0, none⟩ = some (.slice B nb cb) ∧ (k < N → LAt W A na k (x k) ∧ LAt W B nb k (y k))) := fun l J Jx W hJ hRdy hY h0 => by
  refine callsIn_of_wp Tryd.func70 rfl (hF.fn _) ?_ hro
  simp only [Tryd.ntmps70, List.size_toArray, List.length_cons, List.length_nil, Nat.reduceAdd, Nat.reduceSub, Array.replicate_succ, Array.replicate_zero, List.push_toArray, List.append_toArray, List.nil_append, List.cons_append]
  obtain ⟨hca, hcb, _⟩ := hRdy 0 W h0
  rcases (show (na < nb ∧ N ≤ nb ∧ nb ≤ N) ∨ (¬ na < nb ∧ N ≤ na ∧ na ≤ N) by omega) with ⟨hlt, hN1, hN2⟩ | ⟨hlt, hN1, hN2⟩ <;> clear hN
  all_goals
    gi_wp2
    gi_loopw [10] (fun i wr => ∃ k : Nat, k ≤ N ∧ i = .int .i64 k ∧ J k wr) (fun i _ => N - (intOf i).toNat)
    case atStart => exact ⟨0, Nat.zero_le _, rfl, h0⟩
    case round =>
      obtain ⟨k, hk, rfl, hJs⟩ := hrel
      obtain ⟨hca', hcb', hxy⟩ := hRdy k wr hJs
      by_cases hlt : k < N
      · obtain ⟨hx, hy'⟩ := hxy hlt
        have hJd : J k wr.drew := hJ k _ _ hJs ⟨rfl, rfl, rfl, Nat.le_refl _, fun _ _ _ => rfl⟩
        obtain ⟨fn, tmps, assign, body, hy, hR⟩ := hY k wr.drew hJd hlt
        have hxd : LAt wr.drew A na k (x k) := hx
        have hyd : LAt wr.drew B nb k (y k) := hy'
        have cx := limb_at A na ca k (x k) wr.drew hxd (by omega)
        have cy := limb_at B nb cb k (y k) wr.drew hyd (by omega)
        clear hxd hyd hx hy' hxy hRdy hY hJd
        gi_wp2
        refine wpIn_region_still_tail hF 9 (by kernel_rfl) (by kernel_rfl) (by kernel_rfl) ?_
        simp only [List.take_succ_cons, List.take_zero, List.drop_succ_cons, List.drop_zero]
        iterate 4 still_step
        still_call cx
        iterate 2 still_step
        still_call cy
        still_step
        refine wpStill_nil ?_
        gi_wp2
        refine ⟨fun hd => (by rw [hF.depth] at hd; cases hd), hR.mono ?_⟩
        clear hy hR cx cy
        rintro e W3 (⟨rfl, hJ3⟩ | ⟨rfl, hJx3⟩)
        · gi_wp2
          go_roundw
          case rel => exact ⟨k + 1, by omega, by simp, hJ3⟩
          case measure => (simp [intOf]; try omega)
        · gi_wp2
          refine bodyPost_ret (results_none rfl _ _ _) rfl ?_
          exact ⟨⟨_, rfl⟩, .inr hJx3⟩
      · obtain rfl : k = N := by omega
        gi_wp2
        go_end0
        exact ⟨⟨_, rfl⟩, .inl hJs⟩
end Nt
end Go.Proofs.YtdklchejnpaenaaDoor
