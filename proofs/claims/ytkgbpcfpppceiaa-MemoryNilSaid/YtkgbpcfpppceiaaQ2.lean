/- The library's iterator over a slice of regions, and what is collected from it: slices.Values, AppendSeq, Collect at regions. -/
import Derived.Test.YtkgbpcfpppceiaaQ1
import Derived.RangeFuncNested
import Derived.RangeFuncBound
import Derived.RangeFuncCalls
import Derived.RangeFuncLeaves
import Derived.Shelf.Abstract
import Derived.Shelf.RegionOpen
import Derived.WalkKit
import Derived.OwnWalkIn
import Derived.TacticsInMore
import Derived.LoopNIn
import Derived.LoopIn
namespace Go.Proofs.Ytkgbpcfpppceiaa
open Go Go.RowKit Go.Shelf
namespace Mm
open Wd Nt
set_option linter.unusedVariables false
attribute [local go_sem] Oper.semAt_some
theorem take_one {xs : List Cel} {k : Nat} {x : Cel} (h : xs[k]? = some x) : xs.take (k + 1) = xs.take k ++ [x] := by rw [List.take_add_one, h]; rfl
theorem take_length {xs : List Cel} {k : Nat} (h : k ≤ xs.length) : (xs.take k).length = k := by rw [List.length_take]; omega
set_option maxRecDepth 100000 in
set_option maxHeartbeats 2000000 in
/-- the closure that slices.Values hands back -/
theorem vals1_in (F : Fence) (n : Nat) (h7 : F.fn 52) (hro : F.round = none) (hn : 1 ≤ n) (l Bs n₀ b off len cap : Nat) (xs : List Cel) (hxl : xs.length = len) (hreach : len ≤ 1000000) (hb : b < n₀) (J Jx : List Cel → World → Prop)
    (hY : ∀ pre x W, J pre W → pre.length < len → YieldAt F (n - 1) Try.prog l #[.agg x.vs.toArray] W fun e W' =>
      (e = .returned (.bool true) ∧ J (pre ++ [x]) W' ∧ Below n₀ W W') ∨ (e = .returned (.bool false) ∧ Jx (pre ++ [x]) W'))
    (W : World) (hn0 : n₀ ≤ W.heap.size) (hJ : AbidesFrom W.heap.size J) (hBs : W.cell? ⟨Bs, 0, none⟩ = some (.slice (some ⟨b, off, none⟩) len cap))
    (hc : ∀ (j d : Nat) (x : Cel), xs[j]? = some x → d < 3 → W.cell? ⟨b, off + j * 3 + d, none⟩ = x.vs[d]?) (h0 : J [] W) :
    CallsIn F n Try.prog 52 #[.func (.yield l) #[] #[], .pointer (some ⟨Bs, 0, none⟩)] W fun e W' => (∃ v, e = .returned v) ∧
      ((∃ ys, ys = xs ∧ J ys W') ∨ (∃ pre, (∃ k, k ≤ len ∧ pre = xs.take k) ∧ Jx pre W')) := by
  refine callsIn_of_wp Try.func52 rfl h7 ?_ hro
  simp only [Try.ntmps52, List.size_toArray, List.length_cons, List.length_nil, Nat.reduceAdd, Nat.reduceSub, Array.replicate_succ, Array.replicate_zero, List.push_toArray, List.append_toArray, List.nil_append, List.cons_append]
  gi_wp2
  gi_loopw [7] (fun i wr => ∃ k : Nat, k ≤ len ∧ i = .int .i64 k ∧ J (xs.take k) wr ∧ Hid (Below n₀ W wr) ∧ Hid (W.heap.size ≤ wr.heap.size))
    (fun i _ => len - (intOf i).toNat)
  case atStart => exact ⟨0, Nat.zero_le _, rfl, by rw [List.take_zero]; exact h0, Lib.hid (Below.refl _ _), Lib.hid (Nat.le_refl _)⟩
  case round =>
    obtain ⟨k, hk, rfl, hJs, hnx, hsz⟩ := hrel
    by_cases hlt : k < len
    · obtain ⟨x, hx⟩ : ∃ x, xs[k]? = some x := ⟨_, List.getElem?_eq_getElem (by omega)⟩
      have c0 : wr.cell? ⟨b, off + k * 3, none⟩ = some (.int .u64 x.r.base) := (hnx.out.cell (p := ⟨b, off + k * 3, none⟩) hb).trans (hc k 0 x hx (by omega))
      have c1 : wr.cell? ⟨b, off + k * 3 + 1, none⟩ = some (.slice x.A x.n x.c) := (hnx.out.cell (p := ⟨b, off + k * 3 + 1, none⟩) hb).trans (hc k 1 x hx (by omega))
      have c2 : wr.cell? ⟨b, off + k * 3 + 2, none⟩ = some (.bool x.r.write) := (hnx.out.cell (p := ⟨b, off + k * 3 + 2, none⟩) hb).trans (hc k 2 x hx (by omega))
      have hJ2 : J (xs.take k) (wr.alloc (.cells #[.int .u64 x.r.base, .slice x.A x.n x.c, .bool x.r.write] 31)) := hJ _ wr _ none hJs (World.grownBy_alloc wr _ none) (fun r e => by cases e)
      obtain ⟨fn, tmps, assign, body, hy, hR⟩ := hY _ x _ hJ2 (by rw [take_length (by omega)]; exact hlt)
      dsimp only [Cel.vs] at hy
      have hb2 : Hid (Below n₀ W (wr.alloc (.cells #[.int .u64 x.r.base, .slice x.A x.n x.c, .bool x.r.write] 31))) := Lib.hid (hnx.out.alloc (Nat.le_trans hn0 hsz.out) _)
      have HX := Lib.hid hx
      have hlti : (k : Int) < (len : Int) := by omega
      clear hx
      gi_wp2
      refine hR.mono ?_
      rintro e W3 (⟨rfl, hJ3, hk3⟩ | ⟨rfl, hJx3⟩)
      · have hsz3 : Hid (W.heap.size ≤ W3.heap.size) := Lib.hid (by have h1 := hk3.size; have h2 := hsz.out; simp at h1; omega)
        have hb3 := Lib.hid (hb2.out.trans hk3)
        clear hk3
        gi_wp2
        go_roundw
        case rel => exact ⟨k + 1, by omega, by simp, by rw [take_one HX.out]; exact hJ3, hb3, hsz3⟩
        case measure => simp [intOf]; omega
      · gi_wp2
        refine bodyPost_ret (results_none rfl _ _ _) rfl ?_
        exact ⟨⟨_, rfl⟩, .inr ⟨_, ⟨k + 1, by omega, (take_one HX.out).symm⟩, hJx3⟩⟩
    · obtain rfl : k = len := by omega
      gi_wp2
      go_end0
      exact ⟨⟨_, rfl⟩, .inl ⟨_, by rw [List.take_of_length_le (by omega)], hJs⟩⟩
set_option maxRecDepth 100000 in
set_option maxHeartbeats 1000000 in
theorem vals1_nil_in (F : Fence) (n : Nat) (h7 : F.fn 52) (hro : F.round = none) (l Bs cap : Nat) (A : Option Addr) (J : List Cel → World → Prop) (W : World) (hBs : W.cell? ⟨Bs, 0, none⟩ = some (.slice A 0 cap)) (h0 : J [] W) :
    CallsIn F n Try.prog 52 #[.func (.yield l) #[] #[], .pointer (some ⟨Bs, 0, none⟩)] W fun e W' => (∃ v, e = .returned v) ∧ J [] W' := by
  refine callsIn_of_wp Try.func52 rfl h7 ?_ hro
  simp only [Try.ntmps52, List.size_toArray, List.length_cons, List.length_nil, Nat.reduceAdd, Nat.reduceSub, Array.replicate_succ, Array.replicate_zero, List.push_toArray, List.append_toArray, List.nil_append, List.cons_append]
  gi_wp2
  gi_loopw [7] (fun i wr => i = .int .i64 0 ∧ J [] wr) (fun _ _ => 0)
  case atStart => exact ⟨rfl, h0⟩
  case round =>
    obtain ⟨rfl, hJs⟩ := hrel
    gi_wp2
    go_end0
    exact ⟨⟨_, rfl⟩, hJs⟩
set_option maxHeartbeats 1000000 in
theorem vals_in (F : Fence) (n : Nat) (h5 : F.fn 47) (hro : F.round = none) (a : Option Addr) (len cap : Nat) (w : World) :
    CallsIn F n Try.prog 47 #[.slice a len cap] w fun e w' => e = .returned (.func (.func 52) #[] #[.pointer (some ⟨w.heap.size, 0, none⟩)]) ∧ w' = w.alloc (.cells #[.slice a len cap] 32) := by
  refine callsIn_of_wp Try.func47 rfl h5 ?_ hro
  simp only [Try.ntmps47, List.size_toArray, List.length_cons, List.length_nil, Nat.reduceAdd, Nat.reduceSub, Array.replicate_succ, Array.replicate_zero, List.push_toArray, List.append_toArray, List.nil_append, List.cons_append]
  gi_wp2
  go_ret
  exact ⟨rfl, rfl⟩
def yieldCel (x : Cel) : Array Value := #[.agg x.vs.toArray]
/-- slices.Values hands back what gives the regions, all of them, in order -/
theorem vals_stops (F : Fence) (n : Nat) (h7 : F.fn 52) (hro : F.round = none) (hn : 1 ≤ n) (Bs m c n₀ : Nat) (A : Option Addr) (rs : List Reg) (xs : List Cel) (hm : m ≤ 1000000) (w0 w : World) (hxs : Cels w0 A m rs xs) (hbw : Below w0.heap.size w0 w) (hn₀ : n₀ = w0.heap.size)
    (hBs : Bs < w.heap.size) (hc : w.cell? ⟨Bs, 0, none⟩ = some (.slice A m c)) :
    SeqStopsK F n Try.prog 52 #[.pointer (some ⟨Bs, 0, none⟩)] yieldCel (Below n₀) (fun ys => ys = xs) (fun pre => ∃ k, k ≤ m ∧ pre = xs.take k) xs.length w := fun l J Jx W hW hJ _ hY h0 => by
  subst hn₀
  have hc' := (hW.cell (p := ⟨Bs, 0, none⟩) hBs).trans hc
  have hsz := hbw.size
  have hsz2 := hW.size
  rcases Nat.eq_zero_or_pos m with rfl | hpos
  · have hx0 : xs = [] := List.eq_nil_of_length_eq_zero hxs.len
    exact (vals1_nil_in F n h7 hro l Bs c A J W hc' h0).mono fun e W' ⟨he, hj⟩ => ⟨he, .inl ⟨_, hx0.symm, hj⟩⟩
  · obtain ⟨b, off, rfl, hlt, hcell⟩ := hxs.at_ (fun e => by rw [e] at hxs; have := hxs.len; simp at this; omega)
    have hWW : Below w0.heap.size w0 W := hbw.trans (hW.mono hsz)
    exact vals1_in F n h7 hro hn l Bs w0.heap.size b off m c xs hxs.len hm hlt J Jx (fun pre x W1 hj hl => hY pre x W1 hj (by rw [hxs.len]; exact hl)) W (by omega) hJ hc' (fun j d x hj hd => (hWW.cell (p := ⟨b, off + j * 3 + d, none⟩) hlt).trans (hcell j d x hj hd)) h0
end Mm
end Go.Proofs.Ytkgbpcfpppceiaa
