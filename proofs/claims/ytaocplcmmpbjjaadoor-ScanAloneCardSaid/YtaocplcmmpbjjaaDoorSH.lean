/- A part that ends, in an iterator. -/
import Derived.Test.YtaocplcmmpbjjaaDoorSG
import Derived.RangeFuncNested
import Derived.RangeFuncBound
import Derived.RangeFuncCalls
import Derived.RangeFuncLeaves
import Derived.Shelf.Abstract
import Derived.Shelf.RegionOpen
import Derived.OwnWalkIn
import Derived.TacticsInMore
import Derived.LoopNIn
import Derived.LoopIn
import Derived.Sort.QuietIn
namespace Go.Proofs.YtaocplcmmpbjjaaDoor
open Go Go.RowKit Go.Maps Go.Shelf
namespace Sn
open Nt
set_option linter.unusedVariables false
set_option linter.unusedSimpArgs false
theorem yield_wide {m m' l : Nat} {P : Program} {args : Array Value} {W : World} {R : Ending → World → Prop} (h : YieldAt Fence.wide m P l args W R) : YieldAt Fence.wide m' P l args W R := by
  obtain ⟨fn, tmps, assign, body, hy, hR⟩ := h
  exact ⟨fn, tmps, assign, body, hy, hR.1, fun c cs _ => hR.2 c cs (room_wide _)⟩
/-- what end does -/
def EndP (R : Nat) (s : ByteArray) (f m : Value) (k : Int) (p b : Nat) (Z : Bool → World → Prop) (W : World) (e : Ending) (w' : World) : Prop :=
  ((k = 4 ∨ k = 5) ∧ e = .returned (.bool true) ∧ Below W.heap.size W w') ∨
  (k = 2 ∧ numR (s.extract p b) = none ∧ e = .returned (.bool false) ∧ ∃ W1, Below W.heap.size W W1 ∧ W1.grownBy w' (some R) ∧ Rdg w' R s f m k p p 3) ∨
  (∃ r, e = .returned (.bool r) ∧ Z r w')
theorem bel_drN (w : World) (q : Nat) : Below w.heap.size w (w.drewN q) := ⟨rfl, rfl, rfl, Nat.le_refl _, fun _ _ => rfl⟩
set_option maxRecDepth 100000 in
set_option maxHeartbeats 1000000 in
theorem end_in (n mm l R : Nat) (hn1 : 1 ≤ n) (s : ByteArray) (f m : Value) (k a y : Int) (p b : Nat) (hpb : p ≤ b) (hbs : b ≤ s.size) (hs : s.size ≤ 100000) (W : World) (h : Rdg W R s f m k p a y) (Z : Bool → World → Prop)
    (hY : k ≠ 4 ∧ k ≠ 5 ∧ (k = 2 → numR (s.extract p b) ≠ none) → ∀ W', Below W.heap.size W W' → YieldAt Fence.wide mm Tryd.prog l #[.agg #[.int .i64 k, .string (s.extract p b), .int .i64 p]] W' fun e w' => ∃ r, e = .returned (.bool r) ∧ Z r w') :
    CallsIn Fence.wide n Tryd.prog 37 #[.pointer (some ⟨R, 0, none⟩), .int .i64 (b : Int), .func (.yield l) #[] #[]] W (EndP R s f m k p b Z W) := by
  have H := Lib.hid h
  obtain ⟨c0, c1, c2, c3, c4, c5, c6⟩ := h.cells
  clear h
  have e1 : (p : Int) ≤ (b : Int) := by omega
  have e2 : (b : Int) ≤ (s.size : Int) := by omega
  have e3 : (s.size : Int) ≤ 100000 := by omega
  have e4 : (0 : Int) ≤ (p : Int) := by omega
  have HYY := Lib.hid hY
  clear hY hpb hbs hs
  have hmix : Tryd.prog.follows .mixedOrders = true := by kernel_rfl
  refine callsIn_of_wp Tryd.func37 rfl trivial ?_ rfl
  simp only [Tryd.ntmps37, List.size_toArray, List.length_cons, List.length_nil, Nat.reduceAdd, Nat.reduceSub, Array.replicate_succ, Array.replicate_zero, List.push_toArray, List.append_toArray, List.nil_append, List.cons_append]
  gi_wp2
  gi_quiet (fail)
  by_cases k4 : k = 4
  · subst k4
    gi_wp2
    go_ret
    exact .inl ⟨.inl rfl, rfl, bel_drN _ _⟩
  have e44 : (k == 4) = false := by simp; omega
  by_cases k5 : k = 5
  · subst k5
    gi_wp2
    go_ret
    exact .inl ⟨.inr rfl, rfl, bel_drN _ _⟩
  have e55 : (k == 5) = false := by simp; omega
  by_cases k2 : k = 2
  · subst k2
    have HNU := Lib.hid (fun W => Number_l (s.extract p b) W)
    cases hnr : numR (s.extract p b) with
    | none =>
      have HNR := Lib.hid hnr
      have HST := Lib.hid (fun W h => stop_l R s f m 2 p a y p 3 W h)
      rw [hnr] at HNU
      clear hnr HYY k4 k5 e44 e55
      unfold numT at HNU
      dsimp only [Option.getD, Option.isSome] at HNU
      gi_wp2_with (refine ⟨trivial, ?_⟩; gi_at_call 10; refine (callsIn_wide.2 (HNU.out _)).mono ?_; rintro e w1 ⟨rfl, hb⟩; have HB := Lib.hid (show Below W.heap.size W w1 from (bel_drN W nq).trans hb); have HR1 : Hid (Rdg w1 R s f m 2 p a y) := Lib.hid (Bk.below H.out HB.out (Bk.lt H.out)); obtain ⟨d0, d1, d2, d3, d4, d5, d6⟩ := HR1.out.cells; clear hb)
      refine ⟨trivial, ?_⟩
      gi_at_call 41
      refine (callsIn_wide.2 (HST.out _ HR1.out)).mono ?_
      rintro e w2 ⟨rfl, hr, hg⟩
      have HR2 := Lib.hid hr
      have HG2 := Lib.hid hg
      clear hr hg
      gi_wp2
      go_ret
      exact .inr (.inl ⟨rfl, HNR.out, rfl, w1, HB.out, HG2.out, HR2.out⟩)
    | some v =>
      have HY2 := Lib.hid (HYY.out ⟨k4, k5, fun _ => by rw [hnr]; simp⟩)
      rw [hnr] at HNU
      clear hnr HYY k4 k5 e44 e55
      unfold numT at HNU
      dsimp only [Option.getD, Option.isSome] at HNU
      gi_wp2_with (refine ⟨trivial, ?_⟩; gi_at_call 10; refine (callsIn_wide.2 (HNU.out _)).mono ?_; rintro e w1 ⟨rfl, hb⟩; have HB := Lib.hid (show Below W.heap.size W w1 from (bel_drN W nq).trans hb); have HR1 : Hid (Rdg w1 R s f m 2 p a y) := Lib.hid (Bk.below H.out HB.out (Bk.lt H.out)); obtain ⟨d0, d1, d2, d3, d4, d5, d6⟩ := HR1.out.cells; clear hb)
      obtain ⟨fn, tmps, assign, body, hy, hR0⟩ := yield_wide (m' := n - 1) (HY2.out w1.drew (show Below W.heap.size W w1.drew from (HB.out.trans ((bel_drN w1 1).mono HB.out.size))))
      have HRR := Lib.hid hR0
      clear hR0 HY2 HNU
      gi_region_with_o ((refine HRR.out.mono ?_; rintro e w' ⟨r, rfl, hz⟩; have HZ := Lib.hid hz; clear hz))
      all_goals
        gi_wp2
        go_ret
        exact .inr (.inr ⟨r, rfl, HZ.out⟩)
  · have e22 : (k == 2) = false := by simp; omega
    have HY2 := Lib.hid (HYY.out ⟨k4, k5, fun h => absurd h k2⟩)
    clear HYY k4 k5 k2
    gi_wp2
    obtain ⟨fn, tmps, assign, body, hy, hR0⟩ := yield_wide (m' := n - 1) (HY2.out (W.drewN (nq + 1)) (bel_drN W (nq + 1)))
    have HRR := Lib.hid hR0
    clear hR0 HY2
    gi_region_with_o ((refine HRR.out.mono ?_; rintro e w' ⟨r, rfl, hz⟩; have HZ := Lib.hid hz; clear hz))
    all_goals
      gi_wp2
      go_ret
      exact .inr (.inr ⟨r, rfl, HZ.out⟩)
end Sn
end Go.Proofs.YtaocplcmmpbjjaaDoor
