/- The landed package inst: registers, indexes, places, numbers. | The landed package inst: what a register, an index, a place, a number must be. -/
import Derived.Test.YtblmagcekfbgdaaGreatDoorB4
import Derived.BigQuiet
import Derived.Deep.QuietTactic
import Derived.Shelf.SlSortCmp.QuietGrown
import Derived.Shelf.RegionOpenPlain
import Derived.Laws.BitsAllLaws
namespace Go.Proofs.YtblmagcekfbgdaaGreatDoor
open Go Go.RowKit Go.Sort
namespace Is
open Nt
set_option linter.unusedVariables false
set_option linter.unusedSimpArgs false
/-- a world with more blocks, and some draws -/
def Grw (w w' : World) : Prop := ∃ q os', w' = grow (w.drewN q) os'
theorem Grw.refl (w : World) : Grw w w := ⟨0, #[], by rw [grow_empty]; rfl⟩
theorem Grw.alloc (w : World) (o : Obj) : Grw w (w.alloc o) := ⟨0, _, by rw [alloc_eq_grow]; rfl⟩
theorem Grw.trans {a b c : World} (h : Grw a b) (k : Grw b c) : Grw a c := by
  obtain ⟨q, os, rfl⟩ := h
  obtain ⟨q', os', rfl⟩ := k
  exact ⟨q + q', os ++ os', by show grow (grow ((a.drewN q).drewN q') os) os' = _; rw [grow_grow, World.drewN_drewN]⟩
theorem Grw.of (w : World) (q : Nat) (os : Array Obj) : Grw w (grow (w.drewN q) os) := ⟨q, os, rfl⟩
theorem below_grow (w : World) (q : Nat) (os : Array Obj) : Below w.heap.size w (grow (w.drewN q) os) :=
  ⟨rfl, rfl, rfl, by simp [grow], fun i hi => by
    show ((w.drewN q).heap ++ os)[i]? = _
    rw [Array.getElem?_append_left (by show i < w.heap.size; omega)]
    rfl⟩
theorem Grw.below {w w' : World} (h : Grw w w') : Below w.heap.size w w' := by obtain ⟨q, os, rfl⟩ := h; exact below_grow _ _ _
theorem is_l (op : Int) (w : World) : Calls Tryz.prog 75 #[.int .i64 op] w fun e w' => e = .returned (.bool (decide (1 ≤ op) && decide (op ≤ 33))) ∧ w' = w := by
  by_cases h1 : 1 ≤ op
  · go_enter Tryz.func75, Tryz.ntmps75
    go_wp2_with fail
    go_ret
    exact ⟨by rw [decide_eq_true h1]; rfl, rfl⟩
  · have h2 : op < 1 := by omega
    go_enter Tryz.func75, Tryz.ntmps75
    go_wp2_with fail
    go_ret
    exact ⟨by rw [decide_eq_false (by omega)]; rfl, rfl⟩
theorem isRegister_l (r : Int) (w : World) : Calls Tryz.prog 101 #[.int .i64 r] w fun e w' => e = .returned (.bool (regB r)) ∧ w' = w := by
  unfold regB
  have e : decide (r ≤ 15) = decide (r < 16) := by rw [decide_eq_decide]; omega
  rw [e]
  by_cases h1 : 0 ≤ r
  · go_enter Tryz.func101, Tryz.ntmps101
    go_wp2_with fail
    go_ret
    exact ⟨by rw [decide_eq_true h1]; rfl, rfl⟩
  · have h2 : r < 0 := by omega
    go_enter Tryz.func101, Tryz.ntmps101
    go_wp2_with fail
    go_ret
    exact ⟨by rw [decide_eq_false (by omega)]; rfl, rfl⟩
def ixB (r : Int) : Bool := regB r && decide (r ≠ 4)
theorem isIndex_l (r : Int) (w : World) : Calls Tryz.prog 105 #[.int .i64 r] w fun e w' => e = .returned (.bool (ixB r)) ∧ w' = w := by
  have HR := Lib.hid isRegister_l
  unfold ixB
  cases hq : regB r with
  | false =>
    go_enter Tryz.func105, Tryz.ntmps105
    go_wp2_with (go_at_call 101; refine (HR.out _ _).mono ?_; rw [hq]; rintro e w' ⟨rfl, rfl⟩)
    go_ret
    exact ⟨rfl, rfl⟩
  | true =>
    by_cases h4 : r = 4
    · subst h4
      go_enter Tryz.func105, Tryz.ntmps105
      go_wp2_with (go_at_call 101; refine (HR.out _ _).mono ?_; rw [hq]; rintro e w' ⟨rfl, rfl⟩)
      go_ret
      exact ⟨rfl, rfl⟩
    · have h5 : (r == 4) = false := by rw [beq_eq_false_iff_ne]; exact h4
      have h6 : (r != 4) = true := by rw [bne, h5]; rfl
      rw [decide_eq_true h4]
      clear h4
      go_enter Tryz.func105, Tryz.ntmps105
      go_wp2_with (go_at_call 101; refine (HR.out _ _).mono ?_; rw [hq]; rintro e w' ⟨rfl, rfl⟩)
      go_ret
      exact ⟨rfl, rfl⟩
theorem wrap32_eq (n : Int) (h : I64 n) : (n == IntKind.i64.wrap (IntKind.i32.wrap n)) = smallB n := by
  unfold smallB
  unfold I64 at h
  have e : IntKind.i32.wrap n = if n % 4294967296 < 2147483648 then n % 4294967296 else n % 4294967296 - 4294967296 := by
    simp [IntKind.wrap, IntKind.bits, IntKind.signed, Int.bmod_def]
    split <;> split <;> omega
  have e2 : IntKind.i64.wrap (IntKind.i32.wrap n) = IntKind.i32.wrap n := IntWalk.i64_in _ (by rw [e]; split <;> omega)
  rw [e2, e]
  rw [Bool.eq_iff_iff]
  simp only [beq_iff_eq, Bool.and_eq_true, decide_eq_true_eq]
  split <;> omega
theorem is32_l (n : Int) (w : World) (h : I64 n) : Calls Tryz.prog 103 #[.int .i64 n] w fun e w' => e = .returned (.bool (smallB n)) ∧ w' = w := by
  have e := Lib.hid (wrap32_eq n h)
  clear h
  go_enter Tryz.func103, Tryz.ntmps103
  go_wp2_with fail
  go_ret
  exact ⟨by rw [← e.out, IntWalk.i64_left, IntWalk.i32_left]; rfl, rfl⟩
end Is
end Go.Proofs.YtblmagcekfbgdaaGreatDoor
namespace Go.Proofs.YtblmagcekfbgdaaGreatDoor
open Go Go.RowKit Go.Sort
namespace Is
open Nt
set_option linter.unusedVariables false
set_option linter.unusedSimpArgs false
def frB (r : Int) (q : Bool) : Bool := decide (r = 0) || (q && regB r)
theorem fitsRegister_l (r : Int) (q : Bool) (w : World) : Calls Tryz.prog 92 #[.int .i64 r, .bool q] w fun e w' => e = .returned (.bool (frB r q)) ∧ w' = w := by
  have HR := Lib.hid isRegister_l
  unfold frB
  by_cases h0 : r = 0
  · subst h0
    go_enter Tryz.func92, Tryz.ntmps92
    go_wp2_with fail
    go_ret
    exact ⟨rfl, rfl⟩
  · rw [decide_eq_false h0]
    have h1 : (r == 0) = false := by rw [beq_eq_false_iff_ne]; exact h0
    clear h0
    cases q with
    | false =>
      go_enter Tryz.func92, Tryz.ntmps92
      go_wp2_with fail
      go_ret
      exact ⟨rfl, rfl⟩
    | true =>
      go_enter Tryz.func92, Tryz.ntmps92
      go_wp2_with (go_at_call 101; refine (HR.out _ _).mono ?_; rintro e w' ⟨rfl, rfl⟩)
      go_ret
      exact ⟨by first | rfl | simp, rfl⟩
def fxB (r sc : Int) : Bool := if sc = 1 then decide (r = -1) || ixB r else if sc = 2 ∨ sc = 4 ∨ sc = 8 then ixB r else false
theorem fitsIndex_l (r sc : Int) (w : World) : Calls Tryz.prog 102 #[.int .i64 r, .int .i64 sc] w fun e w' => e = .returned (.bool (fxB r sc)) ∧ w' = w := by
  have HR := Lib.hid isIndex_l
  by_cases h1 : sc = 1
  · subst h1
    by_cases h2 : r = -1
    · subst h2
      go_enter Tryz.func102, Tryz.ntmps102
      go_wp2_with fail
      go_ret
      exact ⟨rfl, rfl⟩
    · have e : fxB r 1 = ixB r := by unfold fxB; rw [if_pos rfl, decide_eq_false h2]; rfl
      have h3 : (r == -1) = false := by rw [beq_eq_false_iff_ne]; exact h2
      rw [e]
      clear e h2
      go_enter Tryz.func102, Tryz.ntmps102
      go_wp2_with (go_at_call 105; refine (HR.out _ _).mono ?_; rintro e w' ⟨rfl, rfl⟩)
      go_ret
      exact ⟨by first | rfl | simp, rfl⟩
  · by_cases h2 : sc = 2 ∨ sc = 4 ∨ sc = 8
    · have e : fxB r sc = ixB r := by unfold fxB; rw [if_neg h1, if_pos h2]
      rw [e]
      clear e h1
      rcases h2 with rfl | rfl | rfl
      all_goals
        go_enter Tryz.func102, Tryz.ntmps102
        go_wp2_with (go_at_call 105; refine (HR.out _ _).mono ?_; rintro e w' ⟨rfl, rfl⟩)
        go_ret
        exact ⟨by first | rfl | simp, rfl⟩
    · have e : fxB r sc = false := by unfold fxB; rw [if_neg h1, if_neg h2]
      rw [e]
      have n1 : (sc == 1) = false := by rw [beq_eq_false_iff_ne]; omega
      have n2 : (sc == 2) = false := by rw [beq_eq_false_iff_ne]; omega
      have n3 : (sc == 4) = false := by rw [beq_eq_false_iff_ne]; omega
      have n4 : (sc == 8) = false := by rw [beq_eq_false_iff_ne]; omega
      clear e h1 h2
      go_enter Tryz.func102, Tryz.ntmps102
      go_wp2_with fail
      go_ret
      exact ⟨rfl, rfl⟩
theorem plB_fx (i : Ins) : plB i = (regB i.b && (fxB i.x i.sc && smallB i.di)) := by
  unfold plB fxB
  have e : regB (-1) = false := rfl
  have e4 : ixB (-1) = false := rfl
  by_cases hx : i.x = -1
  · rw [if_pos hx, hx, e4]
    by_cases h1 : i.sc = 1
    · rw [if_pos h1, h1]; cases regB i.b <;> cases smallB i.di <;> rfl
    · rw [if_neg h1, decide_eq_false h1]
      cases regB i.b <;> cases smallB i.di <;> split <;> rfl
  · rw [if_neg hx]
    have e2 : (regB i.x && decide (i.x ≠ 4)) = ixB i.x := rfl
    rw [e2]
    by_cases h1 : i.sc = 1
    · rw [if_pos h1, h1, decide_eq_false hx, show scB 1 = true from rfl]; cases regB i.b <;> cases smallB i.di <;> cases ixB i.x <;> rfl
    · rw [if_neg h1]
      by_cases h2 : i.sc = 2 ∨ i.sc = 4 ∨ i.sc = 8
      · rw [if_pos h2, show scB i.sc = true by unfold scB; simp; omega]; cases regB i.b <;> cases smallB i.di <;> cases ixB i.x <;> rfl
      · rw [if_neg h2, show scB i.sc = false by unfold scB; simp; omega]; cases regB i.b <;> cases smallB i.di <;> cases ixB i.x <;> rfl
def fpB (i : Ins) (q : Bool) : Bool := if q then plB i else plZ i
set_option maxRecDepth 100000 in
set_option maxHeartbeats 2000000 in
theorem fitsPlace_l (i : Ins) (q : Bool) (w : World) (hd : I64 i.di) : Calls Tryz.prog 93 #[.agg #[.int .i64 i.b, .int .i64 i.x, .int .i64 i.sc, .int .i64 i.di], .bool q] w fun e w' => e = .returned (.bool (fpB i q)) ∧ Grw w w' := by
  have HW := Lib.hid (Grw.alloc w (.cells #[.int .i64 i.b, .int .i64 i.x, .int .i64 i.sc, .int .i64 i.di] 24))
  have HR := Lib.hid isRegister_l
  have HX := Lib.hid fitsIndex_l
  have HD := Lib.hid (fun W => is32_l i.di W hd)
  have HP := Lib.hid (plB_fx i)
  have hme : ∀ W, _ := fun W => memEq i.b i.x i.sc i.di W
  have HZ := Lib.hid (show plZ i = (decide (i.b = 0) && decide (i.x = 0) && decide (i.sc = 0) && decide (i.di = 0)) from rfl)
  cases q with
  | false =>
    rw [show fpB i false = plZ i from rfl]
    rw [← HZ.out] at hme
    generalize plZ i = z at *
    obtain ⟨op, d, s, t, b, x, sc, di, im⟩ := i
    dsimp only at *
    clear hd HR HX HD HP HZ
    go_enter Tryz.func93, Tryz.ntmps93
    go_wp2_with fail
    go_ret
    exact ⟨rfl, HW.out⟩
  | true =>
    rw [show fpB i true = plB i from rfl, HP.out]
    clear HP HZ hme hd
    obtain ⟨op, d, s, t, b, x, sc, di, im⟩ := i
    dsimp only at *
    cases q1 : regB b with
    | false =>
      go_enter Tryz.func93, Tryz.ntmps93
      go_wp2_with (go_at_call 101; refine (HR.out _ _).mono ?_; rw [q1]; rintro e w' ⟨rfl, rfl⟩)
      go_ret
      exact ⟨rfl, HW.out⟩
    | true =>
      cases q2 : fxB x sc with
      | false =>
        go_enter Tryz.func93, Tryz.ntmps93
        go_wp2_with (first | (go_at_call 101; refine (HR.out _ _).mono ?_; rw [q1]; rintro e w' ⟨rfl, rfl⟩) | (go_at_call 102; refine (HX.out _ _ _).mono ?_; rw [q2]; rintro e w' ⟨rfl, rfl⟩))
        go_ret
        exact ⟨rfl, HW.out⟩
      | true =>
        go_enter Tryz.func93, Tryz.ntmps93
        go_wp2_with (first | (go_at_call 101; refine (HR.out _ _).mono ?_; rw [q1]; rintro e w' ⟨rfl, rfl⟩) | (go_at_call 102; refine (HX.out _ _ _).mono ?_; rw [q2]; rintro e w' ⟨rfl, rfl⟩) | (go_at_call 103; refine (HD.out _).mono ?_; rintro e w' ⟨rfl, rfl⟩))
        go_ret
        exact ⟨by first | rfl | simp, HW.out⟩
def fnB (n k : Int) : Bool := if k = 0 then zB n else if k = 2 then smallB n else if k = 3 then decide (1 ≤ n) && decide (n ≤ 63) else true
theorem fitsNumber_l (n : Int) (k : Fin 4) (w : World) (hn : I64 n) : Calls Tryz.prog 94 #[.int .i64 n, .int .i64 (k.val : Int)] w fun e w' => e = .returned (.bool (fnB n k.val)) ∧ w' = w := by
  have HD := Lib.hid (fun W => is32_l n W hn)
  obtain ⟨k, hk⟩ := k
  dsimp only
  rcases (show k = 0 ∨ k = 1 ∨ k = 2 ∨ k = 3 by omega) with rfl | rfl | rfl | rfl
  · have e : fnB n (0 : Nat) = (n == 0) := by show decide (n = 0) = (n == 0); rw [Bool.eq_iff_iff]; simp
    rw [e]
    go_enter Tryz.func94, Tryz.ntmps94
    go_wp2_with fail
    go_ret
    exact ⟨by first | rfl | simp, rfl⟩
  · go_enter Tryz.func94, Tryz.ntmps94
    go_wp2_with fail
    go_ret
    exact ⟨rfl, rfl⟩
  · go_enter Tryz.func94, Tryz.ntmps94
    go_wp2_with (go_at_call 103; refine (HD.out _).mono ?_; rintro e w' ⟨rfl, rfl⟩)
    go_ret
    exact ⟨rfl, rfl⟩
  · have e : fnB n (3 : Nat) = (decide (1 ≤ n) && decide (n ≤ 63)) := rfl
    rw [e]
    by_cases h1 : 1 ≤ n
    · go_enter Tryz.func94, Tryz.ntmps94
      go_wp2_with fail
      go_ret
      exact ⟨by rw [decide_eq_true h1]; first | rfl | simp, rfl⟩
    · have h2 : n < 1 := by omega
      go_enter Tryz.func94, Tryz.ntmps94
      go_wp2_with fail
      go_ret
      exact ⟨by rw [decide_eq_false (show ¬ 1 ≤ n by omega)]; rfl, rfl⟩
end Is
end Go.Proofs.YtblmagcekfbgdaaGreatDoor
