/- The landed package inst: what a register, an index, a place, a number must be. -/
import Derived.Test.YthidjiidcelniaaDoorJ1
namespace Go.Proofs.YthidjiidcelniaaDoor
open Go Go.RowKit Go.Sort
namespace Is
open Nt
set_option linter.unusedVariables false
set_option linter.unusedSimpArgs false
def frB (r : Int) (q : Bool) : Bool := decide (r = 0) || (q && regB r)
theorem fitsRegister_l (r : Int) (q : Bool) (w : World) : Calls Tryd.prog 58 #[.int .i64 r, .bool q] w fun e w' => e = .returned (.bool (frB r q)) ∧ w' = w := by
  have HR := Lib.hid isRegister_l
  unfold frB
  by_cases h0 : r = 0
  · subst h0
    go_enter Tryd.func58, Tryd.ntmps58
    go_wp2_with fail
    go_ret
    exact ⟨rfl, rfl⟩
  · rw [decide_eq_false h0]
    have h1 : (r == 0) = false := by rw [beq_eq_false_iff_ne]; exact h0
    clear h0
    cases q with
    | false =>
      go_enter Tryd.func58, Tryd.ntmps58
      go_wp2_with fail
      go_ret
      exact ⟨rfl, rfl⟩
    | true =>
      go_enter Tryd.func58, Tryd.ntmps58
      go_wp2_with (go_at_call 65; refine (HR.out _ _).mono ?_; rintro e w' ⟨rfl, rfl⟩)
      go_ret
      exact ⟨by first | rfl | simp, rfl⟩
def fxB (r sc : Int) : Bool := if sc = 1 then decide (r = -1) || ixB r else if sc = 2 ∨ sc = 4 ∨ sc = 8 then ixB r else false
theorem fitsIndex_l (r sc : Int) (w : World) : Calls Tryd.prog 66 #[.int .i64 r, .int .i64 sc] w fun e w' => e = .returned (.bool (fxB r sc)) ∧ w' = w := by
  have HR := Lib.hid isIndex_l
  by_cases h1 : sc = 1
  · subst h1
    by_cases h2 : r = -1
    · subst h2
      go_enter Tryd.func66, Tryd.ntmps66
      go_wp2_with fail
      go_ret
      exact ⟨rfl, rfl⟩
    · have e : fxB r 1 = ixB r := by unfold fxB; rw [if_pos rfl, decide_eq_false h2]; rfl
      have h3 : (r == -1) = false := by rw [beq_eq_false_iff_ne]; exact h2
      rw [e]
      clear e h2
      go_enter Tryd.func66, Tryd.ntmps66
      go_wp2_with (go_at_call 69; refine (HR.out _ _).mono ?_; rintro e w' ⟨rfl, rfl⟩)
      go_ret
      exact ⟨by first | rfl | simp, rfl⟩
  · by_cases h2 : sc = 2 ∨ sc = 4 ∨ sc = 8
    · have e : fxB r sc = ixB r := by unfold fxB; rw [if_neg h1, if_pos h2]
      rw [e]
      clear e h1
      rcases h2 with rfl | rfl | rfl
      all_goals
        go_enter Tryd.func66, Tryd.ntmps66
        go_wp2_with (go_at_call 69; refine (HR.out _ _).mono ?_; rintro e w' ⟨rfl, rfl⟩)
        go_ret
        exact ⟨by first | rfl | simp, rfl⟩
    · have e : fxB r sc = false := by unfold fxB; rw [if_neg h1, if_neg h2]
      rw [e]
      have n1 : (sc == 1) = false := by rw [beq_eq_false_iff_ne]; omega
      have n2 : (sc == 2) = false := by rw [beq_eq_false_iff_ne]; omega
      have n3 : (sc == 4) = false := by rw [beq_eq_false_iff_ne]; omega
      have n4 : (sc == 8) = false := by rw [beq_eq_false_iff_ne]; omega
      clear e h1 h2
      go_enter Tryd.func66, Tryd.ntmps66
      go_wp2_with fail
      go_ret
      exact ⟨rfl, rfl⟩
theorem plB_fx (i : Ins) : plB i = (regB i.b && (fxB i.x i.sc && smallB i.di)) := by
  unfold plB fxB
  have e : regB (-1) = false := rfl
  have e4 : ixB (-1) = false := rfl
  by_cases hx : i.x = -1
  · rw [if_pos hx, hx, e4]
    by_cases h1 : i.sc = 1
    · rw [if_pos h1, h1]; cases regB i.b <;> cases smallB i.di <;> rfl
    · rw [if_neg h1, decide_eq_false h1]
      cases regB i.b <;> cases smallB i.di <;> split <;> rfl
  · rw [if_neg hx]
    have e2 : (regB i.x && decide (i.x ≠ 4)) = ixB i.x := rfl
    rw [e2]
    by_cases h1 : i.sc = 1
    · rw [if_pos h1, h1, decide_eq_false hx, show scB 1 = true from rfl]; cases regB i.b <;> cases smallB i.di <;> cases ixB i.x <;> rfl
    · rw [if_neg h1]
      by_cases h2 : i.sc = 2 ∨ i.sc = 4 ∨ i.sc = 8
      · rw [if_pos h2, show scB i.sc = true by unfold scB; simp; omega]; cases regB i.b <;> cases smallB i.di <;> cases ixB i.x <;> rfl
      · rw [if_neg h2, show scB i.sc = false by unfold scB; simp; omega]; cases regB i.b <;> cases smallB i.di <;> cases ixB i.x <;> rfl
def fpB (i : Ins) (q : Bool) : Bool := if q then plB i else plZ i
set_option maxRecDepth 100000 in
set_option maxHeartbeats 2000000 in
theorem fitsPlace_l (i : Ins) (q : Bool) (w : World) (hd : I64 i.di) : Calls Tryd.prog 59 #[.agg #[.int .i64 i.b, .int .i64 i.x, .int .i64 i.sc, .int .i64 i.di], .bool q] w fun e w' => e = .returned (.bool (fpB i q)) ∧ Grw w w' := by
  have HW := Lib.hid (Grw.alloc w (.cells #[.int .i64 i.b, .int .i64 i.x, .int .i64 i.sc, .int .i64 i.di] 24))
  have HR := Lib.hid isRegister_l
  have HX := Lib.hid fitsIndex_l
  have HD := Lib.hid (fun W => is32_l i.di W hd)
  have HP := Lib.hid (plB_fx i)
  have hme : ∀ W, _ := fun W => memEq i.b i.x i.sc i.di W
  have HZ := Lib.hid (show plZ i = (decide (i.b = 0) && decide (i.x = 0) && decide (i.sc = 0) && decide (i.di = 0)) from rfl)
  cases q with
  | false =>
    rw [show fpB i false = plZ i from rfl]
    rw [← HZ.out] at hme
    generalize plZ i = z at *
    obtain ⟨op, d, s, t, b, x, sc, di, im⟩ := i
    dsimp only at *
    clear hd HR HX HD HP HZ
    go_enter Tryd.func59, Tryd.ntmps59
    go_wp2_with fail
    go_ret
    exact ⟨rfl, HW.out⟩
  | true =>
    rw [show fpB i true = plB i from rfl, HP.out]
    clear HP HZ hme hd
    obtain ⟨op, d, s, t, b, x, sc, di, im⟩ := i
    dsimp only at *
    cases q1 : regB b with
    | false =>
      go_enter Tryd.func59, Tryd.ntmps59
      go_wp2_with (go_at_call 65; refine (HR.out _ _).mono ?_; rw [q1]; rintro e w' ⟨rfl, rfl⟩)
      go_ret
      exact ⟨rfl, HW.out⟩
    | true =>
      cases q2 : fxB x sc with
      | false =>
        go_enter Tryd.func59, Tryd.ntmps59
        go_wp2_with (first | (go_at_call 65; refine (HR.out _ _).mono ?_; rw [q1]; rintro e w' ⟨rfl, rfl⟩) | (go_at_call 66; refine (HX.out _ _ _).mono ?_; rw [q2]; rintro e w' ⟨rfl, rfl⟩))
        go_ret
        exact ⟨rfl, HW.out⟩
      | true =>
        go_enter Tryd.func59, Tryd.ntmps59
        go_wp2_with (first | (go_at_call 65; refine (HR.out _ _).mono ?_; rw [q1]; rintro e w' ⟨rfl, rfl⟩) | (go_at_call 66; refine (HX.out _ _ _).mono ?_; rw [q2]; rintro e w' ⟨rfl, rfl⟩) | (go_at_call 67; refine (HD.out _).mono ?_; rintro e w' ⟨rfl, rfl⟩))
        go_ret
        exact ⟨by first | rfl | simp, HW.out⟩
def fnB (n k : Int) : Bool := if k = 0 then zB n else if k = 2 then smallB n else if k = 3 then decide (1 ≤ n) && decide (n ≤ 63) else true
theorem fitsNumber_l (n : Int) (k : Fin 4) (w : World) (hn : I64 n) : Calls Tryd.prog 60 #[.int .i64 n, .int .i64 (k.val : Int)] w fun e w' => e = .returned (.bool (fnB n k.val)) ∧ w' = w := by
  have HD := Lib.hid (fun W => is32_l n W hn)
  obtain ⟨k, hk⟩ := k
  dsimp only
  rcases (show k = 0 ∨ k = 1 ∨ k = 2 ∨ k = 3 by omega) with rfl | rfl | rfl | rfl
  · have e : fnB n (0 : Nat) = (n == 0) := by show decide (n = 0) = (n == 0); rw [Bool.eq_iff_iff]; simp
    rw [e]
    go_enter Tryd.func60, Tryd.ntmps60
    go_wp2_with fail
    go_ret
    exact ⟨by first | rfl | simp, rfl⟩
  · go_enter Tryd.func60, Tryd.ntmps60
    go_wp2_with fail
    go_ret
    exact ⟨rfl, rfl⟩
  · go_enter Tryd.func60, Tryd.ntmps60
    go_wp2_with (go_at_call 67; refine (HD.out _).mono ?_; rintro e w' ⟨rfl, rfl⟩)
    go_ret
    exact ⟨rfl, rfl⟩
  · have e : fnB n (3 : Nat) = (decide (1 ≤ n) && decide (n ≤ 63)) := rfl
    rw [e]
    by_cases h1 : 1 ≤ n
    · go_enter Tryd.func60, Tryd.ntmps60
      go_wp2_with fail
      go_ret
      exact ⟨by rw [decide_eq_true h1]; first | rfl | simp, rfl⟩
    · have h2 : n < 1 := by omega
      go_enter Tryd.func60, Tryd.ntmps60
      go_wp2_with fail
      go_ret
      exact ⟨by rw [decide_eq_false (show ¬ 1 ≤ n by omega)]; rfl, rfl⟩
end Is
end Go.Proofs.YthidjiidcelniaaDoor
