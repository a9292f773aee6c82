/- The document's own answers on instructions: places, Check. | Places compared. -/
import Derived.Test.YtblmagcekfbgdaaGreatDoorB2
import Derived.Laws.StructEq
namespace Go.Proofs.YtblmagcekfbgdaaGreatDoor
open Go Go.RowKit
namespace Is
open Nt
set_option linter.unusedVariables false
set_option maxRecDepth 100000 in
set_option maxHeartbeats 4000000 in
theorem place_c (i : Ins) (W : World) : Calls Tryz.prog 52 #[.agg #[.int .i64 i.b, .int .i64 i.x, .int .i64 i.sc, .int .i64 i.di]] W fun e w' => e = .returned (.bool (plB i)) ∧ Below W.heap.size W w' := by
  have HB := Lib.hid ((Below.refl W.heap.size W).alloc (Nat.le_refl _) (.cells #[.int .i64 i.b, .int .i64 i.x, .int .i64 i.sc, .int .i64 i.di] 24))
  have HP := Lib.hid (show plB i = (regB i.b && smallB i.di && (if i.x = -1 then decide (i.sc = 1) else regB i.x && decide (i.x ≠ 4) && scB i.sc)) from rfl)
  generalize plB i = r at *
  obtain ⟨op, d, s, t, b, x, sc, di, im⟩ := i
  dsimp only at *
  have HR := Lib.hid register_c
  have HS := Lib.hid small_c
  cases hb : regB b with
  | false =>
    obtain rfl : r = false := by rw [HP.out, hb]; rfl
    go_enter Tryz.func52, Tryz.ntmps52
    go_wp2_with (go_at_call 51; refine (HR.out _ _).mono ?_; rw [hb]; rintro e w' ⟨rfl, rfl⟩)
    go_ret
    exact ⟨rfl, HB.out⟩
  | true =>
    cases hd : smallB di with
    | false =>
      obtain rfl : r = false := by rw [HP.out, hb, hd]; rfl
      go_enter Tryz.func52, Tryz.ntmps52
      go_wp2_with (first | (go_at_call 51; refine (HR.out _ _).mono ?_; rw [hb]; rintro e w' ⟨rfl, rfl⟩) | (go_at_call 53; refine (HS.out _ _).mono ?_; rw [hd]; rintro e w' ⟨rfl, rfl⟩))
      go_ret
      exact ⟨rfl, HB.out⟩
    | true =>
      by_cases hx : x = -1
      · subst hx
        obtain rfl : r = decide (sc = 1) := by rw [HP.out, hb, hd]; rfl
        go_enter Tryz.func52, Tryz.ntmps52
        go_wp2_with (first | (go_at_call 51; refine (HR.out _ _).mono ?_; rw [hb]; rintro e w' ⟨rfl, rfl⟩) | (go_at_call 53; refine (HS.out _ _).mono ?_; rw [hd]; rintro e w' ⟨rfl, rfl⟩))
        go_ret
        exact ⟨rfl, HB.out⟩
      · have HX := Lib.hid hx
        have hx1 : (x == -1) = false := by rw [beq_eq_false_iff_ne]; exact hx
        cases hr : regB x with
        | false =>
          obtain rfl : r = false := by rw [HP.out, hb, hd, if_neg hx, hr]; rfl
          go_enter Tryz.func52, Tryz.ntmps52
          go_wp2_with fail
          go_at_call 51
          refine (HR.out _ _).mono ?_
          rw [hb]
          rintro e w' ⟨rfl, rfl⟩
          go_wp2_with fail
          go_at_call 53
          refine (HS.out _ _).mono ?_
          rw [hd]
          rintro e w' ⟨rfl, rfl⟩
          go_wp2_with fail
          go_at_call 51
          refine (HR.out _ _).mono ?_
          rw [hr]
          rintro e w' ⟨rfl, rfl⟩
          go_wp2_with fail
          go_ret
          exact ⟨rfl, HB.out⟩
        | true =>
          obtain rfl : r = (decide (x ≠ 4) && scB sc) := by rw [HP.out, hb, hd, if_neg hx, hr]; rfl
          clear HP
          by_cases h4 : x = 4
          · subst h4
            clear hx HX hx1
            generalize hq : (decide ((4 : Int) ≠ 4) && scB sc) = q
            obtain rfl : q = false := by rw [← hq]; rfl
            go_enter Tryz.func52, Tryz.ntmps52
            go_wp2_with fail
            go_at_call 51
            refine (HR.out _ _).mono ?_
            rw [hb]
            rintro e w' ⟨rfl, rfl⟩
            go_wp2_with fail
            go_at_call 53
            refine (HS.out _ _).mono ?_
            rw [hd]
            rintro e w' ⟨rfl, rfl⟩
            go_wp2_with fail
            go_at_call 51
            refine (HR.out _ _).mono ?_
            rw [hr]
            rintro e w' ⟨rfl, rfl⟩
            go_wp2_with fail
            go_ret
            exact ⟨rfl, HB.out⟩
          · have hx4 : (x == 4) = false := by rw [beq_eq_false_iff_ne]; exact h4
            have hx5 : (x != 4) = true := by rw [bne, hx4]; rfl
            have hq : (decide (x ≠ 4) && scB sc) = scB sc := by rw [decide_eq_true h4]; rfl
            rw [hq]
            clear hq h4 hx
            by_cases hs : sc = 1 ∨ sc = 2 ∨ sc = 4 ∨ sc = 8
            · rcases hs with rfl | rfl | rfl | rfl
              all_goals
                go_enter Tryz.func52, Tryz.ntmps52
                go_wp2_with fail
                go_at_call 51
                refine (HR.out _ _).mono ?_
                rw [hb]
                rintro e w' ⟨rfl, rfl⟩
                go_wp2_with fail
                go_at_call 53
                refine (HS.out _ _).mono ?_
                rw [hd]
                rintro e w' ⟨rfl, rfl⟩
                go_wp2_with fail
                go_at_call 51
                refine (HR.out _ _).mono ?_
                rw [hr]
                rintro e w' ⟨rfl, rfl⟩
                go_wp2_with fail
                go_ret
                exact ⟨rfl, HB.out⟩
            · have hq : scB sc = false := by unfold scB; simp; omega
              rw [hq]
              have s1 : (sc == 1) = false := by rw [beq_eq_false_iff_ne]; omega
              have s2 : (sc == 2) = false := by rw [beq_eq_false_iff_ne]; omega
              have s3 : (sc == 4) = false := by rw [beq_eq_false_iff_ne]; omega
              have s4 : (sc == 8) = false := by rw [beq_eq_false_iff_ne]; omega
              clear hs hq
              go_enter Tryz.func52, Tryz.ntmps52
              go_wp2_with fail
              go_at_call 51
              refine (HR.out _ _).mono ?_
              rw [hb]
              rintro e w' ⟨rfl, rfl⟩
              go_wp2_with fail
              go_at_call 53
              refine (HS.out _ _).mono ?_
              rw [hd]
              rintro e w' ⟨rfl, rfl⟩
              go_wp2_with fail
              go_at_call 51
              refine (HR.out _ _).mono ?_
              rw [hr]
              rintro e w' ⟨rfl, rfl⟩
              go_wp2_with fail
              go_ret
              exact ⟨rfl, HB.out⟩
end Is
end Go.Proofs.YtblmagcekfbgdaaGreatDoor
namespace Go.Proofs.YtblmagcekfbgdaaGreatDoor
open Go Go.RowKit
namespace Is
open Nt
set_option linter.unusedVariables false
set_option linter.unusedSimpArgs false
theorem memEq (b x sc di : Int) (W : World) : (binOp .eql 24 (.agg #[.int .i64 b, .int .i64 x, .int .i64 sc, .int .i64 di]) (.agg #[.int .i64 0, .int .i64 0, .int .i64 0, .int .i64 0])).run Tryz.prog W = .ok (.bool (decide (b = 0) && decide (x = 0) && decide (sc = 0) && decide (di = 0))) W := by
  have u3 := Tryz.underlying3
  have a3 := Tryz.isAgg3
  have z3 := Tryz.sizeOf3
  have u2 := Tryz.underlying2
  have a2 := Tryz.isAgg2
  have z2 := Tryz.sizeOf2
  have hS : Tryz.prog.underlying 24 = some (.struct (Tryz.prog.fieldsOf 24)) := by kernel_rfl
  have hp : Tryz.prog.stoodInHeld 24 = false := by kernel_rfl
  rw [run_eql_struct, show (10000 : Nat) = 9999 + 1 from rfl, run_equalIn_agg W 9999 24 _ _ hS hp]
  simp only [Program.fieldsOf, Tryz.underlying24]
  go_simp
  by_cases h1 : b = 0 <;> by_cases h2 : x = 0 <;> by_cases h3 : sc = 0 <;> by_cases h4 : di = 0 <;> simp [h1, h2, h3, h4]
end Is
end Go.Proofs.YtblmagcekfbgdaaGreatDoor
