/- The statements' own Pick: n modulo m, from 0 on; 0 of m below 1. -/
import Derived.Test.YtdklchejnpaenaaDoorRows
import Derived.WalkKit
import Derived.ProofKit
import Derived.OpenShut
namespace Go.Proofs.YtdklchejnpaenaaDoor
open Go.RowKit
namespace Kit
set_option linter.unusedVariables false
def pick (n m : Int) : Int := if m < 1 then 0 else n % m
theorem pick_lt {n m : Int} (h : 1 ≤ m) : 0 ≤ pick n m ∧ pick n m < m := by
  unfold pick; rw [if_neg (by omega)]; exact ⟨Int.emod_nonneg _ (by omega), Int.emod_lt_of_pos _ (by omega)⟩
theorem pick_zero {n m : Int} (h : m < 1) : pick n m = 0 := if_pos h
theorem pick_c (n m : Int) (w : World) (hn : (Lit.int .i64 n).wf = true) (hm : (Lit.int .i64 m).wf = true) :
    Calls Tryd.prog 41 #[.int .i64 n, .int .i64 m] w fun e w' => e = .returned (.int .i64 (pick n m)) ∧ w = w' := by
  have b := bounds_i64 hn
  have c := bounds_i64 hm
  by_cases h1 : m < 1
  · rw [pick_zero h1]
    go_enter Tryd.func41, Tryd.ntmps41
    go_wp2
    go_ret
    exact ⟨rfl, rfl⟩
  · have hp : pick n m = n % m := if_neg h1
    have e := Int.emod_emod_of_dvd n (Int.dvd_refl m)
    have t1 := Int.tmod_eq_emod (a := n) (b := m)
    have r0 := Int.emod_nonneg n (show m ≠ 0 by omega)
    have r1 := Int.emod_lt_of_pos n (show 0 < m by omega)
    have hmz : (m == 0) = false := by rw [beq_eq_false_iff_ne]; omega
    have nabs : ((m.natAbs : Nat) : Int) = m := by omega
    by_cases hd : 0 ≤ n ∨ m ∣ n
    · rw [if_pos hd] at t1
      simp only [Int.natCast_zero, Int.sub_zero] at t1
      have t2 : 0 ≤ n.tmod m := by omega
      have t3 : n.tmod m < m := by omega
      rw [hp, ← t1]
      clear t1 hp e hd r0 r1 nabs
      go_enter Tryd.func41, Tryd.ntmps41
      go_wp2
      all_goals (go_ret; exact ⟨by go_num, rfl⟩)
    · rw [if_neg hd, nabs] at t1
      have q : n % m = n.tmod m + m := by omega
      have r2 : n % m ≠ 0 := fun h => hd (.inr (Int.dvd_of_emod_eq_zero h))
      have t2 : n.tmod m < 0 := by omega
      have t3 : 0 ≤ n.tmod m + m := by omega
      rw [hp, q]
      clear t1 hp e hd r0 r1 nabs q r2
      go_enter Tryd.func41, Tryd.ntmps41
      go_wp2
      all_goals (go_ret; exact ⟨by go_num, rfl⟩)
end Kit
end Go.Proofs.YtdklchejnpaenaaDoor
