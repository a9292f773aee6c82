/- Rows of words compared. -/
import Derived.Test.YtbdhibgljaelbaaDoorMA
namespace Go.Proofs.YtbdhibgljaelbaaDoor
open Go Go.RowKit Go.Sort Go.Shelf
namespace Lb
open Wd Nt Gr
set_option linter.unusedVariables false
set_option linter.unusedSimpArgs false
theorem eq_of_at {xs ys : List Int} (hl : xs.length = ys.length) (h : ∀ j, j < xs.length → Nt.at_ xs j = Nt.at_ ys j) : xs = ys := by
  apply List.ext_getElem?
  intro j
  rcases Nat.lt_or_ge j xs.length with hj | hj
  · rw [at_lt hj, at_lt (by omega), h j hj]
  · rw [List.getElem?_eq_none hj, List.getElem?_eq_none (by omega)]
set_option maxHeartbeats 2000000 in
theorem same_u (A B : Option Addr) (n c m d Ba Bb : Nat) (xs ys : List Int) (w : World) (ha : Rd w Ba A n xs) (hb : Rd w Bb B m ys) (hn : n ≤ 1000000) (hm : m ≤ 1000000) :
    Calls Tryd.prog 35 #[.slice A n c, .slice B m d] w fun e w' => e = .returned (.bool (decide (xs = ys))) ∧ ∃ q, w' = w.drewN q := by
  by_cases hnm : n = m
  · subst hnm
    go_enter Tryd.func35, Tryd.ntmps35
    go_wp2_with fail
    go_loopw [5] (fun i wr => ∃ k q : Nat, k ≤ n ∧ i = .int .i64 k ∧ (∀ j, j < k → Nt.at_ xs j = Nt.at_ ys j) ∧ wr = w.drewN q) (fun i _ => n - (intOf i).toNat)
    case atStart => exact ⟨0, 0, Nat.zero_le _, rfl, fun j hj => absurd hj (by omega), rfl⟩
    case round =>
      obtain ⟨k, q, hk, rfl, hz, rfl⟩ := hrel
      by_cases hlt : k < n
      · obtain ⟨ad, rfl, _, hca0⟩ := ha.rd (by omega)
        have hca := hca0 k hlt
        obtain ⟨bd, rfl, _, hcb0⟩ := hb.rd (by omega)
        have hcb := hcb0 k hlt
        clear hca0 hcb0
        have hki : (k : Int) < (n : Int) := by omega
        by_cases hx : Nt.at_ xs k = Nt.at_ ys k
        · have HZ : Hid (∀ j, j < k + 1 → Nt.at_ xs j = Nt.at_ ys j) := Lib.hid (fun j hj => by
            rcases Nat.lt_succ_iff_lt_or_eq.1 hj with h | rfl
            · exact hz j h
            · exact hx)
          rw [hx] at hca
          clear hx hz ha hb
          generalize Nt.at_ ys k = z at *
          go_wp2_with fail
          go_quiet (fail)
          go_wp2_with fail
          go_roundw
          case rel => exact ⟨k + 1, _, by omega, by go_num, HZ.out, rfl⟩
          case measure => (simp [intOf] <;> omega)
        · have hne : xs ≠ ys := fun e => hx (by rw [e])
          have HN := Lib.hid hne
          have hxx : (Nt.at_ xs k != Nt.at_ ys k) = true := by simpa using hx
          clear hne hz ha hb hx
          generalize Nt.at_ ys k = z at *
          generalize Nt.at_ xs k = z' at *
          go_wp2_with fail
          go_quiet (fail)
          go_wp2_with fail
          go_ret
          exact ⟨by rw [decide_eq_false HN.out]; rfl, _, World.drewN_drewN _ _ _⟩
      · obtain rfl : k = n := by omega
        have HE := Lib.hid (eq_of_at (by rw [ha.len, hb.len]) (fun j hj => hz j (by rw [ha.len] at hj; exact hj)))
        clear hz ha hb
        go_wp2_with fail
        go_ret
        exact ⟨by rw [decide_eq_true HE.out]; rfl, _, rfl⟩
  · have hne : xs ≠ ys := fun e => hnm (by rw [← ha.len, ← hb.len, e])
    have HN := Lib.hid hne
    clear hne ha hb
    have hmi : ¬ ((n : Int) = (m : Int)) := by omega
    have hmb : ((n : Int) == (m : Int)) = false := by rw [beq_eq_false_iff_ne]; exact hmi
    have hmn : ((n : Int) != (m : Int)) = true := by rw [bne, hmb]; rfl
    go_enter Tryd.func35, Tryd.ntmps35
    go_wp2_with fail
    go_ret
    exact ⟨by rw [decide_eq_false HN.out]; rfl, 0, rfl⟩
end Lb
end Go.Proofs.YtbdhibgljaelbaaDoor
