/- The kit's comparisons of naturals. -/
import Derived.Test.YtdklchejnpaenaaDoorNatTr
import Derived.Deep.QuietTactic
import Derived.BigQuiet
namespace Go.Proofs.YtdklchejnpaenaaDoor
open Go Go.RowKit
namespace Nt
open Wd Sti
set_option linter.unusedVariables false

theorem eq_of_at {xs ys : List Int} (hl : xs.length = ys.length) (h : ∀ j, j < xs.length → Nt.at_ xs j = Nt.at_ ys j) : xs = ys := by
  apply List.ext_getElem hl
  intro i h1 h2
  have := h i h1
  unfold Nt.at_ at this
  rw [List.getElem?_eq_getElem h1, List.getElem?_eq_getElem h2] at this
  exact this

set_option maxHeartbeats 1000000 in
theorem same_c (A B : Option Addr) (n c m d Ba Bb : Nat) (xs ys : List Int) (w : World) (ha : Rd w Ba A n xs) (hb : Rd w Bb B m ys) (hn : n ≤ 4611686018427387904) (hm : m ≤ 4611686018427387904) :
    Calls Tryd.prog 20 #[.slice A n c, .slice B m d] w fun e w' => e = .returned (.bool (decide (xs = ys))) ∧ ∃ q, w' = w.drewN q := by
  by_cases hnm : n = m
  · subst hnm
    go_enter Tryd.func20, Tryd.ntmps20
    go_wp2_with fail
    go_loopw [5] (fun i wr => ∃ k q : Nat, k ≤ n ∧ i = .int .i64 k ∧ (∀ j, j < k → Nt.at_ xs j = Nt.at_ ys j) ∧ wr = w.drewN q) (fun i _ => n - (intOf i).toNat)
    case atStart => exact ⟨0, 0, Nat.zero_le _, rfl, fun j hj => absurd hj (by omega), rfl⟩
    case round =>
      obtain ⟨k, q, hk, rfl, hz, rfl⟩ := hrel
      by_cases hlt : k < n
      · obtain ⟨ad, rfl, _, hca⟩ := ha.at_ hlt
        obtain ⟨bd, rfl, _, hcb⟩ := hb.at_ hlt
        have hki : (k : Int) < (n : Int) := by omega
        by_cases hx : Nt.at_ xs k = Nt.at_ ys k
        · have HZ : Hid (∀ j, j < k + 1 → Nt.at_ xs j = Nt.at_ ys j) := Lib.hid (fun j hj => by
            rcases Nat.lt_succ_iff_lt_or_eq.1 hj with h | rfl
            · exact hz j h
            · exact hx)
          rw [hx] at hca
          clear hx hz ha hb
          generalize Nt.at_ ys k = z at *
          go_wp2_with fail
          go_quiet (fail)
          go_wp2_with fail
          go_roundw
          case rel => exact ⟨k + 1, _, by omega, by go_num, HZ.out, rfl⟩
          case measure => (simp [intOf] <;> omega)
        · have hne : xs ≠ ys := fun e => hx (by rw [e])
          have HN := Lib.hid hne
          have hxx : (Nt.at_ xs k != Nt.at_ ys k) = true := by simpa using hx
          clear hne hz ha hb hx
          generalize Nt.at_ ys k = z at *
          generalize Nt.at_ xs k = z' at *
          go_wp2_with fail
          go_quiet (fail)
          go_wp2_with fail
          go_ret
          exact ⟨by rw [decide_eq_false HN.out]; rfl, _, World.drewN_drewN _ _ _⟩
      · obtain rfl : k = n := by omega
        have HE := Lib.hid (eq_of_at (by rw [ha.len, hb.len]) (fun j hj => hz j (by rw [ha.len] at hj; exact hj)))
        clear hz ha hb
        go_wp2_with fail
        go_ret
        exact ⟨by rw [decide_eq_true HE.out]; rfl, _, rfl⟩
  · have hne : xs ≠ ys := fun e => hnm (by rw [← ha.len, ← hb.len, e])
    have HN := Lib.hid hne
    clear ha hb hne
    go_enter Tryd.func20, Tryd.ntmps20
    go_wp2_with fail
    go_ret
    exact ⟨by rw [decide_eq_false HN.out]; rfl, 0, rfl⟩

theorem V_of_at {xs ys : List Int} (h : ∀ j, Nt.at_ xs j = Nt.at_ ys j) : V xs = V ys := by
  have e : ∀ k, lo xs k = lo ys k := by
    intro k
    induction k with
    | zero => rw [lo_zero, lo_zero]
    | succ k ih => rw [lo_succ, lo_succ, ih, h]
  have := e (max xs.length ys.length)
  rwa [lo_all (by omega), lo_all (by omega)] at this

set_option maxHeartbeats 2000000 in
theorem natural_c (A B : Option Addr) (n c m d Ba Bb : Nat) (xs ys : List Int) (w : World) (ha : Rd w Ba A n xs) (hb : Rd w Bb B m ys) (hn : n ≤ 4611686018427387904) (hm : m ≤ 4611686018427387904) :
    Calls Tryd.prog 40 #[.slice A n c, .slice B m d] w fun e w' => e = .returned (.bool (decide (V xs = V ys))) ∧ w' = w := by
  go_enter Tryd.func40, Tryd.ntmps40
  go_wp2_with fail
  go_loop [5] (fun i => ∃ k : Nat, k ≤ max n m ∧ i = .int .i64 k ∧ (∀ j, j < k → Nt.at_ xs j = Nt.at_ ys j)) (fun i => max n m - (intOf i).toNat)
  case atStart => exact ⟨0, Nat.zero_le _, rfl, fun j hj => absurd hj (by omega)⟩
  case round =>
    obtain ⟨k, hk, rfl, hz⟩ := hrel
    have hXY : Hid (∀ e, e = decide (V xs = V ys) → e = true → Nt.at_ xs k = Nt.at_ ys k) := Lib.hid (fun e he ht => by
      rw [ht] at he
      have := of_decide_eq_true he.symm
      rw [V_at xs ha.ws, V_at ys hb.ws, this])
    have HS : Nt.at_ xs k = Nt.at_ ys k → Hid (∀ j, j < k + 1 → Nt.at_ xs j = Nt.at_ ys j) := fun hx => Lib.hid (fun j hj => by
      rcases Nat.lt_succ_iff_lt_or_eq.1 hj with h | rfl
      · exact hz j h
      · exact hx)
    have HF : Nt.at_ xs k ≠ Nt.at_ ys k → Hid (decide (V xs = V ys) = false) := fun hx => Lib.hid (decide_eq_false (fun e => hx (by rw [V_at xs ha.ws, V_at ys hb.ws, e])))
    by_cases h1 : k < n
    · obtain ⟨ad, rfl, _, hca⟩ := ha.at_ h1
      by_cases h2 : k < m
      · obtain ⟨bd, rfl, _, hcb⟩ := hb.at_ h2
        by_cases hx : Nt.at_ xs k = Nt.at_ ys k
        · have HZ := HS hx
          rw [hx] at hca
          clear hx hz ha hb HS HF hXY
          generalize Nt.at_ ys k = z at *
          go_wp2_with fail
          go_round
          case rel => exact ⟨k + 1, by omega, by go_num, HZ.out⟩
          case measure => (simp [intOf] <;> omega)
        · have HZ := HF hx
          have hxx : (Nt.at_ xs k != Nt.at_ ys k) = true := by simpa using hx
          clear hx hz ha hb HS HF hXY
          generalize Nt.at_ ys k = z at *
          generalize Nt.at_ xs k = z' at *
          go_wp2_with fail
          go_ret
          exact ⟨by rw [HZ.out]; rfl, rfl⟩
      · have hy : Nt.at_ ys k = 0 := at_ge (by rw [hb.len]; omega)
        by_cases hx : Nt.at_ xs k = 0
        · have HZ := HS (by rw [hx, hy])
          rw [hx] at hca
          clear hx hz ha hb HS HF hXY hy
          go_wp2_with fail
          go_round
          case rel => exact ⟨k + 1, by omega, by go_num, HZ.out⟩
          case measure => (simp [intOf] <;> omega)
        · have HZ := HF (by rw [hy]; exact hx)
          have hxx : (Nt.at_ xs k != 0) = true := by simpa using hx
          clear hx hz ha hb HS HF hXY hy
          generalize Nt.at_ xs k = z' at *
          go_wp2_with fail
          go_ret
          exact ⟨by rw [HZ.out]; rfl, rfl⟩
    · have hx0 : Nt.at_ xs k = 0 := at_ge (by rw [ha.len]; omega)
      by_cases h2 : k < m
      · obtain ⟨bd, rfl, _, hcb⟩ := hb.at_ h2
        by_cases hx : Nt.at_ ys k = 0
        · have HZ := HS (by rw [hx, hx0])
          rw [hx] at hcb
          clear hx hz ha hb HS HF hXY hx0
          go_wp2_with fail
          go_round
          case rel => exact ⟨k + 1, by omega, by go_num, HZ.out⟩
          case measure => (simp [intOf] <;> omega)
        · have HZ := HF (by rw [hx0]; exact fun e => hx e.symm)
          have hxx : (0 != Nt.at_ ys k) = true := by simpa using fun e => hx e.symm
          clear hx hz ha hb HS HF hXY hx0
          generalize Nt.at_ ys k = z' at *
          go_wp2_with fail
          go_ret
          exact ⟨by rw [HZ.out]; rfl, rfl⟩
      · have HE := Lib.hid (V_of_at (xs := xs) (ys := ys) (fun j => by
          rcases Nat.lt_or_ge j k with h | h
          · exact hz j h
          · rw [at_ge (by rw [ha.len]; omega), at_ge (by rw [hb.len]; omega)]))
        clear hz ha hb HS HF hXY hx0
        go_wp2_with fail
        go_ret
        exact ⟨by rw [decide_eq_true HE.out]; rfl, rfl⟩

theorem trim_iff {xs : List Int} (hn : xs ≠ []) : trim xs = xs ↔ Nt.at_ xs (xs.length - 1) ≠ 0 := ⟨fun h => trim_last h hn, fun h => trim_of_last (.inr h)⟩
set_option maxHeartbeats 1000000 in
theorem trimd_c (A : Option Addr) (n c Ba : Nat) (xs : List Int) (w : World) (ha : Rd w Ba A n xs) (hn : n ≤ 4611686018427387904) :
    Calls Tryd.prog 39 #[.slice A n c] w fun e w' => e = .returned (.bool (decide (trim xs = xs))) ∧ w' = w := by
  rcases Nat.eq_zero_or_pos n with rfl | h0
  · obtain rfl : xs = [] := List.eq_nil_of_length_eq_zero ha.len
    clear ha
    go_enter Tryd.func39, Tryd.ntmps39
    go_wp2_with fail
    go_ret
    exact ⟨rfl, rfl⟩
  · obtain ⟨i, rfl⟩ : ∃ i, n = i + 1 := ⟨n - 1, by omega⟩
    obtain ⟨ad, rfl, _, hca⟩ := ha.at_ (k := i) (by omega)
    have ht := trim_iff (xs := xs) (fun e => by have := ha.len; rw [e] at this; simp at this)
    rw [ha.len] at ht
    simp only [Nat.add_sub_cancel] at ht
    have HT := Lib.hid (show decide (trim xs = xs) = (Nt.at_ xs i != 0) by
      by_cases hz : Nt.at_ xs i = 0
      · rw [decide_eq_false (fun e => (ht.1 e) hz)]; simp [hz]
      · rw [decide_eq_true (ht.2 hz)]; simp [hz])
    clear ha ht
    rw [HT.out]
    clear HT
    generalize Nt.at_ xs i = z at *
    have h1 : (((i : Int) + 1) == 0) = false := by simp; omega
    go_enter Tryd.func39, Tryd.ntmps39
    go_wp2_with fail
    go_ret
    exact ⟨rfl, rfl⟩
end Nt
end Go.Proofs.YtdklchejnpaenaaDoor
