/- Read: the natural of a text. -/
import Derived.Test.YtdklchejnpaenaaDoorNatT
import Derived.Test.YtdklchejnpaenaaDoorNatSub
import Derived.Still
import Derived.StillTail
namespace Go.Proofs.YtdklchejnpaenaaDoor
open Go Go.RowKit
namespace Nt
open Wd Sti
set_option linter.unusedVariables false

/-- a digit by sixteen, either letters -/
def hexd (c : Nat) : Option Nat := if 48 ≤ c ∧ c ≤ 57 then some (c - 48) else if 97 ≤ c ∧ c ≤ 102 then some (c - 87) else if 65 ≤ c ∧ c ≤ 70 then some (c - 55) else none
theorem hexd_lt {c d : Nat} (h : hexd c = some d) : d < 16 := by
  unfold hexd at h
  split at h
  · cases h; omega
  · split at h
    · cases h; omega
    · split at h
      · cases h; omega
      · cases h
def dv_ (c : Nat) : Nat := (hexd c).getD 0
theorem dv_lt (c : Nat) : dv_ c < 16 := by
  unfold dv_
  cases h : hexd c with
  | none => simp
  | some d => exact hexd_lt h
theorem digit_c (c : Nat) (w : World) (hc : c < 256) :
    Calls Tryd.prog 49 #[.int .u8 (c : Int)] w fun e w' => e = .returned (.tuple #[.int .u64 (dv_ c : Int), .bool (hexd c).isSome]) ∧ w' = w := by
  by_cases h1 : 48 ≤ c ∧ c ≤ 57
  · have e1 : hexd c = some (c - 48) := by unfold hexd; rw [if_pos h1]
    have e2 : ((dv_ c : Nat) : Int) = (c : Int) - 48 := by unfold dv_; rw [e1]; simp; omega
    rw [e1, e2]
    obtain ⟨a1, a2⟩ := h1
    clear e1 e2
    have b1 : (48 : Int) ≤ c := by omega
    have b2 : (c : Int) ≤ 57 := by omega
    go_enter Tryd.func49, Tryd.ntmps49
    go_wp2_with fail
    go_ret2
    exact ⟨rfl, rfl⟩
  · by_cases h2 : 97 ≤ c ∧ c ≤ 102
    · have e1 : hexd c = some (c - 87) := by unfold hexd; rw [if_neg h1, if_pos h2]
      have e2 : ((dv_ c : Nat) : Int) = (c : Int) - 97 + 10 := by unfold dv_; rw [e1]; simp; omega
      rw [e1, e2]
      clear e1 e2 h1
      obtain ⟨a1, a2⟩ := h2
      have b0 : (48 : Int) ≤ c := by omega
      have b1 : (57 : Int) < c := by omega
      have b2 : (97 : Int) ≤ c := by omega
      have b3 : (c : Int) ≤ 102 := by omega
      go_enter Tryd.func49, Tryd.ntmps49
      go_wp2_with fail
      go_ret2
      exact ⟨rfl, rfl⟩
    · by_cases h3 : 65 ≤ c ∧ c ≤ 70
      · have e1 : hexd c = some (c - 55) := by unfold hexd; rw [if_neg h1, if_neg h2, if_pos h3]
        have e2 : ((dv_ c : Nat) : Int) = (c : Int) - 65 + 10 := by unfold dv_; rw [e1]; simp; omega
        rw [e1, e2]
        clear e1 e2 h1 h2
        obtain ⟨a1, a2⟩ := h3
        have b0 : (48 : Int) ≤ c := by omega
        have b1 : (57 : Int) < c := by omega
        have b2 : (c : Int) < 97 := by omega
        have b3 : (65 : Int) ≤ c := by omega
        have b4 : (c : Int) ≤ 70 := by omega
        go_enter Tryd.func49, Tryd.ntmps49
        go_wp2_with fail
        go_ret2
        exact ⟨rfl, rfl⟩
      · have e1 : hexd c = none := by unfold hexd; rw [if_neg h1, if_neg h2, if_neg h3]
        have e2 : ((dv_ c : Nat) : Int) = 0 := by unfold dv_; rw [e1]; rfl
        rw [e1, e2]
        clear e1 e2
        rcases (show c < 48 ∨ (57 < c ∧ c < 65) ∨ (70 < c ∧ c < 97) ∨ 102 < c by omega) with h | ⟨h, h'⟩ | ⟨h, h'⟩ | h <;> clear h1 h2 h3
        · have b0 : (c : Int) < 48 := by omega
          have b1 : (c : Int) < 97 := by omega
          have b2 : (c : Int) < 65 := by omega
          go_enter Tryd.func49, Tryd.ntmps49
          go_wp2_with fail
          go_ret2
          exact ⟨rfl, rfl⟩
        · have b0 : (48 : Int) ≤ c := by omega
          have b3 : (57 : Int) < c := by omega
          have b1 : (c : Int) < 97 := by omega
          have b2 : (c : Int) < 65 := by omega
          go_enter Tryd.func49, Tryd.ntmps49
          go_wp2_with fail
          go_ret2
          exact ⟨rfl, rfl⟩
        · have b0 : (48 : Int) ≤ c := by omega
          have b3 : (57 : Int) < c := by omega
          have b1 : (c : Int) < 97 := by omega
          have b2 : (65 : Int) ≤ c := by omega
          have b4 : (70 : Int) < c := by omega
          go_enter Tryd.func49, Tryd.ntmps49
          go_wp2_with fail
          go_ret2
          exact ⟨rfl, rfl⟩
        · have b0 : (48 : Int) ≤ c := by omega
          have b3 : (57 : Int) < c := by omega
          have b1 : (97 : Int) ≤ c := by omega
          have b2 : (65 : Int) ≤ c := by omega
          have b4 : (70 : Int) < c := by omega
          have b5 : (102 : Int) < c := by omega
          go_enter Tryd.func49, Tryd.ntmps49
          go_wp2_with fail
          go_ret2
          exact ⟨rfl, rfl⟩

/-- the number of digits by sixteen, the highest first -/
def hexV : List UInt8 → Int
  | [] => 0
  | b :: l => (dv_ b.toNat : Int) * 16 ^ l.length + hexV l
theorem hexV_bd (l : List UInt8) : 0 ≤ hexV l ∧ hexV l < 16 ^ l.length := by
  induction l with
  | nil => simp [hexV]
  | cons b l ih =>
    have := dv_lt b.toNat
    have h1 := pow16_pos l.length
    have h2 : (dv_ b.toNat : Int) * 16 ^ l.length ≤ 15 * 16 ^ l.length := Int.mul_le_mul_of_nonneg_right (by omega) (by omega)
    have h3 : 0 ≤ (dv_ b.toNat : Int) * 16 ^ l.length := Int.mul_nonneg (by omega) (by omega)
    simp only [hexV, List.length_cons, Int.pow_succ]
    omega
def isHex (l : List UInt8) : Prop := ∀ b ∈ l, (hexd b.toNat).isSome = true
theorem or_up {a b : Int} {k : Nat} (h0 : 0 ≤ a) (h1 : a ≤ 18446744073709551615) (hm : a % 2 ^ k = 0) (h2 : 0 ≤ b) (h3 : b < 2 ^ k) (h4 : b ≤ 18446744073709551615) : bits .or .u64 b a = b + a := by
  obtain ⟨n, rfl⟩ := Int.eq_ofNat_of_zero_le h0
  obtain ⟨m, rfl⟩ := Int.eq_ofNat_of_zero_le h2
  have := or_add (n : Int) (m : Int) k h0 h1 hm h2 h3 h4
  rw [u64_or_nat m n (by omega) (by omega), Nat.or_comm]
  rw [u64_or_nat n m (by omega) (by omega)] at this
  rw [this]; omega
end Nt
end Go.Proofs.YtdklchejnpaenaaDoor
