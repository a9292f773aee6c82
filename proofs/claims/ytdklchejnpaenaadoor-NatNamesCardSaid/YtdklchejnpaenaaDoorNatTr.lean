/- trimmed, and what hangs on it alone. -/
import Derived.Test.YtdklchejnpaenaaDoorNatB
namespace Go.Proofs.YtdklchejnpaenaaDoor
open Go Go.RowKit
namespace Nt
open Wd Sti
set_option linter.unusedVariables false

set_option maxHeartbeats 1000000 in
/-- a piece of what came in: up to the last limb that is none that is 0 -/
theorem trimmed_c (A : Option Addr) (n c B : Nat) (xs : List Int) (w : World) (h : Rd w B A n xs) (hc : n ≤ c) (hn : c ≤ 9223372036854775807) :
    Calls Tryd.prog 44 #[.slice A n c] w fun e w' => e = .returned (.slice A (trim xs).length c) ∧ w' = w := by
  have hlen := h.len
  go_enter Tryd.func44, Tryd.ntmps44
  go_wp2_with fail
  go_loop [3] (fun i => ∃ k : Nat, k ≤ n ∧ i = .int .i64 k ∧ (∀ j, k ≤ j → Nt.at_ xs j = 0)) (fun i => (intOf i).toNat)
  case atStart => exact ⟨n, Nat.le_refl _, rfl, fun j hj => at_ge (by omega)⟩
  case round =>
    obtain ⟨k, hk, rfl, hz⟩ := hrel
    rcases Nat.eq_zero_or_pos k with rfl | hk0
    · have hT : (trim xs).length = 0 := by
        rw [trim_cut (k := 0) (by omega) (fun j _ => hz j (by omega)) (.inl rfl) h.ws]; rfl
      have HT := Lib.hid hT
      clear hT hlen hz h
      go_wp2_with fail
      go_ret
      exact ⟨by rw [HT.out]; rfl, rfl⟩
    · obtain ⟨i, rfl⟩ : ∃ i, k = i + 1 := ⟨k - 1, by omega⟩
      obtain ⟨ad, rfl, hb, hcell⟩ := h.at_ (k := i) (by omega)
      by_cases hx : Nt.at_ xs i = 0
      · rw [hx] at hcell
        have HX := Lib.hid hx
        have HZ := Lib.hid hz
        clear hx hz hlen h
        go_wp2_with fail
        go_round
        case rel => exact ⟨i, by omega, by go_num, fun j hj => by
          rcases Nat.eq_or_lt_of_le hj with rfl | h'
          · exact HX.out
          · exact HZ.out j (by omega)⟩
        case measure => (simp [intOf] <;> omega)
      · have hT : (trim xs).length = i + 1 := by
          rw [trim_cut (k := i + 1) (by omega) hz (.inr (by simpa using hx)) h.ws, List.length_take]; omega
        have HT := Lib.hid hT
        have hxx : (Nt.at_ xs i == 0) = false := by simpa using hx
        clear hT hlen hz h
        generalize Nt.at_ xs i = z at *
        go_wp2_with fail
        go_ret
        exact ⟨by rw [HT.out]; rfl, rfl⟩
end Nt
end Go.Proofs.YtdklchejnpaenaaDoor
