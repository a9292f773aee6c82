/- The landed package secrecy: sets of registers; what feeds them; how they grow. -/
import Derived.Test.YtbdhibgljaelbaaDoorS2
import Derived.Test.YtbdhibgljaelbaaDoorN3
import Derived.BigQuiet
namespace Go.Proofs.YtbdhibgljaelbaaDoor
open Go Go.RowKit Go.Sort Go.Shelf
namespace Lb
open Wd Nt Gr
set_option linter.unusedVariables false
set_option linter.unusedSimpArgs false
theorem bit_and (s n : Nat) (hs : s < 18446744073709551616) : bits .and .u64 ((s : Int) / 2 ^ n) 1 = if s.testBit n then 1 else 0 := by
  have e : (s : Int) / 2 ^ n = ((s / 2 ^ n : Nat) : Int) := by simp
  have hle : s / 2 ^ n ≤ s := Nat.div_le_self _ _
  rw [e, Nat.testBit_eq_decide_div_mod_eq]
  generalize s / 2 ^ n = q at *
  rw [and_one _ (by omega) (by omega)]
  by_cases h : q % 2 = 1
  · rw [if_pos (by simpa using h)]; omega
  · rw [if_neg (by simpa using h)]; omega
theorem bit_or (s n : Nat) (hs : s < 18446744073709551616) (hn : n < 64) : bits .or .u64 (s : Int) (2 ^ n) = ((s ||| 2 ^ n : Nat) : Int) := by
  have h : 2 ^ n < 18446744073709551616 := by
    have : 2 ^ n < 2 ^ 64 := Nat.pow_lt_pow_right (by omega) hn
    exact this
  have e : (2 : Int) ^ n = ((2 ^ n : Nat) : Int) := by simp
  rw [e, u64_or_nat s (2 ^ n) hs h]
theorem has_s (s : Nat) (r : Int) (hs : s < 18446744073709551616) (hr : r < 64) (w : World) : Calls Tryd.prog 99 #[.int .u64 (s : Int), .int .i64 r] w fun e w' => e = .returned (.bool (hasN s r)) ∧ w' = w := by
  have HE : Hid (hasN s r = (decide (0 ≤ r) && s.testBit r.toNat)) := Lib.hid rfl
  generalize hasN s r = res at *
  by_cases h : 0 ≤ r
  · obtain ⟨n, rfl⟩ := Int.eq_ofNat_of_zero_le h
    rw [decide_eq_true h, Bool.true_and, Int.toNat_natCast] at HE
    have hn : n < 64 := by omega
    have ea := bit_and s n hs
    cases hb : s.testBit n
    · rw [hb] at ea HE
      rw [if_neg (by decide)] at ea
      clear hb hr
      go_enter Tryd.func99, Tryd.ntmps99
      go_wp2_with fail
      go_ret
      exact ⟨by rw [HE.out]; rfl, rfl⟩
    · rw [hb] at ea HE
      rw [if_pos rfl] at ea
      clear hb hr
      go_enter Tryd.func99, Tryd.ntmps99
      go_wp2_with fail
      go_ret
      exact ⟨by rw [HE.out]; rfl, rfl⟩
  · rw [decide_eq_false h, Bool.false_and] at HE
    go_enter Tryd.func99, Tryd.ntmps99
    go_wp2_with fail
    go_ret
    exact ⟨by rw [HE.out]; rfl, rfl⟩
theorem with_s (s : Nat) (r : Int) (hs : s < 18446744073709551616) (hr : r < 64) (w : World) : Calls Tryd.prog 98 #[.int .u64 (s : Int), .int .i64 r] w fun e w' => e = .returned (.int .u64 ((withN s r : Nat) : Int)) ∧ w' = w := by
  have HE : Hid (withN s r = if r < 0 then s else s ||| 2 ^ r.toNat) := Lib.hid rfl
  generalize withN s r = res at *
  by_cases h : r < 0
  · rw [if_pos h] at HE
    go_enter Tryd.func98, Tryd.ntmps98
    go_wp2_with fail
    go_ret
    exact ⟨by rw [HE.out]; rfl, rfl⟩
  · obtain ⟨n, rfl⟩ := Int.eq_ofNat_of_zero_le (show 0 ≤ r by omega)
    rw [if_neg h, Int.toNat_natCast] at HE
    have hn : n < 64 := by omega
    have eo := bit_or s n hs hn
    generalize s ||| 2 ^ n = t at *
    have hp : IntKind.u64.wrap (2 ^ n) = 2 ^ n := by
      have : (2 : Nat) ^ n < 2 ^ 64 := Nat.pow_lt_pow_right (by omega) hn
      have e : (2 : Int) ^ n = ((2 ^ n : Nat) : Int) := by simp
      rw [IntKind.wrap_u64, e]
      generalize 2 ^ n = q at *
      omega
    clear h hr
    go_enter Tryd.func98, Tryd.ntmps98
    go_wp2_with fail
    go_ret
    exact ⟨by rw [HE.out]; rfl, rfl⟩
end Lb
end Go.Proofs.YtbdhibgljaelbaaDoor
