/- Plain arithmetic of inverses round at 2^64: found by doubling, found bit by bit, and there is but one. -/
import Derived.Test.YtpbdbmfmganhfaaRefM
import Derived.Test.YtpbdbmfmganhfaaWordD
namespace Go.Proofs.Ytpbdbmfmganhfaa
open Go.RowKit
namespace Wd
set_option linter.unusedVariables false

theorem wrap_ex (a : Int) : ∃ j : Int, IntKind.u64.wrap a = a + 18446744073709551616 * j := by
  rw [IntKind.wrap_u64]; exact ⟨-(a / 18446744073709551616), by omega⟩
theorem newt_step (n x d f : Int) (hd : 18446744073709551616 = d * d * f) (h : d ∣ n * x - 1) :
    d * d ∣ n * IntKind.u64.wrap (x * IntKind.u64.wrap (2 - IntKind.u64.wrap (n * x))) - 1 := by
  obtain ⟨j1, e1⟩ := wrap_ex (n * x)
  rw [e1]
  obtain ⟨j2, e2⟩ := wrap_ex (2 - (n * x + 18446744073709551616 * j1))
  rw [e2]
  obtain ⟨j3, e3⟩ := wrap_ex (x * (2 - (n * x + 18446744073709551616 * j1) + 18446744073709551616 * j2))
  rw [e3, hd]
  obtain ⟨e, he⟩ := h
  refine ⟨-(e * e) + f * n * (x * (j2 - j1) + j3), ?_⟩
  have : n * x = 1 + d * e := by omega
  grind
theorem newt_right (n : Int) (hn : n % 2 = 1) : n * newt n 6 % 18446744073709551616 = 1 := by
  have s0 : (2 : Int) ∣ n * newt n 0 - 1 := by unfold newt; omega
  have s1 := newt_step n (newt n 0) 2 4611686018427387904 (by rfl) s0
  have s2 := newt_step n (newt n 1) 4 1152921504606846976 (by rfl) s1
  have s3 := newt_step n (newt n 2) 16 72057594037927936 (by rfl) s2
  have s4 := newt_step n (newt n 3) 256 281474976710656 (by rfl) s3
  have s5 := newt_step n (newt n 4) 65536 4294967296 (by rfl) s4
  have s6 := newt_step n (newt n 5) 4294967296 1 (by rfl) s5
  have e : newt n 6 = IntKind.u64.wrap (newt n 5 * IntKind.u64.wrap (2 - IntKind.u64.wrap (n * newt n 5))) := rfl
  rw [← e] at s6
  omega
/-- there is but one -/
theorem inv_one (n x y : Int) (hx : W x) (hy : W y) (h : n * x % 18446744073709551616 = 1) (g : n * y % 18446744073709551616 = 1) : x = y := by
  have d : (18446744073709551616 : Int) ∣ x - y := by
    obtain ⟨a, ha⟩ : ∃ a, n * x = 1 + 18446744073709551616 * a := ⟨n * x / 18446744073709551616, by omega⟩
    obtain ⟨b, hb⟩ : ∃ b, n * y = 1 + 18446744073709551616 * b := ⟨n * y / 18446744073709551616, by omega⟩
    refine ⟨y * a - x * b, ?_⟩
    have e1 : y * (n * x) = y * (1 + 18446744073709551616 * a) := by rw [ha]
    have e2 : x * (n * y) = x * (1 + 18446744073709551616 * b) := by rw [hb]
    have e3 : y * (n * x) = x * (n * y) := by grind
    grind
  unfold W at hx hy
  omega
/-- an even number has none -/
theorem inv_even (n x : Int) (hn : n % 2 = 0) : n * x % 18446744073709551616 ≠ 1 := by
  obtain ⟨m, rfl⟩ : ∃ m, n = 2 * m := ⟨n / 2, by omega⟩
  rw [Int.mul_assoc]
  generalize m * x = z
  omega
theorem xor_one (t : Int) (h : 0 ≤ t) (h' : t ≤ 18446744073709551615) : bits .xor .u64 t 1 = if t % 2 = 0 then t + 1 else t - 1 := by
  obtain ⟨m, rfl⟩ := Int.eq_ofNat_of_zero_le h
  have e : (1 : Int) = ((1 : Nat) : Int) := rfl
  have k : m ^^^ 1 = if m % 2 = 0 then m + 1 else m - 1 := by
    have a : (m ^^^ 1) / 2 = m / 2 := by rw [Nat.xor_div_two]; simp
    have b : (m ^^^ 1) % 2 = (m + 1) % 2 := by
      have t := Nat.xor_mod_two_pow (a := m) (b := 1) (n := 1)
      rw [Nat.pow_one] at t
      rw [t]
      rcases Nat.mod_two_eq_zero_or_one m with g | g
      · rw [g]; show 1 = _; omega
      · rw [g]; show 0 = _; omega
    split <;> omega
  rw [e, u64_xor_nat m 1 (by omega) (by omega), k]
  split <;> split <;> omega
/-- one round: a bit more is right -/
theorem rinv_round (n x : Int) (k : Nat) (hn : n % 2 = 1) (x0 : 0 ≤ x) (x1 : x < 2 ^ k) (hk : k ≤ 63) (h : n * x % 2 ^ k = 1 % 2 ^ k) :
    ∃ z c : Int, bits .xor .u64 (IntKind.u64.wrap (n * x)) 1 = z ∧ 0 ≤ z ∧ z ≤ 18446744073709551615 ∧ bits .and .u64 (z / 2 ^ k) 1 = c ∧
      ((c = 1 ∧ bits .or .u64 x (IntKind.u64.wrap (2 ^ k)) = x + 2 ^ k ∧ Hid (n * (x + 2 ^ k) % 2 ^ (k + 1) = 1)) ∨ (c = 0 ∧ Hid (n * x % 2 ^ (k + 1) = 1))) := by
  have hu := pow_up k
  have hp := pow_pos' k
  have hple : (2 : Int) ^ k ≤ 9223372036854775808 := by have := pow_le hk; rw [show (2 : Int) ^ 63 = 9223372036854775808 by rfl] at this; exact this
  have hw : W (IntKind.u64.wrap (n * x)) := by rw [IntKind.wrap_u64]; exact W_mod _
  have hx := xor_one _ hw.1 hw.2
  have hz : 0 ≤ bits .xor .u64 (IntKind.u64.wrap (n * x)) 1 ∧ bits .xor .u64 (IntKind.u64.wrap (n * x)) 1 ≤ 18446744073709551615 := by
    rw [hx]; obtain ⟨a, b⟩ := hw; split <;> omega
  have ho : bits .or .u64 x (IntKind.u64.wrap (2 ^ k)) = x + 2 ^ k := by
    rw [IntKind.wrap_u64, Int.emod_eq_of_lt (by omega) (by omega), show bits .or .u64 x (2 ^ k) = bits .or .u64 (2 ^ k) x by unfold bits; simp only [BitVec.or_comm]]
    rw [or_add (2 ^ k) x k (by omega) (by omega) (Int.emod_self) x0 x1 (by omega)]; omega
  refine ⟨_, _, rfl, hz.1, hz.2, and_one _ (Int.ediv_nonneg hz.1 (by omega)) (by have := Int.ediv_le_self (2 ^ k) hz.1; omega), ?_⟩
  have key : ∃ s, n * x + (bits .xor .u64 (IntKind.u64.wrap (n * x)) 1 / 2 ^ k) * 2 ^ k * n = 1 + 2 ^ (k + 1) * s := by
    cases k with
    | zero =>
      have : x = 0 := by simp at x1; omega
      subst this
      rw [hx]
      refine ⟨(n - 1) / 2, ?_⟩
      simp [IntKind.wrap_u64]
      omega
    | succ k =>
      have hk1 : (1 : Int) % 2 ^ (k + 1) = 1 := Int.emod_eq_of_lt (by omega) (by have := pow_pos' k; have := pow_up k; omega)
      rw [hk1] at h
      obtain ⟨f, hf⟩ : ∃ f : Int, (18446744073709551616 : Int) = 2 ^ (k + 1 + 1) * f := ⟨2 ^ (62 - k), by rw [← Int.pow_add, show k + 1 + 1 + (62 - k) = 64 by omega]; rfl⟩
      obtain ⟨j, hj⟩ := wrap_ex (n * x)
      have hod : IntKind.u64.wrap (n * x) % 2 = 1 := by
        obtain ⟨m, hm⟩ : ∃ m : Int, (2 : Int) ^ (k + 1) = 2 * m := ⟨2 ^ k, pow_up k⟩
        have e1 := Int.mul_ediv_add_emod (n * x) (2 ^ (k + 1))
        rw [h, hm, Int.mul_assoc] at e1
        omega
      rw [hx, if_neg (by omega)]
      -- n * x = 1 + 2^(k+1) * s
      obtain ⟨s, hs⟩ : ∃ s, n * x = 1 + 2 ^ (k + 1) * s := ⟨n * x / 2 ^ (k + 1), by have := Int.mul_ediv_add_emod (n * x) (2 ^ (k + 1)); omega⟩
      have ez : IntKind.u64.wrap (n * x) - 1 = (s + 2 * f * j) * 2 ^ (k + 1) := by
        rw [hj, hs, hf, hu]; grind
      rw [ez, Int.mul_ediv_cancel _ (by omega), hs]
      obtain ⟨m, hm⟩ : ∃ m, n = 2 * m + 1 := ⟨n / 2, by omega⟩
      refine ⟨s + f * j + (s + 2 * f * j) * m, ?_⟩
      rw [hu, hm]; grind
  have one : (1 : Int) % 2 ^ (k + 1) = 1 := Int.emod_eq_of_lt (by omega) (by omega)
  generalize bits .xor .u64 (IntKind.u64.wrap (n * x)) 1 / 2 ^ k = u at *
  obtain ⟨s, hs⟩ := key
  by_cases hc : u % 2 = 1
  · refine .inl ⟨hc, ho, ?_⟩
    have : n * (x + 2 ^ k) = 1 + 2 ^ (k + 1) * (s - (u / 2) * n) := by
      obtain ⟨m, hm⟩ : ∃ m, u = 2 * m + 1 := ⟨u / 2, by omega⟩
      have e : u / 2 = m := by omega
      rw [e]
      rw [hm, hu] at hs
      rw [hu]; grind
    show _ = _
    rw [this, Int.add_mul_emod_self_left]; exact one
  · refine .inr ⟨by omega, ?_⟩
    have : n * x = 1 + 2 ^ (k + 1) * (s - (u / 2) * n) := by
      obtain ⟨m, hm⟩ : ∃ m, u = 2 * m := ⟨u / 2, by omega⟩
      have e : u / 2 = m := by omega
      rw [e]
      rw [hm, hu] at hs
      rw [hu]; grind
    show _ = _
    rw [this, Int.add_mul_emod_self_left]; exact one
end Wd
end Go.Proofs.Ytpbdbmfmganhfaa
