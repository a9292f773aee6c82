/- Plain arithmetic modulo a number, over Int: powers, greatest divisors, inverses; no program in it. | Fermat's little theorem, by the binomial theorem; the primes of the statements. -/
import Derived.Test.YtopajockmcgpmaaB1
namespace Go.Proofs.Ytopajockmcgpmaa
open Go.RowKit
namespace Nt
open Wd
set_option linter.unusedVariables false
theorem mod_mul (a b n : Int) : (a % n * (b % n)) % n = (a * b) % n := by rw [← Int.mul_emod]
theorem mod_mul_l (a b n : Int) : (a % n * b) % n = (a * b) % n := by rw [Int.mul_emod, Int.emod_emod_of_dvd a (Int.dvd_refl n), ← Int.mul_emod]
theorem mod_mul_r (a b n : Int) : (a * (b % n)) % n = (a * b) % n := by rw [Int.mul_emod, Int.emod_emod_of_dvd b (Int.dvd_refl n), ← Int.mul_emod]
theorem mod_add (a b n : Int) : (a % n + b % n) % n = (a + b) % n := by rw [← Int.add_emod]
theorem mod_add_l (a b n : Int) : (a % n + b) % n = (a + b) % n := by rw [Int.add_emod, Int.emod_emod_of_dvd a (Int.dvd_refl n), ← Int.add_emod]
theorem mod_pow (a : Int) (e : Nat) (n : Int) : (a % n) ^ e % n = a ^ e % n := by
  induction e with
  | zero => rw [Int.pow_zero, Int.pow_zero]
  | succ e ih => rw [Int.pow_succ, Int.pow_succ, Int.mul_emod, ih, Int.emod_emod_of_dvd a (Int.dvd_refl n), ← Int.mul_emod]
/-- one bit more of an exponent -/
theorem pow_bit0 (a n : Int) (m : Nat) : (a ^ m % n * (a ^ m % n)) % n = a ^ (2 * m) % n := by
  rw [mod_mul, ← Int.pow_add]; congr 2; omega
theorem pow_bit1 (a n : Int) (m : Nat) : (a ^ (2 * m) % n * a) % n = a ^ (2 * m + 1) % n := by rw [mod_mul_l, ← Int.pow_succ]

/-- the greatest that divides both -/
def gc (a b : Int) : Int := (Nat.gcd a.toNat b.toNat : Nat)
theorem gc_zero (a : Int) (h : 0 ≤ a) : gc a 0 = a := by unfold gc; simp; omega
theorem gc_step {a b : Int} (ha : 0 ≤ a) (hb : 0 < b) : gc b (a % b) = gc a b := by
  unfold gc
  obtain ⟨x, rfl⟩ := Int.eq_ofNat_of_zero_le ha
  obtain ⟨y, rfl⟩ := Int.eq_ofNat_of_zero_le (Int.le_of_lt hb)
  have : ((x : Int) % (y : Int)).toNat = x % y := by omega
  rw [this]
  simp only [Int.toNat_natCast]
  congr 1
  rw [Nat.gcd_comm y, ← Nat.gcd_rec, Nat.gcd_comm]
theorem gc_nonneg (a b : Int) : 0 ≤ gc a b := by unfold gc; omega
theorem gc_dvd_l {a b : Int} (ha : 0 ≤ a) : gc a b ∣ a := by
  unfold gc
  have := Nat.gcd_dvd_left a.toNat b.toNat
  have h2 := Int.natCast_dvd_natCast.2 this
  rwa [Int.toNat_of_nonneg ha] at h2
theorem gc_dvd_r {a b : Int} (hb : 0 ≤ b) : gc a b ∣ b := by
  unfold gc
  have := Nat.gcd_dvd_right a.toNat b.toNat
  have h2 := Int.natCast_dvd_natCast.2 this
  rwa [Int.toNat_of_nonneg hb] at h2
theorem dvd_gc {a b d : Int} (ha : 0 ≤ a) (hb : 0 ≤ b) (hd : 0 ≤ d) (h1 : d ∣ a) (h2 : d ∣ b) : d ∣ gc a b := by
  obtain ⟨x, rfl⟩ := Int.eq_ofNat_of_zero_le ha
  obtain ⟨y, rfl⟩ := Int.eq_ofNat_of_zero_le hb
  obtain ⟨z, rfl⟩ := Int.eq_ofNat_of_zero_le hd
  unfold gc
  simp only [Int.toNat_natCast]
  exact Int.natCast_dvd_natCast.2 (Nat.dvd_gcd (Int.natCast_dvd_natCast.1 h1) (Int.natCast_dvd_natCast.1 h2))
theorem gc_mod {a n : Int} (ha : 0 ≤ a) (hn : 0 < n) : gc (a % n) n = gc a n := by
  have h := gc_step (a := a) (b := n) ha hn
  unfold gc at h ⊢
  rw [Nat.gcd_comm] at h
  exact h
/-- of numbers that nothing but 1 divides both: who divides a product with the one divides the other factor -/
theorem coprime_dvd {n a b : Int} (hn : 0 ≤ n) (ha : 0 ≤ a) (h1 : gc a n = 1) (h : n ∣ b * a) : n ∣ b := by
  obtain ⟨x, rfl⟩ := Int.eq_ofNat_of_zero_le ha
  obtain ⟨y, rfl⟩ := Int.eq_ofNat_of_zero_le hn
  unfold gc at h1
  simp only [Int.toNat_natCast] at h1
  have hc : Nat.Coprime y x := by
    show Nat.gcd y x = 1
    rw [Nat.gcd_comm]; omega
  have h2 := Int.natAbs_dvd_natAbs.2 h
  rw [Int.natAbs_mul, Int.natAbs_natCast, Int.natAbs_natCast] at h2
  have h3 := hc.dvd_of_dvd_mul_right h2
  exact Int.natAbs_dvd_natAbs.1 (by rw [Int.natAbs_natCast]; exact h3)
/-- a number has at most one inverse -/
theorem inv_uniq {n a x y : Int} (hn : 0 < n) (ha : 0 ≤ a) (h1 : gc a n = 1) (hx0 : 0 ≤ x) (hx : x < n) (hy0 : 0 ≤ y) (hy : y < n) (ex : (x * a) % n = 1 % n) (ey : (y * a) % n = 1 % n) : x = y := by
  have h : n ∣ (x - y) * a := by
    rw [Int.sub_mul]
    exact Int.dvd_of_emod_eq_zero (by rw [Int.sub_emod, ex, ey, Int.sub_self, Int.zero_emod])
  have h2 := coprime_dvd (by omega) ha h1 h
  obtain ⟨k, hk⟩ := h2
  rcases Int.lt_trichotomy k 0 with h3 | h3 | h3
  · have : n * k ≤ n * (-1) := Int.mul_le_mul_of_nonneg_left (by omega) (by omega)
    omega
  · rw [h3] at hk; omega
  · have : n * 1 ≤ n * k := Int.mul_le_mul_of_nonneg_left (by omega) (by omega)
    omega
/-- one step of the inverse's search: s and t go with u and v -/
theorem inv_step {n x u v s t : Int} (hs : (s * x) % n = u % n) (ht : (t * x) % n = v % n) :
    ((s - u / v * t) * x) % n = (u % v) % n := by
  have e : u % v = u - v * (u / v) := Int.emod_def u v
  rw [e, Int.sub_mul, Int.sub_emod, hs, Int.mul_assoc, Int.mul_emod (u / v), ht, ← Int.mul_emod, ← Int.sub_emod, Int.mul_comm (u / v)]
end Nt
end Go.Proofs.Ytopajockmcgpmaa
namespace Go.Proofs.Ytopajockmcgpmaa
namespace Fer
set_option linter.unusedVariables false
def Prim (p : Nat) : Prop := 2 ≤ p ∧ ∀ d, d ∣ p → d = 1 ∨ d = p
def ch : Nat → Nat → Nat
  | _, 0 => 1
  | 0, _ + 1 => 0
  | n + 1, k + 1 => ch n k + ch n (k + 1)
theorem ch_zero (n : Nat) : ch n 0 = 1 := by cases n <;> rfl
theorem ch_gt {n k : Nat} (h : n < k) : ch n k = 0 := by
  induction n generalizing k with
  | zero => cases k with
    | zero => omega
    | succ k => rfl
  | succ n ih => cases k with
    | zero => omega
    | succ k => show ch n k + ch n (k + 1) = 0; rw [ih (by omega), ih (by omega)]
theorem ch_self (n : Nat) : ch n n = 1 := by
  induction n with
  | zero => rfl
  | succ n ih => show ch n n + ch n (n + 1) = 1; rw [ih, ch_gt (by omega)]
theorem ch_mul (n : Nat) : ∀ k, (k + 1) * ch (n + 1) (k + 1) = (n + 1) * ch n k := by
  induction n with
  | zero =>
    intro k
    cases k with
    | zero => rfl
    | succ k => show (k + 1 + 1) * (ch 0 (k + 1) + ch 0 (k + 1 + 1)) = _; rw [ch_gt (by omega), ch_gt (by omega)]; simp
  | succ n ih =>
    intro k
    show (k + 1) * (ch (n + 1) k + ch (n + 1) (k + 1)) = _
    rw [Nat.mul_add, ih k]
    cases k with
    | zero => rw [ch_zero, ch_zero]; omega
    | succ j =>
      have h := ih j
      have e : ch (n + 1) (j + 1) = ch n j + ch n (j + 1) := rfl
      have e1 : (j + 1 + 1) * ch (n + 1) (j + 1) = (j + 1) * ch (n + 1) (j + 1) + ch (n + 1) (j + 1) := by rw [Nat.add_mul, Nat.one_mul]
      have e2 : (n + 1 + 1) * ch (n + 1) (j + 1) = (n + 1) * ch (n + 1) (j + 1) + ch (n + 1) (j + 1) := by rw [Nat.add_mul, Nat.one_mul]
      have e3 : (n + 1) * ch (n + 1) (j + 1) = (n + 1) * ch n j + (n + 1) * ch n (j + 1) := by rw [e, Nat.mul_add]
      rw [e1, h, e2, e3]
      omega
def bs (n a : Nat) : Nat → Nat
  | 0 => 0
  | m + 1 => bs n a m + ch n m * a ^ m
theorem bs_succ (n a m : Nat) : bs (n + 1) a (m + 1) = bs n a (m + 1) + a * bs n a m := by
  induction m with
  | zero => show 0 + ch (n + 1) 0 * a ^ 0 = 0 + ch n 0 * a ^ 0 + a * 0; rw [ch_zero, ch_zero]; omega
  | succ m ih =>
    have e1 : bs (n + 1) a (m + 1 + 1) = bs (n + 1) a (m + 1) + (ch n m + ch n (m + 1)) * a ^ (m + 1) := rfl
    have e2 : bs n a (m + 1 + 1) = bs n a (m + 1) + ch n (m + 1) * a ^ (m + 1) := rfl
    have e3 : a * bs n a (m + 1) = a * bs n a m + ch n m * a ^ (m + 1) := by
      show a * (bs n a m + ch n m * a ^ m) = _
      rw [Nat.mul_add, Nat.pow_succ]; congr 1; ac_rfl
    rw [e1, ih, e2, e3, Nat.add_mul]
    omega
theorem binom (a n : Nat) : (a + 1) ^ n = bs n a (n + 1) := by
  induction n with
  | zero => rfl
  | succ n ih =>
    rw [bs_succ]
    have e : bs n a (n + 1 + 1) = bs n a (n + 1) + ch n (n + 1) * a ^ (n + 1) := rfl
    rw [e, ch_gt (by omega), Nat.zero_mul, Nat.add_zero, ← ih, Nat.pow_succ, Nat.mul_add, Nat.mul_one, Nat.mul_comm a, Nat.add_comm]; omega
theorem prim_coprime {p k : Nat} (hp : Prim p) (h0 : 0 < k) (h : k < p) : Nat.Coprime p k := by
  rcases hp.2 _ (Nat.gcd_dvd_left p k) with h1 | h1
  · exact h1
  · have := Nat.le_of_dvd h0 (Nat.gcd_dvd_right p k)
    rw [h1] at this; omega
theorem dvd_ch {p k : Nat} (hp : Prim p) (h0 : 0 < k) (h : k < p) : p ∣ ch p k := by
  obtain ⟨n, rfl⟩ : ∃ n, p = n + 1 := ⟨p - 1, by have := hp.1; omega⟩
  obtain ⟨j, rfl⟩ : ∃ j, k = j + 1 := ⟨k - 1, by omega⟩
  have h1 : n + 1 ∣ (j + 1) * ch (n + 1) (j + 1) := ⟨_, ch_mul n j⟩
  exact (prim_coprime hp h0 h).dvd_of_dvd_mul_left h1
theorem bs_mod {p : Nat} (hp : Prim p) (a : Nat) : ∀ m, m < p → bs p a (m + 1) % p = 1 % p := by
  intro m
  induction m with
  | zero => intro _; show (0 + ch p 0 * a ^ 0) % p = _; rw [ch_zero, Nat.pow_zero]
  | succ m ih =>
    intro h
    show (bs p a (m + 1) + ch p (m + 1) * a ^ (m + 1)) % p = _
    obtain ⟨q, hq⟩ := dvd_ch hp (k := m + 1) (by omega) h
    rw [hq, Nat.mul_assoc, Nat.add_mul_mod_self_left]
    exact ih (by omega)
theorem fermat {p : Nat} (hp : Prim p) (a : Nat) : a ^ p % p = a % p := by
  induction a with
  | zero => rw [Nat.zero_pow (by have := hp.1; omega)]
  | succ a ih =>
    obtain ⟨n, hn⟩ : ∃ n, p = n + 1 := ⟨p - 1, by have := hp.1; omega⟩
    have e : bs p a (p + 1) = bs p a p + ch p p * a ^ p := rfl
    have h1 := bs_mod hp a n (by omega)
    rw [← hn] at h1
    rw [binom, e, ch_self, Nat.one_mul, Nat.add_mod, h1, ih, ← Nat.add_mod, Nat.add_comm]

/-- no divisor among 2^k numbers from lo on -/
def chk (p : Nat) : Nat → Nat → Bool
  | 0, lo => Nat.blt lo 2 || !(Nat.beq (p % lo) 0)
  | k + 1, lo => chk p k lo && chk p k (lo + 2 ^ k)
theorem chk_all {p : Nat} : ∀ (k lo : Nat), chk p k lo = true → ∀ d, lo ≤ d → d < lo + 2 ^ k → 2 ≤ d → p % d ≠ 0 := by
  intro k
  induction k with
  | zero =>
    intro lo h d h1 h2 h3
    obtain rfl : d = lo := by simp at h2; omega
    unfold chk at h
    intro e
    rw [e] at h
    have h4 : Nat.blt d 2 = false := by
      cases hb : Nat.blt d 2 with
      | false => rfl
      | true => rw [Nat.blt_eq] at hb; omega
    rw [h4] at h
    cases h
  | succ k ih =>
    intro lo h d h1 h2 h3
    unfold chk at h
    rw [Bool.and_eq_true] at h
    rcases Nat.lt_or_ge d (lo + 2 ^ k) with h4 | h4
    · exact ih lo h.1 d h1 h4 h3
    · exact ih (lo + 2 ^ k) h.2 d h4 (by rw [Nat.pow_succ] at h2; omega) h3
theorem prim_of {p : Nat} (k : Nat) (h2 : 2 ≤ p) (hk : p < 2 ^ k * 2 ^ k) (h : ∀ d, 2 ≤ d → d < 2 ^ k → d < p → p % d ≠ 0) : Prim p := by
  refine ⟨h2, fun d hd => ?_⟩
  obtain ⟨q, hq⟩ := hd
  by_cases h1 : d = 1
  · exact .inl h1
  by_cases h3 : d = p
  · exact .inr h3
  exfalso
  have hd0 : d ≠ 0 := fun e => by rw [e, Nat.zero_mul] at hq; omega
  have hq0 : q ≠ 0 := fun e => by rw [e, Nat.mul_zero] at hq; omega
  have hq1 : q ≠ 1 := fun e => by rw [e, Nat.mul_one] at hq; omega
  have hlt : ∀ x y, p = x * y → x ≠ 0 → y ≠ 0 → y ≠ 1 → x < p := fun x y e hx hy hy1 => by
    rw [e]
    have : x * 2 ≤ x * y := Nat.mul_le_mul_left _ (by omega)
    omega
  rcases Nat.lt_or_ge d (2 ^ k) with h4 | h4
  · exact h d (by omega) h4 (hlt d q hq hd0 hq0 hq1) (by rw [hq, Nat.mul_mod_right])
  · rcases Nat.lt_or_ge q (2 ^ k) with h5 | h5
    · exact h q (by omega) h5 (hlt q d (by rw [hq, Nat.mul_comm]) hq0 hd0 h1) (by rw [hq, Nat.mul_mod_left])
    · have := Nat.mul_le_mul h4 h5
      omega
theorem p2 : Prim 2 := prim_of 1 (by omega) (by decide) (fun d h1 h2 h3 => by omega)
theorem p3 : Prim 3 := prim_of 1 (by omega) (by decide) (fun d h1 h2 h3 => by omega)
theorem p5 : Prim 5 := prim_of 2 (by omega) (by decide) (fun d h1 h2 h3 => by
  rcases (show d = 2 ∨ d = 3 by omega) with rfl | rfl <;> decide)
theorem p7 : Prim 7 := prim_of 2 (by omega) (by decide) (fun d h1 h2 h3 => by
  rcases (show d = 2 ∨ d = 3 by omega) with rfl | rfl <;> decide)
theorem p251 : Prim 251 := prim_of 4 (by omega) (by decide) (fun d h1 h2 h3 => chk_all 4 0 (by decide +kernel) d (by omega) (by omega) h1)
theorem p65537 : Prim 65537 := prim_of 9 (by omega) (by decide) (fun d h1 h2 h3 => chk_all 9 0 (by decide +kernel) d (by omega) (by omega) h1)
theorem p4294967291 : Prim 4294967291 := prim_of 16 (by omega) (by decide) (fun d h1 h2 h3 => chk_all 16 0 (by decide +kernel) d (by omega) (by omega) h1)
end Fer
end Go.Proofs.Ytopajockmcgpmaa
