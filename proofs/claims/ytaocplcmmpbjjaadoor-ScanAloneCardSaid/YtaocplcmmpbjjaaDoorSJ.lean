/- Plain: what digits tell. -/
import Derived.Test.YtaocplcmmpbjjaaDoorSI
namespace Go.Proofs.YtaocplcmmpbjjaaDoor
open Go Go.RowKit
namespace Sn
set_option linter.unusedVariables false
set_option linter.unusedSimpArgs false
def valD (ds : List Nat) (n : Nat) : Nat := ds.foldl (fun v d => v * 10 + d) n
def numD : List Nat → Nat → Option Nat
  | [], n => some n
  | d :: ds, n => if (18446744073709551615 - d) / 10 < n then none else numD ds (10 * n + d)
theorem valD_ge : ∀ (ds : List Nat) (n : Nat), n ≤ valD ds n
  | [], n => Nat.le_refl _
  | d :: ds, n => by
    have := valD_ge ds (n * 10 + d)
    show n ≤ valD ds (n * 10 + d)
    omega
theorem numD_eq : ∀ (ds : List Nat) (n : Nat), (∀ d ∈ ds, d ≤ 9) → n ≤ 18446744073709551615 → numD ds n = if 18446744073709551615 < valD ds n then none else some (valD ds n)
  | [], n, _, hn => by
    show some n = if 18446744073709551615 < n then none else some n
    rw [if_neg (by omega)]
  | d :: ds, n, hd, hn => by
    have h9 := hd d (by simp)
    show (if (18446744073709551615 - d) / 10 < n then none else numD ds (10 * n + d)) = if 18446744073709551615 < valD ds (n * 10 + d) then none else some (valD ds (n * 10 + d))
    by_cases h : (18446744073709551615 - d) / 10 < n
    · rw [if_pos h, if_pos]
      have := valD_ge ds (n * 10 + d)
      omega
    · rw [if_neg h, numD_eq ds _ (fun x hx => hd x (by simp [hx])) (by omega), show 10 * n + d = n * 10 + d by omega]
/-- a text of digits -/
theorem numF_digits (t : ByteArray) : ∀ (ds : List Nat) (f j n : Nat), (∀ d ∈ ds, d ≤ 9) → j + ds.length = t.size → ds.length ≤ f → (∀ i d, ds[i]? = some d → Utf8.decode t (j + i) = (48 + d, 1)) → numF t f j n = numD ds n
  | [], f, j, n, _, hj, _, _ => numF_end t f j n (by simp at hj; omega)
  | d :: ds, 0, j, n, _, _, hf, _ => by simp at hf
  | d :: ds, f + 1, j, n, hd, hj, hf, hdec => by
    have h0 : Utf8.decode t j = (48 + d, 1) := hdec 0 d rfl
    have h9 := hd d (by simp)
    rw [numF_step t f j n (by simp at hj; omega), h0]
    have e1 : digR (48 + d) = true := by unfold digR; simp; omega
    rw [if_pos e1]
    show (if (18446744073709551615 - (48 + d - 48)) / 10 < n then none else numF t f (j + 1) (10 * n + (48 + d - 48))) = if (18446744073709551615 - d) / 10 < n then none else numD ds (10 * n + d)
    rw [show 48 + d - 48 = d by omega, numF_digits t ds f (j + 1) _ (fun x hx => hd x (by simp [hx])) (by simp at hj; omega) (by simp at hf; omega) (fun i x hx => by
      have := hdec (i + 1) x (by simpa using hx)
      rw [show j + 1 + i = j + (i + 1) by omega]
      exact this)]
theorem numR_digits (t : ByteArray) (ds : List Nat) (hd : ∀ d ∈ ds, d ≤ 9) (hl : ds.length = t.size) (h0 : ds ≠ []) (hdec : ∀ i d, ds[i]? = some d → Utf8.decode t i = (48 + d, 1)) :
    numR t = if 18446744073709551615 < valD ds 0 then none else some (valD ds 0) := by
  have hp : 0 < ds.length := List.length_pos_iff.2 h0
  unfold numR
  rw [if_neg (by omega), numF_digits t ds t.size 0 0 hd (by omega) (by omega) (fun i d hi => by rw [Nat.zero_add]; exact hdec i d hi)]
  exact numD_eq ds 0 hd (by omega)
/-- a rune below 128 is a byte -/
theorem decode_low (s : ByteArray) (p : Nat) (hp : p < s.size) (h : (Utf8.decode s p).1 < 128) : (s[p]'hp).toNat < 128 ∧ Utf8.decode s p = ((s[p]'hp).toNat, 1) := by
  by_cases hb : (s[p]'hp).toNat < 128
  · exact ⟨hb, decode_ascii s p hp hb⟩
  · have := (decode_high s p hp (by omega)).1
    omega
theorem decode_cut (s : ByteArray) (p b i : Nat) (hi : p + i < b) (hb : b ≤ s.size) (h : (Utf8.decode s (p + i)).1 < 128) : Utf8.decode (s.extract p b) i = Utf8.decode s (p + i) := by
  obtain ⟨h1, h2⟩ := decode_low s (p + i) (by omega) h
  have hsz : i < (s.extract p b).size := by rw [ByteArray.size_extract]; omega
  have hg : (s.extract p b)[i]'hsz = s[p + i]'(by omega) := ByteArray.getElem_extract _
  rw [h2, decode_ascii (s.extract p b) i hsz (by rw [hg]; exact h1), hg]
end Sn
end Go.Proofs.YtaocplcmmpbjjaaDoor
