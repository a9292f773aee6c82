/- Read: the walk. -/
import Derived.Test.YtdklchejnpaenaaDoorNatR
import Derived.Lib.TrimByte
import Derived.Deep.QuietTactic
import Derived.BigQuiet
namespace Go.Proofs.YtdklchejnpaenaaDoor
open Go Go.RowKit
namespace Nt
open Wd Sti
set_option linter.unusedVariables false

theorem bytes_get {s : ByteArray} {k : Nat} (h : k < s.size) : s.data.toList[k]? = some (s[k]'h) := by
  have : s.data.toList[k]? = s.data[k]? := by simp
  rw [this, Array.getElem?_eq_getElem h]
  rfl
theorem bytes_len (s : ByteArray) : s.data.toList.length = s.size := by rw [Array.length_toList]; rfl

set_option maxRecDepth 100000 in
theorem read_empty (s : ByteArray) (w : World) (h : s.data.toList = []) :
    Calls Tryd.prog 15 #[.string s] w fun e w' => e = .returned (.tuple #[.slice none 0 0, .int .i64 2]) ∧ w' = w := by
  obtain ⟨⟨l⟩⟩ := s
  have h' : l = [] := h
  subst h'
  clear h
  go_enter Tryd.func15, Tryd.ntmps15
  go_wp2_with fail
  go_ret2
  exact ⟨rfl, rfl⟩

/-- what is read of a text that is not empty -/
def ReadPost (w : World) (l : List UInt8) (e : Ending) (w' : World) : Prop :=
  (¬ isHex l → e = .returned (.tuple #[.slice none 0 0, .int .i64 7]) ∧ w' = w) ∧
  (isHex l → 8192 < (Lib.trimLeftB l 48).length → e = .returned (.tuple #[.slice none 0 0, .int .i64 3]) ∧ w' = w) ∧
  (isHex l → (Lib.trimLeftB l 48).length ≤ 8192 → ∃ v, e = .returned (.tuple #[v, .int .i64 0]) ∧ Ans w w' v (hexV (Lib.trimLeftB l 48)) (((Lib.trimLeftB l 48).length + 15) / 16))

/-- the digits from the lowest on -/
theorem hexV_drop {l : List UInt8} {k : Nat} (h : k < l.length) : hexV (l.drop (l.length - (k + 1))) = (dv_ (l[l.length - 1 - k]'(by omega)).toNat : Int) * 16 ^ k + hexV (l.drop (l.length - k)) := by
  rw [List.drop_eq_getElem_cons (by omega)]
  simp only [hexV]
  have e1 : l.length - (k + 1) + 1 = l.length - k := by omega
  have e2 : l.length - (k + 1) = l.length - 1 - k := by omega
  rw [e1]
  congr 2
  · simp only [e2]
  · congr 1; rw [List.length_drop]; omega
theorem dropWhile_head {l : List UInt8} {c b : UInt8} (h : (Lib.trimLeftB l c)[0]? = some b) : b ≠ c := by
  unfold Lib.trimLeftB at h
  induction l with
  | nil => cases h
  | cons x l ih =>
    rw [List.dropWhile_cons] at h
    split at h
    · exact ih h
    · rename_i hx
      simp at h
      subst h
      simpa using hx
theorem trimLeft_mem {l : List UInt8} {c b : UInt8} (h : b ∈ Lib.trimLeftB l c) : b ∈ l := List.dropWhile_sublist _ |>.subset h
/-- a number of digits whose first is none that is 0 is not small -/
theorem hexV_top {b : UInt8} {l : List UInt8} (h : dv_ b.toNat ≠ 0) : 16 ^ l.length ≤ hexV (b :: l) := by
  have h1 := pow16_pos l.length
  have h2 := (hexV_bd l).1
  have h3 : 1 * 16 ^ l.length ≤ (dv_ b.toNat : Int) * 16 ^ l.length := Int.mul_le_mul_of_nonneg_right (by omega) (by omega)
  simp only [hexV]
  omega
theorem dv_zero {c : Nat} (h : (hexd c).isSome = true) (h0 : dv_ c = 0) : c = 48 := by
  unfold dv_ at h0
  unfold hexd at h h0
  split at h0
  · simp at h0; omega
  · split at h0
    · simp at h0; omega
    · split at h0
      · simp at h0; omega
      · rename_i a b c
        rw [if_neg a, if_neg b, if_neg c] at h; cases h

/-- one digit more put into its limb -/
theorem put_digit {zs : List Int} {m i : Nat} {d : Int} (hz : Ws zs) (hl : zs.length = m) (hi : i / 16 < m) (hv : V zs < 16 ^ i) (hd0 : 0 ≤ d) (hd : d < 16) :
    bits .or .u64 (Nt.at_ zs (i / 16)) (d * 2 ^ (i % 16 * 4)) = Nt.at_ zs (i / 16) + d * 2 ^ (i % 16 * 4) ∧ 0 ≤ d * 2 ^ (i % 16 * 4) ∧ d * 2 ^ (i % 16 * 4) ≤ 18446744073709551615 ∧
    W (Nt.at_ zs (i / 16) + d * 2 ^ (i % 16 * 4)) ∧ V (zs.set (i / 16) (Nt.at_ zs (i / 16) + d * 2 ^ (i % 16 * 4))) = d * 16 ^ i + V zs := by
  have hr : i % 16 < 16 := Nat.mod_lt _ (by omega)
  have e : (16 : Int) ^ i = P (i / 16) * 16 ^ (i % 16) := by
    rw [← P16, ← Int.pow_add]; congr 1; omega
  have hp := P_pos (i / 16)
  have hlo : Nt.at_ zs (i / 16) < 16 ^ (i % 16) := by
    rw [V_at zs hz]
    have h1 : V zs / P (i / 16) < 16 ^ (i % 16) := Int.ediv_lt_of_lt_mul (by omega) (by rw [Int.mul_comm, ← e]; exact hv)
    have h2 : 0 ≤ V zs / P (i / 16) := Int.ediv_nonneg (V_nonneg hz) (by omega)
    generalize V zs / P (i / 16) = q at *
    omega
  have hw := hz.at_ (i / 16)
  have hmax : (16 : Int) ^ (i % 16) * 16 ≤ 18446744073709551616 := by
    have h1 : (16 : Int) ^ (i % 16) * 16 = 16 ^ (i % 16 + 1) := by rw [Int.pow_succ]
    have h2 : (16 : Int) ^ (i % 16 + 1) * 16 ^ (15 - i % 16) = 16 ^ 16 := by rw [← Int.pow_add]; congr 1; omega
    have h3 := pow16_pos (15 - i % 16)
    have h4 := pow16_pos (i % 16 + 1)
    have h5 : (16 : Int) ^ (i % 16 + 1) * 1 ≤ 16 ^ (i % 16 + 1) * 16 ^ (15 - i % 16) := Int.mul_le_mul_of_nonneg_left h3 (by omega)
    have h6 : (16 : Int) ^ 16 = 18446744073709551616 := rfl
    omega
  have hq := pow16_pos (i % 16)
  rw [pow16]
  have hd1 : 0 ≤ d * 16 ^ (i % 16) := Int.mul_nonneg hd0 (by omega)
  have hd2 : d * 16 ^ (i % 16) ≤ 15 * 16 ^ (i % 16) := Int.mul_le_mul_of_nonneg_right (by omega) (by omega)
  unfold Wd.W at hw ⊢
  refine ⟨?_, hd1, by omega, ⟨by omega, by omega⟩, ?_⟩
  · have hm : (d * 16 ^ (i % 16)) % 2 ^ (i % 16 * 4) = 0 := by rw [pow16, Int.mul_emod_left]
    exact or_up hd1 (by omega) hm hw.1 (by rw [pow16]; exact hlo) hw.2
  · rw [V_set _ _ _ (by omega), e, show Nt.at_ zs (i / 16) + d * 16 ^ (i % 16) - Nt.at_ zs (i / 16) = d * 16 ^ (i % 16) by omega, Int.mul_left_comm]
    omega
end Nt
end Go.Proofs.YtdklchejnpaenaaDoor
