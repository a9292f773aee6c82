/- Times of a byte. -/
import Derived.Test.YtaocplcmmpbjjaaDoorOA
namespace Go.Proofs.YtaocplcmmpbjjaaDoor
open Go Go.RowKit Go.Maps Go.Shelf
namespace Sn
open Nt
theorem bytes_l (s : ByteArray) : s.data.toList.length = s.size := Array.length_toList
set_option linter.unusedVariables false
set_option linter.unusedSimpArgs false
set_option maxRecDepth 100000 in
set_option maxHeartbeats 1000000 in
theorem times_l (c : UInt8) (n : Nat) (hn : n ≤ 1048576) (w : World) :
    Calls Tryd.prog 12 #[.string ⟨#[c]⟩, .int .i64 (n : Int)] w fun e w' => ∃ z : ByteArray, e = .returned (.string z) ∧ Hid (z.data.toList = List.replicate n c) ∧ z.size ≤ 1048576 ∧ Below w.heap.size w w' := by
  go_enter Tryd.func12, Tryd.ntmps12
  go_wp2_with fail
  go_loopw [0, 1, 5] (fun sv nv ov W => ∃ (m a b : Nat) (o s : ByteArray), Hid (W = w) ∧ sv = .string s ∧ nv = .int .i64 (m : Int) ∧ ov = .string o ∧ Hid (a + m * b = n) ∧ m ≤ n ∧ o.size ≤ 1048576 ∧ s.size ≤ 2097154 ∧ Hid (o.data.toList = List.replicate a c ∧ s.data.toList = List.replicate b c)) (fun _ nv _ _ => (intOf nv).toNat)
  case atStart => exact ⟨n, 0, 1, ⟨#[]⟩, ⟨#[c]⟩, Lib.hid rfl, rfl, rfl, rfl, Lib.hid (by omega), Nat.le_refl _, by decide, by show (1 : Nat) ≤ 2097154; decide, Lib.hid ⟨rfl, rfl⟩⟩
  case round =>
    obtain ⟨m, a, b, o, s, HW, rfl, rfl, rfl, E, hm, ho, hs, H⟩ := hrel
    rcases Nat.eq_zero_or_pos m with rfl | hm0
    · have e := E.out
      have HZ := Lib.hid (show o.data.toList = List.replicate n c by rw [H.out.1]; congr 1; omega)
      clear e
      go_wp2_with fail
      go_ret
      exact ⟨o, rfl, HZ, ho, by rw [HW.out]; exact Below.refl _ _⟩
    · have hb : b ≤ n := by
        have e := E.out
        have : 1 * b ≤ m * b := Nat.mul_le_mul_right _ hm0
        omega
      have hob : o.size = a := by rw [← bytes_l, H.out.1, List.length_replicate]
      have hsb : s.size = b := by rw [← bytes_l, H.out.2, List.length_replicate]
      have hab : a + b ≤ n := by
        have e := E.out
        have : 1 * b ≤ m * b := Nat.mul_le_mul_right _ hm0
        omega
      have HSS : Hid ((s ++ s).data.toList = List.replicate (2 * b) c) := Lib.hid (by
        rw [ByteArray.data_append, Array.toList_append, H.out.2, List.replicate_append_replicate]; congr 1; omega)
      have HOS : Hid ((o ++ s).data.toList = List.replicate (a + b) c) := Lib.hid (by
        rw [ByteArray.data_append, Array.toList_append, H.out.1, H.out.2, List.replicate_append_replicate])
      have z1 := congrArg List.length HSS.out
      have z2 := congrArg List.length HOS.out
      rw [bytes_l, List.length_replicate] at z1 z2
      have Z1 := Lib.hid z1
      have Z2 := Lib.hid z2
      have HSB := Lib.hid hsb
      clear z1 z2 hob hsb
      rcases Nat.mod_two_eq_zero_or_one m with hp | hp
      · have hpi : ((m : Int) % 2 == 1) = false := by simp; omega
        have HM : Hid (a + m / 2 * (2 * b) = n) := Lib.hid (by
          have e := E.out
          obtain ⟨q, rfl⟩ : ∃ q, m = 2 * q := ⟨m / 2, by omega⟩
          rw [show 2 * q / 2 = q by omega]
          have : 2 * q * b = q * (2 * b) := by ac_rfl
          omega)
        have hpc : (m : Int) % 2 = 0 := by omega
        clear hp
        go_wp2_with fail
        go_roundw
        case rel => exact ⟨m / 2, a, 2 * b, o, _, HW, rfl, by go_num, rfl, HM, by omega, ho, by rw [Z1.out]; omega, Lib.hid ⟨H.out.1, HSS.out⟩⟩
        case measure => (simp [intOf] <;> omega)
      · have hpi : ((m : Int) % 2 == 1) = true := by simp; omega
        have HM : Hid (a + b + m / 2 * (2 * b) = n) := Lib.hid (by
          have e := E.out
          obtain ⟨q, rfl⟩ : ∃ q, m = 2 * q + 1 := ⟨m / 2, by omega⟩
          rw [show (2 * q + 1) / 2 = q by omega]
          have : (2 * q + 1) * b = q * (2 * b) + b := by rw [Nat.add_mul, Nat.one_mul]; congr 1; ac_rfl
          omega)
        have hpc : (m : Int) % 2 = 1 := by omega
        clear hp
        go_wp2_with fail
        go_roundw
        case rel => exact ⟨m / 2, a + b, 2 * b, _, _, HW, rfl, by go_num, rfl, HM, by omega, by rw [Z2.out]; omega, by rw [Z1.out]; omega, Lib.hid ⟨HOS.out, HSS.out⟩⟩
        case measure => (simp [intOf] <;> omega)


end Sn
end Go.Proofs.YtaocplcmmpbjjaaDoor
