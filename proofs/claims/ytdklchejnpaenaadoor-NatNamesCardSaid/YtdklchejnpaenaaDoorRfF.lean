/- The document's own Text. -/
import Derived.Test.YtdklchejnpaenaaDoorRfE
import Derived.Test.YtdklchejnpaenaaDoorHexM
namespace Go.Proofs.YtdklchejnpaenaaDoor
open Go Go.RowKit
namespace Nt
open Wd Sti
set_option linter.unusedVariables false

theorem hexes_take (v : Int) (N j : Nat) (h : j < N) : (hexes v N).take (N - j) = (hexes v N).take (N - (j + 1)) ++ [hexb (dig v j)] := by
  rw [show N - j = (N - (j + 1)) + 1 by omega, List.take_add_one, hexes_get v N (N - (j + 1)) (by omega), show N - 1 - (N - (j + 1)) = j by omega]
  rfl

theorem hex_sl : ∀ (d : Nat), d < 16 → ∀ w : World,
    (Instr.slice 9 (.string ⟨#[48, 49, 50, 51, 52, 53, 54, 55, 56, 57, 97, 98, 99, 100, 101, 102]⟩) (some (.int .u64 (d : Int))) (some (.int .u64 ((d : Int) + 1))) none).run Tryd.prog w = .ok (.string ⟨#[hexb d]⟩) w
  | 0, _, _ => by kernel_rfl
  | 1, _, _ => by kernel_rfl
  | 2, _, _ => by kernel_rfl
  | 3, _, _ => by kernel_rfl
  | 4, _, _ => by kernel_rfl
  | 5, _, _ => by kernel_rfl
  | 6, _, _ => by kernel_rfl
  | 7, _, _ => by kernel_rfl
  | 8, _, _ => by kernel_rfl
  | 9, _, _ => by kernel_rfl
  | 10, _, _ => by kernel_rfl
  | 11, _, _ => by kernel_rfl
  | 12, _, _ => by kernel_rfl
  | 13, _, _ => by kernel_rfl
  | 14, _, _ => by kernel_rfl
  | 15, _, _ => by kernel_rfl
  | d + 16, h, _ => absurd h (by omega)
set_option maxRecDepth 100000 in
set_option maxHeartbeats 2000000 in
theorem text_r (A : Option Addr) (n c : Nat) (xs : List Int) (w : World) (h : At w A n xs) (hc : n ≤ c ∧ n ≤ 262144) (hn : c ≤ 9223372036854775807) :
    Calls Tryd.prog 38 #[.slice A n c] w fun e w' => e = .returned (.string ⟨(hexes (V xs) (digs xs)).toArray⟩) ∧ Below w.heap.size w w' := by
  obtain ⟨hc, hcn⟩ := hc
  have HB := Lib.hid (bits_r A n c xs w h hc hn (by omega))
  have hbl := nbits_le h.ws.trim
  have hl : (trim xs).length ≤ n := by have := trim_le xs; have := h.len; omega
  obtain ⟨N, hN⟩ : ∃ N, N = (nbits (trim xs) + 3) / 4 := ⟨_, rfl⟩
  have HN : Hid (digs xs = max 1 N) := Lib.hid (by rw [hN]; rfl)
  have HZ : Hid (N = 0 → V xs = 0) := Lib.hid (fun h0 => by
    have := nbits_R h.ws.trim (trim_trim xs)
    rw [V_trim] at this
    rcases Int.lt_trichotomy (V xs) 0 with h1 | h1 | h1
    · have := V_nonneg h.ws; omega
    · exact h1
    · have := (this.lo (by omega)).1; omega)
  have H := Lib.hid h
  have hbN : ((nbits (trim xs) : Int) + 3) / 4 = (N : Int) := by omega
  have hN2 : N ≤ 8388608 := by omega
  have hb : (nbits (trim xs) : Int) ≤ 33554432 := by omega
  have HBN := Lib.hid hbN
  clear h hN hl hbN
  generalize nbits (trim xs) = b at *
  go_enter Tryd.func38, Tryd.ntmps38
  go_wp2_with fail
  go_at_call 35
  refine HB.out.mono ?_
  rintro e w' ⟨rfl, hbb⟩
  have HBB := Lib.hid hbb
  clear hbb HB
  obtain ⟨w1, rfl⟩ : ∃ w1, w1 = w' := ⟨_, rfl⟩
  have R1 := Lib.hid (H.out.below HBB.out)
  go_wp2_with fail
  go_loopw [3, 4] (fun s i W => ∃ j : Nat, Hid (W = w1) ∧ j ≤ N ∧ s = .string ⟨((hexes (V xs) N).take (N - j)).toArray⟩ ∧ i = .int .i64 (j : Int)) (fun _ i _ => (intOf i).toNat)
  case atStart => exact ⟨N, Lib.hid rfl, Nat.le_refl _, by rw [Nat.sub_self]; rfl, by rw [HBN.out]⟩
  case round =>
    obtain ⟨j, HW, hj, rfl, rfl⟩ := hrel
    rcases Nat.eq_zero_or_pos j with rfl | hj0
    · have hall : (hexes (V xs) N).take (N - 0) = hexes (V xs) N := by rw [Nat.sub_zero, List.take_of_length_le (by rw [hexes_len]; exact Nat.le_refl _)]
      rw [hall]
      clear hall
      rcases Nat.eq_zero_or_pos N with rfl | hN0
      · have hv : hexes (V xs) (digs xs) = [48] := by rw [HN.out, HZ.out rfl]; decide
        have HV := Lib.hid hv
        have he : (hexes (V xs) 0).isEmpty = true := rfl
        clear hv
        go_wp2_with fail
        go_ret
        exact ⟨by rw [HV.out]; rfl, by rw [HW.out]; exact HBB.out⟩
      · have hv : hexes (V xs) (digs xs) = hexes (V xs) N := by rw [HN.out, show max 1 N = N by omega]
        have he : (hexes (V xs) N).isEmpty = false := by
          rw [List.isEmpty_eq_false_iff]
          intro e
          have := hexes_len (V xs) N
          rw [e] at this
          simp at this; omega
        have HV := Lib.hid hv
        clear hv
        generalize hexes (V xs) N = l at *
        go_wp2_with fail
        go_ret
        exact ⟨by rw [HV.out]; rfl, by rw [HW.out]; exact HBB.out⟩
    · obtain ⟨k, rfl⟩ : ∃ k, j = k + 1 := ⟨j - 1, by omega⟩
      have HL := Lib.hid ((limb_r A n c (k / 16) w.heap.size xs wr (by rw [HW.out]; exact R1.out) (by omega)).mono (R' := fun e w' => e = .returned (.int .u64 (Nt.at_ xs (k / 16))) ∧ wr = w') fun _ _ h => ⟨h.1, h.2.symm⟩)
      have hw := R1.out.ws.at_ (k / 16)
      have hdd : ((dig (V xs) k : Nat) : Int) = Nt.at_ xs (k / 16) / 2 ^ (k % 16 * 4) % 16 := by
        rw [nib_at R1.out.ws k]; unfold dig; omega
      have hd := dig_lt (V xs) k
      generalize Nt.at_ xs (k / 16) = z at *
      unfold Wd.W at hw
      obtain ⟨hw1, hw2⟩ := hw
      have h1 := pow_pos2 (k % 16 * 4)
      have hq : 0 ≤ z / 2 ^ (k % 16 * 4) ∧ z / 2 ^ (k % 16 * 4) ≤ 18446744073709551615 := ⟨Int.ediv_nonneg hw1 (by omega), Int.le_trans (Int.ediv_le_self _ hw1) hw2⟩
      have hand : bits .and .u64 (z / 2 ^ (4 * (k % 16))) 15 = ((dig (V xs) k : Nat) : Int) := by rw [Nat.mul_comm, and_15 _ hq.1 hq.2, hdd]
      have hsl := hex_sl (dig (V xs) k) hd
      have HTK := Lib.hid (hexes_take (V xs) N k (by omega))
      generalize hexb (dig (V xs) k) = hb at *
      generalize dig (V xs) k = dd at *
      have hd2 : (dd : Int) ≤ 15 := by omega
      have hd3 : 0 ≤ (dd : Int) := by omega
      clear hdd h1 hq
      go_wp2_with fail
      go_at_call 60
      refine HL.out.mono ?_
      rintro e w' ⟨rfl, rfl⟩
      go_wp2_with fail
      go_roundw
      case rel => exact ⟨k, HW, by omega, by rw [HTK.out]; exact congrArg Value.string (ByteArray.mk_append_mk _ [hb]), by go_num⟩
      case measure => (simp [intOf] <;> omega)
end Nt
end Go.Proofs.YtdklchejnpaenaaDoor
