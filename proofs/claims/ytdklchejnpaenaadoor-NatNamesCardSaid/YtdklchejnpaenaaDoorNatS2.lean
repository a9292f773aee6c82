/- Low, Fit, Bits, Bit, Sub. -/
import Derived.Test.YtdklchejnpaenaaDoorNatS
import Derived.Test.YtdklchejnpaenaaDoorWordB
import Derived.Test.YtdklchejnpaenaaDoorRefM
namespace Go.Proofs.YtdklchejnpaenaaDoor
open Go Go.RowKit
namespace Nt
open Wd Sti
set_option linter.unusedVariables false

theorem low_n (A : Option Addr) (n c B : Nat) (k : Int) (xs : List Int) (w : World) (h : Rd w B A n xs) (hB : B ≤ w.heap.size) (hc : n ≤ c ∧ n ≤ 1073741824) (hn : c ≤ 9223372036854775807) (hk : (Lit.int .i64 k).wf = true) :
    Calls Tryd.prog 25 #[.slice A n c, .int .i64 k] w fun e w' => ∃ v, e = .returned v ∧ Ans w w' v (lo xs k.toNat) (min k.toNat n) := by
  obtain ⟨hc, hcn⟩ := hc
  have hk' : -9223372036854775808 ≤ k ∧ k ≤ 9223372036854775807 := by
    simp [Lit.wf, IntKind.min, IntKind.max, IntKind.signed, IntKind.bits] at hk; omega
  obtain ⟨hk1, hk2⟩ := hk'
  clear hk
  have HL := Lib.hid h.len
  obtain ⟨m, hm⟩ : ∃ m, m = (min (max k 0) (n : Int)).toNat := ⟨_, rfl⟩
  have HT := Lib.hid (trim_n A m c B (xs.take m) w (h.take (by omega)) hB (by omega) (by omega))
  have e1 : V (xs.take m) = lo xs k.toNat := by
    by_cases h1 : k.toNat ≤ n
    · rw [show k.toNat = m by omega]; rfl
    · rw [lo_all (by have := HL.out; omega), List.take_of_length_le (by have := HL.out; omega)]
  have e2 : m = min k.toNat n := by omega
  rw [e1, e2, show min k.toNat n = (min (max k 0) (n : Int)).toNat by omega] at HT
  have E := Lib.hid (show min k.toNat n = (min (max k 0) (n : Int)).toNat by omega)
  have h2 : 0 ≤ min (max k 0) (n : Int) := by omega
  have h3 : min (max k 0) (n : Int) ≤ c := by omega
  clear h e1 e2 hm
  go_enter Tryd.func25, Tryd.ntmps25
  go_wp2_with (go_at_call 22; refine HT.out.mono ?_; rintro e w' ⟨v, rfl, hv⟩; have HV := Lib.hid hv; clear hv)
  go_ret
  exact ⟨_, rfl, by rw [E.out]; exact HV.out⟩

theorem fit_bad (A : Option Addr) (n c : Nat) (k : Int) (w : World) (hk : k < 0 ∨ 512 < k) :
    Calls Tryd.prog 14 #[.slice A n c, .int .i64 k] w fun e w' => e = .returned (.tuple #[.slice none 0 0, .int .i64 2]) ∧ w' = w := by
  by_cases h0 : k < 0
  · clear hk
    go_enter Tryd.func14, Tryd.ntmps14
    go_wp2_with fail
    go_ret2
    exact ⟨rfl, rfl⟩
  · have h1 : 512 < k := by omega
    clear hk
    go_enter Tryd.func14, Tryd.ntmps14
    go_wp2_with fail
    go_ret2
    exact ⟨rfl, rfl⟩
theorem fit_long (A : Option Addr) (n c k B : Nat) (xs : List Int) (w : World) (h : Rd w B A n xs) (hc : n ≤ c ∧ n ≤ 1073741824) (hn : c ≤ 9223372036854775807) (hk : k ≤ 512) (hl : k < (trim xs).length) :
    Calls Tryd.prog 14 #[.slice A n c, .int .i64 (k : Int)] w fun e w' => e = .returned (.tuple #[.slice none 0 0, .int .i64 3]) ∧ w' = w := by
  obtain ⟨hc, hcn⟩ := hc
  have HT := Lib.hid (trimmed_c A n c B xs w h hc (by omega))
  clear h
  generalize (trim xs).length = m at *
  go_enter Tryd.func14, Tryd.ntmps14
  go_wp2_with (go_at_call 44; refine HT.out.mono ?_; rintro e w' ⟨rfl, rfl⟩)
  go_ret2
  exact ⟨rfl, rfl⟩
set_option maxRecDepth 100000 in
theorem fit_ok (A : Option Addr) (n c k B : Nat) (xs : List Int) (w : World) (h : Rd w B A n xs) (hB : B ≤ w.heap.size) (hc : n ≤ c ∧ n ≤ 1073741824) (hn : c ≤ 9223372036854775807) (hk : k ≤ 512) (hl : (trim xs).length ≤ k) :
    Calls Tryd.prog 14 #[.slice A n c, .int .i64 (k : Int)] w fun e w' => e = .returned (.tuple #[.slice (some ⟨w.heap.size, 0, none⟩) k k, .int .i64 0]) ∧
      Bk w' w.heap.size 28 (us (trim xs ++ List.replicate (k - (trim xs).length) 0)) ∧ Below w.heap.size w w' := by
  obtain ⟨hc, hcn⟩ := hc
  have HT := Lib.hid (trimmed_c A n c B xs w h hc (by omega))
  have hmk := make_nat k (by omega) w
  obtain ⟨w2, hcp, h2, hg⟩ := copy_run (dLen := k) (dCap := k) (c := c) 24 24 3 Tryd.underlying24 (Bk.new' (w := w) rfl (t := 28) (cs := us (List.replicate k 0))) (by simp) (h.trim.keep (w' := w.alloc (.cells (us (List.replicate k 0)) 28)) (fun p hp => World.cell?_alloc_lt w _ p (by omega))) hl
  have hb := below_of_own hg
  rw [List.drop_replicate] at h2
  have H2 := Lib.hid h2
  have HB := Lib.hid hb
  clear hg h h2 hb
  obtain ⟨m, hm⟩ : ∃ m, m = (trim xs).length := ⟨_, rfl⟩
  rw [← hm] at HT H2 hcp hl ⊢
  clear hm
  have HCP := Lib.hid hcp
  have HMK := Lib.hid hmk
  have hk' : ((k : Nat) : Int) < 513 := by omega
  have hl' : (m : Int) ≤ (k : Int) := by omega
  clear hcp hmk hk hl hB
  go_enter Tryd.func14, Tryd.ntmps14
  go_wp2_with fail
  go_at_call 44
  refine HT.out.mono ?_; rintro e w' ⟨rfl, rfl⟩
  have hcp := HCP.out
  have hmk := HMK.out
  clear HT
  go_wp2_with fail
  go_ret2
  exact ⟨rfl, H2.out, HB.out⟩

/-! ### Bits -/
def nbits (zs : List Int) : Nat := if zs.length = 0 then 0 else (zs.length - 1) * 64 + Lib.bitLen (Nt.at_ zs (zs.length - 1)).toNat
theorem bits_n (A : Option Addr) (n c B : Nat) (xs : List Int) (w : World) (h : Rd w B A n xs) (hc : n ≤ c ∧ n ≤ 1073741824) (hn : c ≤ 9223372036854775807) :
    Calls Tryd.prog 23 #[.slice A n c] w fun e w' => e = .returned (.int .i64 (nbits (trim xs))) ∧ w' = w := by
  obtain ⟨hc, hcn⟩ := hc
  have HT := Lib.hid (trimmed_c A n c B xs w h hc (by omega))
  have ht := h.trim
  have hl : (trim xs).length ≤ n := by have := trim_le xs; have := h.len; omega
  generalize trim xs = zs at *
  clear h
  obtain ⟨m, hm⟩ : ∃ m, zs.length = m := ⟨_, rfl⟩
  rw [hm] at HT ht hl
  unfold nbits
  rw [hm]
  rcases Nat.eq_zero_or_pos m with rfl | h0
  · have HM := Lib.hid hm
    clear ht hm
    go_enter Tryd.func23, Tryd.ntmps23
    go_wp2_with (go_at_call 44; refine HT.out.mono ?_; rintro e w' ⟨rfl, rfl⟩)
    go_ret
    exact ⟨rfl, rfl⟩
  · obtain ⟨i, rfl⟩ : ∃ i, m = i + 1 := ⟨m - 1, by omega⟩
    obtain ⟨ad, rfl, _, hcell⟩ := ht.at_ (k := i) (by omega)
    have HM := Lib.hid hm
    have hw := ht.ws.at_ i
    have hbl := (bl_spec (Nt.at_ zs i).toNat (by unfold Wd.W at hw; omega)).2.2
    have HC := fun w => Lib.hid (bits_c (Nt.at_ zs i) w hw)
    rw [if_neg (by omega), Nat.add_sub_cancel]
    clear ht hm
    have he : ((i : Int) + 1 == 0) = false := by simp; omega
    generalize Lib.bitLen (Nt.at_ zs i).toNat = b at *
    generalize Nt.at_ zs i = z at *
    go_enter Tryd.func23, Tryd.ntmps23
    go_wp2_with (first
      | (go_at_call 44; refine HT.out.mono ?_; rintro e w' ⟨rfl, rfl⟩)
      | (go_at_call 58; refine (HC _).out.mono ?_; rintro e w' ⟨rfl, rfl⟩))
    go_ret
    exact ⟨by simp, rfl⟩

/-! ### Bit -/
theorem two_P (k : Nat) : (2 : Int) ^ (64 * k) = P k := by
  induction k with
  | zero => rfl
  | succ k ih => rw [show 64 * (k + 1) = 64 * k + 64 by omega, Int.pow_add, ih, P_succ, Int.mul_comm]; rfl
theorem pow_pos2 (r : Nat) : (1 : Int) ≤ 2 ^ r := pow_pos' r
theorem bit_at {xs : List Int} (h : Ws xs) (i : Nat) : Nt.at_ xs (i / 64) / 2 ^ (i % 64) % 2 = V xs / 2 ^ i % 2 := by
  rw [V_at xs h]
  have e : (2 : Int) ^ i = P (i / 64) * 2 ^ (i % 64) := by
    rw [← two_P, ← Int.pow_add]; congr 1; omega
  have hp := P_pos (i / 64)
  rw [e, ← Int.ediv_ediv_of_nonneg (by omega)]
  generalize V xs / P (i / 64) = q
  have hr : i % 64 < 64 := Nat.mod_lt _ (by omega)
  generalize i % 64 = r at *
  have e2 : (18446744073709551616 : Int) = 2 ^ r * (2 * 2 ^ (63 - r)) := by
    have : (2 : Int) ^ 64 = 2 ^ r * (2 * 2 ^ (63 - r)) := by
      rw [show (2 : Int) * 2 ^ (63 - r) = 2 ^ (64 - r) by rw [show 64 - r = (63 - r) + 1 by omega, Int.pow_succ]; omega, ← Int.pow_add]; congr 1; omega
    exact this
  have h1 := pow_pos2 r
  have h2 := pow_pos2 (63 - r)
  rw [e2]
  generalize (2 : Int) ^ r = a at *
  generalize (2 : Int) ^ (63 - r) = b at *
  have e3 := Int.emod_def q (a * (2 * b))
  have e4 : q % (a * (2 * b)) = q - a * (2 * b) * (q / (a * (2 * b))) := e3
  rw [e4, show q - a * (2 * b) * (q / (a * (2 * b))) = q + a * (-(2 * b) * (q / (a * (2 * b)))) by
    rw [Int.neg_mul, Int.mul_neg, Int.mul_assoc, Int.sub_eq_add_neg], Int.add_mul_ediv_left _ _ (by omega)]
  rw [show -(2 * b) * (q / (a * (2 * b))) = 2 * (-(b * (q / (a * (2 * b))))) by rw [Int.neg_mul, Int.mul_assoc, Int.mul_neg], Int.add_mul_emod_self_left]
def bitAt (v i : Int) : Bool := decide (0 ≤ i) && decide (v / 2 ^ i.toNat % 2 = 1)
theorem bit_n (A : Option Addr) (n c B : Nat) (i : Int) (xs : List Int) (w : World) (h : Rd w B A n xs) (hi : (Lit.int .i64 i).wf = true) :
    Calls Tryd.prog 24 #[.slice A n c, .int .i64 i] w fun e w' => e = .returned (.bool (bitAt (V xs) i)) ∧ w' = w := by
  have hk' : -9223372036854775808 ≤ i ∧ i ≤ 9223372036854775807 := by
    simp [Lit.wf, IntKind.min, IntKind.max, IntKind.signed, IntKind.bits] at hi; omega
  obtain ⟨hk1, hk2⟩ := hk'
  clear hi
  by_cases h0 : i < 0
  · have e : bitAt (V xs) i = false := by unfold bitAt; rw [decide_eq_false (by omega)]; rfl
    rw [e]
    clear h e
    go_enter Tryd.func24, Tryd.ntmps24
    go_wp2_with fail
    go_ret
    exact ⟨rfl, rfl⟩
  · obtain ⟨j, rfl⟩ : ∃ j : Nat, i = j := ⟨i.toNat, by omega⟩
    have HL := Lib.hid (limb_c A n c (j / 64) B xs w h (by omega))
    have HB := Lib.hid (bit_at h.ws j)
    have hw := h.ws.at_ (j / 64)
    unfold bitAt
    rw [decide_eq_true (by omega), Bool.true_and, Int.toNat_natCast, ← HB.out]
    clear h HB
    generalize Nt.at_ xs (j / 64) = z at *
    unfold Wd.W at hw
    obtain ⟨hw1, hw2⟩ := hw
    go_enter Tryd.func24, Tryd.ntmps24
    go_wp2_with (go_at_call 51; refine HL.out.mono ?_; rintro e w' ⟨rfl, rfl⟩)
    go_ret
    refine ⟨ret_b ?_, rfl⟩
    have h1 := pow_pos2 (j % 64)
    have hq : 0 ≤ z / 2 ^ (j % 64) ∧ z / 2 ^ (j % 64) ≤ 18446744073709551615 := ⟨Int.ediv_nonneg hw1 (by omega), Int.le_trans (Int.ediv_le_self _ hw1) hw2⟩
    show (bits BinOp.and IntKind.u64 (z / 2 ^ (j % 64)) 1 == 1) = _
    rw [Wd.and_one _ hq.1 hq.2, Bool.eq_iff_iff]
    simp
end Nt
end Go.Proofs.YtdklchejnpaenaaDoor
