/- Low, Fit, Bits, Bit, Sub. | Text: a natural's digits by sixteen. | Sub: the difference of two naturals. | Read: the natural of a text. | Read: the walk. | Read: the walk. -/
import Derived.Test.YtopajockmcgpmaaB2
import Derived.Test.YtopajockmcgpmaaB3
import Derived.Laws.IdiomStrings
import Derived.Still
import Derived.StillTail
import Derived.Lib.TrimByte
import Derived.Deep.QuietTactic
import Derived.BigQuiet
import Derived.RegionTactic
import Derived.BigRegion
namespace Go.Proofs.Ytopajockmcgpmaa
open Go Go.RowKit
namespace Nt
open Wd Sti
set_option linter.unusedVariables false
/-! ### Bits -/
def nbits (zs : List Int) : Nat := if zs.length = 0 then 0 else (zs.length - 1) * 64 + Lib.bitLen (Nt.at_ zs (zs.length - 1)).toNat
theorem bits_n (A : Option Addr) (n c B : Nat) (xs : List Int) (w : World) (h : Rd w B A n xs) (hc : n ≤ c ∧ n ≤ 1073741824) (hn : c ≤ 9223372036854775807) :
    Calls Try.prog 40 #[.slice A n c] w fun e w' => e = .returned (.int .i64 (nbits (trim xs))) ∧ w' = w := by
  obtain ⟨hc, hcn⟩ := hc
  have HT := Lib.hid (trimmed_c A n c B xs w h hc (by omega))
  have ht := h.trim
  have hl : (trim xs).length ≤ n := by have := trim_le xs; have := h.len; omega
  generalize trim xs = zs at *
  clear h
  obtain ⟨m, hm⟩ : ∃ m, zs.length = m := ⟨_, rfl⟩
  rw [hm] at HT ht hl
  unfold nbits
  rw [hm]
  rcases Nat.eq_zero_or_pos m with rfl | h0
  · have HM := Lib.hid hm
    clear ht hm
    go_enter Try.func40, Try.ntmps40
    go_wp2_with (go_at_call 64; refine HT.out.mono ?_; rintro e w' ⟨rfl, rfl⟩)
    go_ret
    exact ⟨rfl, rfl⟩
  · obtain ⟨i, rfl⟩ : ∃ i, m = i + 1 := ⟨m - 1, by omega⟩
    obtain ⟨ad, rfl, _, hcell⟩ := ht.at_ (k := i) (by omega)
    have HM := Lib.hid hm
    have hw := ht.ws.at_ i
    have hbl := (bl_spec (Nt.at_ zs i).toNat (by unfold Wd.W at hw; omega)).2.2
    have HC := fun w => Lib.hid (bits_c (Nt.at_ zs i) w hw)
    rw [if_neg (by omega), Nat.add_sub_cancel]
    clear ht hm
    have he : ((i : Int) + 1 == 0) = false := by simp; omega
    generalize Lib.bitLen (Nt.at_ zs i).toNat = b at *
    generalize Nt.at_ zs i = z at *
    go_enter Try.func40, Try.ntmps40
    go_wp2_with (first
      | (go_at_call 64; refine HT.out.mono ?_; rintro e w' ⟨rfl, rfl⟩)
      | (go_at_call 65; refine (HC _).out.mono ?_; rintro e w' ⟨rfl, rfl⟩))
    go_ret
    exact ⟨by simp, rfl⟩

/-! ### Bit -/
theorem two_P (k : Nat) : (2 : Int) ^ (64 * k) = P k := by
  induction k with
  | zero => rfl
  | succ k ih => rw [show 64 * (k + 1) = 64 * k + 64 by omega, Int.pow_add, ih, P_succ, Int.mul_comm]; rfl
theorem pow_pos2 (r : Nat) : (1 : Int) ≤ 2 ^ r := pow_pos' r
theorem bit_at {xs : List Int} (h : Ws xs) (i : Nat) : Nt.at_ xs (i / 64) / 2 ^ (i % 64) % 2 = V xs / 2 ^ i % 2 := by
  rw [V_at xs h]
  have e : (2 : Int) ^ i = P (i / 64) * 2 ^ (i % 64) := by
    rw [← two_P, ← Int.pow_add]; congr 1; omega
  have hp := P_pos (i / 64)
  rw [e, ← Int.ediv_ediv_of_nonneg (by omega)]
  generalize V xs / P (i / 64) = q
  have hr : i % 64 < 64 := Nat.mod_lt _ (by omega)
  generalize i % 64 = r at *
  have e2 : (18446744073709551616 : Int) = 2 ^ r * (2 * 2 ^ (63 - r)) := by
    have : (2 : Int) ^ 64 = 2 ^ r * (2 * 2 ^ (63 - r)) := by
      rw [show (2 : Int) * 2 ^ (63 - r) = 2 ^ (64 - r) by rw [show 64 - r = (63 - r) + 1 by omega, Int.pow_succ]; omega, ← Int.pow_add]; congr 1; omega
    exact this
  have h1 := pow_pos2 r
  have h2 := pow_pos2 (63 - r)
  rw [e2]
  generalize (2 : Int) ^ r = a at *
  generalize (2 : Int) ^ (63 - r) = b at *
  have e3 := Int.emod_def q (a * (2 * b))
  have e4 : q % (a * (2 * b)) = q - a * (2 * b) * (q / (a * (2 * b))) := e3
  rw [e4, show q - a * (2 * b) * (q / (a * (2 * b))) = q + a * (-(2 * b) * (q / (a * (2 * b)))) by
    rw [Int.neg_mul, Int.mul_neg, Int.mul_assoc, Int.sub_eq_add_neg], Int.add_mul_ediv_left _ _ (by omega)]
  rw [show -(2 * b) * (q / (a * (2 * b))) = 2 * (-(b * (q / (a * (2 * b))))) by rw [Int.neg_mul, Int.mul_assoc, Int.mul_neg], Int.add_mul_emod_self_left]
def bitAt (v i : Int) : Bool := decide (0 ≤ i) && decide (v / 2 ^ i.toNat % 2 = 1)
theorem bit_n (A : Option Addr) (n c B : Nat) (i : Int) (xs : List Int) (w : World) (h : Rd w B A n xs) (hi : (Lit.int .i64 i).wf = true) :
    Calls Try.prog 43 #[.slice A n c, .int .i64 i] w fun e w' => e = .returned (.bool (bitAt (V xs) i)) ∧ w' = w := by
  have hk' : -9223372036854775808 ≤ i ∧ i ≤ 9223372036854775807 := by
    simp [Lit.wf, IntKind.min, IntKind.max, IntKind.signed, IntKind.bits] at hi; omega
  obtain ⟨hk1, hk2⟩ := hk'
  clear hi
  by_cases h0 : i < 0
  · have e : bitAt (V xs) i = false := by unfold bitAt; rw [decide_eq_false (by omega)]; rfl
    rw [e]
    clear h e
    go_enter Try.func43, Try.ntmps43
    go_wp2_with fail
    go_ret
    exact ⟨rfl, rfl⟩
  · obtain ⟨j, rfl⟩ : ∃ j : Nat, i = j := ⟨i.toNat, by omega⟩
    have HL := Lib.hid (limb_c A n c (j / 64) B xs w h (by omega))
    have HB := Lib.hid (bit_at h.ws j)
    have hw := h.ws.at_ (j / 64)
    unfold bitAt
    rw [decide_eq_true (by omega), Bool.true_and, Int.toNat_natCast, ← HB.out]
    clear h HB
    generalize Nt.at_ xs (j / 64) = z at *
    unfold Wd.W at hw
    obtain ⟨hw1, hw2⟩ := hw
    go_enter Try.func43, Try.ntmps43
    go_wp2_with (go_at_call 68; refine HL.out.mono ?_; rintro e w' ⟨rfl, rfl⟩)
    go_ret
    refine ⟨ret_b ?_, rfl⟩
    have h1 := pow_pos2 (j % 64)
    have hq : 0 ≤ z / 2 ^ (j % 64) ∧ z / 2 ^ (j % 64) ≤ 18446744073709551615 := ⟨Int.ediv_nonneg hw1 (by omega), Int.le_trans (Int.ediv_le_self _ hw1) hw2⟩
    show (bits BinOp.and IntKind.u64 (z / 2 ^ (j % 64)) 1 == 1) = _
    rw [Wd.and_one _ hq.1 hq.2, Bool.eq_iff_iff]
    simp
end Nt
end Go.Proofs.Ytopajockmcgpmaa
namespace Go.Proofs.Ytopajockmcgpmaa
open Go Go.RowKit
namespace Nt
open Wd Sti
set_option linter.unusedVariables false
def hexb (d : Nat) : UInt8 := if d < 10 then UInt8.ofNat (48 + d) else UInt8.ofNat (87 + d)
theorem hexb_toNat {d : Nat} (h : d < 16) : (hexb d).toNat = if d < 10 then 48 + d else 87 + d := by
  unfold hexb
  split <;> rw [UInt8.toNat_ofNat'] <;> omega
def dig (v : Int) (i : Nat) : Nat := (v / 16 ^ i % 16).toNat
theorem dig_lt (v : Int) (i : Nat) : dig v i < 16 := by unfold dig; omega
/-- n digits by sixteen, the highest first -/
def hexes (v : Int) (n : Nat) : List UInt8 := (List.range n).map fun k => hexb (dig v (n - 1 - k))
theorem hexes_len (v : Int) (n : Nat) : (hexes v n).length = n := by simp [hexes]
theorem hexes_get (v : Int) (n k : Nat) (h : k < n) : (hexes v n)[k]? = some (hexb (dig v (n - 1 - k))) := by
  unfold hexes
  rw [List.getElem?_map, List.getElem?_range h]
  rfl
def bs (l : List UInt8) : Array Value := (l.map fun b => Value.int .u8 (b.toNat : Int)).toArray
theorem bs_size (l : List UInt8) : (bs l).size = l.length := by simp [bs]
theorem bs_get {l : List UInt8} {k : Nat} (h : k < l.length) : (bs l)[k]? = some (.int .u8 (l[k].toNat : Int)) := by
  unfold bs
  rw [List.getElem?_toArray, List.getElem?_map, List.getElem?_eq_getElem h]
  rfl
theorem bs_set (l : List UInt8) (k : Nat) (b : UInt8) : (bs l).setIfInBounds k (.int .u8 (b.toNat : Int)) = bs (l.set k b) := by
  unfold bs
  apply Array.ext'
  simp [List.map_set]
theorem info_u8 : (Try.prog.info? 5).map (fun i => (i.zero, i.size, i.bytes)) = some (some (.int .u8 0), 1, 1) := by kernel_rfl
theorem hex_ix : ∀ (d : Nat), d < 16 → ∀ w : World,
    (Instr.index 9 (.string ⟨#[48, 49, 50, 51, 52, 53, 54, 55, 56, 57, 97, 98, 99, 100, 101, 102]⟩) (.int .u64 (d : Int))).run Try.prog w = .ok (.int .u8 ((hexb d).toNat : Int)) w
  | 0, _, _ => by kernel_rfl
  | 1, _, _ => by kernel_rfl
  | 2, _, _ => by kernel_rfl
  | 3, _, _ => by kernel_rfl
  | 4, _, _ => by kernel_rfl
  | 5, _, _ => by kernel_rfl
  | 6, _, _ => by kernel_rfl
  | 7, _, _ => by kernel_rfl
  | 8, _, _ => by kernel_rfl
  | 9, _, _ => by kernel_rfl
  | 10, _, _ => by kernel_rfl
  | 11, _, _ => by kernel_rfl
  | 12, _, _ => by kernel_rfl
  | 13, _, _ => by kernel_rfl
  | 14, _, _ => by kernel_rfl
  | 15, _, _ => by kernel_rfl
  | d + 16, h, _ => absurd h (by omega)
theorem and_15 (a : Int) (h : 0 ≤ a) (h' : a ≤ 18446744073709551615) : bits .and .u64 a 15 = a % 16 := by
  obtain ⟨n, rfl⟩ := Int.eq_ofNat_of_zero_le h
  have e : (15 : Int) = ((15 : Nat) : Int) := rfl
  rw [e, u64_and_nat n 15 (by omega) (by omega), Nat.and_two_pow_sub_one_eq_mod n 4]
  rfl
theorem P16 (k : Nat) : (16 : Int) ^ (16 * k) = P k := by
  induction k with
  | zero => rfl
  | succ k ih => rw [show 16 * (k + 1) = 16 * k + 16 by omega, Int.pow_add, ih, P_succ, Int.mul_comm]; rfl
theorem pow16 (r : Nat) : (2 : Int) ^ (r * 4) = 16 ^ r := by
  rw [Nat.mul_comm, Int.pow_mul]; rfl
theorem pow16_pos (r : Nat) : (1 : Int) ≤ 16 ^ r := by rw [← pow16]; exact pow_pos2 _
theorem nib_at {xs : List Int} (h : Ws xs) (i : Nat) : Nt.at_ xs (i / 16) / 2 ^ (i % 16 * 4) % 16 = V xs / 16 ^ i % 16 := by
  rw [V_at xs h, pow16]
  have e : (16 : Int) ^ i = P (i / 16) * 16 ^ (i % 16) := by
    rw [← P16, ← Int.pow_add]; congr 1; omega
  have hp := P_pos (i / 16)
  rw [e, ← Int.ediv_ediv_of_nonneg (by omega)]
  generalize V xs / P (i / 16) = q
  have hr : i % 16 < 16 := Nat.mod_lt _ (by omega)
  generalize i % 16 = r at *
  have e2 : (18446744073709551616 : Int) = 16 ^ r * (16 * 16 ^ (15 - r)) := by
    have : (16 : Int) ^ 16 = 16 ^ r * (16 * 16 ^ (15 - r)) := by
      rw [show (16 : Int) * 16 ^ (15 - r) = 16 ^ (16 - r) by rw [show 16 - r = (15 - r) + 1 by omega, Int.pow_succ]; omega, ← Int.pow_add]; congr 1; omega
    exact this
  have h1 := pow16_pos r
  have h2 := pow16_pos (15 - r)
  rw [e2]
  generalize (16 : Int) ^ r = a at *
  generalize (16 : Int) ^ (15 - r) = b at *
  have e4 : q % (a * (16 * b)) = q - a * (16 * b) * (q / (a * (16 * b))) := Int.emod_def q (a * (16 * b))
  rw [e4, show q - a * (16 * b) * (q / (a * (16 * b))) = q + a * (-(16 * b) * (q / (a * (16 * b)))) by
    rw [Int.neg_mul, Int.mul_neg, Int.mul_assoc, Int.sub_eq_add_neg], Int.add_mul_ediv_left _ _ (by omega)]
  rw [show -(16 * b) * (q / (a * (16 * b))) = 16 * (-(b * (q / (a * (16 * b))))) by rw [Int.neg_mul, Int.mul_assoc, Int.mul_neg], Int.add_mul_emod_self_left]
/-- how many digits are told -/
def digs (xs : List Int) : Nat := max 1 ((nbits (trim xs) + 3) / 4)
theorem nbits_le {zs : List Int} (h : Ws zs) : nbits zs ≤ 64 * zs.length := by
  unfold nbits
  split
  · omega
  · have hw := h.at_ (zs.length - 1)
    have := (bl_spec (Nt.at_ zs (zs.length - 1)).toNat (by unfold Wd.W at hw; omega)).2.2
    omega
end Nt
end Go.Proofs.Ytopajockmcgpmaa
namespace Go.Proofs.Ytopajockmcgpmaa
open Go Go.RowKit
namespace Nt
open Wd Sti
set_option linter.unusedVariables false
theorem make_row (n : Nat) (hn : n ≤ 1099511627776) (w : World) :
    (Instr.makeSlice 74 (.int .i64 (n : Int)) (.int .i64 (n : Int))).run Try.prog w = .ok (.slice (some ⟨w.heap.size, 0, none⟩) n n) (w.alloc (.cells (us (List.replicate n 0)) 29)) := by
  obtain ⟨i, hi, hz, h1, h2⟩ := info_parts info_u64
  have hr := run_make (P := Try.prog) w 74 29 i (.int .u64 0) Try.underlying74 hi hz .i64 .i64 (n : Int) (n : Int) (by omega) (by omega) (by rw [h2]; omega) (by omega)
  simp only [Int.toNat_natCast] at hr
  rw [hr, us_zeros, h1]
  have e : madeCells (Value.int .u64 0).cells (n * 1) = Array.replicate n (Value.int .u64 0) := by
    apply Array.ext <;> simp [madeCells, Value.cells, Nat.mod_one]
  rw [e]
theorem take_below {os os' ys : List Int} {n : Nat} {b : Bool} (h : Ws os) (h' : Ws os') (hy : Ws ys) (hl : os.length = n) (hl' : os'.length = n) (e : V os' = V os - V ys + P n * b1 b) : b = decide (V os < V ys) := by
  have h0 := V_nonneg h'
  have h1 := V_lt h'
  rw [hl'] at h1
  cases b with
  | true => rw [b1_t] at e; symm; exact decide_eq_true (by omega)
  | false => rw [b1_f] at e; symm; exact decide_eq_false (by omega)
theorem Ws.zapp {xs : List Int} (h : Ws xs) (k : Nat) : Ws (xs ++ List.replicate k 0) := h.append (Ws.zeros k)
theorem V_zapp (xs : List Int) (k : Nat) : V (xs ++ List.replicate k 0) = V xs := by rw [V_append, V_zeros, Int.mul_zero, Int.add_zero]

set_option maxRecDepth 100000 in
set_option maxHeartbeats 1000000 in
theorem sub_n (A B : Option Addr) (na ca nb cb : Nat) (xs ys : List Int) (w : World) (ha : Rd w w.heap.size A na xs) (hb : Rd w w.heap.size B nb ys) (la : na ≤ 1073741824) (lb : nb ≤ 1073741824) :
    Calls Try.prog 46 #[.slice A na ca, .slice B nb cb] w fun e w' =>
      (V ys ≤ V xs → ∃ v, e = .returned (.tuple #[v, .int .i64 0]) ∧ Ans w w' v (V xs - V ys) (max na nb)) ∧ (V xs < V ys → e = .returned (.tuple #[.slice none 0 0, .int .i64 2]) ∧ Below w.heap.size w w') := by
  obtain ⟨M, hM1, hM2, hM3⟩ : ∃ M, M = max na nb ∧ na ≤ M ∧ nb ≤ M := ⟨_, rfl, by omega, by omega⟩
  rw [← hM1]
  have hmx : max (na : Int) (nb : Int) = (M : Int) := by omega
  have hMl : M ≤ 1073741824 := by omega
  have hmk := make_row M (by omega) w
  obtain ⟨w2, hcp, h2, hg⟩ := copy_run (dLen := M) (dCap := M) (c := ca) 74 24 3 Try.underlying74 (Bk.new' (w := w) rfl (t := 29) (cs := us (List.replicate M 0))) (by simp) (ha.keep (w' := w.alloc (.cells (us (List.replicate M 0)) 29)) (fun p hp => World.cell?_alloc_lt w _ p (by omega))) hM2
  rw [List.drop_replicate] at h2
  have hbw := below_of_own hg
  have hb2 := hb.below hbw
  have ht := take_n w.heap.size M M B nb cb w.heap.size (xs ++ List.replicate (M - na) 0) ys w2 h2 (ha.ws.zapp _) (by rw [List.length_append, ha.len, List.length_replicate]; omega) hb2 (Nat.le_refl _) hM3 hMl
  have HT := Lib.hid ht
  have HBW := Lib.hid hbw
  have HXW := Lib.hid ha.ws
  have HYW := Lib.hid hb.ws
  have HXL := Lib.hid ha.len
  clear ht hg h2 hb2 hb ha hM1 hbw
  go_enter Try.func46, Try.ntmps46
  go_wp2_with fail
  go_at_call 69
  refine HT.out.mono ?_; rintro e w3 ⟨os', b, rfl, g1, g2, g3, g4, g5⟩
  have hv := V_zapp xs (M - na)
  have hbd := take_below (HXW.out.zapp (M - na)) g3 HYW.out (by rw [List.length_append, HXL.out, List.length_replicate]; omega) g2 g4
  rw [hv] at hbd g4
  have HG4 := Lib.hid g4
  have HBD := Lib.hid hbd
  have hw3 : Below w.heap.size w w3 := HBW.out.grown g5 HBW.out.size (fun k e => by cases e; exact Nat.le_refl _)
  have HW3 := Lib.hid hw3
  clear hv hbd g4 hw3 hcp hmk hmx HT
  cases b with
  | true =>
    go_wp2_with fail
    go_ret2
    have := of_decide_eq_true HBD.out.symm
    exact ⟨fun h => absurd h (by omega), fun _ => ⟨rfl, HW3.out⟩⟩
  | false =>
    have HT := Lib.hid (trimmed_c (some ⟨w.heap.size, 0, none⟩) M M w3.heap.size os' w3 (g1.rd0 g1.lt g3 g2) (Nat.le_refl _) (by omega))
    have H1 := Lib.hid g1
    have H2 := Lib.hid g2
    have H3 := Lib.hid g3
    clear g1 g2 g3 g5
    go_wp2_with fail
    go_at_call 64
    refine HT.out.mono ?_; rintro e w' ⟨rfl, rfl⟩
    go_wp2_with fail
    go_ret2
    have := of_decide_eq_false HBD.out.symm
    refine ⟨fun h => ⟨_, rfl, ?_⟩, fun h => absurd h this⟩
    have hv : V os' = V xs - V ys := by
      have := HG4.out
      rw [b1_f, Int.mul_zero, Int.add_zero] at this
      exact this
    have hr := ans_trim (w := w) (m := M) H1.out H3.out hv (by have := trim_le os'; have := H2.out; omega) HW3.out
    rw [H2.out] at hr
    exact hr
end Nt
end Go.Proofs.Ytopajockmcgpmaa
namespace Go.Proofs.Ytopajockmcgpmaa
open Go Go.RowKit
namespace Nt
open Wd Sti
set_option linter.unusedVariables false
/-- a digit by sixteen, either letters -/
def hexd (c : Nat) : Option Nat := if 48 ≤ c ∧ c ≤ 57 then some (c - 48) else if 97 ≤ c ∧ c ≤ 102 then some (c - 87) else if 65 ≤ c ∧ c ≤ 70 then some (c - 55) else none
theorem hexd_lt {c d : Nat} (h : hexd c = some d) : d < 16 := by
  unfold hexd at h
  split at h
  · cases h; omega
  · split at h
    · cases h; omega
    · split at h
      · cases h; omega
      · cases h
def dv_ (c : Nat) : Nat := (hexd c).getD 0
theorem dv_lt (c : Nat) : dv_ c < 16 := by
  unfold dv_
  cases h : hexd c with
  | none => simp
  | some d => exact hexd_lt h
/-- the number of digits by sixteen, the highest first -/
def hexV : List UInt8 → Int
  | [] => 0
  | b :: l => (dv_ b.toNat : Int) * 16 ^ l.length + hexV l
theorem hexV_bd (l : List UInt8) : 0 ≤ hexV l ∧ hexV l < 16 ^ l.length := by
  induction l with
  | nil => simp [hexV]
  | cons b l ih =>
    have := dv_lt b.toNat
    have h1 := pow16_pos l.length
    have h2 : (dv_ b.toNat : Int) * 16 ^ l.length ≤ 15 * 16 ^ l.length := Int.mul_le_mul_of_nonneg_right (by omega) (by omega)
    have h3 : 0 ≤ (dv_ b.toNat : Int) * 16 ^ l.length := Int.mul_nonneg (by omega) (by omega)
    simp only [hexV, List.length_cons, Int.pow_succ]
    omega
def isHex (l : List UInt8) : Prop := ∀ b ∈ l, (hexd b.toNat).isSome = true
theorem or_up {a b : Int} {k : Nat} (h0 : 0 ≤ a) (h1 : a ≤ 18446744073709551615) (hm : a % 2 ^ k = 0) (h2 : 0 ≤ b) (h3 : b < 2 ^ k) (h4 : b ≤ 18446744073709551615) : bits .or .u64 b a = b + a := by
  obtain ⟨n, rfl⟩ := Int.eq_ofNat_of_zero_le h0
  obtain ⟨m, rfl⟩ := Int.eq_ofNat_of_zero_le h2
  have := or_add (n : Int) (m : Int) k h0 h1 hm h2 h3 h4
  rw [u64_or_nat m n (by omega) (by omega), Nat.or_comm]
  rw [u64_or_nat n m (by omega) (by omega)] at this
  rw [this]; omega
end Nt
end Go.Proofs.Ytopajockmcgpmaa
namespace Go.Proofs.Ytopajockmcgpmaa
open Go Go.RowKit
namespace Nt
open Wd Sti
set_option linter.unusedVariables false
theorem bytes_get {s : ByteArray} {k : Nat} (h : k < s.size) : s.data.toList[k]? = some (s[k]'h) := by
  have : s.data.toList[k]? = s.data[k]? := by simp
  rw [this, Array.getElem?_eq_getElem h]
  rfl
theorem bytes_len (s : ByteArray) : s.data.toList.length = s.size := by rw [Array.length_toList]; rfl

/-- what is read of a text that is not empty -/
def ReadPost (w : World) (l : List UInt8) (e : Ending) (w' : World) : Prop :=
  (¬ isHex l → e = .returned (.tuple #[.slice none 0 0, .int .i64 7]) ∧ w' = w) ∧
  (isHex l → 8192 < (Lib.trimLeftB l 48).length → e = .returned (.tuple #[.slice none 0 0, .int .i64 3]) ∧ w' = w) ∧
  (isHex l → (Lib.trimLeftB l 48).length ≤ 8192 → ∃ v, e = .returned (.tuple #[v, .int .i64 0]) ∧ Ans w w' v (hexV (Lib.trimLeftB l 48)) (((Lib.trimLeftB l 48).length + 15) / 16))

/-- the digits from the lowest on -/
theorem hexV_drop {l : List UInt8} {k : Nat} (h : k < l.length) : hexV (l.drop (l.length - (k + 1))) = (dv_ (l[l.length - 1 - k]'(by omega)).toNat : Int) * 16 ^ k + hexV (l.drop (l.length - k)) := by
  rw [List.drop_eq_getElem_cons (by omega)]
  simp only [hexV]
  have e1 : l.length - (k + 1) + 1 = l.length - k := by omega
  have e2 : l.length - (k + 1) = l.length - 1 - k := by omega
  rw [e1]
  congr 2
  · simp only [e2]
  · congr 1; rw [List.length_drop]; omega
theorem dropWhile_head {l : List UInt8} {c b : UInt8} (h : (Lib.trimLeftB l c)[0]? = some b) : b ≠ c := by
  unfold Lib.trimLeftB at h
  induction l with
  | nil => cases h
  | cons x l ih =>
    rw [List.dropWhile_cons] at h
    split at h
    · exact ih h
    · rename_i hx
      simp at h
      subst h
      simpa using hx
theorem trimLeft_mem {l : List UInt8} {c b : UInt8} (h : b ∈ Lib.trimLeftB l c) : b ∈ l := List.dropWhile_sublist _ |>.subset h
/-- a number of digits whose first is none that is 0 is not small -/
theorem hexV_top {b : UInt8} {l : List UInt8} (h : dv_ b.toNat ≠ 0) : 16 ^ l.length ≤ hexV (b :: l) := by
  have h1 := pow16_pos l.length
  have h2 := (hexV_bd l).1
  have h3 : 1 * 16 ^ l.length ≤ (dv_ b.toNat : Int) * 16 ^ l.length := Int.mul_le_mul_of_nonneg_right (by omega) (by omega)
  simp only [hexV]
  omega
theorem dv_zero {c : Nat} (h : (hexd c).isSome = true) (h0 : dv_ c = 0) : c = 48 := by
  unfold dv_ at h0
  unfold hexd at h h0
  split at h0
  · simp at h0; omega
  · split at h0
    · simp at h0; omega
    · split at h0
      · simp at h0; omega
      · rename_i a b c
        rw [if_neg a, if_neg b, if_neg c] at h; cases h

/-- one digit more put into its limb -/
theorem put_digit {zs : List Int} {m i : Nat} {d : Int} (hz : Ws zs) (hl : zs.length = m) (hi : i / 16 < m) (hv : V zs < 16 ^ i) (hd0 : 0 ≤ d) (hd : d < 16) :
    bits .or .u64 (Nt.at_ zs (i / 16)) (d * 2 ^ (i % 16 * 4)) = Nt.at_ zs (i / 16) + d * 2 ^ (i % 16 * 4) ∧ 0 ≤ d * 2 ^ (i % 16 * 4) ∧ d * 2 ^ (i % 16 * 4) ≤ 18446744073709551615 ∧
    W (Nt.at_ zs (i / 16) + d * 2 ^ (i % 16 * 4)) ∧ V (zs.set (i / 16) (Nt.at_ zs (i / 16) + d * 2 ^ (i % 16 * 4))) = d * 16 ^ i + V zs := by
  have hr : i % 16 < 16 := Nat.mod_lt _ (by omega)
  have e : (16 : Int) ^ i = P (i / 16) * 16 ^ (i % 16) := by
    rw [← P16, ← Int.pow_add]; congr 1; omega
  have hp := P_pos (i / 16)
  have hlo : Nt.at_ zs (i / 16) < 16 ^ (i % 16) := by
    rw [V_at zs hz]
    have h1 : V zs / P (i / 16) < 16 ^ (i % 16) := Int.ediv_lt_of_lt_mul (by omega) (by rw [Int.mul_comm, ← e]; exact hv)
    have h2 : 0 ≤ V zs / P (i / 16) := Int.ediv_nonneg (V_nonneg hz) (by omega)
    generalize V zs / P (i / 16) = q at *
    omega
  have hw := hz.at_ (i / 16)
  have hmax : (16 : Int) ^ (i % 16) * 16 ≤ 18446744073709551616 := by
    have h1 : (16 : Int) ^ (i % 16) * 16 = 16 ^ (i % 16 + 1) := by rw [Int.pow_succ]
    have h2 : (16 : Int) ^ (i % 16 + 1) * 16 ^ (15 - i % 16) = 16 ^ 16 := by rw [← Int.pow_add]; congr 1; omega
    have h3 := pow16_pos (15 - i % 16)
    have h4 := pow16_pos (i % 16 + 1)
    have h5 : (16 : Int) ^ (i % 16 + 1) * 1 ≤ 16 ^ (i % 16 + 1) * 16 ^ (15 - i % 16) := Int.mul_le_mul_of_nonneg_left h3 (by omega)
    have h6 : (16 : Int) ^ 16 = 18446744073709551616 := rfl
    omega
  have hq := pow16_pos (i % 16)
  rw [pow16]
  have hd1 : 0 ≤ d * 16 ^ (i % 16) := Int.mul_nonneg hd0 (by omega)
  have hd2 : d * 16 ^ (i % 16) ≤ 15 * 16 ^ (i % 16) := Int.mul_le_mul_of_nonneg_right (by omega) (by omega)
  unfold Wd.W at hw ⊢
  refine ⟨?_, hd1, by omega, ⟨by omega, by omega⟩, ?_⟩
  · have hm : (d * 16 ^ (i % 16)) % 2 ^ (i % 16 * 4) = 0 := by rw [pow16, Int.mul_emod_left]
    exact or_up hd1 (by omega) hm hw.1 (by rw [pow16]; exact hlo) hw.2
  · rw [V_set _ _ _ (by omega), e, show Nt.at_ zs (i / 16) + d * 16 ^ (i % 16) - Nt.at_ zs (i / 16) = d * 16 ^ (i % 16) by omega, Int.mul_left_comm]
    omega
end Nt
end Go.Proofs.Ytopajockmcgpmaa
namespace Go.Proofs.Ytopajockmcgpmaa
open Go Go.RowKit
namespace Nt
open Wd Sti
set_option linter.unusedVariables false
end Nt
end Go.Proofs.Ytopajockmcgpmaa
