/- Text: a natural's digits by sixteen. -/
import Derived.Test.YtdklchejnpaenaaDoorNatS2
import Derived.Laws.IdiomStrings
namespace Go.Proofs.YtdklchejnpaenaaDoor
open Go Go.RowKit
namespace Nt
open Wd Sti
set_option linter.unusedVariables false

def hexb (d : Nat) : UInt8 := if d < 10 then UInt8.ofNat (48 + d) else UInt8.ofNat (87 + d)
theorem hexb_toNat {d : Nat} (h : d < 16) : (hexb d).toNat = if d < 10 then 48 + d else 87 + d := by
  unfold hexb
  split <;> rw [UInt8.toNat_ofNat'] <;> omega
def dig (v : Int) (i : Nat) : Nat := (v / 16 ^ i % 16).toNat
theorem dig_lt (v : Int) (i : Nat) : dig v i < 16 := by unfold dig; omega
/-- n digits by sixteen, the highest first -/
def hexes (v : Int) (n : Nat) : List UInt8 := (List.range n).map fun k => hexb (dig v (n - 1 - k))
theorem hexes_len (v : Int) (n : Nat) : (hexes v n).length = n := by simp [hexes]
theorem hexes_get (v : Int) (n k : Nat) (h : k < n) : (hexes v n)[k]? = some (hexb (dig v (n - 1 - k))) := by
  unfold hexes
  rw [List.getElem?_map, List.getElem?_range h]
  rfl
def bs (l : List UInt8) : Array Value := (l.map fun b => Value.int .u8 (b.toNat : Int)).toArray
theorem bs_size (l : List UInt8) : (bs l).size = l.length := by simp [bs]
theorem bs_get {l : List UInt8} {k : Nat} (h : k < l.length) : (bs l)[k]? = some (.int .u8 (l[k].toNat : Int)) := by
  unfold bs
  rw [List.getElem?_toArray, List.getElem?_map, List.getElem?_eq_getElem h]
  rfl
theorem bs_set (l : List UInt8) (k : Nat) (b : UInt8) : (bs l).setIfInBounds k (.int .u8 (b.toNat : Int)) = bs (l.set k b) := by
  unfold bs
  apply Array.ext'
  simp [List.map_set]
theorem info_u8 : (Tryd.prog.info? 5).map (fun i => (i.zero, i.size, i.bytes)) = some (some (.int .u8 0), 1, 1) := by kernel_rfl
theorem make_bytes (n : Nat) (hn : n ≤ 1099511627776) (w : World) :
    (Instr.makeSlice 62 (.int .i64 (n : Int)) (.int .i64 (n : Int))).run Tryd.prog w = .ok (.slice (some ⟨w.heap.size, 0, none⟩) n n) (w.alloc (.cells (bs (List.replicate n 0)) 5)) := by
  obtain ⟨i, hi, hz, h1, h2⟩ := info_parts info_u8
  have hr := run_make (P := Tryd.prog) w 62 5 i (.int .u8 0) Tryd.underlying62 hi hz .i64 .i64 (n : Int) (n : Int) (by omega) (by omega) (by rw [h2]; omega) (by omega)
  simp only [Int.toNat_natCast] at hr
  rw [hr, h1]
  have e : madeCells (Value.int .u8 0).cells (n * 1) = bs (List.replicate n 0) := by
    apply Array.ext <;> simp [madeCells, Value.cells, Nat.mod_one, bs]
  rw [e]
theorem hex_ix : ∀ (d : Nat), d < 16 → ∀ w : World,
    (Instr.index 9 (.string ⟨#[48, 49, 50, 51, 52, 53, 54, 55, 56, 57, 97, 98, 99, 100, 101, 102]⟩) (.int .u64 (d : Int))).run Tryd.prog w = .ok (.int .u8 ((hexb d).toNat : Int)) w
  | 0, _, _ => by kernel_rfl
  | 1, _, _ => by kernel_rfl
  | 2, _, _ => by kernel_rfl
  | 3, _, _ => by kernel_rfl
  | 4, _, _ => by kernel_rfl
  | 5, _, _ => by kernel_rfl
  | 6, _, _ => by kernel_rfl
  | 7, _, _ => by kernel_rfl
  | 8, _, _ => by kernel_rfl
  | 9, _, _ => by kernel_rfl
  | 10, _, _ => by kernel_rfl
  | 11, _, _ => by kernel_rfl
  | 12, _, _ => by kernel_rfl
  | 13, _, _ => by kernel_rfl
  | 14, _, _ => by kernel_rfl
  | 15, _, _ => by kernel_rfl
  | d + 16, h, _ => absurd h (by omega)
theorem and_15 (a : Int) (h : 0 ≤ a) (h' : a ≤ 18446744073709551615) : bits .and .u64 a 15 = a % 16 := by
  obtain ⟨n, rfl⟩ := Int.eq_ofNat_of_zero_le h
  have e : (15 : Int) = ((15 : Nat) : Int) := rfl
  rw [e, u64_and_nat n 15 (by omega) (by omega), Nat.and_two_pow_sub_one_eq_mod n 4]
  rfl
theorem P16 (k : Nat) : (16 : Int) ^ (16 * k) = P k := by
  induction k with
  | zero => rfl
  | succ k ih => rw [show 16 * (k + 1) = 16 * k + 16 by omega, Int.pow_add, ih, P_succ, Int.mul_comm]; rfl
theorem pow16 (r : Nat) : (2 : Int) ^ (r * 4) = 16 ^ r := by
  rw [Nat.mul_comm, Int.pow_mul]; rfl
theorem pow16_pos (r : Nat) : (1 : Int) ≤ 16 ^ r := by rw [← pow16]; exact pow_pos2 _
theorem nib_at {xs : List Int} (h : Ws xs) (i : Nat) : Nt.at_ xs (i / 16) / 2 ^ (i % 16 * 4) % 16 = V xs / 16 ^ i % 16 := by
  rw [V_at xs h, pow16]
  have e : (16 : Int) ^ i = P (i / 16) * 16 ^ (i % 16) := by
    rw [← P16, ← Int.pow_add]; congr 1; omega
  have hp := P_pos (i / 16)
  rw [e, ← Int.ediv_ediv_of_nonneg (by omega)]
  generalize V xs / P (i / 16) = q
  have hr : i % 16 < 16 := Nat.mod_lt _ (by omega)
  generalize i % 16 = r at *
  have e2 : (18446744073709551616 : Int) = 16 ^ r * (16 * 16 ^ (15 - r)) := by
    have : (16 : Int) ^ 16 = 16 ^ r * (16 * 16 ^ (15 - r)) := by
      rw [show (16 : Int) * 16 ^ (15 - r) = 16 ^ (16 - r) by rw [show 16 - r = (15 - r) + 1 by omega, Int.pow_succ]; omega, ← Int.pow_add]; congr 1; omega
    exact this
  have h1 := pow16_pos r
  have h2 := pow16_pos (15 - r)
  rw [e2]
  generalize (16 : Int) ^ r = a at *
  generalize (16 : Int) ^ (15 - r) = b at *
  have e4 : q % (a * (16 * b)) = q - a * (16 * b) * (q / (a * (16 * b))) := Int.emod_def q (a * (16 * b))
  rw [e4, show q - a * (16 * b) * (q / (a * (16 * b))) = q + a * (-(16 * b) * (q / (a * (16 * b)))) by
    rw [Int.neg_mul, Int.mul_neg, Int.mul_assoc, Int.sub_eq_add_neg], Int.add_mul_ediv_left _ _ (by omega)]
  rw [show -(16 * b) * (q / (a * (16 * b))) = 16 * (-(b * (q / (a * (16 * b))))) by rw [Int.neg_mul, Int.mul_assoc, Int.mul_neg], Int.add_mul_emod_self_left]
/-- how many digits are told -/
def digs (xs : List Int) : Nat := max 1 ((nbits (trim xs) + 3) / 4)
theorem nbits_le {zs : List Int} (h : Ws zs) : nbits zs ≤ 64 * zs.length := by
  unfold nbits
  split
  · omega
  · have hw := h.at_ (zs.length - 1)
    have := (bl_spec (Nt.at_ zs (zs.length - 1)).toNat (by unfold Wd.W at hw; omega)).2.2
    omega
set_option maxRecDepth 100000 in
set_option maxHeartbeats 2000000 in
theorem text_n (A : Option Addr) (n c : Nat) (xs : List Int) (w : World) (h : Rd w w.heap.size A n xs) (hc : n ≤ c ∧ n ≤ 1073741824) (hn : c ≤ 9223372036854775807) :
    Calls Tryd.prog 17 #[.slice A n c] w fun e w' => e = .returned (.string ⟨(hexes (V xs) (digs xs)).toArray⟩) ∧ Below w.heap.size w w' := by
  obtain ⟨hc, hcn⟩ := hc
  have HB := Lib.hid (bits_n A n c w.heap.size xs w h ⟨hc, hcn⟩ hn)
  have hbl := nbits_le h.ws.trim
  have hl : (trim xs).length ≤ n := by have := trim_le xs; have := h.len; omega
  have HN : Hid (digs xs = max 1 ((nbits (trim xs) + 3) / 4)) := rfl
  generalize digs xs = N at *
  generalize nbits (trim xs) = b at *
  have hN1 : 1 ≤ N := by have := HN.out; omega
  have hN2 : N ≤ 34359738368 := by have := HN.out; omega
  have hmx : max (1 : Int) (((b : Int) + 4 - 1) / 4) = (N : Int) := by have := HN.out; omega
  have hb : (b : Int) ≤ 68719476736 := by omega
  have hmk := make_bytes N (by omega)
  go_enter Tryd.func17, Tryd.ntmps17
  go_wp2_with (go_at_call 23; refine HB.out.mono ?_; rintro e w' ⟨rfl, rfl⟩)
  clear HB
  obtain ⟨w, rfl⟩ : ∃ w, w = w' := ⟨_, rfl⟩
  go_loopw [15] (fun i W => ∃ (k : Nat) (l : List UInt8), k ≤ N ∧ i = .int .i64 k ∧ Bk W w.heap.size 5 (bs l) ∧ l.length = N ∧ Below w.heap.size w W ∧ (∀ j, N - k ≤ j → j < N → l[j]? = some (hexb (dig (V xs) (N - 1 - j))))) (fun i _ => N - (intOf i).toNat)
  case atStart => exact ⟨0, List.replicate N 0, Nat.zero_le _, rfl, Bk.new _ _ _, by simp, (Below.refl _ w).alloc (Nat.le_refl _) _, fun j h1 h2 => absurd h1 (by omega)⟩
  case round =>
    obtain ⟨k, l, hk, rfl, g1, g2, g3, g4⟩ := hrel
    by_cases hlt : k < N
    · obtain ⟨m, hm⟩ : ∃ m, N = m + k + 1 := ⟨N - k - 1, by omega⟩
      have hml : m < l.length := by omega
      have HL := Lib.hid (limb_c A n c (k / 16) w.heap.size xs wr (h.below g3) (by omega))
      have hw := h.ws.at_ (k / 16)
      have HD := Lib.hid (nib_at h.ws k)
      have hd := dig_lt (V xs) k
      have hdd : ((dig (V xs) k : Nat) : Int) = Nt.at_ xs (k / 16) / 2 ^ (k % 16 * 4) % 16 := by
        rw [nib_at h.ws k]; unfold dig; omega
      have hix := hex_ix (dig (V xs) k) hd
      have c5 : wr.cell? ⟨w.heap.size, m, none⟩ = some (.int .u8 (l[m].toNat : Int)) := (g1.cell m).trans (bs_get hml)
      have f5 : wr.frozen? ⟨w.heap.size, m, none⟩ = false := g1.frozen m
      have hv : N - 1 - m = k := by omega
      have HV := Lib.hid hv
      clear hv
      clear h
      generalize Nt.at_ xs (k / 16) = z at *
      unfold Wd.W at hw
      obtain ⟨hw1, hw2⟩ := hw
      have h1 := pow_pos2 (k % 16 * 4)
      have hq : 0 ≤ z / 2 ^ (k % 16 * 4) ∧ z / 2 ^ (k % 16 * 4) ≤ 18446744073709551615 := ⟨Int.ediv_nonneg hw1 (by omega), Int.le_trans (Int.ediv_le_self _ hw1) hw2⟩
      have hand : bits .and .u64 (z / 2 ^ (k % 16 * 4)) 15 = ((dig (V xs) k : Nat) : Int) := by rw [and_15 _ hq.1 hq.2, hdd]
      have hidx : (N : Int) - 1 - (k : Int) = (m : Int) := by omega
      have HDG : Hid (hexb (dig (V xs) (N - 1 - m)) = hexb (dig (V xs) k)) := Lib.hid (by rw [HV.out])
      generalize hexb (dig (V xs) k) = hb at *
      generalize dig (V xs) k = dd at *
      have HM := Lib.hid hm
      clear hm hdd h1 hq
      go_wp2_with (go_at_call 51; refine HL.out.mono ?_; rintro e w' ⟨rfl, rfl⟩)
      go_roundw
      case rel =>
        refine ⟨k + 1, l.set m hb, by omega, by go_num, ?_, by simpa using g2, g3.setCell (Nat.le_refl _) _, fun j h1 h2 => ?_⟩
        · have := g1.set_ m (.int .u8 (hb.toNat : Int))
          rwa [bs_set] at this
        · have := HM.out
          rw [List.getElem?_set]
          by_cases e : m = j
          · subst e
            rw [if_pos rfl, if_pos hml, HDG.out]
          · rw [if_neg e]; exact g4 j (by omega) h2
      case measure => (simp [intOf] <;> omega)
    · obtain rfl : k = N := by omega
      have hl' : l = hexes (V xs) k := by
        apply List.ext_getElem?
        intro j
        rcases Nat.lt_or_ge j k with hj | hj
        · rw [g4 j (by omega) hj, hexes_get _ _ _ hj]
        · rw [List.getElem?_eq_none (by omega), List.getElem?_eq_none (by rw [hexes_len]; exact hj)]
      have hcv := run_convert_bytes_back (P := Tryd.prog) wr 62 9 5 ⟨w.heap.size, 0, none⟩ k l Tryd.underlying62 Tryd.underlying5 Tryd.underlying9 (fun j hj => by
        have e : (Addr.add ⟨w.heap.size, 0, none⟩ j) = ⟨w.heap.size, j, none⟩ := by unfold Addr.add; split <;> simp_all
        rw [e]; exact (g1.cell j).trans (bs_get hj))
      rw [g2, hl'] at hcv
      have G3 := Lib.hid g3
      clear g1 g2 g3 g4 hl' hmk hmx
      obtain ⟨L, hL⟩ : ∃ L, L = hexes (V xs) k := ⟨_, rfl⟩
      rw [← hL] at hcv
      have HL := Lib.hid hL
      clear hL
      go_wp2_with fail
      go_ret
      exact ⟨by rw [← HL.out]; rfl, G3.out⟩
end Nt
end Go.Proofs.YtdklchejnpaenaaDoor
