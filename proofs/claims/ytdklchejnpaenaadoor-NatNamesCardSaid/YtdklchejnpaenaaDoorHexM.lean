/- Digits by sixteen: what is told is read again. -/
import Derived.Test.YtdklchejnpaenaaDoorUni2
namespace Go.Proofs.YtdklchejnpaenaaDoor
open Go Go.RowKit
namespace Nt
open Wd Sti
set_option linter.unusedVariables false

theorem hexb_hex : ∀ d : Nat, d < 16 → hexd (hexb d).toNat = some d
  | 0, _ => rfl | 1, _ => rfl | 2, _ => rfl | 3, _ => rfl | 4, _ => rfl | 5, _ => rfl | 6, _ => rfl | 7, _ => rfl
  | 8, _ => rfl | 9, _ => rfl | 10, _ => rfl | 11, _ => rfl | 12, _ => rfl | 13, _ => rfl | 14, _ => rfl | 15, _ => rfl
  | d + 16, h => absurd h (by omega)
theorem dv_hexb {d : Nat} (h : d < 16) : dv_ (hexb d).toNat = d := by unfold dv_; rw [hexb_hex d h]; rfl
theorem hexes_succ (v : Int) (n : Nat) : hexes v (n + 1) = hexb (dig v n) :: hexes v n := by
  apply List.ext_getElem?
  intro k
  rcases Nat.lt_or_ge k (n + 1) with h | h
  · rw [hexes_get v (n + 1) k h]
    cases k with
    | zero => rfl
    | succ k =>
      rw [List.getElem?_cons_succ, hexes_get v n k (by omega)]
      congr 3
      omega
  · rw [List.getElem?_eq_none (by rw [hexes_len]; exact h), List.getElem?_eq_none (by rw [List.length_cons, hexes_len]; exact h)]
theorem hexes_hex (v : Int) (n : Nat) : isHex (hexes v n) := by
  induction n with
  | zero => intro b hb; simp [hexes] at hb
  | succ n ih =>
    intro b hb
    rw [hexes_succ] at hb
    rcases List.mem_cons.1 hb with rfl | hb
    · rw [hexb_hex _ (dig_lt _ _)]; rfl
    · exact ih b hb
theorem hexV_hexes {v : Int} (h : 0 ≤ v) (n : Nat) : hexV (hexes v n) = v % 16 ^ n := by
  induction n with
  | zero => rw [Int.pow_zero, Int.emod_one]; rfl
  | succ n ih =>
    rw [hexes_succ]
    simp only [hexV]
    rw [ih, hexes_len, dv_hexb (dig_lt _ _)]
    have h1 := pow16_pos n
    have e : ((dig v n : Nat) : Int) = v / 16 ^ n % 16 := by unfold dig; omega
    rw [e, Int.pow_succ]
    have h2 := Int.emod_add_mul_ediv v (16 ^ n)
    have h3 := Int.emod_nonneg v (show (16 : Int) ^ n ≠ 0 by omega)
    have h4 := Int.emod_lt_of_pos v (show (0 : Int) < 16 ^ n by omega)
    have h5 := Int.emod_add_mul_ediv (v / 16 ^ n) 16
    generalize v / 16 ^ n = q at *
    have h6 : v = (v % 16 ^ n + q % 16 * 16 ^ n) + (16 ^ n * 16) * (q / 16) := by
      have : 16 ^ n * q = 16 ^ n * (q % 16) + 16 ^ n * (16 * (q / 16)) := by rw [← Int.mul_add, h5]
      rw [Int.mul_comm (q % 16), Int.mul_assoc]; omega
    have h7 : q % 16 * 16 ^ n ≤ 15 * 16 ^ n := Int.mul_le_mul_of_nonneg_right (by omega) (by omega)
    have h8 : 0 ≤ q % 16 * 16 ^ n := Int.mul_nonneg (by omega) (by omega)
    generalize v % 16 ^ n = r at *
    rw [h6, Int.add_mul_emod_self_left, Int.emod_eq_of_lt (a := r + q % 16 * 16 ^ n) (by omega) (by omega)]
    omega
theorem digs_up {xs : List Int} (h : Ws xs) : V xs < 16 ^ digs xs := by
  have h1 := nbits_R h.trim (trim_trim xs)
  rw [V_trim] at h1
  have h2 := h1.up
  have h3 := pow_le (show nbits (trim xs) ≤ digs xs * 4 by unfold digs; omega)
  rw [pow16] at h3
  omega
theorem text_back {xs : List Int} (h : Ws xs) : hexV (hexes (V xs) (digs xs)) = V xs := by
  rw [hexV_hexes (V_nonneg h), Int.emod_eq_of_lt (V_nonneg h) (digs_up h)]
/-- a number of m digits whose first is none that is 0 is told in m digits -/
theorem digs_top {xs : List Int} {m : Nat} (h : Ws xs) (h1 : V xs < 16 ^ (m + 1)) (h2 : m = 0 ∨ 16 ^ m ≤ V xs) : digs xs = m + 1 := by
  have hb := nbits_R h.trim (trim_trim xs)
  rw [V_trim] at hb
  unfold digs
  generalize nbits (trim xs) = b at *
  rw [← pow16, show (m + 1) * 4 = 4 * m + 4 by omega] at h1
  have hup : b ≤ 4 * m + 4 := by
    by_cases h0 : V xs = 0
    · rw [hb.zero h0]; omega
    · obtain ⟨b1, b2⟩ := hb.lo h0
      have := p2_lt (a := b - 1) (b := 4 * m + 4) (by omega)
      omega
  rcases h2 with rfl | h2
  · omega
  · rw [← pow16, Nat.mul_comm] at h2
    have := p2_lt (a := 4 * m) (b := b) (by have := hb.up; omega)
    omega
/-- the digits that are told of what was read are those that stood there, small -/
theorem dig_hexV : ∀ (l : List UInt8) (k : Nat) (h : k < l.length), dig (hexV l) (l.length - 1 - k) = dv_ (l[k]'h).toNat := by
  intro l
  induction l with
  | nil => intro k h; cases h
  | cons b l ih =>
    intro k h
    have hb := hexV_bd l
    have hp := pow16_pos l.length
    have hd := dv_lt b.toNat
    cases k with
    | zero =>
      simp only [List.length_cons, Nat.add_sub_cancel, Nat.sub_zero, List.getElem_cons_zero]
      unfold dig
      simp only [hexV]
      rw [Int.add_comm, Int.add_mul_ediv_right _ _ (by omega), Int.ediv_eq_zero_of_lt hb.1 hb.2]
      omega
    | succ k =>
      have hk : k < l.length := by simpa using h
      have := ih k hk
      rw [List.getElem_cons_succ, ← this]
      have e : (b :: l).length - 1 - (k + 1) = l.length - 1 - k := by simp only [List.length_cons]; omega
      rw [e]
      unfold dig
      simp only [hexV]
      obtain ⟨q, hq⟩ : ∃ q, l.length = (l.length - 1 - k) + 1 + q := ⟨l.length - (l.length - 1 - k) - 1, by omega⟩
      generalize l.length - 1 - k = j at *
      have hpj := pow16_pos j
      have e2 : (dv_ b.toNat : Int) * 16 ^ l.length = 16 ^ j * (16 * ((dv_ b.toNat : Int) * 16 ^ q)) := by
        rw [hq, Int.pow_add, Int.pow_succ]
        ac_rfl
      rw [e2, Int.add_comm, Int.add_mul_ediv_left _ _ (by omega), Int.add_mul_emod_self_left]
theorem small_fin : ∀ c : Fin 256, (hexd c.val).isSome = true → (hexb (dv_ c.val)).toNat = c.val ∨ (hexb (dv_ c.val)).toNat = c.val + 32 ∧ c.val ≤ 70 := by
  decide +kernel
theorem small_of (c : Nat) (h : (hexd c).isSome = true) (hc : c < 256) : (hexb (dv_ c)).toNat = c ∨ (hexb (dv_ c)).toNat = c + 32 ∧ c ≤ 70 := small_fin ⟨c, hc⟩ h
theorem hexV_drop_zero {l : List UInt8} : ∀ (k : Nat), k ≤ l.length → (∀ j b, j < k → l[j]? = some b → b = 48) → hexV (l.drop k) = hexV l := by
  induction l with
  | nil => intro k hk _; simp
  | cons x l ih =>
    intro k hk h
    cases k with
    | zero => rfl
    | succ k =>
      rw [List.drop_succ_cons, ih k (by simpa using hk) (fun j b hj hb => h (j + 1) b (by omega) (by rw [List.getElem?_cons_succ]; exact hb))]
      have : x = 48 := h 0 x (by omega) rfl
      subst this
      have h0 : dv_ (48 : UInt8).toNat = 0 := by decide
      simp only [hexV, h0]
      omega
theorem text_u {w : World} {A : Option Addr} {n c : Nat} {xs : List Int} (ha : Hid (At w A n xs)) (la : n ≤ 1048576) (hA : n ≤ c) (hA' : c ≤ 9223372036854775807) (t : ByteArray) (ht : t = ⟨(hexes (V xs) (digs xs)).toArray⟩) :
    Calls Tryd.prog 17 #[.slice A n c] w fun e w' => e = .returned (.string t) ∧ Below w.heap.size w w' := by
  subst ht
  exact text_n A n c xs w ha.out ⟨hA, by omega⟩ hA'
theorem read_u {w : World} (K : Nat) (t : ByteArray) (l : List UInt8) (ht : t = ⟨l.toArray⟩) (hx : isHex l) (hne : l ≠ []) (hl : l.length ≤ 8192) (hK : (l.length + 15) / 16 ≤ K) :
    Calls Tryd.prog 15 #[.string t] w fun e w' => ∃ v, e = .returned (.tuple #[v, .int .i64 0]) ∧ New w w' v (hexV l) K := by
  subst ht
  exact (read_ok l w hx hne hl).mono fun e w' ⟨v, h, g⟩ => ⟨v, h, New.of g hK⟩
theorem readB_u {w : World} (t : ByteArray) (hs : t.size ≤ 1073741824) (h0 : t.data.toList ≠ []) (hx : ¬ isHex t.data.toList) :
    Calls Tryd.prog 15 #[.string t] w fun e w' => e = .returned (.tuple #[.slice none 0 0, .int .i64 7]) ∧ Below w.heap.size w w' :=
  (read_n t w hs h0).mono fun e w' h => ⟨(h.1 hx).1, by rw [(h.1 hx).2]; exact Below.refl _ _⟩
theorem readE_u {w : World} (t : ByteArray) (h0 : t.data.toList = []) :
    Calls Tryd.prog 15 #[.string t] w fun e w' => e = .returned (.tuple #[.slice none 0 0, .int .i64 2]) ∧ Below w.heap.size w w' :=
  (read_empty t w h0).mono fun e w' h => ⟨h.1, by rw [h.2]; exact Below.refl _ _⟩
theorem size_mk (l : List UInt8) : (⟨l.toArray⟩ : ByteArray).size = l.length := by show l.toArray.size = _; rw [List.size_toArray]
/-- what is told of what was read has its length, noughts ahead left away -/
theorem digs_read {z : List Int} {l : List UInt8} {k : Nat} (hw : Ws z) (hv : V z = hexV l) (hx : isHex l) (hk : k < l.length)
    (hc : ∀ (j : Nat) b, j < k → l[j]? = some b → b = 48) (he : l.length - k = 1 ∨ ∃ b, l[k]? = some b ∧ b ≠ 48) : digs z = l.length - k := by
  have h0 := hexV_drop_zero k (by omega) hc
  have hb := (hexV_bd (l.drop k)).2
  rw [h0, ← hv, List.length_drop] at hb
  obtain ⟨m, hm⟩ : ∃ m, l.length - k = m + 1 := ⟨l.length - k - 1, by omega⟩
  rw [hm] at hb he ⊢
  refine digs_top hw hb ?_
  rcases he with he | ⟨b, e1, e2⟩
  · left; omega
  · right
    obtain ⟨q, rfl⟩ := List.getElem?_eq_some_iff.1 e1
    have h3 := List.drop_eq_getElem_cons hk
    have h4 : dv_ (l[k]).toNat ≠ 0 := by
      intro e
      have := dv_zero (hx _ (List.getElem_mem hk)) e
      exact e2 (UInt8.toNat_inj.1 this)
    have h5 := hexV_top (l := l.drop (k + 1)) h4
    rw [← h3, h0, ← hv, List.length_drop] at h5
    have : l.length - (k + 1) = m := by omega
    rw [this] at h5
    exact h5
theorem told_same {l : List UInt8} {k : Nat} {u t : ByteArray} (hx : isHex l) (hk : k < l.length) (hu : u = ⟨(hexes (hexV l) (l.length - k)).toArray⟩)
    (ht : t.data.toList = l.drop k) (i : Nat) (h1 : i < u.size) (h2 : i < t.size) : (u[i]'h1).toNat = (t[i]'h2).toNat ∨ (u[i]'h1).toNat = (t[i]'h2).toNat + 32 ∧ (t[i]'h2).toNat ≤ 70 := by
  have a1 := bytes_get h1
  have a2 := bytes_get h2
  have hs : t.size = l.length - k := by rw [← bytes_len, ht, List.length_drop]
  have e : u.data.toList = hexes (hexV l) (l.length - k) := by rw [hu]
  rw [e, hexes_get _ _ _ (by omega)] at a1
  rw [ht, List.getElem?_drop, List.getElem?_eq_getElem (by omega)] at a2
  have b1 := Option.some.inj a1
  have b2 := Option.some.inj a2
  have b3 := dig_hexV l (k + i) (by omega)
  rw [show l.length - 1 - (k + i) = l.length - k - 1 - i by omega] at b3
  rw [← b1, ← b2, b3]
  exact small_of _ (hx _ (List.getElem_mem _)) (UInt8.toNat_lt _)
theorem tail_list (t : ByteArray) : (t.extract 1 t.size).data.toList = t.data.toList.drop 1 := by
  obtain ⟨⟨l⟩⟩ := t
  show ((⟨l.toArray⟩ : ByteArray).extract 1 (⟨l.toArray⟩ : ByteArray).size).data.toList = l.drop 1
  rw [size_mk, Lib.extract_mk]
  show List.take (l.length - 1) (List.drop 1 l) = _
  rw [List.take_of_length_le (by simp)]
end Nt
end Go.Proofs.YtdklchejnpaenaaDoor
