/- The walk of NatTexts. -/
import Derived.Test.YtdklchejnpaenaaDoorHexM
import Derived.Deep.QuietTactic
import Derived.BigQuiet
namespace Go.Proofs.YtdklchejnpaenaaDoor
open Go Go.RowKit
namespace natTexts
open Wd Sti Nt
set_option linter.unusedVariables false

set_option maxRecDepth 100000 in
set_option maxHeartbeats 8000000 in
theorem walk_h1 (w : World) (A0 : Option Addr) (n0 c0 : Nat) (xs0 : List Int) (s1 : ByteArray)
    (hr0 : Rd w w.heap.size A0 n0 xs0) (hn0 : n0 ≤ c0) (hm0 : c0 ≤ 9223372036854775807) (ws1 : s1.size ≤ maxLen) (hl : 12 < n0) :
    Calls Tryd.prog 7 #[.slice A0 n0 c0, .string s1] w fun e w' => e = .returned (.bool true) ∧ Below w.heap.size w w' := by
  have ws1' : s1.size ≤ 9223372036854775807 := by unfold maxLen at ws1; omega
  clear ws1
  have r_a0 : Hid (At w A0 n0 xs0) := Lib.hid hr0
  have hB : Hid (Below w.heap.size w w) := Lib.hid (Below.refl _ w)
  clear hr0
  go_enter Tryd.func7, Tryd.ntmps7
  try simp only [List.append]
  go_wp2_with fail
  try go_at_call 10
  refine (lives_c _).mono ?_
  rintro e w1 ⟨rfl, hb⟩
  have hB := bel_step hB hb
  have r_a0 := At.step r_a0 hb
  clear hb
  go_wp2_with fail
  go_ret
  exact ⟨rfl, hB.out⟩

set_option maxRecDepth 100000 in
set_option maxHeartbeats 8000000 in
theorem walk_h2 (w : World) (A0 : Option Addr) (n0 c0 : Nat) (xs0 : List Int) (s1 : ByteArray)
    (hr0 : Rd w w.heap.size A0 n0 xs0) (hn0 : n0 ≤ c0) (hm0 : c0 ≤ 9223372036854775807) (ws1 : s1.size ≤ maxLen) (h0 : n0 ≤ 12) (hl : 200 < s1.size) :
    Calls Tryd.prog 7 #[.slice A0 n0 c0, .string s1] w fun e w' => e = .returned (.bool true) ∧ Below w.heap.size w w' := by
  have ws1' : s1.size ≤ 9223372036854775807 := by unfold maxLen at ws1; omega
  clear ws1
  have r_a0 : Hid (At w A0 n0 xs0) := Lib.hid hr0
  have hB : Hid (Below w.heap.size w w) := Lib.hid (Below.refl _ w)
  clear hr0
  go_enter Tryd.func7, Tryd.ntmps7
  try simp only [List.append]
  go_wp2_with fail
  try go_at_call 10
  refine (lives_c _).mono ?_
  rintro e w1 ⟨rfl, hb⟩
  have hB := bel_step hB hb
  have r_a0 := At.step r_a0 hb
  clear hb
  go_wp2_with fail
  go_ret
  exact ⟨rfl, hB.out⟩

set_option maxRecDepth 100000 in
set_option maxHeartbeats 8000000 in
theorem walk_e (w : World) (A0 : Option Addr) (n0 c0 : Nat) (xs0 : List Int) (s1 : ByteArray)
    (hr0 : Rd w w.heap.size A0 n0 xs0) (hn0 : n0 ≤ c0) (hm0 : c0 ≤ 9223372036854775807) (ws1 : s1.size ≤ maxLen) (h0 : n0 ≤ 12) (h1 : s1.size ≤ 200) (he : s1.data.toList = []) :
    Calls Tryd.prog 7 #[.slice A0 n0 c0, .string s1] w fun e w' => e = .returned (.bool true) ∧ Below w.heap.size w w' := by
  have ws1' : s1.size ≤ 9223372036854775807 := by unfold maxLen at ws1; omega
  clear ws1
  obtain ⟨t, ht⟩ : ∃ t : ByteArray, t = ⟨(hexes (V xs0) (digs xs0)).toArray⟩ := ⟨_, rfl⟩
  have hts : t.size = digs xs0 := by rw [ht, size_mk, hexes_len]
  obtain ⟨nb, hnb, hnbl⟩ := bits_ex hr0
  have hdg : digs xs0 = max 1 ((nb + 3) / 4) := by
    have h1 := nbits_R hr0.ws.trim (trim_trim xs0)
    rw [V_trim] at h1
    unfold digs
    rw [hnb.uniq h1]
  have htb := text_back hr0.ws
  have hd1 : 1 ≤ digs xs0 := by unfold digs; omega
  have HHX := Lib.hid (hexes_hex (V xs0) (digs xs0))
  have HNE : Hid (hexes (V xs0) (digs xs0) ≠ []) := Lib.hid (fun e => by have h := congrArg List.length e; rw [hexes_len] at h; simp at h; omega)
  have HLN := Lib.hid (hexes_len (V xs0) (digs xs0))
  have HTB := Lib.hid htb
  have HT := Lib.hid ht
  have HNB := Lib.hid hnb
  generalize HDE : digs xs0 = D at *
  have HD := Lib.hid HDE
  clear HDE
  have hmx : max 1 (((nb : Int) + 3) / 4) = (D : Int) := by omega
  have hq : ((t.size : Int) != (D : Int)) = false := by simp; omega
  have hD : D ≤ 193 := by omega
  clear htb ht hnb hts hdg
  have r_a0 : Hid (At w A0 n0 xs0) := Lib.hid hr0
  have hB : Hid (Below w.heap.size w w) := Lib.hid (Below.refl _ w)
  clear hr0
  go_enter Tryd.func7, Tryd.ntmps7
  try simp only [List.append]
  go_wp2_with fail
  try go_at_call 10
  refine (lives_c _).mono ?_
  rintro e w1 ⟨rfl, hb⟩
  have hB := bel_step hB hb
  have r_a0 := At.step r_a0 hb
  clear hb
  go_wp2_with fail
  try go_at_call 17
  refine (text_u r_a0 (by omega) (by omega) (by omega) t (by rw [HD.out]; exact HT.out)).mono ?_
  rintro e w2 ⟨rfl, hb⟩
  have hB := bel_step hB hb
  have r_a0 := At.step r_a0 hb
  clear hb
  go_wp2_with fail
  try go_at_call 15
  refine (read_u 13 t _ HT.out HHX.out HNE.out (by rw [HLN.out]; omega) (by rw [HLN.out]; omega)).mono ?_
  rintro e w3 ⟨v, rfl, ⟨Az1, nz1, cz1, z1, rfl, i_z1, r_z1, hc_z1, hk_z1, hb⟩⟩
  have hB := bel_step hB hb
  have r_a0 := At.step r_a0 hb
  clear hb
  go_wp2_with fail
  try go_at_call 40
  refine (nat_u r_a0 r_z1 (by omega) (by omega) true (decide_eq_true (by rw [i_z1.out.v, HTB.out]))).mono ?_
  rintro e w4 ⟨rfl, hb⟩
  have hB := bel_step hB hb
  have r_a0 := At.step r_a0 hb
  have r_z1 := At.step r_z1 hb
  clear hb
  go_wp2_with fail
  try go_at_call 39
  refine (trimd_u r_z1 (by omega) true (decide_eq_true i_z1.out.tr)).mono ?_
  rintro e w5 ⟨rfl, hb⟩
  have hB := bel_step hB hb
  have r_a0 := At.step r_a0 hb
  have r_z1 := At.step r_z1 hb
  clear hb
  clear r_z1
  go_wp2_with fail
  try go_at_call 23
  refine (bitsv_u r_a0 (by omega) (by omega) (by omega) nb HNB.out).mono ?_
  rintro e w6 ⟨rfl, hb⟩
  have hB := bel_step hB hb
  have r_a0 := At.step r_a0 hb
  clear hb
  go_wp2_with fail
  try go_at_call 15
  refine (readE_u s1 he).mono ?_
  rintro e w7 ⟨rfl, hb⟩
  have hB := bel_step hB hb
  have r_a0 := At.step r_a0 hb
  clear hb
  go_wp2_with fail
  go_ret
  exact ⟨rfl, hB.out⟩

set_option maxRecDepth 100000 in
set_option maxHeartbeats 8000000 in
theorem walk_b (w : World) (A0 : Option Addr) (n0 c0 : Nat) (xs0 : List Int) (s1 : ByteArray)
    (hr0 : Rd w w.heap.size A0 n0 xs0) (hn0 : n0 ≤ c0) (hm0 : c0 ≤ 9223372036854775807) (ws1 : s1.size ≤ maxLen) (h0 : n0 ≤ 12) (h1 : s1.size ≤ 200) (he : s1.data.toList ≠ []) (hx : ¬ isHex s1.data.toList) :
    Calls Tryd.prog 7 #[.slice A0 n0 c0, .string s1] w fun e w' => e = .returned (.bool true) ∧ Below w.heap.size w w' := by
  have ws1' : s1.size ≤ 9223372036854775807 := by unfold maxLen at ws1; omega
  clear ws1
  obtain ⟨t, ht⟩ : ∃ t : ByteArray, t = ⟨(hexes (V xs0) (digs xs0)).toArray⟩ := ⟨_, rfl⟩
  have hts : t.size = digs xs0 := by rw [ht, size_mk, hexes_len]
  obtain ⟨nb, hnb, hnbl⟩ := bits_ex hr0
  have hdg : digs xs0 = max 1 ((nb + 3) / 4) := by
    have h1 := nbits_R hr0.ws.trim (trim_trim xs0)
    rw [V_trim] at h1
    unfold digs
    rw [hnb.uniq h1]
  have htb := text_back hr0.ws
  have hd1 : 1 ≤ digs xs0 := by unfold digs; omega
  have HHX := Lib.hid (hexes_hex (V xs0) (digs xs0))
  have HNE : Hid (hexes (V xs0) (digs xs0) ≠ []) := Lib.hid (fun e => by have h := congrArg List.length e; rw [hexes_len] at h; simp at h; omega)
  have HLN := Lib.hid (hexes_len (V xs0) (digs xs0))
  have HTB := Lib.hid htb
  have HT := Lib.hid ht
  have HNB := Lib.hid hnb
  generalize HDE : digs xs0 = D at *
  have HD := Lib.hid HDE
  clear HDE
  have hmx : max 1 (((nb : Int) + 3) / 4) = (D : Int) := by omega
  have hq : ((t.size : Int) != (D : Int)) = false := by simp; omega
  have hD : D ≤ 193 := by omega
  clear htb ht hnb hts hdg
  have r_a0 : Hid (At w A0 n0 xs0) := Lib.hid hr0
  have hB : Hid (Below w.heap.size w w) := Lib.hid (Below.refl _ w)
  clear hr0
  go_enter Tryd.func7, Tryd.ntmps7
  try simp only [List.append]
  go_wp2_with fail
  try go_at_call 10
  refine (lives_c _).mono ?_
  rintro e w1 ⟨rfl, hb⟩
  have hB := bel_step hB hb
  have r_a0 := At.step r_a0 hb
  clear hb
  have HHE := Lib.hid he
  have HBX := Lib.hid hx
  clear he hx
  go_wp2_with fail
  try go_at_call 17
  refine (text_u r_a0 (by omega) (by omega) (by omega) t (by rw [HD.out]; exact HT.out)).mono ?_
  rintro e w2 ⟨rfl, hb⟩
  have hB := bel_step hB hb
  have r_a0 := At.step r_a0 hb
  clear hb
  go_wp2_with fail
  try go_at_call 15
  refine (read_u 13 t _ HT.out HHX.out HNE.out (by rw [HLN.out]; omega) (by rw [HLN.out]; omega)).mono ?_
  rintro e w3 ⟨v, rfl, ⟨Az1, nz1, cz1, z1, rfl, i_z1, r_z1, hc_z1, hk_z1, hb⟩⟩
  have hB := bel_step hB hb
  have r_a0 := At.step r_a0 hb
  clear hb
  go_wp2_with fail
  try go_at_call 40
  refine (nat_u r_a0 r_z1 (by omega) (by omega) true (decide_eq_true (by rw [i_z1.out.v, HTB.out]))).mono ?_
  rintro e w4 ⟨rfl, hb⟩
  have hB := bel_step hB hb
  have r_a0 := At.step r_a0 hb
  have r_z1 := At.step r_z1 hb
  clear hb
  go_wp2_with fail
  try go_at_call 39
  refine (trimd_u r_z1 (by omega) true (decide_eq_true i_z1.out.tr)).mono ?_
  rintro e w5 ⟨rfl, hb⟩
  have hB := bel_step hB hb
  have r_a0 := At.step r_a0 hb
  have r_z1 := At.step r_z1 hb
  clear hb
  clear r_z1
  go_wp2_with fail
  try go_at_call 23
  refine (bitsv_u r_a0 (by omega) (by omega) (by omega) nb HNB.out).mono ?_
  rintro e w6 ⟨rfl, hb⟩
  have hB := bel_step hB hb
  have r_a0 := At.step r_a0 hb
  clear hb
  go_wp2_with fail
  try go_at_call 15
  refine (readB_u s1 (by omega) HHE.out HBX.out).mono ?_
  rintro e w7 ⟨rfl, hb⟩
  have hB := bel_step hB hb
  have r_a0 := At.step r_a0 hb
  clear hb
  go_wp2_with fail
  go_ret
  exact ⟨rfl, hB.out⟩

set_option maxRecDepth 100000 in
set_option maxHeartbeats 8000000 in
theorem walk_m (w : World) (A0 : Option Addr) (n0 c0 : Nat) (xs0 : List Int) (s1 : ByteArray)
    (hr0 : Rd w w.heap.size A0 n0 xs0) (hn0 : n0 ≤ c0) (hm0 : c0 ≤ 9223372036854775807) (ws1 : s1.size ≤ maxLen) (h0 : n0 ≤ 12) (h1 : s1.size ≤ 200) (he : s1.data.toList ≠ []) (hx : isHex s1.data.toList) :
    Calls Tryd.prog 7 #[.slice A0 n0 c0, .string s1] w fun e w' => e = .returned (.bool true) ∧ Below w.heap.size w w' := by
  have ws1' : s1.size ≤ 9223372036854775807 := by unfold maxLen at ws1; omega
  clear ws1
  obtain ⟨t, ht⟩ : ∃ t : ByteArray, t = ⟨(hexes (V xs0) (digs xs0)).toArray⟩ := ⟨_, rfl⟩
  have hts : t.size = digs xs0 := by rw [ht, size_mk, hexes_len]
  obtain ⟨nb, hnb, hnbl⟩ := bits_ex hr0
  have hdg : digs xs0 = max 1 ((nb + 3) / 4) := by
    have h1 := nbits_R hr0.ws.trim (trim_trim xs0)
    rw [V_trim] at h1
    unfold digs
    rw [hnb.uniq h1]
  have htb := text_back hr0.ws
  have hd1 : 1 ≤ digs xs0 := by unfold digs; omega
  have HHX := Lib.hid (hexes_hex (V xs0) (digs xs0))
  have HNE : Hid (hexes (V xs0) (digs xs0) ≠ []) := Lib.hid (fun e => by have h := congrArg List.length e; rw [hexes_len] at h; simp at h; omega)
  have HLN := Lib.hid (hexes_len (V xs0) (digs xs0))
  have HTB := Lib.hid htb
  have HT := Lib.hid ht
  have HNB := Lib.hid hnb
  generalize HDE : digs xs0 = D at *
  have HD := Lib.hid HDE
  clear HDE
  have hmx : max 1 (((nb : Int) + 3) / 4) = (D : Int) := by omega
  have hq : ((t.size : Int) != (D : Int)) = false := by simp; omega
  have hD : D ≤ 193 := by omega
  clear htb ht hnb hts hdg
  have r_a0 : Hid (At w A0 n0 xs0) := Lib.hid hr0
  have hB : Hid (Below w.heap.size w w) := Lib.hid (Below.refl _ w)
  clear hr0
  go_enter Tryd.func7, Tryd.ntmps7
  try simp only [List.append]
  go_wp2_with fail
  try go_at_call 10
  refine (lives_c _).mono ?_
  rintro e w1 ⟨rfl, hb⟩
  have hB := bel_step hB hb
  have r_a0 := At.step r_a0 hb
  clear hb
  obtain ⟨l, hl⟩ : ∃ l : List UInt8, l = s1.data.toList := ⟨_, rfl⟩
  rw [← hl] at he hx
  have hll : l.length = s1.size := by rw [hl, bytes_len]
  have hsl : s1 = ⟨l.toArray⟩ := by rw [hl]
  have HSL := Lib.hid hsl
  have HHE := Lib.hid he
  have HHX2 := Lib.hid hx
  have hl1 : l.length ≤ 200 := by omega
  have hl0 : 0 < l.length := List.length_pos_iff.2 he
  clear hl hll hsl he hx
  go_wp2_with fail
  try go_at_call 17
  refine (text_u r_a0 (by omega) (by omega) (by omega) t (by rw [HD.out]; exact HT.out)).mono ?_
  rintro e w2 ⟨rfl, hb⟩
  have hB := bel_step hB hb
  have r_a0 := At.step r_a0 hb
  clear hb
  go_wp2_with fail
  try go_at_call 15
  refine (read_u 13 t _ HT.out HHX.out HNE.out (by rw [HLN.out]; omega) (by rw [HLN.out]; omega)).mono ?_
  rintro e w3 ⟨v, rfl, ⟨Az1, nz1, cz1, z1, rfl, i_z1, r_z1, hc_z1, hk_z1, hb⟩⟩
  have hB := bel_step hB hb
  have r_a0 := At.step r_a0 hb
  clear hb
  go_wp2_with fail
  try go_at_call 40
  refine (nat_u r_a0 r_z1 (by omega) (by omega) true (decide_eq_true (by rw [i_z1.out.v, HTB.out]))).mono ?_
  rintro e w4 ⟨rfl, hb⟩
  have hB := bel_step hB hb
  have r_a0 := At.step r_a0 hb
  have r_z1 := At.step r_z1 hb
  clear hb
  go_wp2_with fail
  try go_at_call 39
  refine (trimd_u r_z1 (by omega) true (decide_eq_true i_z1.out.tr)).mono ?_
  rintro e w5 ⟨rfl, hb⟩
  have hB := bel_step hB hb
  have r_a0 := At.step r_a0 hb
  have r_z1 := At.step r_z1 hb
  clear hb
  clear r_z1
  go_wp2_with fail
  try go_at_call 23
  refine (bitsv_u r_a0 (by omega) (by omega) (by omega) nb HNB.out).mono ?_
  rintro e w6 ⟨rfl, hb⟩
  have hB := bel_step hB hb
  have r_a0 := At.step r_a0 hb
  clear hb
  go_wp2_with fail
  try go_at_call 15
  refine (read_u 13 s1 l HSL.out HHX2.out HHE.out (by omega) (by omega)).mono ?_
  rintro e w7 ⟨v, rfl, ⟨Az2, nz2, cz2, z2, rfl, i_z2, r_z2, hc_z2, hk_z2, hb⟩⟩
  have hB := bel_step hB hb
  have r_a0 := At.step r_a0 hb
  clear hb
  obtain ⟨u, hu⟩ : ∃ u : ByteArray, u = ⟨(hexes (V z2) (digs z2)).toArray⟩ := ⟨_, rfl⟩
  have HU := Lib.hid hu
  clear hu
  go_wp2_with fail
  try go_at_call 17
  refine (text_u r_z2 (by omega) (by omega) (by omega) u HU.out).mono ?_
  rintro e w8 ⟨rfl, hb⟩
  have hB := bel_step hB hb
  have r_a0 := At.step r_a0 hb
  have r_z2 := At.step r_z2 hb
  clear hb
  rw [i_z2.out.v] at HU
  have HZW := Lib.hid r_z2.out.ws
  have HZV := Lib.hid i_z2.out.v
  clear r_a0 r_z2 i_z2 hmx hq HT HTB HNB HHX HNE HLN
  go_wp2_with fail
  go_loop [1] (fun v => ∃ (k : Nat) (tk : ByteArray), k < l.length ∧ v = .string tk ∧ tk.data.toList = l.drop k ∧ ∀ (j : Nat) b, j < k → l[j]? = some b → b = 48) (fun v => Lib.strSize v)
  case atStart => exact ⟨0, s1, hl0, rfl, by rw [HSL.out]; rfl, fun j b hj => absurd hj (Nat.not_lt_zero _)⟩
  case round =>
    obtain ⟨k, t1, hk, rfl, htd, hc⟩ := hrel
    have hsz : t1.size = l.length - k := by rw [← bytes_len, htd, List.length_drop]
    have hp0 : 0 < t1.size := by omega
    have hb := bytes_get hp0
    rw [htd, List.getElem?_drop, Nat.add_zero] at hb
    have HC := Lib.hid hc
    have HTD := Lib.hid htd
    have HSZ := Lib.hid hsz
    by_cases h1 : (1 : Int) < (t1.size : Int)
    · by_cases h48 : t1[0] = 48
      · have q1 : (((t1[0]).toNat : Int) == 48) = true := by rw [h48]; rfl
        have hnx : (∃ (k' : Nat) (tk : ByteArray), k' < l.length ∧ Value.string (t1.extract 1 t1.size) = .string tk ∧ tk.data.toList = l.drop k' ∧ ∀ (j : Nat) b, j < k' → l[j]? = some b → b = 48) ∧ Lib.strSize (.string (t1.extract 1 t1.size)) < Lib.strSize (.string t1) := by
          have he := tail_list t1
          rw [htd, List.drop_drop] at he
          refine ⟨⟨k + 1, _, by omega, rfl, he, ?_⟩, ?_⟩
          · intro j b hj hjb
            rcases Nat.lt_or_ge j k with h | h
            · exact hc j b h hjb
            · have : j = k := by omega
              subst this
              rw [hb] at hjb
              rw [← Option.some.inj hjb, h48]
          · show (t1.extract 1 t1.size).size < t1.size
            rw [← bytes_len, he, List.length_drop]; omega
        have HNX := Lib.hid hnx
        clear hnx hb hc htd h48 hsz
        go_wp2_with fail
        exact HNX.out
      · have q1 : (((t1[0]).toNat : Int) == 48) = false := by
          simp only [beq_eq_false_iff_ne, ne_eq]; intro h; exact h48 (UInt8.toNat_inj.1 (by show _ = 48; omega))
        have hdg := digs_read HZW.out HZV.out HHX2.out hk hc (.inr ⟨_, hb, h48⟩)
        rw [hdg] at HU
        have hus : u.size = t1.size := by rw [HU.out, size_mk, hexes_len, hsz]
        have hne : ((u.size : Int) != (t1.size : Int)) = false := by rw [hus]; simp
        have HSM := Lib.hid (told_same HHX2.out hk HU.out htd)
        have HUS := Lib.hid hus
        have hzz : t1.size ≤ 200 := by omega
        clear hus hdg hb hc htd hsz
        go_wp2_with fail
        go_loopw [11] (fun i wr => ∃ j q : Nat, j ≤ t1.size ∧ i = .int .i64 j ∧ wr = w8.drewN q) (fun i _ => t1.size - (intOf i).toNat)
        case atStart => exact ⟨0, 0, Nat.zero_le _, rfl, rfl⟩
        case round =>
          obtain ⟨j, q, hj, rfl, rfl⟩ := hrel
          by_cases hlt : j < t1.size
          · have hlu : j < u.size := by rw [HUS.out]; exact hlt
            have hji : (j : Int) < (t1.size : Int) := by omega
            rcases HSM.out j hlu hlt with hx | ⟨hx, hy⟩
            · have hq1 : (((u[j]).toNat : Int) != ((t1[j]).toNat : Int)) = false := by rw [hx]; simp
              clear hx
              go_wp2_with fail
              go_quiet (fail)
              go_wp2_with fail
              exact ⟨⟨j + 1, _, by omega, by go_num, rfl⟩, by simp [intOf] <;> omega⟩
            · have hq1 : (((u[j]).toNat : Int) != ((t1[j]).toNat : Int)) = true := by rw [hx]; simp; omega
              have hq2 : (((u[j]).toNat : Int) != ((t1[j]).toNat : Int) + 32) = false := by rw [hx]; simp
              clear hx
              go_wp2_with fail
              go_quiet (fail)
              go_wp2_with fail
              exact ⟨⟨j + 1, _, by omega, by go_num, rfl⟩, by simp [intOf] <;> omega⟩
          · obtain rfl : j = t1.size := by omega
            go_wp2_with fail
            go_ret
            exact ⟨rfl, ⟨hB.out.os, hB.out.tape, hB.out.output, hB.out.size, hB.out.block⟩⟩
    · have hdg := digs_read HZW.out HZV.out HHX2.out hk hc (.inl (by omega))
      have h1' : (t1.size : Int) ≤ 1 := by omega
      rw [hdg] at HU
      have hus : u.size = t1.size := by rw [HU.out, size_mk, hexes_len, hsz]
      have hne : ((u.size : Int) != (t1.size : Int)) = false := by rw [hus]; simp
      have HSM := Lib.hid (told_same HHX2.out hk HU.out htd)
      have HUS := Lib.hid hus
      have hzz : t1.size ≤ 200 := by omega
      clear hus hdg hb hc htd hsz
      go_wp2_with fail
      go_loopw [11] (fun i wr => ∃ j q : Nat, j ≤ t1.size ∧ i = .int .i64 j ∧ wr = w8.drewN q) (fun i _ => t1.size - (intOf i).toNat)
      case atStart => exact ⟨0, 0, Nat.zero_le _, rfl, rfl⟩
      case round =>
        obtain ⟨j, q, hj, rfl, rfl⟩ := hrel
        by_cases hlt : j < t1.size
        · have hlu : j < u.size := by rw [HUS.out]; exact hlt
          have hji : (j : Int) < (t1.size : Int) := by omega
          rcases HSM.out j hlu hlt with hx | ⟨hx, hy⟩
          · have hq1 : (((u[j]).toNat : Int) != ((t1[j]).toNat : Int)) = false := by rw [hx]; simp
            clear hx
            go_wp2_with fail
            go_quiet (fail)
            go_wp2_with fail
            exact ⟨⟨j + 1, _, by omega, by go_num, rfl⟩, by simp [intOf] <;> omega⟩
          · have hq1 : (((u[j]).toNat : Int) != ((t1[j]).toNat : Int)) = true := by rw [hx]; simp; omega
            have hq2 : (((u[j]).toNat : Int) != ((t1[j]).toNat : Int) + 32) = false := by rw [hx]; simp
            clear hx
            go_wp2_with fail
            go_quiet (fail)
            go_wp2_with fail
            exact ⟨⟨j + 1, _, by omega, by go_num, rfl⟩, by simp [intOf] <;> omega⟩
        · obtain rfl : j = t1.size := by omega
          go_wp2_with fail
          go_ret
          exact ⟨rfl, ⟨hB.out.os, hB.out.tape, hB.out.output, hB.out.size, hB.out.block⟩⟩

theorem walk (w : World) (A0 : Option Addr) (n0 c0 : Nat) (xs0 : List Int) (s1 : ByteArray)
    (hr0 : Rd w w.heap.size A0 n0 xs0) (hn0 : n0 ≤ c0) (hm0 : c0 ≤ 9223372036854775807) (ws1 : s1.size ≤ maxLen) :
    Calls Tryd.prog 7 #[.slice A0 n0 c0, .string s1] w fun e w' => e = .returned (.bool true) ∧ Below w.heap.size w w' := by
  by_cases h0 : n0 ≤ 12
  · by_cases h1 : s1.size ≤ 200
    · by_cases he : s1.data.toList = []
      · exact walk_e w A0 n0 c0 xs0 s1 hr0 hn0 hm0 ws1 h0 h1 he
      · by_cases hx : isHex s1.data.toList
        · exact walk_m w A0 n0 c0 xs0 s1 hr0 hn0 hm0 ws1 h0 h1 he hx
        · exact walk_b w A0 n0 c0 xs0 s1 hr0 hn0 hm0 ws1 h0 h1 he hx
    · exact walk_h2 w A0 n0 c0 xs0 s1 hr0 hn0 hm0 ws1 h0 (by omega)
  · exact walk_h1 w A0 n0 c0 xs0 s1 hr0 hn0 hm0 ws1 (by omega)
end natTexts
end Go.Proofs.YtdklchejnpaenaaDoor
