/- The document's own Read. -/
import Derived.Test.YtdklchejnpaenaaDoorRfF
import Derived.Test.YtdklchejnpaenaaDoorNatR3
import Derived.Still
import Derived.StillTail
namespace Go.Proofs.YtdklchejnpaenaaDoor
open Go Go.RowKit
namespace Nt
open Wd Sti
set_option linter.unusedVariables false

/-- the digit, or -1 -/
def dgi (c : Nat) : Int := if (hexd c).isSome = true then (dv_ c : Int) else -1
theorem rdigit_c (c : Nat) (w : World) (hc : c < 256) :
    Calls Tryd.prog 61 #[.int .u8 (c : Int)] w fun e w' => e = .returned (.int .i64 (dgi c)) ∧ w' = w := by
  by_cases h1 : 48 ≤ c ∧ c ≤ 57
  · have e2 : dgi c = (c : Int) - 48 := by
      have e1 : hexd c = some (c - 48) := by unfold hexd; rw [if_pos h1]
      unfold dgi dv_; rw [e1]; simp; omega
    rw [e2]
    obtain ⟨a1, a2⟩ := h1
    clear e2
    have b1 : (48 : Int) ≤ c := by omega
    have b2 : (c : Int) ≤ 57 := by omega
    go_enter Tryd.func61, Tryd.ntmps61
    go_wp2_with fail
    go_ret
    exact ⟨rfl, rfl⟩
  · by_cases h2 : 97 ≤ c ∧ c ≤ 102
    · have e2 : dgi c = (c : Int) - 97 + 10 := by
        have e1 : hexd c = some (c - 87) := by unfold hexd; rw [if_neg h1, if_pos h2]
        unfold dgi dv_; rw [e1]; simp; omega
      rw [e2]
      clear e2 h1
      obtain ⟨a1, a2⟩ := h2
      have b0 : (48 : Int) ≤ c := by omega
      have b1 : (57 : Int) < c := by omega
      have b2 : (97 : Int) ≤ c := by omega
      have b3 : (c : Int) ≤ 102 := by omega
      go_enter Tryd.func61, Tryd.ntmps61
      go_wp2_with fail
      go_ret
      exact ⟨rfl, rfl⟩
    · by_cases h3 : 65 ≤ c ∧ c ≤ 70
      · have e2 : dgi c = (c : Int) - 65 + 10 := by
          have e1 : hexd c = some (c - 55) := by unfold hexd; rw [if_neg h1, if_neg h2, if_pos h3]
          unfold dgi dv_; rw [e1]; simp; omega
        rw [e2]
        clear e2 h1 h2
        obtain ⟨a1, a2⟩ := h3
        have b0 : (48 : Int) ≤ c := by omega
        have b1 : (57 : Int) < c := by omega
        have b2 : (c : Int) < 97 := by omega
        have b3 : (65 : Int) ≤ c := by omega
        have b4 : (c : Int) ≤ 70 := by omega
        go_enter Tryd.func61, Tryd.ntmps61
        go_wp2_with fail
        go_ret
        exact ⟨rfl, rfl⟩
      · have e2 : dgi c = -1 := by
          have e1 : hexd c = none := by unfold hexd; rw [if_neg h1, if_neg h2, if_neg h3]
          unfold dgi; rw [e1]; rfl
        rw [e2]
        clear e2
        rcases (show c < 48 ∨ (57 < c ∧ c < 65) ∨ (70 < c ∧ c < 97) ∨ 102 < c by omega) with h | ⟨h, h'⟩ | ⟨h, h'⟩ | h <;> clear h1 h2 h3
        · have b0 : (c : Int) < 48 := by omega
          have b1 : (c : Int) < 97 := by omega
          have b2 : (c : Int) < 65 := by omega
          go_enter Tryd.func61, Tryd.ntmps61
          go_wp2_with fail
          go_ret
          exact ⟨rfl, rfl⟩
        · have b0 : (48 : Int) ≤ c := by omega
          have b3 : (57 : Int) < c := by omega
          have b1 : (c : Int) < 97 := by omega
          have b2 : (c : Int) < 65 := by omega
          go_enter Tryd.func61, Tryd.ntmps61
          go_wp2_with fail
          go_ret
          exact ⟨rfl, rfl⟩
        · have b0 : (48 : Int) ≤ c := by omega
          have b3 : (57 : Int) < c := by omega
          have b1 : (c : Int) < 97 := by omega
          have b2 : (65 : Int) ≤ c := by omega
          have b4 : (70 : Int) < c := by omega
          go_enter Tryd.func61, Tryd.ntmps61
          go_wp2_with fail
          go_ret
          exact ⟨rfl, rfl⟩
        · have b0 : (48 : Int) ≤ c := by omega
          have b3 : (57 : Int) < c := by omega
          have b1 : (97 : Int) ≤ c := by omega
          have b2 : (65 : Int) ≤ c := by omega
          have b4 : (70 : Int) < c := by omega
          have b5 : (102 : Int) < c := by omega
          go_enter Tryd.func61, Tryd.ntmps61
          go_wp2_with fail
          go_ret
          exact ⟨rfl, rfl⟩

theorem at_low {zs : List Int} {m : Nat} (hz : Ws zs) (hv : V zs % 2 ^ (m + 1) = 0) : Nt.at_ zs (m / 64) % 2 ^ (m % 64 + 1) = 0 := by
  have hp := P_pos (m / 64)
  have hr : m % 64 < 64 := Nat.mod_lt _ (by omega)
  rw [V_at zs hz]
  obtain ⟨q, hq⟩ := Int.dvd_of_emod_eq_zero hv
  have e : (2 : Int) ^ (m + 1) = P (m / 64) * 2 ^ (m % 64 + 1) := by
    rw [← two_P, ← Int.pow_add]; congr 1; omega
  rw [hq, e, Int.mul_assoc, Int.mul_ediv_cancel_left _ (by omega)]
  have e2 : (18446744073709551616 : Int) = 2 ^ (m % 64 + 1) * 2 ^ (63 - m % 64) := by
    have : (2 : Int) ^ 64 = 2 ^ (m % 64 + 1) * 2 ^ (63 - m % 64) := by rw [← Int.pow_add]; congr 1; omega
    exact this
  rw [e2, Int.mul_emod_mul_of_pos _ _ (by have := pow_pos2 (m % 64 + 1); omega), Int.mul_emod_right]
/-- one digit more put into its limb, the highest digits first -/
theorem put_top {zs : List Int} {m k : Nat} {d : Int} (hz : Ws zs) (hl : zs.length = m) (hi : k / 16 < m) (hv : V zs % 16 ^ (k + 1) = 0) (hd0 : 0 ≤ d) (hd : d < 16) :
    bits .or .u64 (Nt.at_ zs (k / 16)) (d * 2 ^ (4 * (k % 16))) = Nt.at_ zs (k / 16) + d * 2 ^ (4 * (k % 16)) ∧ 0 ≤ d * 2 ^ (4 * (k % 16)) ∧ d * 2 ^ (4 * (k % 16)) ≤ 18446744073709551615 ∧
    W (Nt.at_ zs (k / 16) + d * 2 ^ (4 * (k % 16))) ∧ V (zs.set (k / 16) (Nt.at_ zs (k / 16) + d * 2 ^ (4 * (k % 16)))) = V zs + d * 16 ^ k := by
  have hr : k % 16 < 16 := Nat.mod_lt _ (by omega)
  have e16 : (16 : Int) ^ (k + 1) = 2 ^ ((4 * k + 3) + 1) := by rw [← pow16]; congr 1; omega
  rw [e16] at hv
  have hm := at_low hz hv
  rw [show (4 * k + 3) / 64 = k / 16 by omega, show (4 * k + 3) % 64 + 1 = 4 * (k % 16) + 4 by omega] at hm
  have hw := hz.at_ (k / 16)
  unfold Wd.W at hw
  have p1 := pow_pos2 (4 * (k % 16))
  have p2 : (2 : Int) ^ (4 * (k % 16) + 4) = 16 * 2 ^ (4 * (k % 16)) := by rw [Int.pow_add, Int.mul_comm]; rfl
  have hd1 : 0 ≤ d * 2 ^ (4 * (k % 16)) := Int.mul_nonneg hd0 (by omega)
  have hd2 : d * 2 ^ (4 * (k % 16)) ≤ 15 * 2 ^ (4 * (k % 16)) := Int.mul_le_mul_of_nonneg_right (by omega) (by omega)
  have e2 : (18446744073709551616 : Int) = 2 ^ (4 * (k % 16) + 4) * 2 ^ (60 - 4 * (k % 16)) := by
    have : (2 : Int) ^ 64 = 2 ^ (4 * (k % 16) + 4) * 2 ^ (60 - 4 * (k % 16)) := by rw [← Int.pow_add]; congr 1; omega
    exact this
  have p3 := pow_pos2 (60 - 4 * (k % 16))
  have hle : Nt.at_ zs (k / 16) + 2 ^ (4 * (k % 16) + 4) ≤ 18446744073709551616 := by
    obtain ⟨q, hq⟩ := Int.dvd_of_emod_eq_zero hm
    rw [hq] at hw ⊢
    have hq1 : q < 2 ^ (60 - 4 * (k % 16)) := by
      have h4 : 2 ^ (4 * (k % 16) + 4) * q < 2 ^ (4 * (k % 16) + 4) * 2 ^ (60 - 4 * (k % 16)) := by omega
      exact Int.lt_of_mul_lt_mul_left h4 (by omega)
    have h5 : 2 ^ (4 * (k % 16) + 4) * (q + 1) ≤ 2 ^ (4 * (k % 16) + 4) * 2 ^ (60 - 4 * (k % 16)) := Int.mul_le_mul_of_nonneg_left (by omega) (by omega)
    rw [Int.mul_add, Int.mul_one] at h5
    omega
  refine ⟨?_, hd1, by omega, by unfold Wd.W; omega, ?_⟩
  · exact or_add _ _ (4 * (k % 16) + 4) hw.1 hw.2 hm hd1 (by omega) (by omega)
  · rw [V_set _ _ _ (by omega), show Nt.at_ zs (k / 16) + d * 2 ^ (4 * (k % 16)) - Nt.at_ zs (k / 16) = d * 2 ^ (4 * (k % 16)) by omega]
    have e : (16 : Int) ^ k = P (k / 16) * 2 ^ (4 * (k % 16)) := by
      rw [← P16, Nat.mul_comm 4 (k % 16), pow16, ← Int.pow_add]; congr 1; omega
    rw [e, Int.mul_left_comm]
theorem hexV_take {l : List UInt8} {i : Nat} (h : i < l.length) : hexV (l.take (i + 1)) = hexV (l.take i) * 16 + (dv_ (l[i]'h).toNat : Int) := by
  induction l generalizing i with
  | nil => cases h
  | cons b l ih =>
    cases i with
    | zero => simp [hexV]
    | succ i =>
      have hi : i < l.length := by simpa using h
      simp only [List.take_succ_cons, List.getElem_cons_succ]
      simp only [hexV]
      rw [ih hi]
      have h1 : (l.take (i + 1)).length = (l.take i).length + 1 := by rw [List.length_take, List.length_take]; omega
      rw [h1, Int.pow_succ, Int.add_mul, ← Int.mul_assoc]
      omega
theorem dgi_nn {c : Nat} (h : (hexd c).isSome = true) : dgi c = (dv_ c : Int) := if_pos h
theorem dgi_neg {c : Nat} (h : (hexd c).isSome = false) : dgi c = -1 := if_neg (by rw [h]; simp)
/-- what is read of a text that is not empty -/
def ReadPostR (w : World) (l : List UInt8) (e : Ending) (w' : World) : Prop :=
  (¬ isHex l → e = .returned (.tuple #[.slice none 0 0, .int .i64 7]) ∧ w' = w) ∧
  (isHex l → 8192 < (Lib.trimLeftB l 48).length → e = .returned (.tuple #[.slice none 0 0, .int .i64 3]) ∧ w' = w) ∧
  (isHex l → (Lib.trimLeftB l 48).length ≤ 8192 → ∃ v, e = .returned (.tuple #[v, .int .i64 0]) ∧ NewR w w' v (hexV (Lib.trimLeftB l 48)) (((Lib.trimLeftB l 48).length + 15) / 16))
set_option maxRecDepth 100000 in
theorem readE_r (s : ByteArray) (w : World) (h : s.data.toList = []) :
    Calls Tryd.prog 30 #[.string s] w fun e w' => e = .returned (.tuple #[.slice none 0 0, .int .i64 2]) ∧ w' = w := by
  obtain ⟨⟨l⟩⟩ := s
  have h' : l = [] := h
  subst h'
  clear h
  go_enter Tryd.func30, Tryd.ntmps30
  go_wp2_with fail
  go_ret2
  exact ⟨rfl, rfl⟩

set_option maxRecDepth 100000 in
set_option maxHeartbeats 4000000 in
theorem read_r (s : ByteArray) (w : World) (hs : s.size ≤ 1073741824) (h0 : s.data.toList ≠ []) :
    Calls Tryd.prog 30 #[.string s] w (ReadPostR w s.data.toList) := by
  have he : s.data.toList.isEmpty = false := by simpa using h0
  have he2 : s.toList.isEmpty = false := by rw [Lib.toList_data]; exact he
  clear h0 he
  go_enter Tryd.func30, Tryd.ntmps30
  try simp only [List.append]
  go_wp2_with fail
  go_loopw [4] (fun i W => ∃ k : Nat, Hid (W = w) ∧ k ≤ s.size ∧ i = .int .i64 k ∧ (∀ j b, j < k → s.data.toList[j]? = some b → (hexd b.toNat).isSome = true)) (fun i _ => s.size - (intOf i).toNat)
  case atStart => exact ⟨0, Lib.hid rfl, Nat.zero_le _, rfl, fun j b hj => absurd hj (by omega)⟩
  case round =>
    obtain ⟨k, HW, hk, rfl, hz⟩ := hrel
    by_cases hlt : k < s.size
    · have hb := bytes_get hlt
      have hc : (s[k]'hlt).toNat < 256 := UInt8.toNat_lt _
      have HC := fun W => Lib.hid ((rdigit_c (s[k]'hlt).toNat W hc).mono (R' := fun e w' => e = .returned (.int .i64 (dgi (s[k]'hlt).toNat)) ∧ W = w') fun _ _ h => ⟨h.1, h.2.symm⟩)
      rcases hx : (hexd (s[k]'hlt).toNat).isSome with _ | _
      · have hn : ¬ isHex s.data.toList := fun hh => by
          have := hh _ (List.mem_of_getElem? hb)
          rw [hx] at this; cases this
        rw [dgi_neg hx] at HC
        have HN := Lib.hid hn
        clear hz hb hn hx
        go_wp2_with (go_at_call 61; refine (HC _).out.mono ?_; rintro e w' ⟨rfl, rfl⟩)
        go_ret2
        exact ⟨fun _ => ⟨rfl, HW.out⟩, fun h => absurd h HN.out, fun h => absurd h HN.out⟩
      · rw [dgi_nn hx] at HC
        have HZ : Hid (∀ j b, j < k + 1 → s.data.toList[j]? = some b → (hexd b.toNat).isSome = true) := Lib.hid (fun j b hj hjb => by
          rcases Nat.lt_succ_iff_lt_or_eq.1 hj with h | rfl
          · exact hz j b h hjb
          · rw [hb] at hjb; injection hjb with hjb; rw [← hjb]; exact hx)
        have hd0 : 0 ≤ (dv_ (s[k]'hlt).toNat : Int) := by omega
        clear hz hb hx
        go_wp2_with (go_at_call 61; refine (HC _).out.mono ?_; rintro e w' ⟨rfl, rfl⟩)
        go_roundw
        case rel => exact ⟨k + 1, HW, by omega, by go_num, HZ.out⟩
        case measure => (simp [intOf] <;> omega)
    · obtain rfl : k = s.size := by omega
      have hall : isHex s.data.toList := fun b hb => by
        obtain ⟨j, hj⟩ := List.mem_iff_getElem?.1 hb
        refine hz j b ?_ hj
        have := (List.getElem?_eq_some_iff.1 hj).1
        rwa [bytes_len] at this
      have HPOST : ∀ e w', ((8192 < (Lib.trimLeftB s.data.toList 48).length → e = .returned (.tuple #[.slice none 0 0, .int .i64 3]) ∧ w' = w) ∧ ((Lib.trimLeftB s.data.toList 48).length ≤ 8192 → ∃ v, e = .returned (.tuple #[v, .int .i64 0]) ∧ NewR w w' v (hexV (Lib.trimLeftB s.data.toList 48)) (((Lib.trimLeftB s.data.toList 48).length + 15) / 16))) → ReadPostR w s.data.toList e w' := by
        intro e w' h
        exact ⟨fun hh => absurd hall hh, fun _ => h.1, fun _ => h.2⟩
      have HP := Lib.hid HPOST
      have HA := Lib.hid hall
      obtain ⟨l, hl⟩ : ∃ l, s.data.toList = l := ⟨_, rfl⟩
      rw [hl] at HP HA
      have HSL := Lib.hid hl
      have hll : l.length ≤ 1073741824 := by rw [← hl, bytes_len]; exact hs
      clear hz he2 hall HPOST hl
      go_wp2_with fail
      go_loopw [0] (fun v W => ∃ (tk : ByteArray), Hid (W = w) ∧ v = .string tk ∧ tk.size ≤ 1073741824 ∧ Hid (isHex tk.data.toList ∧ Lib.trimLeftB tk.data.toList 48 = Lib.trimLeftB l 48)) (fun v _ => Lib.strSize v)
      case atStart => exact ⟨s, HW, rfl, hs, Lib.hid ⟨by rw [HSL.out]; exact HA.out, by rw [HSL.out]⟩⟩
      case round =>
        obtain ⟨t, HW, rfl, ht, H⟩ := hrel
        have HTL := bytes_len t
        by_cases hp0 : 0 < t.size
        · have hb := bytes_get hp0
          have hp1 : (0 : Int) < (t.size : Int) := by omega
          have hcons : t.data.toList = t[0] :: t.data.toList.drop 1 := by
            have := List.drop_eq_getElem_cons (l := t.data.toList) (i := 0) (by omega)
            rw [List.drop_zero] at this
            rw [List.getElem?_eq_getElem (by omega)] at hb
            rw [Option.some.inj hb] at this
            exact this
          by_cases h48 : t[0] = 48
          · have q1 : (((t[0]).toNat : Int) == 48) = true := by rw [h48]; rfl
            have hnx : (∃ (tk : ByteArray), Hid (wr = w) ∧ Value.string (t.extract 1 t.size) = .string tk ∧ tk.size ≤ 1073741824 ∧ Hid (isHex tk.data.toList ∧ Lib.trimLeftB tk.data.toList 48 = Lib.trimLeftB l 48)) ∧ Lib.strSize (.string (t.extract 1 t.size)) < Lib.strSize (.string t) := by
              have he := tail_list t
              have hsz : (t.extract 1 t.size).size = t.size - 1 := by rw [← bytes_len, he, List.length_drop, HTL]
              refine ⟨⟨_, HW, rfl, by omega, Lib.hid ⟨?_, ?_⟩⟩, ?_⟩
              · rw [he]; exact fun b hb => H.out.1 b (List.mem_of_mem_drop hb)
              · rw [he, ← H.out.2]
                conv => rhs; rw [hcons]
                unfold Lib.trimLeftB
                rw [List.dropWhile_cons, if_pos (by rw [h48]; rfl)]
              · show (t.extract 1 t.size).size < t.size
                omega
            have HNX := Lib.hid hnx
            clear hnx hb h48 hcons HTL
            go_wp2_with fail
            exact HNX.out
          · have q1 : (((t[0]).toNat : Int) == 48) = false := by
              simp only [beq_eq_false_iff_ne, ne_eq]; intro h; exact h48 (UInt8.toNat_inj.1 (by show _ = 48; omega))
            have htl : Lib.trimLeftB l 48 = t.data.toList := by
              rw [← H.out.2]
              conv => lhs; rw [hcons]
              unfold Lib.trimLeftB
              rw [List.dropWhile_cons, if_neg (by simpa using h48), ← hcons]
            have HPP := HP
            rw [htl] at HPP
            have HHX := Lib.hid H.out.1
            clear hb h48 hcons HTL htl HP
            obtain ⟨tl, htd⟩ : ∃ tl, t.data.toList = tl := ⟨_, rfl⟩
            rw [htd] at HPP HHX
            have htlen : tl.length = t.size := by rw [← htd, bytes_len]
            have HTD := Lib.hid htd
            have HTS := Lib.hid htlen
            clear htd htlen H
            by_cases hlong : 8192 < t.size
            · have hlong' : (8192 : Int) < (t.size : Int) := by omega
              go_wp2_with fail
              go_ret2
              have hts := HTS.out
              rw [HSL.out]
              exact HPP.out _ _ ⟨fun _ => ⟨rfl, HW.out⟩, fun h => absurd h (by omega)⟩
            · obtain ⟨M, hM⟩ : ∃ M, M = (t.size + 15) / 16 := ⟨_, rfl⟩
              have hmk := make_nat M (by omega) wr
              have hM' : ((t.size : Int) + 15) / 16 = (M : Int) := by omega
              have hshort : (t.size : Int) ≤ 8192 := by omega
              have HM := Lib.hid hM
              clear hM
              go_wp2_with fail
              clear hmk hM'
              obtain ⟨wb, rfl⟩ : ∃ wb, wb = wr := ⟨_, rfl⟩
              go_loopw [6] (fun i W => ∃ (k : Nat) (zs : List Int), k ≤ t.size ∧ i = .int .i64 k ∧ Hid (Bk W wb.heap.size 28 (us zs) ∧ zs.length = M ∧ Ws zs ∧ V zs = hexV (tl.take k) * 16 ^ (t.size - k) ∧ Below wb.heap.size wb W)) (fun i _ => t.size - (intOf i).toNat)
              case atStart => exact ⟨0, List.replicate M 0, Nat.zero_le _, rfl, Lib.hid ⟨Bk.new _ _ _, by simp, Ws.zeros _, by rw [V_zeros]; simp [hexV], (Below.refl _ wb).alloc (Nat.le_refl _) _⟩⟩
              case round =>
                obtain ⟨i, zs, hi, rfl, H5⟩ := hrel
                by_cases hlt2 : i < t.size
                · obtain ⟨k, hk⟩ : ∃ k, t.size = i + k + 1 := ⟨t.size - i - 1, by omega⟩
                  have hb := bytes_get hlt2
                  have hc : (t[i]'hlt2).toNat < 256 := UInt8.toNat_lt _
                  have cD := rdigit_c (t[i]'hlt2).toNat wr.drew hc
                  have hsome : (hexd (t[i]'hlt2).toNat).isSome = true := HHX.out _ (by rw [← HTD.out]; exact List.mem_of_getElem? hb)
                  rw [dgi_nn hsome] at cD
                  have hdl := dv_lt (t[i]'hlt2).toNat
                  obtain ⟨g1, g2, g3, g4, g5⟩ := H5.out
                  have hx := hexV_take (l := tl) (i := i) (by rw [HTS.out]; exact hlt2)
                  have hget : tl[i]'(by rw [HTS.out]; exact hlt2) = t[i]'hlt2 := by
                    rw [HTD.out] at hb
                    rw [List.getElem?_eq_getElem (by rw [HTS.out]; exact hlt2)] at hb
                    exact Option.some.inj hb
                  rw [hget] at hx
                  have hidx : (t.size : Int) - 1 - (i : Int) = (k : Int) := by omega
                  have hv0 : V zs % 16 ^ (k + 1) = 0 := by rw [g4, show t.size - i = k + 1 by omega]; exact Int.mul_emod_left _ _
                  have hMk : k / 16 < M := by have := HM.out; omega
                  obtain ⟨q1, q2, q3, q4, q5⟩ := put_top (d := (dv_ (t[i]'hlt2).toNat : Int)) g3 g2 hMk hv0 (by omega) (by omega)
                  have hkz : k / 16 < zs.length := by omega
                  have c5 : wr.cell? ⟨wb.heap.size, k / 16, none⟩ = some (.int .u64 (Nt.at_ zs (k / 16))) := (g1.cell _).trans (us_get hkz)
                  have c5d : wr.drew.cell? ⟨wb.heap.size, k / 16, none⟩ = some (.int .u64 (Nt.at_ zs (k / 16))) := c5
                  have f5 : wr.frozen? ⟨wb.heap.size, k / 16, none⟩ = false := g1.frozen _
                  have hq5 : V (zs.set (k / 16) (Nt.at_ zs (k / 16) + (dv_ (t[i]'hlt2).toNat : Int) * 2 ^ (4 * (k % 16)))) = hexV (tl.take (i + 1)) * 16 ^ (t.size - (i + 1)) := by
                    rw [q5, g4, hx, show t.size - i = k + 1 by omega, show t.size - (i + 1) = k by omega, Int.pow_succ, Int.add_mul, Int.mul_comm (16 ^ k) 16, ← Int.mul_assoc]
                  have Q5 := Lib.hid hq5
                  have HG := Lib.hid (show Bk wr wb.heap.size 28 (us zs) ∧ zs.length = M ∧ Ws zs ∧ Below wb.heap.size wb wr from ⟨g1, g2, g3, g5⟩)
                  have hkM : (k : Int) / 16 < (M : Int) := by omega
                  have hd0 : 0 ≤ (dv_ (t[i]'hlt2).toNat : Int) := by omega
                  have hd1 : (dv_ (t[i]'hlt2).toNat : Int) ≤ 15 := by omega
                  have hii : (i : Int) < (t.size : Int) := by omega
                  have hkb : (k : Int) ≤ 8192 := by omega
                  have x13 : min (4 * (k % 16)) 64 = 4 * (k % 16) := by omega
                  have x7 : 0 ≤ (k : Int) / 16 := by omega
                  have x8 : ((k : Int) / 16).toNat = k / 16 := by omega
                  have x9 : 0 ≤ (k : Int) % 16 := by omega
                  have x10 : (4 * ((k : Int) % 16)).toNat = 4 * (k % 16) := by omega
                  have x11 : 0 ≤ 4 * ((k : Int) % 16) := by omega
                  have x12 : 4 * ((k : Int) % 16) < 64 := by omega
                  have x1 : IntKind.i64.wrap ((k : Int) / 16) = (k : Int) / 16 := by rw [IntKind.wrap_i64]; omega
                  have x2 : IntKind.i64.wrap ((k : Int) % 16) = (k : Int) % 16 := by rw [IntKind.wrap_i64]; omega
                  have x3 : IntKind.i64.wrap (4 * ((k : Int) % 16)) = 4 * ((k : Int) % 16) := by rw [IntKind.wrap_i64]; omega
                  have x4 : IntKind.u64.wrap (4 * ((k : Int) % 16)) = 4 * ((k : Int) % 16) := by rw [IntKind.wrap_u64]; omega
                  have x5 : IntKind.u64.wrap (dv_ (t[i]'hlt2).toNat : Int) = (dv_ (t[i]'hlt2).toNat : Int) := by rw [IntKind.wrap_u64]; omega
                  have x6 : IntKind.u64.wrap ((dv_ (t[i]'hlt2).toNat : Int) * 2 ^ (4 * (k % 16))) = (dv_ (t[i]'hlt2).toNat : Int) * 2 ^ (4 * (k % 16)) := by rw [IntKind.wrap_u64]; omega
                  clear hb hx hget hv0 hsome hq5 q5 g1 g2 g3 g4 g5 H5 hdl hkz hk
                  go_wp2_with fail
                  refine wp_region_still_tail 20 (by kernel_rfl) (by kernel_rfl) ?_
                  simp only [List.take_succ_cons, List.take_zero, List.drop_succ_cons, List.drop_zero]
                  iterate 11 still_step
                  still_call cD
                  iterate 8 still_step
                  refine wpStill_nil ?_
                  have X6 := Lib.hid x6
                  have Q1 := Lib.hid q1
                  clear cD c5d hidx q1 x13 x1 x2 x3 x4 x5 x6 x7 x8 x9 x10 x11 x12
                  go_wp2_with fail
                  go_roundw
                  case rel =>
                    rw [show min (4 * (k % 16)) 64 = 4 * (k % 16) by omega, X6.out, Q1.out]
                    refine ⟨i + 1, zs.set (k / 16) (Nt.at_ zs (k / 16) + (dv_ (t[i]'hlt2).toNat : Int) * 2 ^ (4 * (k % 16))), by omega, by go_num, Lib.hid ⟨?_, by rw [List.length_set]; exact HG.out.2.1, HG.out.2.2.1.set _ q4, Q5.out, (HG.out.2.2.2.setCell (Nat.le_refl _) _).drew⟩⟩
                    have := HG.out.1.set_ (k / 16) (.int .u64 (Nt.at_ zs (k / 16) + (dv_ (t[i]'hlt2).toNat : Int) * 2 ^ (4 * (k % 16))))
                    rw [us_set] at this
                    exact this.drew
                  case measure => (simp [intOf] <;> omega)
                · obtain rfl : i = t.size := by omega
                  obtain ⟨g1, g2, g3, g4, g5⟩ := H5.out
                  have hv : V zs = hexV tl := by rw [g4, Nat.sub_self, Int.pow_zero, Int.mul_one, List.take_of_length_le (by rw [HTS.out]; exact Nat.le_refl _)]
                  have HT := Lib.hid (trim_r (some ⟨wb.heap.size, 0, none⟩) M M zs wr (g1.rd0 g1.lt g3 g2) (Nat.le_refl _) (by have := HM.out; omega) (by have := HM.out; omega))
                  have HV := Lib.hid hv
                  have HL := Lib.hid (show (trim zs).length ≤ (tl.length + 15) / 16 by have := trim_le zs; have := HM.out; rw [HTS.out]; omega)
                  have HB2 := Lib.hid g5
                  clear H5 g1 g2 g3 g4 g5 hv
                  go_wp2_with fail
                  go_at_call 31
                  refine HT.out.mono ?_
                  rintro e w' ⟨v, rfl, hO, hB⟩
                  have HO := Lib.hid hO
                  have HB3 := Lib.hid hB
                  clear hO hB
                  go_wp2_with fail
                  go_ret2
                  rw [HSL.out]
                  refine HPP.out _ _ ⟨fun h => absurd h (by rw [HTS.out]; omega), fun _ => ⟨_, rfl, ?_⟩⟩
                  rw [← HW.out]
                  exact newR_of HO.out (trim_trim _) (by rw [V_trim]; exact HV.out) HL.out (HB2.out.trans (HB3.out.mono HB2.out.size)) HB2.out.size
        · have ht0 : t.size = 0 := by omega
          have hp1 : (t.size : Int) ≤ 0 := by omega
          have htl : Lib.trimLeftB l 48 = t.data.toList := by
            rw [← H.out.2, List.eq_nil_of_length_eq_zero (show t.data.toList.length = 0 by rw [HTL]; exact ht0)]
            rfl
          have HPP := HP
          rw [htl] at HPP
          have HHX := Lib.hid H.out.1
          clear HTL htl HP ht0
          obtain ⟨tl, htd⟩ : ∃ tl, t.data.toList = tl := ⟨_, rfl⟩
          rw [htd] at HPP HHX
          have htlen : tl.length = t.size := by rw [← htd, bytes_len]
          have HTD := Lib.hid htd
          have HTS := Lib.hid htlen
          clear htd htlen H
          by_cases hlong : 8192 < t.size
          · have hlong' : (8192 : Int) < (t.size : Int) := by omega
            go_wp2_with fail
            go_ret2
            have hts := HTS.out
            rw [HSL.out]
            exact HPP.out _ _ ⟨fun _ => ⟨rfl, HW.out⟩, fun h => absurd h (by omega)⟩
          · obtain ⟨M, hM⟩ : ∃ M, M = (t.size + 15) / 16 := ⟨_, rfl⟩
            have hmk := make_nat M (by omega) wr
            have hM' : ((t.size : Int) + 15) / 16 = (M : Int) := by omega
            have hshort : (t.size : Int) ≤ 8192 := by omega
            have HM := Lib.hid hM
            clear hM
            go_wp2_with fail
            clear hmk hM'
            obtain ⟨wb, rfl⟩ : ∃ wb, wb = wr := ⟨_, rfl⟩
            go_loopw [6] (fun i W => ∃ (k : Nat) (zs : List Int), k ≤ t.size ∧ i = .int .i64 k ∧ Hid (Bk W wb.heap.size 28 (us zs) ∧ zs.length = M ∧ Ws zs ∧ V zs = hexV (tl.take k) * 16 ^ (t.size - k) ∧ Below wb.heap.size wb W)) (fun i _ => t.size - (intOf i).toNat)
            case atStart => exact ⟨0, List.replicate M 0, Nat.zero_le _, rfl, Lib.hid ⟨Bk.new _ _ _, by simp, Ws.zeros _, by rw [V_zeros]; simp [hexV], (Below.refl _ wb).alloc (Nat.le_refl _) _⟩⟩
            case round =>
              obtain ⟨i, zs, hi, rfl, H5⟩ := hrel
              by_cases hlt2 : i < t.size
              · exact absurd hlt2 (by omega)
              · obtain rfl : i = t.size := by omega
                obtain ⟨g1, g2, g3, g4, g5⟩ := H5.out
                have hv : V zs = hexV tl := by rw [g4, Nat.sub_self, Int.pow_zero, Int.mul_one, List.take_of_length_le (by rw [HTS.out]; exact Nat.le_refl _)]
                have HT := Lib.hid (trim_r (some ⟨wb.heap.size, 0, none⟩) M M zs wr (g1.rd0 g1.lt g3 g2) (Nat.le_refl _) (by have := HM.out; omega) (by have := HM.out; omega))
                have HV := Lib.hid hv
                have HL := Lib.hid (show (trim zs).length ≤ (tl.length + 15) / 16 by have := trim_le zs; have := HM.out; rw [HTS.out]; omega)
                have HB2 := Lib.hid g5
                clear H5 g1 g2 g3 g4 g5 hv
                go_wp2_with fail
                go_at_call 31
                refine HT.out.mono ?_
                rintro e w' ⟨v, rfl, hO, hB⟩
                have HO := Lib.hid hO
                have HB3 := Lib.hid hB
                clear hO hB
                go_wp2_with fail
                go_ret2
                rw [HSL.out]
                refine HPP.out _ _ ⟨fun h => absurd h (by rw [HTS.out]; omega), fun _ => ⟨_, rfl, ?_⟩⟩
                rw [← HW.out]
                exact newR_of HO.out (trim_trim _) (by rw [V_trim]; exact HV.out) HL.out (HB2.out.trans (HB3.out.mono HB2.out.size)) HB2.out.size
end Nt
end Go.Proofs.YtdklchejnpaenaaDoor
