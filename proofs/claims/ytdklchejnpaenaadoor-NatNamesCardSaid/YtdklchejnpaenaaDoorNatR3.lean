/- Read: the walk. -/
import Derived.Test.YtdklchejnpaenaaDoorNatR2
import Derived.RegionTactic
import Derived.BigRegion
namespace Go.Proofs.YtdklchejnpaenaaDoor
open Go Go.RowKit
namespace Nt
open Wd Sti
set_option linter.unusedVariables false

set_option maxRecDepth 100000 in
set_option maxHeartbeats 4000000 in
theorem read_n (s : ByteArray) (w : World) (hs : s.size ≤ 1073741824) (h0 : s.data.toList ≠ []) :
    Calls Tryd.prog 15 #[.string s] w (ReadPost w s.data.toList) := by
  have he : s.data.toList.isEmpty = false := by simpa using h0
  have he2 : s.toList.isEmpty = false := by rw [Lib.toList_data]; exact he
  have HT := Lib.hid (Tryd.strings_TrimLeft_one s 48 (by decide) w)
  clear h0 he
  go_enter Tryd.func15, Tryd.ntmps15
  go_wp2_with fail
  go_loop [15] (fun i => ∃ k : Nat, k ≤ s.size ∧ i = .int .i64 k ∧ (∀ j b, j < k → s.data.toList[j]? = some b → (hexd b.toNat).isSome = true)) (fun i => s.size - (intOf i).toNat)
  case atStart => exact ⟨0, Nat.zero_le _, rfl, fun j b hj => absurd hj (by omega)⟩
  case round =>
    obtain ⟨k, hk, rfl, hz⟩ := hrel
    by_cases hlt : k < s.size
    · have hb := bytes_get hlt
      have hc : (s[k]'hlt).toNat < 256 := UInt8.toNat_lt _
      have HC := fun w => Lib.hid (digit_c (s[k]'hlt).toNat w hc)
      rcases hx : (hexd (s[k]'hlt).toNat).isSome with _ | _
      · have hn : ¬ isHex s.data.toList := fun hh => by
          have := hh _ (List.mem_of_getElem? hb)
          rw [hx] at this; cases this
        rw [hx] at HC
        have HN := Lib.hid hn
        clear hz hb hn HT hx
        go_wp2_with (go_at_call 49; refine (HC _).out.mono ?_; rintro e w' ⟨rfl, rfl⟩)
        go_ret2
        exact ⟨fun _ => ⟨rfl, rfl⟩, fun h => absurd h HN.out, fun h => absurd h HN.out⟩
      · rw [hx] at HC
        have HZ : Hid (∀ j b, j < k + 1 → s.data.toList[j]? = some b → (hexd b.toNat).isSome = true) := Lib.hid (fun j b hj hjb => by
          rcases Nat.lt_succ_iff_lt_or_eq.1 hj with h | rfl
          · exact hz j b h hjb
          · rw [hb] at hjb; injection hjb with hjb; rw [← hjb]; exact hx)
        clear hz hb HT hx
        go_wp2_with (go_at_call 49; refine (HC _).out.mono ?_; rintro e w' ⟨rfl, rfl⟩)
        go_round
        case rel => exact ⟨k + 1, by omega, by go_num, HZ.out⟩
        case measure => (simp [intOf] <;> omega)
    · obtain rfl : k = s.size := by omega
      have hall : isHex s.data.toList := fun b hb => by
        obtain ⟨j, hj⟩ := List.mem_iff_getElem?.1 hb
        refine hz j b ?_ hj
        have := (List.getElem?_eq_some_iff.1 hj).1
        rwa [bytes_len] at this
      have HA := Lib.hid hall
      have hne : s.data.toList ≠ [] := fun e => by rw [← Lib.toList_data] at e; rw [e] at he2; cases he2
      clear hz he2
      obtain ⟨tl, htl⟩ : ∃ tl, tl = Lib.trimLeftB s.data.toList 48 := ⟨_, rfl⟩
      have htlm : ∀ b ∈ tl, (hexd b.toNat).isSome = true := fun b hb => hall b (trimLeft_mem (c := 48) (by rw [← htl]; exact hb))
      have htop : ∀ b, tl[0]? = some b → dv_ b.toNat ≠ 0 := fun b hb e => by
        have h1 := dropWhile_head (c := 48) (by rw [← htl]; exact hb)
        have h2 := dv_zero (htlm b (List.mem_of_getElem? hb)) e
        exact h1 (UInt8.toNat_inj.1 h2)
      have htsz : tl.length ≤ s.size := by
        rw [htl, ← bytes_len]; exact (List.dropWhile_sublist _).length_le
      rw [← htl] at HT
      have HTL := Lib.hid htl
      have HPOST : ∀ e w', ((8192 < tl.length → e = .returned (.tuple #[.slice none 0 0, .int .i64 3]) ∧ w' = w) ∧ (tl.length ≤ 8192 → ∃ v, e = .returned (.tuple #[v, .int .i64 0]) ∧ Ans w w' v (hexV tl) ((tl.length + 15) / 16))) → ReadPost w s.data.toList e w' := by
        intro e w' h
        rw [htl] at h
        exact ⟨fun hh => absurd hall hh, fun _ => h.1, fun _ => h.2⟩
      have HP := Lib.hid HPOST
      clear htl hne hall HPOST HA
      obtain ⟨t, ht⟩ : ∃ t : ByteArray, t = ⟨tl.toArray⟩ := ⟨_, rfl⟩
      have htd : t.data.toList = tl := by rw [ht]
      have hts : t.size = tl.length := by rw [← htd, bytes_len]
      rw [← ht] at HT
      clear ht
      have HTD := Lib.hid htd
      have HTS := Lib.hid hts
      have hl3 : tl.length ≤ 1073741824 := by omega
      have hts1 : t.size ≤ tl.length := by omega
      have hts2 : tl.length ≤ t.size := by omega
      clear htd hts
      by_cases hlong : 8192 < tl.length
      · go_wp2_with (go_at_call 50; refine HT.out.mono ?_; rintro e w' ⟨rfl, rfl⟩)
        go_ret2
        exact HP.out _ _ ⟨fun _ => ⟨rfl, rfl⟩, fun h => absurd h (by omega)⟩
      · obtain ⟨M, hM⟩ : ∃ M, M = (tl.length + 15) / 16 := ⟨_, rfl⟩
        have hmk := make_nat M (by omega) w
        have hM' : ((t.size : Int) + 16 - 1) / 16 = (M : Int) := by omega
        have HM := Lib.hid hM
        clear hM
        go_wp2_with (go_at_call 50; refine HT.out.mono ?_; rintro e w' ⟨rfl, rfl⟩)
        clear HT hmk hM'
        obtain ⟨w, rfl⟩ : ∃ w, w = w' := ⟨_, rfl⟩
        go_loopw [41] (fun i W => ∃ (k : Nat) (zs : List Int), k ≤ t.size ∧ i = .int .i64 k ∧ Bk W w.heap.size 28 (us zs) ∧ zs.length = M ∧ Ws zs ∧ V zs = hexV (tl.drop (tl.length - k)) ∧ Below w.heap.size w W) (fun i _ => t.size - (intOf i).toNat)
        case atStart => exact ⟨0, List.replicate M 0, Nat.zero_le _, rfl, Bk.new _ _ _, by simp, Ws.zeros _, by rw [V_zeros, Nat.sub_zero, List.drop_length]; rfl, (Below.refl _ w).alloc (Nat.le_refl _) _⟩
        case round =>
          obtain ⟨k, zs, hk2, rfl, g1, g2, g3, g4, g5⟩ := hrel
          by_cases hlt2 : k < t.size
          · obtain ⟨m, hm⟩ : ∃ m, t.size = m + k + 1 := ⟨t.size - k - 1, by omega⟩
            have hml : m < t.size := by omega
            have hb := bytes_get hml
            have hc : (t[m]'hml).toNat < 256 := UInt8.toNat_lt _
            have HC := fun w => Lib.hid (digit_c (t[m]'hml).toNat w hc)
            have hdl := dv_lt (t[m]'hml).toNat
            have hx := hexV_drop (l := tl) (k := k) (by omega)
            have hget : tl[tl.length - 1 - k]'(by omega) = t[m]'hml := by
              rw [HTD.out] at hb
              have h1 : tl.length - 1 - k = m := by omega
              have h2 : tl[tl.length - 1 - k]? = some (t[m]'hml) := by rw [h1]; exact hb
              rw [List.getElem?_eq_getElem (by omega)] at h2
              injection h2
            rw [hget] at hx
            have hvl : V zs < 16 ^ k := by
              rw [g4]
              have := (hexV_bd (tl.drop (tl.length - k))).2
              rw [List.length_drop, show tl.length - (tl.length - k) = k by omega] at this
              exact this
            have hMk : k / 16 < M := by have := HM.out; omega
            obtain ⟨q1, q2, q3, q4, q5⟩ := put_digit (d := (dv_ (t[m]'hml).toNat : Int)) g3 g2 hMk hvl (by omega) (by omega)
            rw [g4, ← hx] at q5
            have hidx : (t.size : Int) - 1 - (k : Int) = (m : Int) := by omega
            have hkz : k / 16 < zs.length := by omega
            have c5 : wr.cell? ⟨w.heap.size, k / 16, none⟩ = some (.int .u64 (Nt.at_ zs (k / 16))) := (g1.cell _).trans (us_get hkz)
            have c5d : wr.drew.cell? ⟨w.heap.size, k / 16, none⟩ = some (.int .u64 (Nt.at_ zs (k / 16))) := c5
            have f5 : wr.frozen? ⟨w.heap.size, k / 16, none⟩ = false := g1.frozen _
            have Q5 := Lib.hid q5
            have hkM : (k : Int) / 16 < (M : Int) := by omega
            clear hb hx hget hvl hm q5
            generalize (dv_ (t[m]'hml).toNat : Int) = d at *
            go_wp2_with (go_at_call 49; refine (HC _).out.mono ?_; rintro e w' ⟨rfl, rfl⟩)
            clear c5d
            go_region
            go_wp2_with fail
            go_roundw
            case rel =>
              refine ⟨k + 1, zs.set (k / 16) (Nt.at_ zs (k / 16) + d * 2 ^ (k % 16 * 4)), by omega, by go_num, ?_, by simpa using g2, g3.set _ q4, Q5.out, (g5.setCell (Nat.le_refl _) _).drew⟩
              have := g1.set_ (k / 16) (.int .u64 (Nt.at_ zs (k / 16) + d * 2 ^ (k % 16 * 4)))
              rw [us_set] at this
              exact this.drew
            case measure => (simp [intOf] <;> omega)
          · obtain rfl : k = t.size := by omega
            have hv : V zs = hexV tl := by rw [g4, show tl.length - t.size = 0 by omega, List.drop_zero]
            have htr : trim zs = zs := by
              apply trim_of_last
              rcases Nat.eq_zero_or_pos M with h0 | h0
              · left; exact List.eq_nil_of_length_eq_zero (by omega)
              · right
                have hMM := HM.out
                rw [g2]
                cases htc : tl with
                | nil => rw [htc] at hMM; simp at hMM; omega
                | cons b l' =>
                  have hb := htop b (by rw [htc]; rfl)
                  have h1 := hexV_top (l := l') hb
                  rw [← htc, ← hv] at h1
                  have hlen : tl.length = l'.length + 1 := by rw [htc]; rfl
                  have h2 : P (M - 1) ≤ 16 ^ l'.length := by
                    obtain ⟨q, hq⟩ : ∃ q, l'.length = 16 * (M - 1) + q := ⟨l'.length - 16 * (M - 1), by omega⟩
                    rw [hq, Int.pow_add, P16]
                    have := pow16_pos q
                    have hp := P_pos (M - 1)
                    have h3 : P (M - 1) * 1 ≤ P (M - 1) * 16 ^ q := Int.mul_le_mul_of_nonneg_left this (by omega)
                    omega
                  have h4 := V_split zs (M - 1)
                  have h5 := lo_lt g3 (M - 1)
                  rw [hi_succ, show M - 1 + 1 = M by omega, hi_all (by omega)] at h4
                  intro h6
                  rw [h6] at h4
                  simp at h4
                  omega
            have hans : Ans w wr (.slice (some ⟨w.heap.size, 0, none⟩) M M) (hexV tl) ((tl.length + 15) / 16) :=
              ⟨_, _, _, zs, rfl, ⟨g3, htr, hv⟩, g1.rd0 g1.lt g3 g2, Nat.le_refl _, by rw [HM.out]; exact Nat.le_refl _, g5⟩
            have HANS := Lib.hid hans
            clear g1 g2 g3 g4 g5 hv htr hans
            go_wp2_with fail
            go_ret2
            exact HP.out _ _ ⟨fun h => absurd h (by omega), fun _ => ⟨_, rfl, HANS.out⟩⟩
end Nt
end Go.Proofs.YtdklchejnpaenaaDoor
