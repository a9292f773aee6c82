/- The walk of MemoryBytes. -/
import Derived.Test.YtkgbpcfpppceiaaA13
namespace Go.Proofs.Ytkgbpcfpppceiaa
open Go Go.RowKit
namespace memoryBytes
open Wd Nt Mm
set_option linter.unusedVariables false
theorem str_size (s : List Int) : (strOf s).size = s.length := by
  show (toU s).toArray.size = _
  rw [List.size_toArray, toU_len]
theorem str_get {s : List Int} (h : Bs s) {t : Nat} (ht : t < (strOf s).size) : (((strOf s)[t]'ht).toNat : Int) = bt s t := by
  have hk : t < (toU s).length := by rw [toU_len, ← str_size]; exact ht
  have e : (strOf s)[t]'ht = (toU s)[t]'hk := rfl
  rw [e]; exact toU_get h hk
theorem str_cut (s : List Int) (i j : Nat) : (strOf s).extract i j = strOf ((s.drop i).take (j - i)) := by
  apply ByteArray.ext
  rw [ByteArray.data_extract]
  unfold strOf toU
  simp [List.map_drop, List.map_take]
theorem word_byte {bs : List Int} (h : Bs bs) (d x n : Nat) (hx : x < n) : wordN bs d n / 2 ^ (8 * x) % 256 = bt bs (d + x) := by
  rw [two_B256]
  induction x generalizing d n with
  | zero =>
    obtain ⟨m, rfl⟩ : ∃ m, n = m + 1 := ⟨n - 1, by omega⟩
    show (bt bs d + 256 * wordN bs (d + 1) m) / 1 % 256 = bt bs d
    have := h.bt d
    rw [Int.ediv_one]; omega
  | succ x ih =>
    obtain ⟨m, rfl⟩ : ∃ m, n = m + 1 := ⟨n - 1, by omega⟩
    rw [show B256 (x + 1) = 256 * B256 x from rfl, ← Int.ediv_ediv_of_nonneg (by omega)]
    have hb := h.bt d
    have e : wordN bs d (m + 1) / 256 = wordN bs (d + 1) m := by
      show (bt bs d + 256 * wordN bs (d + 1) m) / 256 = _
      omega
    rw [e, ih (d + 1) m (by omega)]
    congr 1; omega
set_option maxRecDepth 100000 in
set_option maxHeartbeats 16000000 in
theorem walk_ {R : World → Nat → Nat → Value → List Reg → Prop} (mc : MemC R) (w : World) (A0 : Option Addr) (n0 c0 : Nat) (rs : List Reg) (a1 a2 a3 : Int) (hr0 : RdR w w.heap.size A0 n0 rs) (hn0 : n0 ≤ c0) (hm0 : c0 ≤ 9223372036854775807)
    (w1 : (Lit.int .u64 a1).wf = true) (w2 : (Lit.int .i64 a2).wf = true) (w3 : (Lit.int .i64 a3).wf = true) :
    Calls Try.prog 7 #[.slice A0 n0 c0, .int .u64 a1, .int .i64 a2, .int .i64 a3] w fun e w' => e = .returned (.bool true) ∧ Below w.heap.size w w' := by
  have L1 := Lib.hid (lives_c mc w)
  have HA0 : Hid (AtR w A0 n0 rs) := Lib.hid hr0
  have HLN := Lib.hid hr0.len
  have W1 := Lib.hid (u64_W w1)
  have P2 := fun W => Lib.hid (Kit.pick_c a2 20 W w2 (by decide))
  have P3 := fun W => Lib.hid (Kit.pick_c a3 20 W w3 (by decide))
  have hn0' : n0 ≤ 9223372036854775807 := by omega
  clear hr0 w1 w2 w3
  go_enter Try.func7, Try.ntmps7
  try simp only [List.append]
  go_wp2_with fail
  go_at_call 9
  refine L1.out.mono ?_
  rintro e x1 ⟨rfl, hb⟩
  have HB := Lib.hid hb
  replace HA0 := AtR.step HA0 hb
  clear hb L1
  by_cases hlt : Lite rs
  case neg =>
    have L2 := Lib.hid (lightN_c A0 n0 c0 rs x1 HA0 hn0' hlt)
    clear hlt
    go_wp2_with fail
    go_at_call 17
    refine L2.out.mono ?_
    rintro e x2 ⟨rfl, rfl⟩
    clear L2
    go_wp2_with fail
    go_ret
    exact ⟨rfl, HB.out⟩
  case pos =>
    have L2 := Lib.hid (light_c A0 n0 c0 rs x1 HA0 hn0' (by rw [← HLN.out]; exact hlt.1) hlt.2)
    have HLT := Lib.hid hlt
    have L3 := Lib.hid (mc.new A0 n0 c0 rs x1 HA0 hn0')
    clear hlt
    go_wp2_with fail
    go_at_call 17
    refine L2.out.mono ?_
    rintro e x2 ⟨rfl, rfl⟩
    clear L2
    go_wp2_with fail
    go_at_call 11
    refine L3.out.mono ?_
    rintro e x3 ⟨hb, x, hx, ⟨h0, rfl⟩ | ⟨rfl, p, M, rfl, hp, hr⟩⟩
    · have HB3 := Lib.hid (bel_trans HB.out hb)
      have hx0 : (x != 0) = true := by simpa using h0
      clear hb hx h0 L3
      go_wp2_with fail
      go_ret
      exact ⟨rfl, HB3.out⟩
    · obtain ⟨⟨D, rfl⟩, hG, hRi, hOk, hBE, hE⟩ := mc.shape hr
      have HB3 := Lib.hid (bel_trans HB.out hb)
      have HG := Lib.hid hG
      have HRi := Lib.hid hRi
      have HOk := Lib.hid hOk
      have hlenM : M.length = n0 := by rw [hp.length_eq, HLN.out]
      have HLM := Lib.hid hlenM
      have hn8 : n0 ≤ 8 := by rw [← hlenM]; exact hG.few
      have L4 := Lib.hid (mc.regions (Lib.hid hr))
      have HR := Lib.hid hr
      have hsz3 := HB3.out.size
      have hszx := hb.size
      have HBX := Lib.hid (show w.heap.size ≤ x2.heap.size from HB.out.size)
      clear hb hx hp hr hG hRi hOk hBE hE L3 hlenM HLT L4
      have hq2 := Kit.pick_lt (n := a2) (m := 20) (by omega)
      have hq3 := Kit.pick_lt (n := a3) (m := 20) (by omega)
      obtain ⟨n, hn⟩ : ∃ n : Nat, Kit.pick a2 20 = (n : Int) := ⟨(Kit.pick a2 20).toNat, by omega⟩
      obtain ⟨k, hk⟩ : ∃ k : Nat, Kit.pick a3 20 = (k : Int) := ⟨(Kit.pick a3 20).toNat, by omega⟩
      rw [hn] at P2 hq2
      rw [hk] at P3 hq3
      have hn20 : n < 20 := by omega
      have hk20 : k < 20 := by omega
      clear hn hk hq2 hq3
      go_wp2_with fail
      go_at_call 22
      refine (P2 _).out.mono ?_
      rintro e x4 ⟨rfl, rfl⟩
      go_wp2_with fail
      go_at_call 22
      refine (P3 _).out.mono ?_
      rintro e x4 ⟨rfl, rfl⟩
      have K1 := Lib.hid (mc.bytes a1 ((n : Int) + (k : Int)) HR W1.out (by simp [Lit.wf, IntKind.min, IntKind.max, IntKind.signed, IntKind.bits]; omega))
      clear P2 P3
      go_wp2_with fail
      go_at_call 14
      refine K1.out.mono ?_
      rintro e x5 ⟨hb5, s, x, rfl, ho⟩
      have HB5 := Lib.hid (bel_trans HB3.out hb5)
      replace HR := mc.below HR hb5
      have HO := Lib.hid ho
      have hz5 := hb5.size
      have hx01 : (x = 0 ∧ ∃ i r, Hits M a1 ((n : Int) + (k : Int)) i r ∧ s = (r.bytes.drop (a1 - r.base).toNat).take (n + k)) ∨ (x = 11 ∧ s = []) := by
        rcases ho with ⟨h, _⟩ | ⟨_, i, r, hh, hs, h0⟩ | ⟨_, _, hs, h0⟩
        · omega
        · exact .inl ⟨h0, i, r, hh, by rw [hs]; congr 1⟩
        · exact .inr ⟨h0, hs⟩
      clear K1 hb5 ho
      rcases hx01 with ⟨rfl, i, r, hh, hs⟩ | ⟨rfl, rfl⟩
      case inr =>
        go_wp2_with fail
        go_ret
        exact ⟨ret_b (by rw [ByteArray.toList_eq]; rfl), HB5.out⟩
      case inl =>
        have HH := Lib.hid hh
        obtain ⟨g1, g2, g3, g4⟩ := hh
        have hfit := HG.out.fits i r g1
        have hshort := HG.out.short i r g1
        obtain ⟨d, hd⟩ : ∃ d : Nat, a1 - r.base = (d : Int) := ⟨(a1 - r.base).toNat, by omega⟩
        have hdt : (a1 - r.base).toNat = d := by omega
        rw [hdt] at hs
        have hlr : r.len = (r.bytes.length : Int) := rfl
        have hdn : d + (n + k) ≤ r.bytes.length := by omega
        have hdl : d < r.bytes.length := by omega
        have hbsr := (HOk.out r (List.mem_of_getElem? g1)).bytes
        have HS := Lib.hid hs
        have HBS := Lib.hid hbsr
        have HDT := Lib.hid hdt
        have hbss : Bs s := by rw [hs]; exact fun x hx => hbsr x (List.mem_of_mem_drop (List.mem_of_mem_take hx))
        have HBSS := Lib.hid hbss
        have hslen : s.length = n + k := by rw [hs, List.length_take, List.length_drop]; omega
        have HSL := Lib.hid hslen
        have K2 := Lib.hid (mc.bytes a1 (n : Int) HR W1.out (by simp [Lit.wf, IntKind.min, IntKind.max, IntKind.signed, IntKind.bits]; omega))
        have hwv : Wd.W (IntKind.u64.wrap (a1 + (n : Int))) := by rw [IntKind.wrap_u64]; exact W_mod _
        clear hs hslen hbsr hdt hbss
        go_wp2_with fail
        go_at_call 14
        refine K2.out.mono ?_
        rintro e x6 ⟨hb6, sa, xa, rfl, hoa⟩
        have HB6 := Lib.hid (bel_trans HB5.out hb6)
        replace HR := mc.below HR hb6
        have hz6 := hb6.size
        obtain ⟨rfl, rfl⟩ : sa = s.take n ∧ xa = 0 := by
          have h1 : BytesO M a1 (n : Int) (s.take n) 0 := .inr (.inl ⟨by omega, i, r, ⟨g1, g2, g3, by omega⟩, by rw [HS.out, List.take_take, HDT.out]; congr 1; omega, rfl⟩)
          exact hoa.uniq HG.out h1
        have K3 := Lib.hid (mc.bytes (IntKind.u64.wrap (a1 + (n : Int))) (k : Int) HR hwv (by simp [Lit.wf, IntKind.min, IntKind.max, IntKind.signed, IntKind.bits]; omega))
        clear K2 hb6 hoa
        go_wp2_with fail
        go_at_call 14
        refine K3.out.mono ?_
        rintro e x7 ⟨hb7, sb, xb, rfl, hob⟩
        have HB7 := Lib.hid (bel_trans HB6.out hb7)
        replace HR := mc.below HR hb7
        have hz7 := hb7.size
        have hkk : (decide ((0 : Int) < (k : Int)) = false ∧ decide (0 < k) = false) ∨ ((decide ((0 : Int) < (k : Int)) = true ∧ decide (0 < k) = true) ∧ sb = s.drop n ∧ xb = 0) := by
          rcases Nat.eq_zero_or_pos k with h | h
          · subst h; exact .inl ⟨rfl, rfl⟩
          · have hw : IntKind.u64.wrap (a1 + (n : Int)) = a1 + (n : Int) := by
              have := W1.out
              unfold Wd.W at this
              rw [IntKind.wrap_u64]; omega
            rw [hw] at hob
            have h1 : BytesO M (a1 + (n : Int)) (k : Int) (s.drop n) 0 := .inr (.inl ⟨by omega, i, r, ⟨g1, by omega, by omega, by omega⟩, by
              rw [HS.out, show (a1 + (n : Int) - r.base).toNat = d + n by omega, Int.toNat_natCast, List.drop_take, List.drop_drop]
              congr 1; omega, rfl⟩)
            obtain ⟨e1, e2⟩ := hob.uniq HG.out h1
            exact .inr ⟨⟨decide_eq_true (by omega), decide_eq_true h⟩, e1, e2⟩
        have hsz : n ≤ (strOf s).size := by rw [str_size, HSL.out]; omega
        have hx1 : (strOf s).extract 0 n = strOf (s.take n) := by rw [str_cut]; simp
        have hx2 : (strOf s).extract n (strOf s).size = strOf (s.drop n) := by
          rw [str_cut, str_size, List.take_of_length_le (by rw [List.length_drop]; exact Nat.le_refl _)]
        have hn0i : (0 : Int) ≤ (n : Int) := by omega
        have hnk : 0 ≤ (n : Int) + (k : Int) := by omega
        have HHITS := Lib.hid (show Hits M a1 ((n : Int) + (k : Int)) i r from HH.out)
        have HDD := Lib.hid (show d + (n + k) ≤ r.bytes.length ∧ a1 - r.base = (d : Int) ∧ (r.len : Int) = r.bytes.length from ⟨hdn, hd, hlr⟩)
        clear K3 hb7 hob hwv g1 g2 g3 g4 hfit hshort hd hlr hdn hdl HH
        by_cases h8 : (8 : Int) ≤ (n : Int) + (k : Int)
        case pos =>
          have K4 := Lib.hid (mc.load a1 HR W1.out)
          rcases hkk with ⟨t1, t2⟩ | ⟨⟨t1, t2⟩, rfl, rfl⟩
          all_goals
            go_wp2_with fail
            go_at_call 13
            refine K4.out.mono ?_
            rintro e x8 ⟨hb8, v8, g8, rfl, hl8⟩
            have HB8 := Lib.hid (bel_trans HB7.out hb8)
            have HR8 := mc.below HR hb8
            have hz8 := hb8.size
            obtain ⟨hv8, rfl⟩ : v8 = wordN r.bytes d 8 ∧ g8 = 0 := by
              obtain ⟨q1, q2, q3, q4⟩ := HHITS.out
              have h1 : LoadO M a1 (wordN r.bytes d 8) 0 := .inl ⟨i, r, ⟨q1, q2, q3, by omega⟩, by rw [HDT.out], rfl⟩
              exact hl8.uniq HG.out h1
            have hvb := wordN_bd HBS.out d 8
            rw [← hv8, B256_8] at hvb
            obtain ⟨hvb0, hvb1⟩ := hvb
            have hvb2 : v8 ≤ 18446744073709551615 := by omega
            have HV8 := Lib.hid hv8
            clear hb8 hl8 hv8 K4 HR hx1 hx2 hvb1
            go_wp2_with fail
            go_loop [19] (fun xv => ∃ t : Nat, t ≤ 8 ∧ xv = .int .i64 (t : Int)) (fun xv => 8 - (intOf xv).toNat)
            case atStart => exact ⟨0, by omega, rfl⟩
            case round =>
              obtain ⟨t, ht, rfl⟩ := hrel
              rcases Nat.lt_or_ge t 8 with h9 | h9
              · have h9i : (t : Int) < 8 := by omega
                have ht0 : (0 : Int) ≤ (t : Int) := by omega
                have htl : t < (strOf s).size := by rw [str_size, HSL.out]; omega
                have hwb : v8 / 2 ^ (8 * t) % 256 = bt s t := by
                  rw [HV8.out, word_byte HBS.out d t 8 h9, HS.out]
                  unfold bt
                  rw [List.getElem?_take, if_pos (by omega), List.getElem?_drop]
                have hbne : (bt s t != (((strOf s)[t]'htl).toNat : Int)) = false := by rw [str_get HBSS.out htl, bne_self_eq_false]
                go_wp2_with fail
                go_round
                case rel => exact ⟨t + 1, by omega, by go_num⟩
                case measure => (simp [intOf] <;> omega)
              · obtain rfl : t = 8 := by omega
                have K5 := Lib.hid (mc.regions HR8)
                go_wp2_with fail
                go_at_call 16
                refine K5.out.mono ?_
                rintro e y1 ⟨hb9, vr, osr, rfl, hOr, hMr⟩
                have HB9 := Lib.hid (bel_trans HB8.out hb9)
                have HR9 := mc.below HR8 hb9
                have hz9 := hb9.size
                have HOr := hOr
                obtain ⟨Ar, nr, cr, rfl, hrdr, _, _⟩ := hOr.out.own.rdR
                have hnr : osr.length = nr := by rw [← hrdr.len, List.length_map]
                have HNR := Lib.hid hnr
                have hr8 : nr ≤ 8 := by rw [← hnr, ← List.length_map (f := (·.r)), hMr]; exact HG.out.few
                have HSM := Lib.hid (show ∀ o ∈ osr, o.r.bytes.length ≤ 1048576 from fun o ho => by
                  have h1 : o.r ∈ M := by rw [← hMr]; exact List.mem_map_of_mem ho
                  obtain ⟨i1, hi1⟩ := getElem?_of_mem h1
                  have h2 := HG.out.short i1 o.r hi1
                  have h3 : o.r.len = (o.r.bytes.length : Int) := rfl
                  omega)
                clear K5 hb9 hOr hMr hrdr hnr HR8
                go_wp2_with fail
                go_loopw [21] (fun av W => ∃ (a : Nat) (os' : List OReg), a ≤ nr ∧ av = .int .i64 (a : Int) ∧ Hid (OwnI W x8.heap.size y1.heap.size (.slice Ar nr cr) os' ∧ os'.length = nr ∧ ∀ o ∈ os', o.r.bytes.length ≤ 1048576) ∧ Hid (Kp x8.heap.size y1.heap.size y1 W)) (fun av _ => nr - (intOf av).toNat)
                case atStart => exact ⟨0, osr, Nat.zero_le _, rfl, Lib.hid ⟨HOr.out, HNR.out, HSM.out⟩, Lib.hid (Kp.of (Below.refl _ _))⟩
                case round =>
                  obtain ⟨a, os', ha, rfl, hO, hK⟩ := hrel
                  rcases Nat.lt_or_ge a nr with han | han
                  · have hani : (a : Int) < (nr : Int) := by omega
                    have ha0 : (0 : Int) ≤ (a : Int) := by omega
                    obtain ⟨o, ho⟩ : ∃ o, os'[a]? = some o := ⟨_, List.getElem?_eq_getElem (by rw [hO.out.2.1]; exact han)⟩
                    obtain ⟨gl, rfl⟩ : ∃ gl, Ar = some ⟨gl, 0, none⟩ := by
                      rcases hO.out.1.own.shape with ⟨_, e2⟩ | ⟨g, c', e1, _⟩
                      · rw [e2] at ho; cases ho
                      · simp only [Value.slice.injEq] at e1; exact ⟨g, e1.1⟩
                    obtain ⟨nb, hnb⟩ : ∃ nb, nb = o.r.bytes.length := ⟨_, rfl⟩
                    have hOo := Lib.hid (show ∃ o' : OReg, os'[a]? = some o' ∧ o'.g = o.g ∧ o'.c = o.c ∧ o'.r.bytes.length = nb from ⟨o, ho, rfl, rfl, hnb.symm⟩)
                    have hnb3 : nb ≤ 1048576 := by rw [hnb]; exact hO.out.2.2 o (List.mem_of_getElem? ho)
                    clear ho hnb
                    go_wp2_with fail
                    go_loopw [22] (fun bv W => ∃ (b : Nat) (os2 : List OReg), b ≤ nb ∧ bv = .int .i64 (b : Int) ∧ Hid (OwnI W x8.heap.size y1.heap.size (.slice (some ⟨gl, 0, none⟩) nr cr) os2 ∧ os2.length = nr ∧ ∀ o ∈ os2, o.r.bytes.length ≤ 1048576) ∧ Hid (∃ o' : OReg, os2[a]? = some o' ∧ o'.g = o.g ∧ o'.c = o.c ∧ o'.r.bytes.length = nb) ∧ Hid (Kp x8.heap.size y1.heap.size y1 W)) (fun bv _ => nb - (intOf bv).toNat)
                    case atStart => exact ⟨0, os', Nat.zero_le _, rfl, hO, hOo, hK⟩
                    case round =>
                      obtain ⟨b, os2, hb, rfl, hO2, ho2, hK2⟩ := hrel
                      obtain ⟨o', h1, h2, h3, h4⟩ := ho2.out
                      have cs0 := hO2.out.1.own.cell (g := gl) rfl h1 (d := 1) (by omega)
                      have cs : wr.cell? ⟨gl, a * 3 + 1, none⟩ = some (.slice (some ⟨o.g, 0, none⟩) nb o.c) := by
                        rw [cs0]
                        show some (Value.slice (some ⟨o'.g, 0, none⟩) o'.r.bytes.length o'.c) = _
                        rw [h2, h3, h4]
                      clear cs0
                      rcases Nat.lt_or_ge b nb with hbn | hbn
                      · have hbni : (b : Int) < (nb : Int) := by omega
                        have hb0 : (0 : Int) ≤ (b : Int) := by omega
                        have hmo := List.mem_of_getElem? h1
                        have hrow := hO2.out.1.own.each o' hmo
                        have hsl : o'.sl = .slice (some ⟨o.g, 0, none⟩) nb o.c := by unfold OReg.sl; rw [h2, h3, h4]
                        have hrow' := hrow
                        rw [hsl, h4] at hrow'
                        have cb : wr.cell? ⟨o.g, b, none⟩ = some (.int .u8 (bt o'.r.bytes b)) := by
                          rw [hrow'.cellAt b (by omega)]
                          exact b8_get (by omega)
                        have fb : wr.frozen? ⟨o.g, b, none⟩ = false := hrow'.frozenAt b
                        have hbt := (hO2.out.1.own.oks o' hmo).bytes.bt b
                        obtain ⟨z, hz⟩ : ∃ z, z = bt o'.r.bytes b := ⟨_, rfl⟩
                        rw [← hz] at cb hbt
                        obtain ⟨hz0, hz1⟩ := hbt
                        obtain ⟨hst, hgr⟩ := hrow'.stored b (.int .u8 ((z + 1) % 256))
                        rw [b8_set] at hst
                        have hwr : 0 ≤ (z + 1) % 256 ∧ (z + 1) % 256 ≤ 255 := by omega
                        have hO3 : Hid (OwnI (wr.setCell ⟨o.g, b, none⟩ (.int .u8 ((z + 1) % 256))) x8.heap.size y1.heap.size (.slice (some ⟨gl, 0, none⟩) nr cr) (os2.set a ⟨{ o'.r with bytes := o'.r.bytes.set b ((z + 1) % 256) }, o'.g, o'.c⟩) ∧ (os2.set a ⟨{ o'.r with bytes := o'.r.bytes.set b ((z + 1) % 256) }, o'.g, o'.c⟩).length = nr ∧ ∀ o3 ∈ os2.set a ⟨{ o'.r with bytes := o'.r.bytes.set b ((z + 1) % 256) }, o'.g, o'.c⟩, o3.r.bytes.length ≤ 1048576) := by
                          refine Lib.hid ⟨hO2.out.1.turn h1 (List.length_set ..) ((hO2.out.1.own.oks o' hmo).bytes.set b hwr.1 hwr.2) (by rw [hsl, h4]; exact hst) (by rw [h2]; exact hgr), by rw [List.length_set]; exact hO2.out.2.1, fun o3 h9 => by
                            rcases List.mem_or_eq_of_mem_set h9 with h9 | rfl
                            · exact hO2.out.2.2 o3 h9
                            · show (o'.r.bytes.set b _).length ≤ _; rw [List.length_set, h4]; exact hnb3⟩
                        have ho3 : Hid (∃ o2 : OReg, (os2.set a ⟨{ o'.r with bytes := o'.r.bytes.set b ((z + 1) % 256) }, o'.g, o'.c⟩)[a]? = some o2 ∧ o2.g = o.g ∧ o2.c = o.c ∧ o2.r.bytes.length = nb) :=
                          Lib.hid ⟨_, List.getElem?_set_self (List.getElem?_eq_some_iff.1 h1).1, h2, h3, by show (o'.r.bytes.set b _).length = nb; rw [List.length_set]; exact h4⟩
                        have hK3 : Hid (Kp x8.heap.size y1.heap.size y1 (wr.setCell ⟨o.g, b, none⟩ (.int .u8 ((z + 1) % 256)))) := Lib.hid (hK2.out.trans (Kp.grown hgr (by rw [← h2]; exact (hO2.out.1.own.lt hmo).1) (by rw [← h2]; exact hO2.out.1.each o' hmo)))
                        clear hrow hrow' hst hgr hO2 ho2 hK2 h1 h2 h3 h4 hz hsl hmo
                        go_wp2_with fail
                        go_roundw
                        case rel => exact ⟨b + 1, _, by omega, by go_num, hO3, ho3, hK3⟩
                        case measure => (simp [intOf] <;> omega)
                      · obtain rfl : b = nb := by omega
                        clear h1 h2 h3 h4
                        go_wp2_with fail
                        go_roundw
                        case rel => exact ⟨a + 1, os2, by omega, by go_num, hO2, hK2⟩
                        case measure => (simp [intOf] <;> omega)
                  · obtain rfl : a = nr := by omega
                    have HRf : Hid (R wr x2.heap.size x3.heap.size (.pointer (some D)) M) := Lib.hid (mc.keep HR9.out hK.out (.inl (by omega)))
                    have HBf : Hid (Below w.heap.size w wr) := Lib.hid (HB9.out.trans ((hK.out.wide (show w.heap.size ≤ _ by omega) (Nat.le_refl _)).below (by omega)))
                    have K6 := Lib.hid (mc.bytes a1 ((n : Int) + (k : Int)) HRf W1.out (by simp [Lit.wf, IntKind.min, IntKind.max, IntKind.signed, IntKind.bits]; omega))
                    clear hO hK
                    go_wp2_with fail
                    go_at_call 14
                    refine K6.out.mono ?_
                    rintro e y2 ⟨hbf, sf, xf, rfl, hof⟩
                    have HBz := Lib.hid (bel_trans HBf.out hbf)
                    obtain ⟨rfl, rfl⟩ := hof.uniq HG.out HO.out
                    clear K6 hbf hof
                    go_wp2_with fail
                    go_ret
                    exact ⟨rfl, HBz.out⟩
        case neg =>
          rcases hkk with ⟨t1, t2⟩ | ⟨⟨t1, t2⟩, rfl, rfl⟩
          all_goals
            have K5 := Lib.hid (mc.regions HR)
            go_wp2_with fail
            go_at_call 16
            refine K5.out.mono ?_
            rintro e y1 ⟨hb9, vr, osr, rfl, hOr, hMr⟩
            have HB9 := Lib.hid (bel_trans HB7.out hb9)
            have HR9 := mc.below HR hb9
            have hz9 := hb9.size
            have HOr := hOr
            obtain ⟨Ar, nr, cr, rfl, hrdr, _, _⟩ := hOr.out.own.rdR
            have hnr : osr.length = nr := by rw [← hrdr.len, List.length_map]
            have HNR := Lib.hid hnr
            have hr8 : nr ≤ 8 := by rw [← hnr, ← List.length_map (f := (·.r)), hMr]; exact HG.out.few
            have HSM := Lib.hid (show ∀ o ∈ osr, o.r.bytes.length ≤ 1048576 from fun o ho => by
              have h1 : o.r ∈ M := by rw [← hMr]; exact List.mem_map_of_mem ho
              obtain ⟨i1, hi1⟩ := getElem?_of_mem h1
              have h2 := HG.out.short i1 o.r hi1
              have h3 : o.r.len = (o.r.bytes.length : Int) := rfl
              omega)
            clear K5 hb9 hOr hMr hrdr hnr HR
            go_wp2_with fail
            go_loopw [21] (fun av W => ∃ (a : Nat) (os' : List OReg), a ≤ nr ∧ av = .int .i64 (a : Int) ∧ Hid (OwnI W x7.heap.size y1.heap.size (.slice Ar nr cr) os' ∧ os'.length = nr ∧ ∀ o ∈ os', o.r.bytes.length ≤ 1048576) ∧ Hid (Kp x7.heap.size y1.heap.size y1 W)) (fun av _ => nr - (intOf av).toNat)
            case atStart => exact ⟨0, osr, Nat.zero_le _, rfl, Lib.hid ⟨HOr.out, HNR.out, HSM.out⟩, Lib.hid (Kp.of (Below.refl _ _))⟩
            case round =>
              obtain ⟨a, os', ha, rfl, hO, hK⟩ := hrel
              rcases Nat.lt_or_ge a nr with han | han
              · have hani : (a : Int) < (nr : Int) := by omega
                have ha0 : (0 : Int) ≤ (a : Int) := by omega
                obtain ⟨o, ho⟩ : ∃ o, os'[a]? = some o := ⟨_, List.getElem?_eq_getElem (by rw [hO.out.2.1]; exact han)⟩
                obtain ⟨gl, rfl⟩ : ∃ gl, Ar = some ⟨gl, 0, none⟩ := by
                  rcases hO.out.1.own.shape with ⟨_, e2⟩ | ⟨g, c', e1, _⟩
                  · rw [e2] at ho; cases ho
                  · simp only [Value.slice.injEq] at e1; exact ⟨g, e1.1⟩
                obtain ⟨nb, hnb⟩ : ∃ nb, nb = o.r.bytes.length := ⟨_, rfl⟩
                have hOo := Lib.hid (show ∃ o' : OReg, os'[a]? = some o' ∧ o'.g = o.g ∧ o'.c = o.c ∧ o'.r.bytes.length = nb from ⟨o, ho, rfl, rfl, hnb.symm⟩)
                have hnb3 : nb ≤ 1048576 := by rw [hnb]; exact hO.out.2.2 o (List.mem_of_getElem? ho)
                clear ho hnb
                go_wp2_with fail
                go_loopw [22] (fun bv W => ∃ (b : Nat) (os2 : List OReg), b ≤ nb ∧ bv = .int .i64 (b : Int) ∧ Hid (OwnI W x7.heap.size y1.heap.size (.slice (some ⟨gl, 0, none⟩) nr cr) os2 ∧ os2.length = nr ∧ ∀ o ∈ os2, o.r.bytes.length ≤ 1048576) ∧ Hid (∃ o' : OReg, os2[a]? = some o' ∧ o'.g = o.g ∧ o'.c = o.c ∧ o'.r.bytes.length = nb) ∧ Hid (Kp x7.heap.size y1.heap.size y1 W)) (fun bv _ => nb - (intOf bv).toNat)
                case atStart => exact ⟨0, os', Nat.zero_le _, rfl, hO, hOo, hK⟩
                case round =>
                  obtain ⟨b, os2, hb, rfl, hO2, ho2, hK2⟩ := hrel
                  obtain ⟨o', h1, h2, h3, h4⟩ := ho2.out
                  have cs0 := hO2.out.1.own.cell (g := gl) rfl h1 (d := 1) (by omega)
                  have cs : wr.cell? ⟨gl, a * 3 + 1, none⟩ = some (.slice (some ⟨o.g, 0, none⟩) nb o.c) := by
                    rw [cs0]
                    show some (Value.slice (some ⟨o'.g, 0, none⟩) o'.r.bytes.length o'.c) = _
                    rw [h2, h3, h4]
                  clear cs0
                  rcases Nat.lt_or_ge b nb with hbn | hbn
                  · have hbni : (b : Int) < (nb : Int) := by omega
                    have hb0 : (0 : Int) ≤ (b : Int) := by omega
                    have hmo := List.mem_of_getElem? h1
                    have hrow := hO2.out.1.own.each o' hmo
                    have hsl : o'.sl = .slice (some ⟨o.g, 0, none⟩) nb o.c := by unfold OReg.sl; rw [h2, h3, h4]
                    have hrow' := hrow
                    rw [hsl, h4] at hrow'
                    have cb : wr.cell? ⟨o.g, b, none⟩ = some (.int .u8 (bt o'.r.bytes b)) := by
                      rw [hrow'.cellAt b (by omega)]
                      exact b8_get (by omega)
                    have fb : wr.frozen? ⟨o.g, b, none⟩ = false := hrow'.frozenAt b
                    have hbt := (hO2.out.1.own.oks o' hmo).bytes.bt b
                    obtain ⟨z, hz⟩ : ∃ z, z = bt o'.r.bytes b := ⟨_, rfl⟩
                    rw [← hz] at cb hbt
                    obtain ⟨hz0, hz1⟩ := hbt
                    obtain ⟨hst, hgr⟩ := hrow'.stored b (.int .u8 ((z + 1) % 256))
                    rw [b8_set] at hst
                    have hwr : 0 ≤ (z + 1) % 256 ∧ (z + 1) % 256 ≤ 255 := by omega
                    have hO3 : Hid (OwnI (wr.setCell ⟨o.g, b, none⟩ (.int .u8 ((z + 1) % 256))) x7.heap.size y1.heap.size (.slice (some ⟨gl, 0, none⟩) nr cr) (os2.set a ⟨{ o'.r with bytes := o'.r.bytes.set b ((z + 1) % 256) }, o'.g, o'.c⟩) ∧ (os2.set a ⟨{ o'.r with bytes := o'.r.bytes.set b ((z + 1) % 256) }, o'.g, o'.c⟩).length = nr ∧ ∀ o3 ∈ os2.set a ⟨{ o'.r with bytes := o'.r.bytes.set b ((z + 1) % 256) }, o'.g, o'.c⟩, o3.r.bytes.length ≤ 1048576) := by
                      refine Lib.hid ⟨hO2.out.1.turn h1 (List.length_set ..) ((hO2.out.1.own.oks o' hmo).bytes.set b hwr.1 hwr.2) (by rw [hsl, h4]; exact hst) (by rw [h2]; exact hgr), by rw [List.length_set]; exact hO2.out.2.1, fun o3 h9 => by
                        rcases List.mem_or_eq_of_mem_set h9 with h9 | rfl
                        · exact hO2.out.2.2 o3 h9
                        · show (o'.r.bytes.set b _).length ≤ _; rw [List.length_set, h4]; exact hnb3⟩
                    have ho3 : Hid (∃ o2 : OReg, (os2.set a ⟨{ o'.r with bytes := o'.r.bytes.set b ((z + 1) % 256) }, o'.g, o'.c⟩)[a]? = some o2 ∧ o2.g = o.g ∧ o2.c = o.c ∧ o2.r.bytes.length = nb) :=
                      Lib.hid ⟨_, List.getElem?_set_self (List.getElem?_eq_some_iff.1 h1).1, h2, h3, by show (o'.r.bytes.set b _).length = nb; rw [List.length_set]; exact h4⟩
                    have hK3 : Hid (Kp x7.heap.size y1.heap.size y1 (wr.setCell ⟨o.g, b, none⟩ (.int .u8 ((z + 1) % 256)))) := Lib.hid (hK2.out.trans (Kp.grown hgr (by rw [← h2]; exact (hO2.out.1.own.lt hmo).1) (by rw [← h2]; exact hO2.out.1.each o' hmo)))
                    clear hrow hrow' hst hgr hO2 ho2 hK2 h1 h2 h3 h4 hz hsl hmo
                    go_wp2_with fail
                    go_roundw
                    case rel => exact ⟨b + 1, _, by omega, by go_num, hO3, ho3, hK3⟩
                    case measure => (simp [intOf] <;> omega)
                  · obtain rfl : b = nb := by omega
                    clear h1 h2 h3 h4
                    go_wp2_with fail
                    go_roundw
                    case rel => exact ⟨a + 1, os2, by omega, by go_num, hO2, hK2⟩
                    case measure => (simp [intOf] <;> omega)
              · obtain rfl : a = nr := by omega
                have HRf : Hid (R wr x2.heap.size x3.heap.size (.pointer (some D)) M) := Lib.hid (mc.keep HR9.out hK.out (.inl (by omega)))
                have HBf : Hid (Below w.heap.size w wr) := Lib.hid (HB9.out.trans ((hK.out.wide (show w.heap.size ≤ _ by omega) (Nat.le_refl _)).below (by omega)))
                have K6 := Lib.hid (mc.bytes a1 ((n : Int) + (k : Int)) HRf W1.out (by simp [Lit.wf, IntKind.min, IntKind.max, IntKind.signed, IntKind.bits]; omega))
                clear hO hK
                go_wp2_with fail
                go_at_call 14
                refine K6.out.mono ?_
                rintro e y2 ⟨hbf, sf, xf, rfl, hof⟩
                have HBz := Lib.hid (bel_trans HBf.out hbf)
                obtain ⟨rfl, rfl⟩ := hof.uniq HG.out HO.out
                clear K6 hbf hof
                go_wp2_with fail
                go_ret
                exact ⟨rfl, HBz.out⟩
end memoryBytes
end Go.Proofs.Ytkgbpcfpppceiaa
