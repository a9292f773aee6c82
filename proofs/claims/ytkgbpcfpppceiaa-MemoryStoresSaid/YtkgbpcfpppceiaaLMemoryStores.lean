/- The walk of MemoryStores. -/
import Derived.Test.YtkgbpcfpppceiaaA12
namespace Go.Proofs.Ytkgbpcfpppceiaa
open Go Go.RowKit
namespace memoryStores
open Wd Nt Mm
set_option linter.unusedVariables false
set_option maxRecDepth 100000 in
set_option maxHeartbeats 16000000 in
theorem walk_ {R : World → Nat → Nat → Value → List Reg → Prop} (mc : MemC R) (w : World) (A0 : Option Addr) (n0 c0 : Nat) (rs : List Reg) (a1 a2 : Int) (hr0 : RdR w w.heap.size A0 n0 rs) (hn0 : n0 ≤ c0) (hm0 : c0 ≤ 9223372036854775807)
    (w1 : (Lit.int .u64 a1).wf = true) (w2 : (Lit.int .u64 a2).wf = true) :
    Calls Try.prog 6 #[.slice A0 n0 c0, .int .u64 a1, .int .u64 a2] w fun e w' => e = .returned (.bool true) ∧ Below w.heap.size w w' := by
  have L1 := Lib.hid (lives_c mc w)
  have HA0 : Hid (AtR w A0 n0 rs) := Lib.hid hr0
  have HLN := Lib.hid hr0.len
  have W1 := Lib.hid (u64_W w1)
  have W2 := Lib.hid (u64_W w2)
  have hn0' : n0 ≤ 9223372036854775807 := by omega
  clear hr0 w1 w2
  go_enter Try.func6, Try.ntmps6
  try simp only [List.append]
  go_wp2_with fail
  go_at_call 9
  refine L1.out.mono ?_
  rintro e x1 ⟨rfl, hb⟩
  have HB := Lib.hid hb
  replace HA0 := AtR.step HA0 hb
  clear hb L1
  by_cases hlt : Lite rs
  case neg =>
    have L2 := Lib.hid (lightN_c A0 n0 c0 rs x1 HA0 hn0' hlt)
    clear hlt
    go_wp2_with fail
    go_at_call 17
    refine L2.out.mono ?_
    rintro e x2 ⟨rfl, rfl⟩
    clear L2
    go_wp2_with fail
    go_ret
    exact ⟨rfl, HB.out⟩
  case pos =>
    have L2 := Lib.hid (light_c A0 n0 c0 rs x1 HA0 hn0' (by rw [← HLN.out]; exact hlt.1) hlt.2)
    have HLT := Lib.hid hlt
    have L3 := Lib.hid (mc.new A0 n0 c0 rs x1 HA0 hn0')
    clear hlt
    go_wp2_with fail
    go_at_call 17
    refine L2.out.mono ?_
    rintro e x2 ⟨rfl, rfl⟩
    clear L2
    go_wp2_with fail
    go_at_call 11
    refine L3.out.mono ?_
    rintro e x3 ⟨hb, x, hx, ⟨h0, rfl⟩ | ⟨rfl, p, M, rfl, hp, hr⟩⟩
    · have HB3 := Lib.hid (bel_trans HB.out hb)
      have hx0 : (x != 0) = true := by simpa using h0
      clear hb hx h0 L3
      go_wp2_with fail
      go_ret
      exact ⟨rfl, HB3.out⟩
    · obtain ⟨⟨D, rfl⟩, hG, hRi, hOk, hBE, hE⟩ := mc.shape hr
      have HB3 := Lib.hid (bel_trans HB.out hb)
      have HG := Lib.hid hG
      have HRi := Lib.hid hRi
      have HOk := Lib.hid hOk
      have hlenM : M.length = n0 := by rw [hp.length_eq, HLN.out]
      have HLM := Lib.hid hlenM
      have hn8 : n0 ≤ 8 := by rw [← hlenM]; exact hG.few
      have L4 := Lib.hid (mc.regions (Lib.hid hr))
      have HR := Lib.hid hr
      have hsz3 := HB3.out.size
      have hszx := hb.size
      have HBX := Lib.hid (show w.heap.size ≤ x2.heap.size from HB.out.size)
      clear hb hx hp hr hG hRi hOk hBE hE L3 hlenM HLT
      go_wp2_with fail
      go_at_call 16
      refine L4.out.mono ?_
      rintro e x4 ⟨hb4, vw, osw, rfl, hOw, hMw⟩
      have HB4 := Lib.hid (bel_trans HB3.out hb4)
      have HR4 := mc.below HR hb4
      have HW4 := hOw
      have HMw := Lib.hid hMw
      have hs4 := hb4.size
      have L5 := Lib.hid (mc.store a1 a2 HR4 W1.out W2.out)
      obtain ⟨Aw, nw, cw, rfl, hRw, hcw, hmw⟩ := hOw.out.own.rdR
      have hnw : nw = n0 := by rw [← HLM.out, ← hRw.len, hMw]
      subst hnw
      clear L4 hb4 hOw hMw hRw HR
      go_wp2_with fail
      go_at_call 12
      refine L5.out.mono ?_
      rintro e x5 ⟨hk5, M5, f, rfl, hst, hr5⟩
      have HW5 := Lib.hid (HW4.out.keep hk5 (.inr (Nat.le_refl _)))
      have HST := Lib.hid hst
      have HK5 := Lib.hid hk5
      have HG5 := Lib.hid (hst.good HG.out)
      have hs5 := hk5.size
      have L6 := Lib.hid (mc.regions (Lib.hid hr5))
      have HR5 := Lib.hid hr5
      have HB5 : Hid (Below w.heap.size w x5) := Lib.hid (HB4.out.trans ((hk5.wide HBX.out (Nat.le_refl _)).below (by omega)))
      clear L5 hk5 hst hr5 HW4 HR4
      go_wp2_with fail
      go_at_call 16
      refine L6.out.mono ?_
      rintro e x6 ⟨hb6, vn, osn, rfl, hOn, hMn⟩
      have HW6 := Lib.hid (HW5.out.below hb6)
      have HN6 := hOn
      have HMn := Lib.hid hMn
      have HB6 : Hid (Below w.heap.size w x6) := Lib.hid (bel_trans HB5.out hb6)
      have L7 := Lib.hid (mc.load a1 (mc.below HR5 hb6) W1.out)
      obtain ⟨An, nn, cn, rfl, hRn, hcn, hmn⟩ := hOn.out.own.rdR
      have HLN6 := Lib.hid hRn.len
      clear L6 hb6 hOn hMn HR5 HW5 hRn
      go_wp2_with fail
      go_at_call 13
      refine L7.out.mono ?_
      rintro e x7 ⟨hb7, v7, g7, rfl, hl7⟩
      have HB7 := Lib.hid (bel_trans HB6.out hb7)
      have HW7 := Lib.hid (HW6.out.below hb7)
      have HN7 := Lib.hid (HN6.out.below hb7)
      have hld : f = 0 → g7 = 0 ∧ v7 = a2 := by
        intro hf
        rcases HST.out with ⟨i, r, hh, hw, hM5, _⟩ | ⟨_, _, h11⟩
        · obtain ⟨g1, g2, g3, g4⟩ := hh
          have hh5 : Hits M5 a1 8 i (r.put a1 a2) := by
            rw [hM5]
            refine ⟨List.getElem?_set_self (List.getElem?_eq_some_iff.1 g1).1, g2, ?_, ?_⟩
            · rw [Reg.put_len]; exact g3
            · rw [Reg.put_len]; exact g4
          rcases hl7 with ⟨j, s, hj, hv, he⟩ | ⟨hno, _⟩
          · obtain ⟨rfl, rfl⟩ := hj.uniq HG5.out hh5
            refine ⟨he, ?_⟩
            rw [hv]
            have hl : r.len = r.bytes.length := rfl
            exact word_put W2.out (by show (a1 - r.base).toNat + 8 ≤ r.bytes.length; omega)
          · exact absurd hh5 (hno _ _)
        · omega
      have hfx : f = 0 ∨ f = 11 := by rcases HST.out with ⟨_, _, _, _, _, h⟩ | ⟨_, _, h⟩ <;> omega
      have hSF : ∃ inB hit, StF M M5 a1 a2 f inB hit := by
        rcases HST.out with ⟨i, r, hh, hw, hM5, h0⟩ | ⟨_, hM5, h11⟩
        · subst h0; rw [hM5]; exact ⟨_, _, StF.ok HG.out HOk.out W1.out W2.out hh hw⟩
        · rw [hM5]; exact ⟨_, _, StF.fault (by omega)⟩
      obtain ⟨inB, hit, hsf⟩ := hSF
      have SF := Lib.hid hsf
      have hnn : nn = nw := by
        have h1 := HLN6.out
        rw [HMn.out, hsf.len, HLM.out] at h1; exact h1.symm
      subst hnn
      have HLD := Lib.hid hld
      have hrdW : RdR x7 x7.heap.size Aw nn M := by
        obtain ⟨A', n', c', e, h1, _⟩ := HW7.out.own.rdR
        cases e; rw [HMw.out] at h1; exact h1
      have hrdN : RdR x7 x7.heap.size An nn M5 := by
        obtain ⟨A', n', c', e, h1, _⟩ := HN7.out.own.rdR
        cases e; rw [HMn.out] at h1; exact h1
      have RW := Lib.hid hrdW
      have RN := Lib.hid hrdN
      obtain ⟨w10, w11⟩ := W1.out
      obtain ⟨w20, w21⟩ := W2.out
      have HF := Lib.hid hfx
      have hgo : Hid ((f = 0 ∧ g7 = 0 ∧ v7 = a2) ∨ f = 11) := Lib.hid (by rcases hfx with h | h; exact .inl ⟨h, hld h⟩; exact .inr h)
      clear L7 hb7 HW6 HN6 hl7 hld HLN6 hsf HK5 hrdW hrdN hfx HW7 HN7
      rcases hgo.out with ⟨rfl, rfl, rfl⟩ | rfl
      all_goals
        clear hgo
        go_wp2_with fail
        go_loopw [14, 15] (fun hv iv W => ∃ i q h : Nat, i ≤ nn ∧ hv = .int .i64 (h : Int) ∧ iv = .int .i64 (i : Int) ∧ W = x7.drewN q ∧ Hid (h = hit i 0)) (fun _ iv _ => nn - (intOf iv).toNat)
        case atStart => exact ⟨0, 0, 0, Nat.zero_le _, rfl, rfl, rfl, Lib.hid SF.out.h0.symm⟩
        case round =>
          obtain ⟨i, q, h, hi, rfl, rfl, rfl, hh⟩ := hrel
          rcases Nat.lt_or_ge i nn with hin | hin
          · obtain ⟨r, hr⟩ := get_lt (rs := M) (j := i) (by rw [HLM.out]; exact hin)
            obtain ⟨s, hs⟩ := get_lt (rs := M5) (j := i) (by rw [SF.out.len, HLM.out]; exact hin)
            have hini : (i : Int) < (nn : Int) := by omega
            obtain ⟨sb, sl⟩ := SF.out.same i r s hr hs
            have hrok := HOk.out r (List.mem_of_getElem? hr)
            have hshort := HG.out.short i r hr
            have hfits := HG.out.fits i r hr
            obtain ⟨ad, rfl, _, A1, n1, cA, k1, k2, k3, k4, k5, k6⟩ := RW.out.at_ hr
            obtain ⟨bd, rfl, _, B1, n2, cB, l1, l2, l3, l4, l5, l6⟩ := RN.out.at_ hs
            have hn2 : n2 = n1 := by rw [← l4.len, sl, k4.len]
            subst hn2
            rw [sb] at l1
            have HSB := Lib.hid sb
            have HR := Lib.hid hr
            have HS := Lib.hid hs
            have HL1 := Lib.hid k4.len
            have hlr : r.len = n2 := by unfold Reg.len; rw [k4.len]
            rw [hlr] at hshort hfits
            obtain ⟨b, hb⟩ : ∃ b, b = r.base := ⟨_, rfl⟩
            have hbw := hrok.base
            rw [← hb] at k1 l1 hfits hbw
            have HBb := Lib.hid hb
            unfold Wd.W at hbw
            obtain ⟨hb0, hb1⟩ := hbw
            have f1 : ((n2 : Int) != (n2 : Int)) = false := by rw [bne_self_eq_false]
            have f2 : (b != b) = false := by rw [bne_self_eq_false]
            have K4 := Lib.hid k4
            have L4 := Lib.hid l4
            have hprev : (decide ((0 : Int) < (i : Int)) = false ∧ decide (0 < i) = false) ∨ ∃ (j : Nat) (b' : Int), (decide ((0 : Int) < (i : Int)) = true ∧ decide (0 < i) = true) ∧ (i : Int) - 1 = (j : Int) ∧ (j : Int) < (nn : Int) ∧ x7.cell? (ad.add (j * 3)) = some (.int .u64 b') ∧ decide (b ≤ b') = false := by
              rcases i with _ | j
              · exact .inl ⟨rfl, rfl⟩
              · obtain ⟨r', hr'⟩ := get_lt (rs := M) (j := j) (by rw [HLM.out]; omega)
                obtain ⟨ad', e, _, _, _, _, m1, _⟩ := RW.out.at_ hr'
                cases e
                refine .inr ⟨j, r'.base, ⟨decide_eq_true (by omega), decide_eq_true (by omega)⟩, by omega, by omega, m1, decide_eq_false ?_⟩
                have h1 := pairwise_get.1 HRi.out j (j + 1) r' r hr' hr (by omega)
                have h2 := far_base (HG.out.apart j (j + 1) r' r hr' hr (by omega)) (HG.out.pos j r' hr') (HG.out.pos (j + 1) r hr)
                rw [hb]; omega
            clear sb sl hr hs k4 l4 hlr hb hrok
            rcases hprev with ⟨hi0, hi1⟩ | ⟨j, b', ⟨hi0, hi1⟩, hj, hjn, m1, hbb⟩
            all_goals
              try have s1 : (0 : Int) ≤ (j : Int) := by omega
              try have s2 : IntKind.i64.wrap (j : Int) = (j : Int) := IntWalk.i64_in _ (by omega)
              go_wp2_with fail
              go_quiet (fail)
              go_wp2_with fail
              go_loopw [14, 16] (fun hv kv W => ∃ k q h : Nat, k ≤ n2 ∧ hv = .int .i64 (h : Int) ∧ kv = .int .i64 (k : Int) ∧ W = x7.drewN q ∧ Hid (h = hit i k)) (fun _ kv _ => n2 - (intOf kv).toNat)
              case atStart => exact ⟨0, _, h, Nat.zero_le _, rfl, rfl, by first | rfl | exact World.drewN_drewN _ _ _, hh⟩
              case round =>
                clear hh
                obtain ⟨k, q2, h2, hk, rfl, rfl, rfl, hh2⟩ := hrel
                rcases Nat.lt_or_ge k n2 with hkn | hkn
                · have hkni : (k : Int) < (n2 : Int) := by omega
                  have hbk : b + (k : Int) ≤ 18446744073709551615 := by omega
                  have hbk0 : 0 ≤ b + (k : Int) := by omega
                  have hkl : k < r.bytes.length := by rw [HL1.out]; exact hkn
                  have hfl := SF.out.flag i k r HR.out hkl
                  have hhk := SF.out.hk i k r HR.out hkl
                  have hput := SF.out.put i k r s HR.out HS.out hkl
                  have hkeep := SF.out.keep i k r s HR.out HS.out hkl
                  rw [← hh2.out] at hhk
                  have hb8 : h2 ≤ 8 := by rw [hh2.out]; exact SF.out.bnd i k
                  rw [← HBb.out] at hfl hput
                  obtain ⟨y, hy⟩ : ∃ y : Nat, IntKind.u64.wrap (b + (k : Int) - a1) = (y : Int) := ⟨(IntKind.u64.wrap (b + (k : Int) - a1)).toNat, by rw [IntKind.wrap_u64]; omega⟩
                  have hy2 : (b + (k : Int) - a1) % 18446744073709551616 = (y : Int) := by rw [← IntKind.wrap_u64]; exact hy
                  have hyb : (y : Int) ≤ 18446744073709551615 := by omega
                  rw [hy2] at hfl hput
                  rw [Int.toNat_natCast] at hput
                  obtain ⟨ad1, rfl, _, e1⟩ := K4.out.at_ hkn
                  obtain ⟨bd1, rfl, _, e2⟩ := L4.out.at_ hkn
                  have hb83 : (h2 : Int) ≤ 8 := by omega
                  clear hy2 hkl
                  cases hin : inB i k
                  case true =>
                    try (exfalso; rw [hin] at hfl; simp at hfl; done)
                    all_goals
                      rw [hin] at hfl hhk
                      obtain ⟨p1, p2⟩ := hput hin
                      have hy8 : (y : Int) < 8 := by revert hfl; simp
                      have hy0 : (0 : Int) ≤ (y : Int) := by omega
                      rw [p1] at e2
                      rw [p2] at k3
                      have HHK := Lib.hid (show h2 + 1 = hit i (k + 1) by rw [hhk, if_pos rfl])
                      clear hput hkeep hhk hfl hin p1 p2
                      go_wp2_with fail
                      go_quiet (fail)
                      go_wp2_with fail
                      go_roundw
                      case rel => exact ⟨k + 1, _, h2 + 1, by omega, by go_num, by go_num, by first | rfl | exact World.drewN_drewN _ _ _, HHK⟩
                      case measure => (simp [intOf] <;> omega)
                  case false =>
                    have p1 := hkeep hin
                    rw [hin] at hfl hhk
                    have HHK := Lib.hid (show h2 = hit i (k + 1) by rw [hhk]; rfl)
                    rw [p1] at e2
                    try have hy8 : (8 : Int) ≤ (y : Int) := by revert hfl; simp
                    try have hy9 : decide ((y : Int) < 8) = false := decide_eq_false (by omega)
                    try have hy7 : decide (y < 8) = false := decide_eq_false (by omega)
                    have hy0 : (0 : Int) ≤ (y : Int) := by omega
                    clear hput hkeep hhk hfl hin p1
                    go_wp2_with fail
                    go_quiet (fail)
                    go_wp2_with fail
                    go_roundw
                    case rel => exact ⟨k + 1, _, h2, by omega, rfl, by go_num, by first | rfl | exact World.drewN_drewN _ _ _, HHK⟩
                    case measure => (simp [intOf] <;> omega)
                · obtain rfl : k = n2 := by omega
                  have HHI := Lib.hid (show h2 = hit (i + 1) 0 by rw [SF.out.hi i r HR.out, HL1.out]; exact hh2.out)
                  clear hh2
                  go_wp2_with fail
                  go_roundw
                  case rel => exact ⟨i + 1, q2, h2, by omega, rfl, by go_num, rfl, HHI⟩
                  case measure => (simp [intOf] <;> omega)
          · obtain rfl : i = nn := by omega
            have hl := SF.out.last
            rw [HLM.out, ← hh.out] at hl
            have HBq : Hid (Below w.heap.size w (x7.drewN q)) := Lib.hid (below_drewN HB7.out q)
            try obtain rfl := hl rfl
            clear hl hh
            go_wp2_with fail
            go_ret
            exact ⟨rfl, HBq.out⟩
end memoryStores
end Go.Proofs.Ytkgbpcfpppceiaa
