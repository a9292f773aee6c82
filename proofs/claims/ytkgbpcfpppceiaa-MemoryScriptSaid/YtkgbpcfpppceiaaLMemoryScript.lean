/- The walk of MemoryScript. -/
import Derived.Test.YtkgbpcfpppceiaaA16
import Derived.Deep.RegionHeld3
namespace Go.Proofs.Ytkgbpcfpppceiaa
open Go Go.RowKit
namespace memoryScript
open Wd Nt Mm
set_option linter.unusedVariables false
/-- what both have answered -/
def TwoO (R : World → Nat → Nat → Value → List Reg → Prop) (w W : World) (pm po : Value) (M : List Reg) : Prop :=
  ∃ Bm Em Bo Eo, R W Bm Em pm M ∧ RefM W Bo Eo po M ∧ (Em ≤ Bo ∨ Eo ≤ Bm) ∧ w.heap.size ≤ Bm ∧ w.heap.size ≤ Bo
theorem TwoO.below {R : World → Nat → Nat → Value → List Reg → Prop} (mc : MemC R) {w W W' : World} {pm po : Value} {M : List Reg} (h : TwoO R w W pm po M) (hb : Below W.heap.size W W') : TwoO R w W' pm po M := by
  obtain ⟨Bm, Em, Bo, Eo, h1, h2, h3, h4, h5⟩ := h
  exact ⟨Bm, Em, Bo, Eo, (mc.below (Lib.hid h1) hb).out, h2.below hb, h3, h4, h5⟩
set_option maxRecDepth 100000 in
set_option maxHeartbeats 16000000 in
theorem walk_ {R : World → Nat → Nat → Value → List Reg → Prop} (mc : MemC R) (w : World) (A0 : Option Addr) (n0 c0 : Nat) (rs : List Reg) (A9 : Option Addr) (n9 c9 : Nat) (xs : List Ac) (hr0 : RdR w w.heap.size A0 n0 rs) (hn0 : n0 ≤ c0) (hm0 : c0 ≤ 9223372036854775807)
    (hr9 : RdA w w.heap.size A9 n9 xs) (hn9 : n9 ≤ c9) (hm9 : c9 ≤ 9223372036854775807) :
    Calls Try.prog 4 #[.slice A0 n0 c0, .slice A9 n9 c9] w fun e w' => e = .returned (.bool true) ∧ Below w.heap.size w w' := by
  have L1 := Lib.hid (lives_c mc w)
  have HA0 : Hid (AtR w A0 n0 rs) := Lib.hid hr0
  have HA9 := Lib.hid hr9
  have HLN := Lib.hid hr0.len
  have hn0' : n0 ≤ 9223372036854775807 := by omega
  clear hr0 hr9
  go_enter Try.func4, Try.ntmps4
  try simp only [List.append]
  go_wp2_with fail
  go_at_call 9
  refine L1.out.mono ?_
  rintro e x1 ⟨rfl, hb⟩
  have HB := Lib.hid hb
  replace HA0 := AtR.step HA0 hb
  clear hb L1
  by_cases hlt : Lite rs
  case neg =>
    have L2 := Lib.hid (lightN_c A0 n0 c0 rs x1 HA0 hn0' hlt)
    clear hlt
    go_wp2_with fail
    go_at_call 17
    refine L2.out.mono ?_
    rintro e x2 ⟨rfl, rfl⟩
    clear L2
    go_wp2_with fail
    go_ret
    exact ⟨rfl, HB.out⟩
  case pos =>
    have L2 := Lib.hid (light_c A0 n0 c0 rs x1 HA0 hn0' (by rw [← HLN.out]; exact hlt.1) hlt.2)
    have L3 := Lib.hid (kregs_c A0 n0 c0 rs x1 HA0 hlt)
    have hl10 := hlt.1
    clear hlt
    go_wp2_with fail
    go_at_call 17
    refine L2.out.mono ?_
    rintro e x2 ⟨rfl, rfl⟩
    clear L2
    rcases Nat.lt_or_ge 60 n9 with h60 | h60
    · have h60i : (60 : Int) < (n9 : Int) := by omega
      go_wp2_with fail
      go_ret
      exact ⟨rfl, HB.out⟩
    have h60i : (n9 : Int) ≤ 60 := by omega
    go_wp2_with fail
    go_at_call 18
    refine L3.out.mono ?_
    rintro e x3 ⟨hb, g, c, rfl, hS⟩
    have HB3 := Lib.hid (bel_trans HB.out hb)
    replace HA0 := AtR.step HA0 hb
    have L4 := Lib.hid (mc.new (some ⟨g, 0, none⟩) rs.length c rs x3 hS (by omega))
    clear hb hS L3 HB
    go_wp2_with fail
    go_at_call 11
    refine L4.out.mono ?_
    rintro e x4 ⟨hb, x, hx, hre⟩
    have HB4 := Lib.hid (bel_trans HB3.out hb)
    replace HA0 := AtR.step HA0 hb
    have L5 := Lib.hid (rnew_c A0 n0 c0 rs x4 HA0 hn0')
    have hz3 := HB3.out.size
    have hz4 := hb.size
    have HX := Lib.hid hx
    rcases hre with ⟨h0, rfl⟩ | ⟨rfl, p, M, rfl, hp, hr⟩
    · have hx0 : (x == 0) = false := by simpa using h0
      clear hb hx L4 HB3
      go_wp2_with fail
      go_at_call 19
      refine L5.out.mono ?_
      rintro e x5 ⟨hb, y, hy, hre⟩
      obtain rfl := hy.uniq HX.out
      have HB5 := Lib.hid (bel_trans HB4.out hb)
      replace HA0 := AtR.step HA0 hb
      obtain rfl : e = .returned (.tuple #[.pointer none, .int .i64 y]) := by
        rcases hre with ⟨_, h1⟩ | ⟨h1, _⟩
        · exact h1
        · exact absurd h1 h0
      clear hre
      have L6 := Lib.hid (mc.check A0 n0 c0 rs x5 HA0 hn0')
      clear hb hy L5 HB4
      go_wp2_with fail
      go_at_call 20
      refine L6.out.mono ?_
      rintro e x6 ⟨hb, z, rfl, hz⟩
      obtain rfl := hz.uniq HX.out
      have HB6 := Lib.hid (bel_trans HB5.out hb)
      replace HA0 := AtR.step HA0 hb
      have L7 := Lib.hid (rcheck_u A0 n0 c0 rs x6 HA0 hn0' z HX.out)
      clear hb hz L6 HB5
      go_wp2_with fail
      go_at_call 21
      refine L7.out.mono ?_
      rintro e x7 ⟨rfl, hb⟩
      have HB7 := Lib.hid (bel_trans HB6.out hb)
      clear hb L7 HB6
      go_wp2_with fail
      go_loopw [9] (fun i W => i = .int .i64 0 ∧ Hid (Below w.heap.size w W)) (fun _ _ => 0)
      case atStart => exact ⟨rfl, HB7⟩
      case round =>
        obtain ⟨rfl, HW⟩ := hrel
        rcases Nat.eq_zero_or_pos n9 with h9 | h9
        · subst h9
          go_wp2_with fail
          go_ret
          exact ⟨rfl, HW.out⟩
        · have h9i : (0 : Int) < (n9 : Int) := by omega
          go_wp2_with fail
          go_ret
          exact ⟨rfl, HW.out⟩
    · obtain ⟨D, rfl⟩ := (mc.shape hr).1
      have HR := Lib.hid hr
      have HP := Lib.hid hp
      clear hb hx L4 HB3 hr hp
      go_wp2_with fail
      go_at_call 19
      refine L5.out.mono ?_
      rintro e x5 ⟨hb, y, hy, hre⟩
      obtain rfl := hy.uniq HX.out
      have HB5 := Lib.hid (bel_trans HB4.out hb)
      replace HA0 := AtR.step HA0 hb
      replace HR := mc.below HR hb
      have hz5 := hb.size
      obtain ⟨q, M2, rfl, hp2, hr2⟩ : ∃ q M2, e = .returned (.tuple #[q, .int .i64 0]) ∧ M2.Perm rs ∧ RefM x5 x4.heap.size x5.heap.size q M2 := by
        rcases hre with ⟨h1, _⟩ | ⟨_, q, M2, h1, h2, h3⟩
        · exact absurd rfl h1
        · exact ⟨q, M2, h1, h2, h3⟩
      obtain rfl : M = M2 := rising_uniq HX.out.good HP.out hp2 (mc.shape HR.out).2.2.1 hr2.rise
      obtain ⟨d2, rfl⟩ : ∃ d2, q = .pointer (some ⟨d2, 0, none⟩) := by
        obtain ⟨d, _, _, h, _⟩ := hr2.ex
        exact ⟨_, h⟩
      have HT := Lib.hid (show TwoO R w x5 (.pointer (some D)) (.pointer (some ⟨d2, 0, none⟩)) M from ⟨_, _, _, _, HR.out, hr2, .inl (Nat.le_refl _), by omega, by omega⟩)
      have L6 := Lib.hid (mc.check A0 n0 c0 rs x5 HA0 hn0')
      clear hb hy L5 HB4 hre hr2 hp2 HP HR
      go_wp2_with fail
      go_at_call 20
      refine L6.out.mono ?_
      rintro e x6 ⟨hb, z, rfl, hz⟩
      obtain rfl := hz.uniq HX.out
      have HB6 := Lib.hid (bel_trans HB5.out hb)
      replace HA0 := AtR.step HA0 hb
      replace HT := Lib.hid (HT.out.below mc hb)
      have L7 := Lib.hid (rcheck_u A0 n0 c0 rs x6 HA0 hn0' 0 HX.out)
      clear hb hz L6 HB5
      go_wp2_with fail
      go_at_call 21
      refine L7.out.mono ?_
      rintro e x7 ⟨rfl, hb⟩
      have HB7 := Lib.hid (bel_trans HB6.out hb)
      replace HT := Lib.hid (HT.out.below mc hb)
      clear hb L7 HB6 HA0 HX
      go_wp2_with fail
      go_loopw [5, 9] (fun m i W => ∃ (k : Nat) (M : List Reg), k ≤ n9 ∧ i = .int .i64 (k : Int) ∧ Hid (TwoO R w W m (.pointer (some ⟨d2, 0, none⟩)) M) ∧ Hid (Below w.heap.size w W)) (fun _ i _ => n9 - (intOf i).toNat)
      case atStart => exact ⟨0, M, Nat.zero_le _, rfl, HT, HB7⟩
      case round =>
        clear HT HB7
        obtain ⟨k, M, hk, rfl, HT, HW⟩ := hrel
        rcases Nat.lt_or_ge k n9 with hkn | hkn
        · obtain ⟨x, hx⟩ : ∃ x, xs[k]? = some x := ⟨_, List.getElem?_eq_getElem (by rw [HA9.out.len]; exact hkn)⟩
          obtain ⟨ad, rfl, hadb, hat⟩ := (HA9.out.below HW.out).rd (by omega)
          obtain ⟨c1, c2, c3, c4⟩ := hat k x hx
          have hok := HA9.out.oks x (List.mem_of_getElem? hx)
          obtain ⟨x1k, x1p, x1v, x1n⟩ := x
          have hkni : (k : Int) < (n9 : Int) := by omega
          have hk0 : (0 : Int) ≤ (k : Int) := by omega
          have hwz := HW.out.size
          have P1 := fun W => Lib.hid (Kit.pick_c x1k 5 W hok.k (by decide))
          have hpk := Kit.pick_lt (n := x1k) (m := 5) (by omega)
          obtain ⟨z, hz⟩ : ∃ z, z = Kit.pick x1k 5 := ⟨_, rfl⟩
          rw [← hz] at P1 hpk
          obtain ⟨Bm, Em, Bo, Eo, h1, h2, h3, h4, h5⟩ := HT.out
          obtain ⟨⟨D1, rfl⟩, hgood, _, _, hBE, hEm⟩ := mc.shape h1
          have hEo : Eo ≤ wr.heap.size := by obtain ⟨_, _, _, _, _, _, _, h, _⟩ := h2.ex; exact h.top
          have HG0 := Lib.hid hgood
          have HOK := Lib.hid hok
          go_wp2_with fail
          go_at_call 22
          refine (P1 _).out.mono ?_
          rintro e y0 ⟨rfl, hw⟩
          have hbw := bel_alloc (w := wr) (.cells #[.int .i64 x1k, .int .u64 x1p, .int .u64 x1v, .int .i64 x1n] 48)
          have hX := Bk.new wr 48 #[.int .i64 x1k, .int .u64 x1p, .int .u64 x1v, .int .i64 x1n]
          have hzy : wr.heap.size ≤ y0.heap.size := by rw [← hw]; exact hbw.size
          rw [hw] at hbw hX
          have HM := mc.below (Lib.hid h1) hbw
          have HO := Lib.hid (h2.below hbw)
          have HB := Lib.hid (bel_trans HW.out hbw)
          clear HT HW h1 h2 hw hbw P1 c1 c2 c3 c4 hat hadb hz hgood hok
          obtain ⟨gb, hgb⟩ : ∃ gb, gb = wr.heap.size := ⟨_, rfl⟩
          rw [← hgb] at hX hEm hEo hzy
          have hz5 : (z = 0 ∨ z = 1) ∨ z = 2 ∨ z = 3 ∨ z = 4 := by omega
          rcases hz5 with hz5 | rfl | rfl | rfl
          · have b1 : y0.drew.cell? ⟨gb, 1, none⟩ = some (.int .u64 x1p) := hX.drew.cell 1
            have b2 : y0.drew.cell? ⟨gb, 2, none⟩ = some (.int .u64 x1v) := hX.drew.cell 2
            have KM := Lib.hid (mc.store x1p x1v (mc.below HM ((Below.refl _ y0).drew)) HOK.out.p HOK.out.v)
            have HO1 := Lib.hid (HO.out.below ((Below.refl _ y0).drew))
            have hXd := hX.drew
            rw [hgb] at b1 b2
            rcases hz5 with rfl | rfl
            all_goals
              go_wp2_with fail
              go_region_held3 (fun w' => w'.cell? ⟨wr.heap.size, 1, none⟩ = some (.int .u64 x1p) ∧ w'.cell? ⟨wr.heap.size, 2, none⟩ = some (.int .u64 x1v)) (first | exact ⟨b1, b2⟩ | exact ⟨b1', b2'⟩ | exact ⟨b1'', b2''⟩)
                (first | (go_at_call 12; refine KM.out.mono ?_; rintro e y1 ⟨hk1, M1, e1, rfl, hs1, hr1⟩; have hX1 := hk1.bk hXd (.inr hEm); have b1' : y1.cell? ⟨wr.heap.size, 1, none⟩ = some (.int .u64 x1p) := (by rw [← hgb]; exact hX1.cell 1); have b2' : y1.cell? ⟨wr.heap.size, 2, none⟩ = some (.int .u64 x1v) := (by rw [← hgb]; exact hX1.cell 2); have KO := Lib.hid (rstore_c (Lib.hid (HO1.out.keep hk1 h3.symm)) x1p x1v HOK.out.p HOK.out.v)) | (go_at_call 23; refine KO.out.mono ?_; rintro e y2 ⟨hk2, M2, e2, rfl, hs2, hr2⟩; have hX2 := hk2.bk hX1 (.inr hEo); have b1'' : y2.cell? ⟨wr.heap.size, 1, none⟩ = some (.int .u64 x1p) := (by rw [← hgb]; exact hX2.cell 1); have b2'' : y2.cell? ⟨wr.heap.size, 2, none⟩ = some (.int .u64 x1v) := (by rw [← hgb]; exact hX2.cell 2)))
              obtain ⟨rfl, rfl⟩ := hs1.uniq HG0.out hs2
              have hk1s := hk1.size
              have HT := Lib.hid (show TwoO R w y2 (.pointer (some D1)) (.pointer (some ⟨d2, 0, none⟩)) M1 from ⟨Bm, Em, Bo, Eo, mc.keep hr1 hk2 h3, hr2, h3, h4, h5⟩)
              replace HB := Lib.hid ((HB.out.drew.trans ((hk1.wide h4 (Nat.le_refl _)).below (by show w.heap.size ≤ y0.heap.size; omega))).trans ((hk2.wide h5 (Nat.le_refl _)).below (by have : y0.heap.size ≤ y1.heap.size := hk1s; omega)))
              clear b1 b2 b1' b2' b1'' b2'' KM KO HO1 hXd hX hX1 hX2 hk1 hk2 hs1 hs2 hr1 hr2 HM HO h3 h4 h5 hEm hEo hBE hk1s
              obtain ⟨Bm', Em', Bo', Eo', t1, t2, t3, t4, t5⟩ := HT.out
              obtain ⟨dd, v, os, ed, hD, _, hDE, hO, hM⟩ := t2.ex
              obtain rfl : dd = d2 := by simpa using ed.symm
              obtain ⟨Ao, no, co, rfl, hrd, _, _⟩ := hO.own.rdR
              have dc : y2.drew.cell? ⟨dd, 0, none⟩ = some (.slice Ao no co) := hD.drew.cell 0
              have hdl : dd < y2.heap.size := hD.lt
              have KR := Lib.hid (mc.regions (mc.below (Lib.hid t1) ((Below.refl _ y2).drew)))
              have HOw := Lib.hid (hO.below ((Below.refl _ y2).drew))
              have HMM := Lib.hid hM
              have HG := Lib.hid t2.good
              replace HT := Lib.hid (HT.out.below mc ((Below.refl _ y2).drew))
              replace HB := Lib.hid HB.out.drew
              clear t1 t2 t3 t4 t5 hD hDE hO hM hrd ed
              go_wp2_with fail
              go_region_held3 (fun w' => w'.cell? ⟨dd, 0, none⟩ = some (.slice Ao no co)) (first | exact dc | exact dc' | exact dc'')
                (first | (go_at_call 16; refine KR.out.mono ?_; rintro e z1 ⟨hb1, vr, osr, rfl, hOr, hMr⟩; have dc' : z1.cell? ⟨dd, 0, none⟩ = some (.slice Ao no co) := (by rw [hb1.cell (by exact hdl)]; exact dc); have hz1 := hb1.size; have KS := Lib.hid (same_t hOr.out (HOw.out.below hb1) hMr HMM.out HG.out)) | (go_at_call 26; refine KS.out.mono ?_; rintro e z2 ⟨rfl, hb2⟩; have dc'' : z2.cell? ⟨dd, 0, none⟩ = some (.slice Ao no co) := (by rw [hb2.cell (by exact Nat.lt_of_lt_of_le hdl hz1)]; exact dc')))
              replace HT := Lib.hid ((HT.out.below mc hb1).below mc hb2)
              replace HB := Lib.hid (bel_trans (bel_trans HB.out hb1) hb2)
              clear dc dc' dc'' KR KS HOw HMM HG hOr hMr hb1 hb2
              go_wp2_with fail
              go_roundw
              case rel => exact ⟨k + 1, _, by omega, by go_num, HT, HB⟩
              case measure => (simp [intOf] <;> omega)
          · have b1 : y0.cell? ⟨wr.heap.size, 1, none⟩ = some (.int .u64 x1p) := by rw [← hgb]; exact hX.cell 1
            have b2 : y0.cell? ⟨wr.heap.size, 2, none⟩ = some (.int .u64 x1v) := by rw [← hgb]; exact hX.cell 2
            have b3 : y0.cell? ⟨wr.heap.size, 3, none⟩ = some (.int .i64 x1n) := by rw [← hgb]; exact hX.cell 3
            have KM := Lib.hid (mc.load x1p HM HOK.out.p)
            go_wp2_with fail
            go_at_call 13
            refine KM.out.mono ?_
            rintro e y1 ⟨hb1, v1, e1, rfl, hl1⟩
            have hX1 := hX.below hb1 hX.lt
            have hz1 := hb1.size
            have b1' : y1.cell? ⟨wr.heap.size, 1, none⟩ = some (.int .u64 x1p) := by rw [← hgb]; exact hX1.cell 1
            have b2' : y1.cell? ⟨wr.heap.size, 2, none⟩ = some (.int .u64 x1v) := by rw [← hgb]; exact hX1.cell 2
            have b3' : y1.cell? ⟨wr.heap.size, 3, none⟩ = some (.int .i64 x1n) := by rw [← hgb]; exact hX1.cell 3
            have KO := Lib.hid (rload_c (Lib.hid (HO.out.below hb1)) x1p HOK.out.p)
            go_wp2_with fail
            go_at_call 24
            refine KO.out.mono ?_
            rintro e y2 ⟨hb2, v2, e2, rfl, hl2⟩
            obtain ⟨rfl, rfl⟩ := hl1.uniq HG0.out hl2
            have HT := Lib.hid (show TwoO R w y2 (.pointer (some D1)) (.pointer (some ⟨d2, 0, none⟩)) M from ⟨Bm, Em, Bo, Eo, (mc.below (mc.below HM hb1) hb2).out, (HO.out.below hb1).below hb2, h3, h4, h5⟩)
            replace HB := Lib.hid (bel_trans (bel_trans HB.out hb1) hb2)
            clear b1 b2 b3 b1' b2' b3' KM KO hX hX1 hb1 hb2 hl1 hl2 HM HO h3 h4 h5 hEm hEo hBE
            obtain ⟨Bm', Em', Bo', Eo', t1, t2, t3, t4, t5⟩ := HT.out
            obtain ⟨dd, v, os, ed, hD, _, hDE, hO, hM⟩ := t2.ex
            obtain rfl : dd = d2 := by simpa using ed.symm
            obtain ⟨Ao, no, co, rfl, hrd, _, _⟩ := hO.own.rdR
            have dc : y2.drew.cell? ⟨dd, 0, none⟩ = some (.slice Ao no co) := hD.drew.cell 0
            have hdl : dd < y2.heap.size := hD.lt
            have KR := Lib.hid (mc.regions (mc.below (Lib.hid t1) ((Below.refl _ y2).drew)))
            have HOw := Lib.hid (hO.below ((Below.refl _ y2).drew))
            have HMM := Lib.hid hM
            have HG := Lib.hid t2.good
            replace HT := Lib.hid (HT.out.below mc ((Below.refl _ y2).drew))
            replace HB := Lib.hid HB.out.drew
            clear t1 t2 t3 t4 t5 hD hDE hO hM hrd ed
            go_wp2_with fail
            go_region_held3 (fun w' => w'.cell? ⟨dd, 0, none⟩ = some (.slice Ao no co)) (first | exact dc | exact dc' | exact dc'')
              (first | (go_at_call 16; refine KR.out.mono ?_; rintro e z1 ⟨hb1, vr, osr, rfl, hOr, hMr⟩; have dc' : z1.cell? ⟨dd, 0, none⟩ = some (.slice Ao no co) := (by rw [hb1.cell (by exact hdl)]; exact dc); have hz1 := hb1.size; have KS := Lib.hid (same_t hOr.out (HOw.out.below hb1) hMr HMM.out HG.out)) | (go_at_call 26; refine KS.out.mono ?_; rintro e z2 ⟨rfl, hb2⟩; have dc'' : z2.cell? ⟨dd, 0, none⟩ = some (.slice Ao no co) := (by rw [hb2.cell (by exact Nat.lt_of_lt_of_le hdl hz1)]; exact dc')))
            replace HT := Lib.hid ((HT.out.below mc hb1).below mc hb2)
            replace HB := Lib.hid (bel_trans (bel_trans HB.out hb1) hb2)
            clear dc dc' dc'' KR KS HOw HMM HG hOr hMr hb1 hb2
            go_wp2_with fail
            go_roundw
            case rel => exact ⟨k + 1, _, by omega, by go_num, HT, HB⟩
            case measure => (simp [intOf] <;> omega)
          · have b1 : y0.cell? ⟨wr.heap.size, 1, none⟩ = some (.int .u64 x1p) := by rw [← hgb]; exact hX.cell 1
            have b2 : y0.cell? ⟨wr.heap.size, 2, none⟩ = some (.int .u64 x1v) := by rw [← hgb]; exact hX.cell 2
            have b3 : y0.cell? ⟨wr.heap.size, 3, none⟩ = some (.int .i64 x1n) := by rw [← hgb]; exact hX.cell 3
            have KM := Lib.hid (mc.bytes x1p x1n HM HOK.out.p HOK.out.n)
            go_wp2_with fail
            go_at_call 14
            refine KM.out.mono ?_
            rintro e y1 ⟨hb1, v1, e1, rfl, hl1⟩
            have hX1 := hX.below hb1 hX.lt
            have hz1 := hb1.size
            have b1' : y1.cell? ⟨wr.heap.size, 1, none⟩ = some (.int .u64 x1p) := by rw [← hgb]; exact hX1.cell 1
            have b2' : y1.cell? ⟨wr.heap.size, 2, none⟩ = some (.int .u64 x1v) := by rw [← hgb]; exact hX1.cell 2
            have b3' : y1.cell? ⟨wr.heap.size, 3, none⟩ = some (.int .i64 x1n) := by rw [← hgb]; exact hX1.cell 3
            have KO := Lib.hid (rbytes_c (Lib.hid (HO.out.below hb1)) x1p x1n HOK.out.p HOK.out.n)
            go_wp2_with fail
            go_at_call 25
            refine KO.out.mono ?_
            rintro e y2 ⟨hb2, v2, e2, rfl, hl2⟩
            obtain ⟨rfl, rfl⟩ := hl1.uniq HG0.out hl2
            have hstr := str_eq v1
            have HT := Lib.hid (show TwoO R w y2 (.pointer (some D1)) (.pointer (some ⟨d2, 0, none⟩)) M from ⟨Bm, Em, Bo, Eo, (mc.below (mc.below HM hb1) hb2).out, (HO.out.below hb1).below hb2, h3, h4, h5⟩)
            replace HB := Lib.hid (bel_trans (bel_trans HB.out hb1) hb2)
            clear b1 b2 b3 b1' b2' b3' KM KO hX hX1 hb1 hb2 hl1 hl2 HM HO h3 h4 h5 hEm hEo hBE
            obtain ⟨Bm', Em', Bo', Eo', t1, t2, t3, t4, t5⟩ := HT.out
            obtain ⟨dd, v, os, ed, hD, _, hDE, hO, hM⟩ := t2.ex
            obtain rfl : dd = d2 := by simpa using ed.symm
            obtain ⟨Ao, no, co, rfl, hrd, _, _⟩ := hO.own.rdR
            have dc : y2.drew.cell? ⟨dd, 0, none⟩ = some (.slice Ao no co) := hD.drew.cell 0
            have hdl : dd < y2.heap.size := hD.lt
            have KR := Lib.hid (mc.regions (mc.below (Lib.hid t1) ((Below.refl _ y2).drew)))
            have HOw := Lib.hid (hO.below ((Below.refl _ y2).drew))
            have HMM := Lib.hid hM
            have HG := Lib.hid t2.good
            replace HT := Lib.hid (HT.out.below mc ((Below.refl _ y2).drew))
            replace HB := Lib.hid HB.out.drew
            clear t1 t2 t3 t4 t5 hD hDE hO hM hrd ed
            go_wp2_with fail
            go_region_held3 (fun w' => w'.cell? ⟨dd, 0, none⟩ = some (.slice Ao no co)) (first | exact dc | exact dc' | exact dc'')
              (first | (go_at_call 16; refine KR.out.mono ?_; rintro e z1 ⟨hb1, vr, osr, rfl, hOr, hMr⟩; have dc' : z1.cell? ⟨dd, 0, none⟩ = some (.slice Ao no co) := (by rw [hb1.cell (by exact hdl)]; exact dc); have hz1 := hb1.size; have KS := Lib.hid (same_t hOr.out (HOw.out.below hb1) hMr HMM.out HG.out)) | (go_at_call 26; refine KS.out.mono ?_; rintro e z2 ⟨rfl, hb2⟩; have dc'' : z2.cell? ⟨dd, 0, none⟩ = some (.slice Ao no co) := (by rw [hb2.cell (by exact Nat.lt_of_lt_of_le hdl hz1)]; exact dc')))
            replace HT := Lib.hid ((HT.out.below mc hb1).below mc hb2)
            replace HB := Lib.hid (bel_trans (bel_trans HB.out hb1) hb2)
            clear dc dc' dc'' KR KS HOw HMM HG hOr hMr hb1 hb2
            go_wp2_with fail
            go_roundw
            case rel => exact ⟨k + 1, _, by omega, by go_num, HT, HB⟩
            case measure => (simp [intOf] <;> omega)
          · have b1 : y0.cell? ⟨wr.heap.size, 1, none⟩ = some (.int .u64 x1p) := by rw [← hgb]; exact hX.cell 1
            have b2 : y0.cell? ⟨wr.heap.size, 2, none⟩ = some (.int .u64 x1v) := by rw [← hgb]; exact hX.cell 2
            have b3 : y0.cell? ⟨wr.heap.size, 3, none⟩ = some (.int .i64 x1n) := by rw [← hgb]; exact hX.cell 3
            have KM := Lib.hid (mc.clone HM)
            go_wp2_with fail
            go_at_call 15
            refine KM.out.mono ?_
            rintro e y1 ⟨hb1, pc, rfl, hc⟩
            obtain ⟨Dc, rfl⟩ := (mc.shape hc).1
            have hX1 := hX.below hb1 hX.lt
            have hz1 := hb1.size
            have b1' : y1.cell? ⟨wr.heap.size, 1, none⟩ = some (.int .u64 x1p) := by rw [← hgb]; exact hX1.cell 1
            have b2' : y1.cell? ⟨wr.heap.size, 2, none⟩ = some (.int .u64 x1v) := by rw [← hgb]; exact hX1.cell 2
            have b3' : y1.cell? ⟨wr.heap.size, 3, none⟩ = some (.int .i64 x1n) := by rw [← hgb]; exact hX1.cell 3
            have KO := Lib.hid (mc.store x1p x1v (mc.below HM hb1) HOK.out.p HOK.out.v)
            have hwy := HB.out.size
            go_wp2_with fail
            go_at_call 12
            refine KO.out.mono ?_
            rintro e y2 ⟨hk2, M2, e2, rfl, hs2, hr2⟩
            have HT := Lib.hid (show TwoO R w y2 (.pointer (some Dc)) (.pointer (some ⟨d2, 0, none⟩)) M from ⟨_, _, Bo, Eo, mc.keep hc hk2 (.inr (by omega)), (HO.out.below hb1).keep hk2 h3.symm, .inr (by omega), hwy, h5⟩)
            replace HB := Lib.hid ((bel_trans HB.out hb1).trans ((hk2.wide h4 (Nat.le_refl _)).below (by omega)))
            clear b1 b2 b3 b1' b2' b3' KM KO hX hX1 hb1 hk2 hs2 hr2 hc HM HO h3 h4 h5 hEm hEo hBE
            obtain ⟨Bm', Em', Bo', Eo', t1, t2, t3, t4, t5⟩ := HT.out
            obtain ⟨dd, v, os, ed, hD, _, hDE, hO, hM⟩ := t2.ex
            obtain rfl : dd = d2 := by simpa using ed.symm
            obtain ⟨Ao, no, co, rfl, hrd, _, _⟩ := hO.own.rdR
            have dc : y2.drew.cell? ⟨dd, 0, none⟩ = some (.slice Ao no co) := hD.drew.cell 0
            have hdl : dd < y2.heap.size := hD.lt
            have KR := Lib.hid (mc.regions (mc.below (Lib.hid t1) ((Below.refl _ y2).drew)))
            have HOw := Lib.hid (hO.below ((Below.refl _ y2).drew))
            have HMM := Lib.hid hM
            have HG := Lib.hid t2.good
            replace HT := Lib.hid (HT.out.below mc ((Below.refl _ y2).drew))
            replace HB := Lib.hid HB.out.drew
            clear t1 t2 t3 t4 t5 hD hDE hO hM hrd ed
            go_wp2_with fail
            go_region_held3 (fun w' => w'.cell? ⟨dd, 0, none⟩ = some (.slice Ao no co)) (first | exact dc | exact dc' | exact dc'')
              (first | (go_at_call 16; refine KR.out.mono ?_; rintro e z1 ⟨hb1, vr, osr, rfl, hOr, hMr⟩; have dc' : z1.cell? ⟨dd, 0, none⟩ = some (.slice Ao no co) := (by rw [hb1.cell (by exact hdl)]; exact dc); have hz1 := hb1.size; have KS := Lib.hid (same_t hOr.out (HOw.out.below hb1) hMr HMM.out HG.out)) | (go_at_call 26; refine KS.out.mono ?_; rintro e z2 ⟨rfl, hb2⟩; have dc'' : z2.cell? ⟨dd, 0, none⟩ = some (.slice Ao no co) := (by rw [hb2.cell (by exact Nat.lt_of_lt_of_le hdl hz1)]; exact dc')))
            replace HT := Lib.hid ((HT.out.below mc hb1).below mc hb2)
            replace HB := Lib.hid (bel_trans (bel_trans HB.out hb1) hb2)
            clear dc dc' dc'' KR KS HOw HMM HG hOr hMr hb1 hb2
            go_wp2_with fail
            go_roundw
            case rel => exact ⟨k + 1, _, by omega, by go_num, HT, HB⟩
            case measure => (simp [intOf] <;> omega)
        · obtain rfl : k = n9 := by omega
          clear HT
          go_wp2_with fail
          go_ret
          exact ⟨rfl, HW.out⟩
end memoryScript
end Go.Proofs.Ytkgbpcfpppceiaa
