/- LimbSteps: what is seen of a run, how many events, which; how long the rows are; what is read alone stays. -/
import Derived.Test.YtcffkiajiaienaaDoorN4
import Derived.Test.YtcffkiajiaienaaDoorN5
import Derived.Test.YtcffkiajiaienaaDoorN1
import Derived.BigQuiet
namespace Go.Proofs.YtcffkiajiaienaaDoor
open Go Go.RowKit Go.Sort Go.Shelf
namespace limbSteps
open Wd Nt Gr Lb
set_option linter.unusedVariables false
set_option linter.unusedSimpArgs false
set_option maxRecDepth 100000 in
set_option maxHeartbeats 8000000 in
theorem walk_ (w : World) (hT : TabF w) (p : Pg) (A X : Option Addr) (c d : Nat) (Y : Option Addr) (m q : Nat) (hs : List Hr) (hp : p.wf) (hR : Rdr w w.heap.size A p.bf.length p.bf) (hX : Rdr w w.heap.size X p.op.length p.op)
    (hpc : p.bf.length ≤ c ∧ c ≤ 9223372036854775807) (hpd : p.op.length ≤ d ∧ d ≤ 9223372036854775807) (hH : HrW w w.heap.size Y m hs) (hmq : m ≤ q) (hq : q ≤ 9223372036854775807) :
    Calls Tryd.prog 5 #[pgV p A c X d, .slice Y m q] w fun e w' => e = .returned (.bool true) ∧ Below w.heap.size w w' := by
  have HL := Lib.hid (fun (W : World) (hb : Below w.heap.size w W) => lives_l W (hT.keep hb))
  have HST := Lib.hid (fun (W : World) (hb : Below w.heap.size w W) => steps_l p hp A X c d W (hT.keep hb) ((hR.below hb).more hb.size) ((hX.below hb).more hb.size))
  have HLP := Lib.hid (fun (W : World) (hb : Below w.heap.size w W) => lightProg_l p hp A X c d 60 W ((hR.below hb).more hb.size))
  have HLR := Lib.hid (fun (W : World) (hb : Below w.heap.size w W) => lightRows_l Y m q hs W ((hH.below hb).more hb.size))
  have HRU := Lib.hid (fun (hm : m ≤ 1000000) (W : World) (hb : Below w.heap.size w W) => run_l p hp A X Y c d m q hs W (hT.keep hb) ((hR.below hb).more hb.size) ((hX.below hb).more hb.size) ((hH.below hb).more hb.size) hm)
  have HTL := Lib.hid (fun (r : Ans) (h : RunP p (hrYs hs) r) => tells hp h)
  have HRW := Lib.hid (fun (W : World) (hb : Below w.heap.size w W) => hR.below hb)
  have HXW := Lib.hid (fun (W : World) (hb : Below w.heap.size w W) => hX.below hb)
  have HHW := Lib.hid (fun (W : World) (hb : Below w.heap.size w W) => (hH.below hb).more hb.size)
  have HML := Lib.hid hH.rd.len
  have HBL : Hid (p.bf.length ≤ 9223372036854775807) := Lib.hid (by omega)
  unfold pgV at *
  clear hT hR hX hH hpc hpd hmq hq
  have HB0 := Lib.hid (bel_al (w := w) (.cells #[.int .i64 p.rg, .slice A p.bf.length c, .slice X p.op.length d] 26))
  have HK0 := Lib.hid (Bk.new w 26 #[.int .i64 p.rg, .slice A p.bf.length c, .slice X p.op.length d])
  obtain ⟨n, hn⟩ : ∃ n, stepsP p = n := ⟨_, rfl⟩
  have HN := Lib.hid hn
  rw [hn] at HST
  clear hn
  go_enter Tryd.func5, Tryd.ntmps5
  go_wp2_with fail
  go_at_call 13
  refine (HL.out _ HB0.out).mono ?_
  rintro e w1 ⟨rfl, hb⟩
  have HB1 := Lib.hid (bel_tr HB0.out hb)
  have HK1 := Lib.hid (HK0.out.below hb HK0.out.lt)
  clear hb HL HB0 HK0
  obtain ⟨a0, a1, a2⟩ := c3 HK1.out
  go_wp2_with fail
  go_at_call 22
  refine (HST.out _ HB1.out).mono ?_
  rintro e w2 ⟨rfl, hb⟩
  have HB2 := Lib.hid (bel_tr HB1.out hb)
  have HK2 := Lib.hid (HK1.out.below hb HK1.out.lt)
  clear hb HST HB1 HK1 a0 a1 a2
  obtain ⟨a0, a1, a2⟩ := c3 HK2.out
  go_wp2_with fail
  go_at_call 27
  refine (HLP.out _ HB2.out).mono ?_
  rintro e w3 ⟨⟨b1, rfl⟩, hb⟩
  have HB3 := Lib.hid (bel_tr HB2.out hb)
  have HK3 := Lib.hid (HK2.out.below hb HK2.out.lt)
  clear hb HLP HB2 HK2 a0 a1 a2
  cases b1
  · go_wp2_with fail
    go_ret
    exact ⟨rfl, HB3.out⟩
  go_wp2_with fail
  go_at_call 28
  refine (HLR.out _ HB3.out).mono ?_
  rintro e w4 ⟨⟨b2, rfl, hb2⟩, rfl⟩
  cases b2
  · go_wp2_with fail
    go_ret
    exact ⟨rfl, HB3.out⟩
  obtain ⟨hm40, hm6⟩ := hb2 rfl
  have HM6 := Lib.hid hm6
  have HRU4 := Lib.hid (HRU.out (by omega))
  clear hb2 hm6 HLR HRU
  by_cases h5 : (5000 : Int) < (n : Int)
  · go_wp2_with fail
    go_ret
    exact ⟨rfl, HB3.out⟩
  obtain ⟨a0, a1, a2⟩ := c3 HK3.out
  go_wp2_with fail
  go_at_call 20
  refine (HRU4.out _ HB3.out).mono ?_
  rintro e w5 ⟨⟨vo, vl, r, rfl, hrp, hro, hrv⟩, hb⟩
  have HB5 := Lib.hid (bel_tr HB3.out hb)
  have HK5 := Lib.hid (HK3.out.below hb HK3.out.lt)
  have ht := HTL.out r hrp
  obtain ⟨Ao, co, ho, rfl, hoh, hoy, hoc⟩ := hro.hr (fun y hy => by have := ht.ol y hy; omega)
  obtain ⟨Av, cv, rfl, hcv⟩ := rws_form hrv
  have HV := Lib.hid (rws_rd hrv).2.1
  have HO := Lib.hid hoh
  have HTT := Lib.hid ht
  have HOLE := Lib.hid ht.ol
  have HOY := Lib.hid hoy
  clear hb hrp hro hrv ht hoh hoy HRU4 HTL HB3 HK3 a0 a1 a2
  obtain ⟨a0, a1, a2⟩ := c3 HK5.out
  obtain ⟨out, evs, er⟩ := r
  dsimp only at *
  have HEV := Lib.hid HTT.out.ev
  have h5' : n ≤ 5000 := by omega
  obtain ⟨L, hL⟩ : ∃ L, evs.length = L := ⟨_, rfl⟩
  have HLV := Lib.hid hL
  rw [hL] at HV hcv ⊢
  clear hL
  by_cases he0 : er = 0
  · subst he0
    obtain ⟨hl, hol, hrow⟩ := HTT.out.e0 rfl
    dsimp only at hl hol hrow
    rw [HN.out] at hl
    obtain rfl : L = n := by rw [← HLV.out]; exact hl
    have HROW := Lib.hid hrow
    have HOL := Lib.hid hol
    rw [hol] at HO hoc ⊢
    clear hol
    have hLL : ¬ (L : Int) < (L : Int) := by omega
    have hLE : ((L : Int) != (L : Int)) = false := by simp
    clear hl hrow
    go_wp2_with fail

    go_loopw [9] (fun i W => ∃ k : Nat, k ≤ L ∧ i = .int .i64 (k : Int) ∧ Hid (Below w5.heap.size w5 W)) (fun i _ => L - (intOf i).toNat)
    case atStart => exact ⟨0, Nat.zero_le _, rfl, Lib.hid (Below.refl _ _)⟩
    case round =>
      obtain ⟨k, hk, rfl, HW⟩ := hrel
      clear a0 a1 a2
      rcases Nat.lt_or_ge k L with hkn | hkn
      · have hkni : (k : Int) < (L : Int) := by omega
        have hk0 : (0 : Int) ≤ (k : Int) := by omega
        obtain ⟨e, he⟩ : ∃ e, evs[k]? = some e := ⟨_, List.getElem?_eq_getElem (by rw [HLV.out]; exact hkn)⟩
        obtain ⟨e1, e2⟩ := e
        obtain ⟨j, o, rfl, ho, h17, hmm, hnm⟩ := HEV.out _ (List.mem_of_getElem? he)
        obtain ⟨vb, v0, rfl, hvb, q0, q1⟩ := ev_at (HV.out.below HW.out) he
        obtain ⟨a0, a1, a2⟩ := c3 (HK5.out.below HW.out HK5.out.lt)
        have hj1 : ¬ (j : Int) < 0 := by omega
        have hj2 : (j : Int) < (p.op.length : Int) := by have := (List.getElem?_eq_some_iff.1 ho).1; omega
        have hj3 : ¬ (p.op.length : Int) ≤ (j : Int) := by omega
        have hj0 : (0 : Int) ≤ (j : Int) := by omega
        have HMM := Lib.hid hmm
        have HNM := Lib.hid hnm
        have HO17 := Lib.hid h17
        have HE := Lib.hid he
        have HO := Lib.hid ho
        clear hmm hnm he ho h17 hvb
        obtain ⟨ok, od, oe, oa, ob, oc, obf, oim⟩ := o
        dsimp only at *
        go_wp2_with fail
        go_quiet (fail)
        go_wp2_with fail
        obtain ⟨W2, hW2⟩ : ∃ W2, W2 = wr.drewN nq := ⟨_, rfl⟩
        have HW2 := Lib.hid (show Below w5.heap.size w5 W2 by rw [hW2]; exact below_drewN HW.out _)
        rw [← hW2]
        clear hW2 q0 q1 a0 a1 a2
        obtain ⟨vb', v0', hve, hvb, q0, q1⟩ := ev_at (HV.out.below HW2.out) HE.out
        cases hve
        obtain ⟨xb, xo, rfl, hxb, o0, o1, o2, o3, o4, o5, o6, o7⟩ := op_at (HXW.out W2 (bel_tr HB5.out HW2.out)) HO.out
        obtain ⟨a0, a1, a2⟩ := c3 (HK5.out.below HW2.out HK5.out.lt)
        have hz := HW2.out.size
        have hz2 := HB5.out.size
        have hvb2 : vb < W2.heap.size := by omega
        have hxb2 : xb < W2.heap.size := by omega
        have hwb2 : w.heap.size < W2.heap.size := World.block_lt_of_cell? W2 _ a0
        clear hz hz2 hvb hxb
        dsimp only at *
        go_cut [10] from 80 to 105 (fun v wc => v = .pointer (some ⟨W2.heap.size, 0, none⟩) ∧ Hid (Bk wc W2.heap.size 33 #[.int .i64 ok, .int .i64 od, .int .i64 oe, .int .i64 oa, .int .i64 ob, .int .i64 oc, .int .i64 obf, .int .u64 oim]) ∧ Hid (Below w5.heap.size w5 wc))
        case first =>
          go_region_law (fail)
          all_goals (
            go_wp2_with fail
            go_meet
            case rel => exact ⟨rfl, Lib.hid (show Bk (W2.alloc _) _ _ _ from Bk.new _ _ _), Lib.hid (bel_al' HW2.out _).drew⟩)
        case rest =>
          obtain ⟨rfl, HKO, HWC⟩ := hcut
          clear q0 q1 a0 a1 a2 o0 o1 o2 o3 o4 o5 o6 o7 hvb2 hxb2 hwb2
          obtain ⟨o0, o1, o2, o3, o4, o5, o6, o7⟩ := c8 HKO.out
          obtain ⟨vb', v0', hve, hvb, q0, q1⟩ := ev_at (HV.out.below HWC.out) HE.out
          cases hve
          obtain ⟨a0, a1, a2⟩ := c3 (HK5.out.below HWC.out HK5.out.lt)
          have n17 : (ok == 17) = false := by rw [beq_eq_false_iff_ne]; exact HO17.out
          have ew : IntKind.i64.wrap ((k : Int) + 1) = ((k + 1 : Nat) : Int) := by rw [show (k : Int) + 1 = ((k + 1 : Nat) : Int) by omega]; exact IntWalk.i64_in _ (by have := hm40; omega)
          dsimp only at *
          by_cases hmm : mm ok = true
          · obtain ⟨i, b, rfl, hbi, g1, g2⟩ := HMM.out hmm
            obtain ⟨bb, bo, rfl, hbb, s0, s1, s2⟩ := bf_at (HRW.out wc (bel_tr HB5.out HWC.out)) hbi
            have g1' : decide (e2 < 0) = false := decide_eq_false (by omega)
            have g2' : decide (b.sz ≤ e2) = false := decide_eq_false (by omega)
            have hi1 : (i : Int) < (p.bf.length : Int) := by have := (List.getElem?_eq_some_iff.1 hbi).1; omega
            have hi0 : (0 : Int) ≤ (i : Int) := by omega
            have hk1415 : ok = 14 ∨ ok = 15 := by
              unfold mm at hmm
              simp only [Bool.or_eq_true, decide_eq_true_eq] at hmm
              exact hmm
            clear hmm HMM HNM hbi n17
            rcases hk1415 with rfl | rfl
            all_goals (
              go_wp2_with fail
              go_quiet (fail)
              go_wp2_with fail
              go_roundw
              case rel => exact ⟨k + 1, by omega, by first | rfl | go_num, Lib.hid (below_drewN HWC.out _)⟩
              case measure => (simp [intOf] <;> omega))
          · have hmf : mm ok = false := by simpa using hmm
            have he2 := HNM.out hmf
            subst he2
            have n14 : (ok == 14) = false := by rw [beq_eq_false_iff_ne]; intro e; rw [e] at hmm; exact hmm rfl
            have n15 : (ok == 15) = false := by rw [beq_eq_false_iff_ne]; intro e; rw [e] at hmm; exact hmm rfl
            clear hmm hmf HMM HNM
            go_wp2_with fail
            go_quiet (fail)
            go_wp2_with fail
            go_roundw
            case rel => exact ⟨k + 1, by omega, by first | rfl | go_num, Lib.hid (below_drewN HWC.out _)⟩
            case measure => (simp [intOf] <;> omega)
      · obtain rfl : k = L := by omega
        obtain ⟨a0, a1, a2⟩ := c3 (HK5.out.below HW.out HK5.out.lt)
        have hbb : ((p.bf.length : Int) != (p.bf.length : Int)) = false := by simp
        clear HEV HV HXW HTT HLV
        go_wp2_with fail
        go_loopw [12] (fun i W => ∃ j : Nat, j ≤ p.bf.length ∧ i = .int .i64 (j : Int) ∧ Hid (Below w5.heap.size w5 W)) (fun i _ => p.bf.length - (intOf i).toNat)
        case atStart => exact ⟨0, Nat.zero_le _, rfl, HW⟩
        case round =>
          clear a0 a1 a2 HW
          obtain ⟨j, hj, rfl, HW⟩ := hrel
          rcases Nat.lt_or_ge j p.bf.length with hjn | hjn
          · have hji : (j : Int) < (p.bf.length : Int) := by omega
            have hj0 : (0 : Int) ≤ (j : Int) := by omega
            obtain ⟨b, hb⟩ : ∃ b, p.bf[j]? = some b := ⟨_, List.getElem?_eq_getElem hjn⟩
            obtain ⟨y, hy, hyl, hin⟩ := HROW.out j b hb
            obtain ⟨x, hx, hxy⟩ : ∃ x, ho[j]? = some x ∧ x.ys = y := by
              have h2 := HOY.out
              rw [← h2] at hy
              unfold hrYs at hy
              rw [List.getElem?_map] at hy
              rcases hq : ho[j]? with _ | x
              · rw [hq] at hy; cases hy
              · rw [hq] at hy; exact ⟨x, rfl, Option.some.inj hy⟩
            obtain ⟨ob, oo, rfl, hob, q0⟩ := hr_at (HO.out.rd.below HW.out) hx
            obtain ⟨bb, bo, rfl, hbb2, s0, s1, s2⟩ := bf_at (HRW.out wr (bel_tr HB5.out HW.out)) hb
            obtain ⟨a0, a1, a2⟩ := c3 (HK5.out.below HW.out HK5.out.lt)
            obtain ⟨xr, xc1, xc2⟩ := HO.out.each x (List.mem_of_getElem? hx)
            have hxn : x.n = y.length := by rw [← hxy]; exact xr.len.symm
            have hlen : (x.n : Int) = b.sz := by rw [hxn]; exact hyl
            have hne : ((x.n : Int) != b.sz) = false := by rw [hlen]; simp
            have hx6 : x.n ≤ 65536 := by rw [hxn]; exact HOLE.out y (List.mem_of_getElem? hy)
            have ew : IntKind.i64.wrap ((j : Int) + 1) = ((j + 1 : Nat) : Int) := by rw [show (j : Int) + 1 = ((j + 1 : Nat) : Int) by omega]; exact IntWalk.i64_in _ (by have := HBL.out; omega)
            by_cases hkd : b.kd = 1
            · obtain ⟨z, hz, hzy⟩ : ∃ z, hs[j]? = some z ∧ z.ys = y := by
                have h2 := hin hkd
                unfold hrYs at h2
                rw [List.getElem?_map] at h2
                rcases hq : hs[j]? with _ | x
                · rw [hq] at h2; cases h2
                · rw [hq] at h2; exact ⟨x, rfl, Option.some.inj h2⟩
              have hjm : j < m := by rw [← HML.out]; exact (List.getElem?_eq_some_iff.1 hz).1
              have hjmi : (j : Int) < (m : Int) := by omega
              have HHR := HHW.out wr (bel_tr HB5.out HW.out)
              obtain ⟨yb, yo, rfl, hyb, p0⟩ := hr_at HHR.rd hz
              obtain ⟨zr, zc1, zc2⟩ := HHR.each z (List.mem_of_getElem? hz)
              have hz6 := HM6.out z (List.mem_of_getElem? hz)
              have KT : Hid (∀ n, Calls Tryd.prog 38 #[.slice x.A x.n x.c, .slice z.A z.n z.c] (wr.drewN n) fun e w' => e = .returned (.bool true) ∧ ∃ m, w' = wr.drewN m) := Lib.hid (fun n => by
                have := same_u x.A z.A x.n x.c z.n z.c _ _ x.ys z.ys (wr.drewN n) ((xr.below HW.out).keep (fun _ _ => rfl)) (zr.keep (fun _ _ => rfl)) (by omega) (by omega)
                rw [decide_eq_true (by rw [hxy, hzy])] at this
                exact this.mono (fun e w' h => ⟨h.1, by obtain ⟨q2, h2⟩ := h.2; exact ⟨_, h2.trans (World.drewN_drewN _ _ _)⟩⟩))
              rw [hkd] at s1
              obtain ⟨xA, xn, xcc, xl⟩ := x
              obtain ⟨zA, zn, zcc, zl⟩ := z
              obtain ⟨sz, kd, sec⟩ := b
              dsimp only at *
              clear hb hy hyl hin hx hxy hob hbb2 xr xc1 xc2 hxn hlen hx6 hkd hz hzy hjm HHR hyb zr zc1 zc2 hz6
              go_wp2_with fail
              go_quiet (exact KT.out _)
              go_wp2_with fail
              go_roundw
              case rel => exact ⟨j + 1, by omega, by first | rfl | go_num, Lib.hid (below_drewN HW.out _)⟩
              case measure => (simp [intOf] <;> omega)
            · have hkf : (b.kd == 1) = false := by rw [beq_eq_false_iff_ne]; exact hkd
              obtain ⟨xA, xn, xcc, xl⟩ := x
              obtain ⟨sz, kd, sec⟩ := b
              dsimp only at *
              clear hb hy hyl hin hx hxy hob hbb2 xr xc1 xc2 hxn hlen hx6 hkd
              go_wp2_with fail
              go_quiet (fail)
              go_wp2_with fail
              go_roundw
              case rel => exact ⟨j + 1, by omega, by first | rfl | go_num, Lib.hid (below_drewN HW.out _)⟩
              case measure => (simp [intOf] <;> omega)
          · obtain rfl : j = p.bf.length := by omega
            go_wp2_with fail
            go_ret
            exact ⟨rfl, bel_tr HB5.out HW.out⟩
  by_cases he11 : er = 11
  · subst he11
    have hLn := HTT.out.e11 rfl
    obtain rfl := HTT.out.en (by show (11 : Int) ≠ 0; decide)
    dsimp only at hLn
    rw [HN.out, HLV.out] at hLn
    have hLi : (L : Int) < (n : Int) := by omega
    have hLE : ((L : Int) == (n : Int)) = false := by rw [beq_eq_false_iff_ne]; omega
    have hLG : decide ((n : Int) < (L : Int)) = false := decide_eq_false (by omega)
    simp only [List.length_nil] at HO hoc ⊢
    go_wp2_with fail
    go_loopw [9] (fun i W => ∃ k : Nat, k ≤ L ∧ i = .int .i64 (k : Int) ∧ Hid (Below w5.heap.size w5 W)) (fun i _ => L - (intOf i).toNat)
    case atStart => exact ⟨0, Nat.zero_le _, rfl, Lib.hid (Below.refl _ _)⟩
    case round =>
      obtain ⟨k, hk, rfl, HW⟩ := hrel
      clear a0 a1 a2
      rcases Nat.lt_or_ge k L with hkn | hkn
      · have hkni : (k : Int) < (L : Int) := by omega
        have hk0 : (0 : Int) ≤ (k : Int) := by omega
        obtain ⟨e, he⟩ : ∃ e, evs[k]? = some e := ⟨_, List.getElem?_eq_getElem (by rw [HLV.out]; exact hkn)⟩
        obtain ⟨e1, e2⟩ := e
        obtain ⟨j, o, rfl, ho, h17, hmm, hnm⟩ := HEV.out _ (List.mem_of_getElem? he)
        obtain ⟨vb, v0, rfl, hvb, q0, q1⟩ := ev_at (HV.out.below HW.out) he
        obtain ⟨a0, a1, a2⟩ := c3 (HK5.out.below HW.out HK5.out.lt)
        have hj1 : ¬ (j : Int) < 0 := by omega
        have hj2 : (j : Int) < (p.op.length : Int) := by have := (List.getElem?_eq_some_iff.1 ho).1; omega
        have hj3 : ¬ (p.op.length : Int) ≤ (j : Int) := by omega
        have hj0 : (0 : Int) ≤ (j : Int) := by omega
        have HMM := Lib.hid hmm
        have HNM := Lib.hid hnm
        have HO17 := Lib.hid h17
        have HE := Lib.hid he
        have HO := Lib.hid ho
        clear hmm hnm he ho h17 hvb
        obtain ⟨ok, od, oe, oa, ob, oc, obf, oim⟩ := o
        dsimp only at *
        go_wp2_with fail
        go_quiet (fail)
        go_wp2_with fail
        obtain ⟨W2, hW2⟩ : ∃ W2, W2 = wr.drewN nq := ⟨_, rfl⟩
        have HW2 := Lib.hid (show Below w5.heap.size w5 W2 by rw [hW2]; exact below_drewN HW.out _)
        rw [← hW2]
        clear hW2 q0 q1 a0 a1 a2
        obtain ⟨vb', v0', hve, hvb, q0, q1⟩ := ev_at (HV.out.below HW2.out) HE.out
        cases hve
        obtain ⟨xb, xo, rfl, hxb, o0, o1, o2, o3, o4, o5, o6, o7⟩ := op_at (HXW.out W2 (bel_tr HB5.out HW2.out)) HO.out
        obtain ⟨a0, a1, a2⟩ := c3 (HK5.out.below HW2.out HK5.out.lt)
        have hz := HW2.out.size
        have hz2 := HB5.out.size
        have hvb2 : vb < W2.heap.size := by omega
        have hxb2 : xb < W2.heap.size := by omega
        have hwb2 : w.heap.size < W2.heap.size := World.block_lt_of_cell? W2 _ a0
        clear hz hz2 hvb hxb
        dsimp only at *
        go_cut [10] from 80 to 105 (fun v wc => v = .pointer (some ⟨W2.heap.size, 0, none⟩) ∧ Hid (Bk wc W2.heap.size 33 #[.int .i64 ok, .int .i64 od, .int .i64 oe, .int .i64 oa, .int .i64 ob, .int .i64 oc, .int .i64 obf, .int .u64 oim]) ∧ Hid (Below w5.heap.size w5 wc))
        case first =>
          go_region_law (fail)
          all_goals (
            go_wp2_with fail
            go_meet
            case rel => exact ⟨rfl, Lib.hid (show Bk (W2.alloc _) _ _ _ from Bk.new _ _ _), Lib.hid (bel_al' HW2.out _).drew⟩)
        case rest =>
          obtain ⟨rfl, HKO, HWC⟩ := hcut
          clear q0 q1 a0 a1 a2 o0 o1 o2 o3 o4 o5 o6 o7 hvb2 hxb2 hwb2
          obtain ⟨o0, o1, o2, o3, o4, o5, o6, o7⟩ := c8 HKO.out
          obtain ⟨vb', v0', hve, hvb, q0, q1⟩ := ev_at (HV.out.below HWC.out) HE.out
          cases hve
          obtain ⟨a0, a1, a2⟩ := c3 (HK5.out.below HWC.out HK5.out.lt)
          have n17 : (ok == 17) = false := by rw [beq_eq_false_iff_ne]; exact HO17.out
          have ew : IntKind.i64.wrap ((k : Int) + 1) = ((k + 1 : Nat) : Int) := by rw [show (k : Int) + 1 = ((k + 1 : Nat) : Int) by omega]; exact IntWalk.i64_in _ (by have := hm40; omega)
          dsimp only at *
          by_cases hmm : mm ok = true
          · obtain ⟨i, b, rfl, hbi, g1, g2⟩ := HMM.out hmm
            obtain ⟨bb, bo, rfl, hbb, s0, s1, s2⟩ := bf_at (HRW.out wc (bel_tr HB5.out HWC.out)) hbi
            have g1' : decide (e2 < 0) = false := decide_eq_false (by omega)
            have g2' : decide (b.sz ≤ e2) = false := decide_eq_false (by omega)
            have hi1 : (i : Int) < (p.bf.length : Int) := by have := (List.getElem?_eq_some_iff.1 hbi).1; omega
            have hi0 : (0 : Int) ≤ (i : Int) := by omega
            have hk1415 : ok = 14 ∨ ok = 15 := by
              unfold mm at hmm
              simp only [Bool.or_eq_true, decide_eq_true_eq] at hmm
              exact hmm
            clear hmm HMM HNM hbi n17
            rcases hk1415 with rfl | rfl
            all_goals (
              go_wp2_with fail
              go_quiet (fail)
              go_wp2_with fail
              go_roundw
              case rel => exact ⟨k + 1, by omega, by first | rfl | go_num, Lib.hid (below_drewN HWC.out _)⟩
              case measure => (simp [intOf] <;> omega))
          · have hmf : mm ok = false := by simpa using hmm
            have he2 := HNM.out hmf
            subst he2
            have n14 : (ok == 14) = false := by rw [beq_eq_false_iff_ne]; intro e; rw [e] at hmm; exact hmm rfl
            have n15 : (ok == 15) = false := by rw [beq_eq_false_iff_ne]; intro e; rw [e] at hmm; exact hmm rfl
            clear hmm hmf HMM HNM
            go_wp2_with fail
            go_quiet (fail)
            go_wp2_with fail
            go_roundw
            case rel => exact ⟨k + 1, by omega, by first | rfl | go_num, Lib.hid (below_drewN HWC.out _)⟩
            case measure => (simp [intOf] <;> omega)
      · obtain rfl : k = L := by omega
        go_wp2_with fail
        go_ret
        exact ⟨rfl, bel_tr HB5.out HW.out⟩
  · obtain rfl := HTT.out.en he0
    have hev := HTT.out.ee he0 he11
    dsimp only at hev
    subst hev
    have hL0 := HLV.out
    rw [List.length_nil] at hL0
    subst hL0
    have h0 : (er != 0) = true := by simpa using he0
    have h11 : (er != 11) = true := by simpa using he11
    simp only [List.length_nil] at HO hoc ⊢
    clear he0 he11
    go_wp2_with fail
    go_ret
    exact ⟨rfl, HB5.out⟩
end limbSteps
end Go.Proofs.YtcffkiajiaienaaDoor
