/- The document's own layer 12: has an operation what it must? -/
import Derived.Test.YtbdhibgljaelbaaDoorR1
namespace Go.Proofs.YtbdhibgljaelbaaDoor
open Go Go.RowKit Go.Sort Go.Shelf
namespace Lb
open Wd Nt Gr
set_option linter.unusedVariables false
set_option linter.unusedSimpArgs false
theorem mm_hA {k : Int} (h : mm k = true) : hA k = true := by
  unfold mm at h
  simp only [Bool.or_eq_true, decide_eq_true_eq] at h
  rcases h with rfl | rfl <;> decide
theorem rgOk_eq (bd be ba bb bc bm : Bool) (h : bm = true → ba = true) (rg : Int) (o : Op) : rgOk bd be ba bb bc bm rg o = (rOk bd o.d rg && (rOk be o.e rg && ((rOk ba o.a rg || (bm && decide (o.a = -1))) && (rOk bb o.b rg && (rOk bc o.c rg && !(be && decide (o.d = o.e))))))) := by
  unfold rgOk
  have e : (ba || bm) = ba := by cases bm <;> cases ba <;> simp_all
  rw [e]
  cases rOk bd o.d rg <;> cases rOk be o.e rg <;> cases rOk ba o.a rg <;> cases rOk bb o.b rg <;> cases rOk bc o.c rg <;> cases bm <;> cases be <;> cases decide (o.a = -1) <;> cases decide (o.d = o.e) <;> rfl
set_option maxRecDepth 100000 in
set_option maxHeartbeats 16000000 in
theorem fields_r (rg : Int) (A : Option Addr) (n c : Nat) (X : Option Addr) (m d : Nat) (bufs : List Bf) (o : Op) (w : World) (hR : Rdr w w.heap.size A n bufs) (hwf : ∀ b ∈ bufs, b.wf) (ho : o.wf) (hn : n ≤ 1000000) (hsz : ∀ b ∈ bufs, 0 < b.sz) :
    Calls Tryd.prog 48 #[.agg #[.int .i64 rg, .slice A n c, .slice X m d], .agg (Op.vs o).toArray] w fun e w' => e = .returned (.bool (opOk rg bufs o)) ∧ Below w.heap.size w w' := by
  have HOO := Lib.hid (show opOk rg bufs o = (decide (1 ≤ o.k) && decide (o.k ≤ 17) && (rgOk (hD o.k) (hE o.k) (hA o.k) (hB o.k) (hC o.k) (mm o.k) rg o && plOk (mm o.k) bufs o && decide (leI o.k ≤ o.im) && decide (o.im ≤ moI o.k))) from rfl)
  have HRG := Lib.hid (rgOk_eq (hD o.k) (hE o.k) (hA o.k) (hB o.k) (hC o.k) (mm o.k) (fun h => mm_hA h) rg o)
  have HPL := Lib.hid (show ∀ bm, plOk bm bufs o = if bm then decide (0 ≤ o.bf) && decide (o.bf < bufs.length) && !(decide (o.k = 15) && decide ((bfAt bufs o.bf).kd = 1)) && (!decide (o.a = -1) || decide (o.im < (bfAt bufs o.bf).sz)) else decide (o.bf = 0) from fun _ => rfl)
  have HF := Lib.hid (fun r has W => field_r rg A X n c m d r has W)
  have HB := Lib.hid (bel_al' (bel_al (w := w) (.cells #[.int .i64 rg, .slice A n c, .slice X m d] 26)) (.cells (Op.vs o).toArray 33))
  have HK : Hid (Bk ((w.alloc (.cells #[.int .i64 rg, .slice A n c, .slice X m d] 26)).alloc (.cells (Op.vs o).toArray 33)) w.heap.size 26 #[.int .i64 rg, .slice A n c, .slice X m d]) := Lib.hid ((Bk.new w _ _).alloc _)
  have HO : Hid (Bk ((w.alloc (.cells #[.int .i64 rg, .slice A n c, .slice X m d] 26)).alloc (.cells (Op.vs o).toArray 33)) (w.heap.size + 1) 33 (Op.vs o).toArray) := Lib.hid (Bk.new' (by simp))
  have HRW := Lib.hid (fun (W : World) (hb : Below w.heap.size w W) => hR.below hb)
  have HL := Lib.hid hR.len
  have HI := Lib.hid ho.im
  have HSZ := Lib.hid (fun (i : Nat) (hi : i < bufs.length) => (show 0 < (bfAt bufs (i : Int)).sz ∧ (bfAt bufs (i : Int)).sz ≤ 9223372036854775807 from ⟨hsz _ (List.mem_of_getElem? (bfAt_some hi)), (hwf _ (List.mem_of_getElem? (bfAt_some hi))).sz.2⟩))
  obtain ⟨res, hres⟩ : ∃ z, opOk rg bufs o = z := ⟨_, rfl⟩
  rw [hres] at HOO ⊢
  clear hres hR hwf ho hsz
  obtain ⟨k, od, oe, oa, ob, oc, obf, oim⟩ := o
  unfold Op.vs at *
  dsimp only at *
  simp only [List.toArray] at HB HK HO ⊢
  obtain ⟨W0, hW0⟩ : ∃ W0, W0 = ((w.alloc (.cells #[.int .i64 rg, .slice A n c, .slice X m d] 26)).alloc (.cells #[.int .i64 k, .int .i64 od, .int .i64 oe, .int .i64 oa, .int .i64 ob, .int .i64 oc, .int .i64 obf, .int .u64 oim] 33)) := ⟨_, rfl⟩
  have HW0 := Lib.hid hW0
  rw [← hW0] at HB HK HO
  clear hW0
  obtain ⟨a0, a1, a2⟩ := c3 HK.out
  obtain ⟨o0, o1, o2, o3, o4, o5, o6, o7⟩ := c8 HO.out
  have hz0 : w.heap.size < W0.heap.size := HK.out.lt
  have hz1 : w.heap.size + 1 < W0.heap.size := HO.out.lt
  by_cases hlo : k < 1
  · have HF0 : Hid (res = false) := Lib.hid (by rw [HOO.out, decide_eq_false (show ¬ 1 ≤ k by omega)]; rfl)
    go_enter Tryd.func48, Tryd.ntmps48
    go_upto_region 1 with fail
    rw [← HW0.out]
    go_wp2_with fail
    go_ret
    exact ⟨by rw [HF0.out]; rfl, HB.out⟩
  by_cases hhi : 17 < k
  · have HF0 : Hid (res = false) := Lib.hid (by rw [HOO.out, decide_eq_false (show ¬ k ≤ 17 by omega), Bool.and_false]; rfl)
    go_enter Tryd.func48, Tryd.ntmps48
    go_upto_region 1 with fail
    rw [← HW0.out]
    go_wp2_with fail
    go_ret
    exact ⟨by rw [HF0.out]; rfl, HB.out⟩
  have HKR : Hid (1 ≤ k ∧ k ≤ 17) := Lib.hid (by omega)
  have HC : Hid (k = 1 ∨ k = 2 ∨ k = 3 ∨ k = 4 ∨ k = 5 ∨ k = 6 ∨ k = 7 ∨ k = 8 ∨ k = 9 ∨ k = 10 ∨ k = 11 ∨ k = 12 ∨ k = 13 ∨ k = 14 ∨ k = 15 ∨ k = 16 ∨ k = 17) := Lib.hid (by omega)
  rw [decide_eq_true HKR.out.1, decide_eq_true HKR.out.2, HRG.out, Bool.true_and, Bool.true_and] at HOO
  go_enter Tryd.func48, Tryd.ntmps48
  go_upto_region 1 with fail
  rw [← HW0.out]
  go_upto_region 4 with fail
  go_cut [6] from 20 to 25 (fun v W => v = .bool (mm k) ∧ W = W0)
  case first =>
    as_aux_lemma =>
      clear HOO HRG HPL HF HRW HSZ HB HK HO HW0 HI HL
      rcases HC.out with rfl | rfl | rfl | rfl | rfl | rfl | rfl | rfl | rfl | rfl | rfl | rfl | rfl | rfl | rfl | rfl | rfl
      all_goals (
        go_wp2_with fail
        go_meet
        case rel => exact ⟨rfl, rfl⟩)
  case rest =>
  obtain ⟨rfl, hwc⟩ := hcut
  rw [hwc]
  clear hwc wc
  go_upto_region 5 with fail
  go_cut [7] from 26 to 31 (fun v W => v = .bool (hD k) ∧ W = W0)
  case first =>
    as_aux_lemma =>
      clear HOO HRG HPL HF HRW HSZ HB HK HO HW0 HI HL
      rcases HC.out with rfl | rfl | rfl | rfl | rfl | rfl | rfl | rfl | rfl | rfl | rfl | rfl | rfl | rfl | rfl | rfl | rfl
      all_goals (
        go_wp2_with fail
        go_meet
        case rel => exact ⟨rfl, rfl⟩)
  case rest =>
  obtain ⟨rfl, hwc⟩ := hcut
  rw [hwc]
  clear hwc wc
  go_upto_region 6 with fail
  go_cut [8] from 32 to 41 (fun v W => v = .bool (hE k) ∧ W = W0)
  case first =>
    as_aux_lemma =>
      clear HOO HRG HPL HF HRW HSZ HB HK HO HW0 HI HL
      rcases HC.out with rfl | rfl | rfl | rfl | rfl | rfl | rfl | rfl | rfl | rfl | rfl | rfl | rfl | rfl | rfl | rfl | rfl
      all_goals (
        go_wp2_with fail
        go_meet
        case rel => exact ⟨rfl, rfl⟩)
  case rest =>
  obtain ⟨rfl, hwc⟩ := hcut
  rw [hwc]
  clear hwc wc
  go_upto_region 7 with fail
  go_cut [9] from 42 to 51 (fun v W => v = .bool (hA k) ∧ W = W0)
  case first =>
    as_aux_lemma =>
      clear HOO HRG HPL HF HRW HSZ HB HK HO HW0 HI HL
      rcases HC.out with rfl | rfl | rfl | rfl | rfl | rfl | rfl | rfl | rfl | rfl | rfl | rfl | rfl | rfl | rfl | rfl | rfl
      all_goals (
        go_wp2_with fail
        go_meet
        case rel => exact ⟨rfl, rfl⟩)
  case rest =>
  obtain ⟨rfl, hwc⟩ := hcut
  rw [hwc]
  clear hwc wc
  go_upto_region 8 with fail
  go_cut [10] from 52 to 69 (fun v W => v = .bool (hB k) ∧ W = W0)
  case first =>
    as_aux_lemma =>
      clear HOO HRG HPL HF HRW HSZ HB HK HO HW0 HI HL
      rcases HC.out with rfl | rfl | rfl | rfl | rfl | rfl | rfl | rfl | rfl | rfl | rfl | rfl | rfl | rfl | rfl | rfl | rfl
      all_goals (
        go_wp2_with fail
        go_meet
        case rel => exact ⟨rfl, rfl⟩)
  case rest =>
  obtain ⟨rfl, hwc⟩ := hcut
  rw [hwc]
  clear hwc wc
  go_upto_region 9 with fail
  go_cut [11] from 70 to 75 (fun v W => v = .bool (hC k) ∧ W = W0)
  case first =>
    as_aux_lemma =>
      clear HOO HRG HPL HF HRW HSZ HB HK HO HW0 HI HL
      rcases HC.out with rfl | rfl | rfl | rfl | rfl | rfl | rfl | rfl | rfl | rfl | rfl | rfl | rfl | rfl | rfl | rfl | rfl
      all_goals (
        go_wp2_with fail
        go_meet
        case rel => exact ⟨rfl, rfl⟩)
  case rest =>
  obtain ⟨rfl, hwc⟩ := hcut
  rw [hwc]
  clear hwc wc
  obtain ⟨bm, hbm⟩ : ∃ z, mm k = z := ⟨_, rfl⟩
  have HM := Lib.hid hbm
  rw [hbm] at HOO ⊢
  clear hbm
  generalize hD k = bd at *
  generalize hE k = be at *
  generalize hA k = ba at *
  generalize hB k = bb at *
  generalize hC k = bc at *
  have HBX : Hid (∀ W, Below w.heap.size w W → Below w.heap.size w (W.alloc (.cells #[.int .i64 rg, .slice A n c, .slice X m d] 26))) := Lib.hid (fun W h => bel_al' h _)
  clear HRG HC HW0
  obtain ⟨T, hT⟩ : ∃ z, (decide (leI k ≤ oim) && decide (oim ≤ moI k)) = z := ⟨_, rfl⟩
  have HT := Lib.hid hT
  obtain ⟨U, hU⟩ : ∃ z, plOk bm bufs ⟨k, od, oe, oa, ob, oc, obf, oim⟩ = z := ⟨_, rfl⟩
  have HU := Lib.hid hU
  rw [Bool.and_assoc, hT, hU] at HOO
  clear hT hU
  obtain ⟨r1, h1⟩ : ∃ z, rOk bd od rg = z := ⟨_, rfl⟩
  have H1 := Lib.hid (fun W => h1 ▸ HF.out od bd W)
  rw [h1] at HOO
  clear h1
  obtain ⟨r2, h2⟩ : ∃ z, rOk be oe rg = z := ⟨_, rfl⟩
  have H2 := Lib.hid (fun W => h2 ▸ HF.out oe be W)
  rw [h2] at HOO
  clear h2
  obtain ⟨r3, h3⟩ : ∃ z, rOk ba oa rg = z := ⟨_, rfl⟩
  have H3 := Lib.hid (fun W => h3 ▸ HF.out oa ba W)
  rw [h3] at HOO
  clear h3
  obtain ⟨r4, h4⟩ : ∃ z, rOk bb ob rg = z := ⟨_, rfl⟩
  have H4 := Lib.hid (fun W => h4 ▸ HF.out ob bb W)
  rw [h4] at HOO
  clear h4
  obtain ⟨r5, h5⟩ : ∃ z, rOk bc oc rg = z := ⟨_, rfl⟩
  have H5 := Lib.hid (fun W => h5 ▸ HF.out oc bc W)
  rw [h5] at HOO
  clear h5 HF
  go_upto_region 10 with fail
  go_cut [132] from 76 to 132 (fun v W => ∃ R : Bool, v = .bool (!R) ∧ Hid (res = (R && (U && T))) ∧ Hid (Below w.heap.size w W) ∧ Hid (Bk W w.heap.size 26 #[.int .i64 rg, .slice A n c, .slice X m d]) ∧ Hid (Bk W (w.heap.size + 1) 33 #[.int .i64 k, .int .i64 od, .int .i64 oe, .int .i64 oa, .int .i64 ob, .int .i64 oc, .int .i64 obf, .int .u64 oim]))
  case first =>
    clear HPL HRW HSZ HI HL HT HU HKR HM
    go_wp2_with fail
    go_at_call 78
    refine (H1.out _).mono ?_
    rintro e w1 ⟨rfl, hw1⟩
    have HB1 := Lib.hid (hw1 ▸ HBX.out _ HB.out)
    have HK1 := Lib.hid (hw1 ▸ Bk.alloc HK.out _)
    have HO1 := Lib.hid (hw1 ▸ Bk.alloc HO.out _)
    clear hw1 a0 a1 a2 o0 o1 o2 o3 o4 o5 o6 o7
    obtain ⟨a0, a1, a2⟩ := c3 HK1.out
    obtain ⟨o0, o1, o2, o3, o4, o5, o6, o7⟩ := c8 HO1.out
    cases r1
    · skip
      go_wp2_with fail
      go_meet
      case rel => exact ⟨false, rfl, Lib.hid (by rw [HOO.out]; rfl), Lib.hid HB1.out, Lib.hid HK1.out, Lib.hid HO1.out⟩
    go_wp2_with fail
    go_at_call 78
    refine (H2.out _).mono ?_
    rintro e w2 ⟨rfl, hw2⟩
    have HB2 := Lib.hid (hw2 ▸ HBX.out _ HB1.out)
    have HK2 := Lib.hid (hw2 ▸ Bk.alloc HK1.out _)
    have HO2 := Lib.hid (hw2 ▸ Bk.alloc HO1.out _)
    clear hw2 a0 a1 a2 o0 o1 o2 o3 o4 o5 o6 o7
    obtain ⟨a0, a1, a2⟩ := c3 HK2.out
    obtain ⟨o0, o1, o2, o3, o4, o5, o6, o7⟩ := c8 HO2.out
    cases r2
    · skip
      go_wp2_with fail
      go_meet
      case rel => exact ⟨false, rfl, Lib.hid (by rw [HOO.out]; rfl), Lib.hid HB2.out, Lib.hid HK2.out, Lib.hid HO2.out⟩
    go_wp2_with fail
    go_at_call 78
    refine (H3.out _).mono ?_
    rintro e w3 ⟨rfl, hw3⟩
    have HB3 := Lib.hid (hw3 ▸ HBX.out _ HB2.out)
    have HK3 := Lib.hid (hw3 ▸ Bk.alloc HK2.out _)
    have HO3 := Lib.hid (hw3 ▸ Bk.alloc HO2.out _)
    clear hw3 a0 a1 a2 o0 o1 o2 o3 o4 o5 o6 o7
    obtain ⟨a0, a1, a2⟩ := c3 HK3.out
    obtain ⟨o0, o1, o2, o3, o4, o5, o6, o7⟩ := c8 HO3.out
    cases r3
    · cases bm
      · skip
        go_wp2_with fail
        go_meet
        case rel => exact ⟨false, rfl, Lib.hid (by rw [HOO.out]; rfl), Lib.hid HB3.out, Lib.hid HK3.out, Lib.hid HO3.out⟩
      · by_cases ha : oa = -1
        · subst ha
          rw [decide_eq_true rfl] at HOO
          go_wp2_with fail
          go_at_call 78
          refine (H4.out _).mono ?_
          rintro e w4 ⟨rfl, hw4⟩
          have HB4 := Lib.hid (hw4 ▸ HBX.out _ HB3.out)
          have HK4 := Lib.hid (hw4 ▸ Bk.alloc HK3.out _)
          have HO4 := Lib.hid (hw4 ▸ Bk.alloc HO3.out _)
          clear hw4 a0 a1 a2 o0 o1 o2 o3 o4 o5 o6 o7
          obtain ⟨a0, a1, a2⟩ := c3 HK4.out
          obtain ⟨o0, o1, o2, o3, o4, o5, o6, o7⟩ := c8 HO4.out
          cases r4
          · skip
            go_wp2_with fail
            go_meet
            case rel => exact ⟨false, rfl, Lib.hid (by rw [HOO.out]; rfl), Lib.hid HB4.out, Lib.hid HK4.out, Lib.hid HO4.out⟩
          go_wp2_with fail
          go_at_call 78
          refine (H5.out _).mono ?_
          rintro e w5 ⟨rfl, hw5⟩
          have HB5 := Lib.hid (hw5 ▸ HBX.out _ HB4.out)
          have HK5 := Lib.hid (hw5 ▸ Bk.alloc HK4.out _)
          have HO5 := Lib.hid (hw5 ▸ Bk.alloc HO4.out _)
          clear hw5 a0 a1 a2 o0 o1 o2 o3 o4 o5 o6 o7
          obtain ⟨a0, a1, a2⟩ := c3 HK5.out
          obtain ⟨o0, o1, o2, o3, o4, o5, o6, o7⟩ := c8 HO5.out
          cases r5
          · skip
            go_wp2_with fail
            go_meet
            case rel => exact ⟨false, rfl, Lib.hid (by rw [HOO.out]; rfl), Lib.hid HB5.out, Lib.hid HK5.out, Lib.hid HO5.out⟩
          cases be
          · skip
            go_wp2_with fail
            go_meet
            case rel => exact ⟨true, rfl, Lib.hid (by rw [HOO.out]; simp), Lib.hid HB5.out, Lib.hid HK5.out, Lib.hid HO5.out⟩
          by_cases hde : od = oe
          · subst hde
            rw [decide_eq_true rfl] at HOO
            go_wp2_with fail
            go_meet
            case rel => exact ⟨false, rfl, Lib.hid (by rw [HOO.out]; rfl), Lib.hid HB5.out, Lib.hid HK5.out, Lib.hid HO5.out⟩
          · have hnde : (od == oe) = false := by rw [beq_eq_false_iff_ne]; exact hde
            rw [decide_eq_false hde] at HOO
            clear hde
            go_wp2_with fail
            go_meet
            case rel => exact ⟨true, rfl, Lib.hid (by rw [HOO.out]; simp), Lib.hid HB5.out, Lib.hid HK5.out, Lib.hid HO5.out⟩
        · have hna : (oa == -1) = false := by rw [beq_eq_false_iff_ne]; exact ha
          rw [decide_eq_false ha] at HOO
          clear ha
          go_wp2_with fail
          go_meet
          case rel => exact ⟨false, rfl, Lib.hid (by rw [HOO.out]; rfl), Lib.hid HB3.out, Lib.hid HK3.out, Lib.hid HO3.out⟩
    rw [Bool.true_or] at HOO
    go_wp2_with fail
    go_at_call 78
    refine (H4.out _).mono ?_
    rintro e w4 ⟨rfl, hw4⟩
    have HB4 := Lib.hid (hw4 ▸ HBX.out _ HB3.out)
    have HK4 := Lib.hid (hw4 ▸ Bk.alloc HK3.out _)
    have HO4 := Lib.hid (hw4 ▸ Bk.alloc HO3.out _)
    clear hw4 a0 a1 a2 o0 o1 o2 o3 o4 o5 o6 o7
    obtain ⟨a0, a1, a2⟩ := c3 HK4.out
    obtain ⟨o0, o1, o2, o3, o4, o5, o6, o7⟩ := c8 HO4.out
    cases r4
    · skip
      go_wp2_with fail
      go_meet
      case rel => exact ⟨false, rfl, Lib.hid (by rw [HOO.out]; rfl), Lib.hid HB4.out, Lib.hid HK4.out, Lib.hid HO4.out⟩
    go_wp2_with fail
    go_at_call 78
    refine (H5.out _).mono ?_
    rintro e w5 ⟨rfl, hw5⟩
    have HB5 := Lib.hid (hw5 ▸ HBX.out _ HB4.out)
    have HK5 := Lib.hid (hw5 ▸ Bk.alloc HK4.out _)
    have HO5 := Lib.hid (hw5 ▸ Bk.alloc HO4.out _)
    clear hw5 a0 a1 a2 o0 o1 o2 o3 o4 o5 o6 o7
    obtain ⟨a0, a1, a2⟩ := c3 HK5.out
    obtain ⟨o0, o1, o2, o3, o4, o5, o6, o7⟩ := c8 HO5.out
    cases r5
    · skip
      go_wp2_with fail
      go_meet
      case rel => exact ⟨false, rfl, Lib.hid (by rw [HOO.out]; rfl), Lib.hid HB5.out, Lib.hid HK5.out, Lib.hid HO5.out⟩
    cases be
    · skip
      go_wp2_with fail
      go_meet
      case rel => exact ⟨true, rfl, Lib.hid (by rw [HOO.out]; simp), Lib.hid HB5.out, Lib.hid HK5.out, Lib.hid HO5.out⟩
    by_cases hde : od = oe
    · subst hde
      rw [decide_eq_true rfl] at HOO
      go_wp2_with fail
      go_meet
      case rel => exact ⟨false, rfl, Lib.hid (by rw [HOO.out]; rfl), Lib.hid HB5.out, Lib.hid HK5.out, Lib.hid HO5.out⟩
    · have hnde : (od == oe) = false := by rw [beq_eq_false_iff_ne]; exact hde
      rw [decide_eq_false hde] at HOO
      clear hde
      go_wp2_with fail
      go_meet
      case rel => exact ⟨true, rfl, Lib.hid (by rw [HOO.out]; simp), Lib.hid HB5.out, Lib.hid HK5.out, Lib.hid HO5.out⟩
  case rest =>
    obtain ⟨R, rfl, HRR, HBW, HKW, HOW⟩ := hcut
    clear a0 a1 a2 o0 o1 o2 o3 o4 o5 o6 o7 HOO H1 H2 H3 H4 H5 HBX HB HK HO
    obtain ⟨a0, a1, a2⟩ := c3 HKW.out
    obtain ⟨o0, o1, o2, o3, o4, o5, o6, o7⟩ := c8 HOW.out
    have HIB := Lib.hid HI.out
    cases R
    · go_wp2_with fail
      go_ret
      exact ⟨by rw [HRR.out]; rfl, HBW.out⟩
    rw [Bool.true_and] at HRR
    cases bm
    · have hnm := HM.out
      have hk15 : (k = 1 ∨ k = 2 ∨ k = 3 ∨ k = 4 ∨ k = 5 ∨ k = 6 ∨ k = 7 ∨ k = 10 ∨ k = 11 ∨ k = 12 ∨ k = 13 ∨ k = 17) ∨ (k = 8 ∨ k = 9) ∨ k = 16 := by
        have h1 := HKR.out
        unfold mm at hnm
        simp only [Bool.or_eq_false_iff, decide_eq_false_iff_not] at hnm
        omega
      have HUE := Lib.hid (HU.out.symm.trans (HPL.out false))
      rw [if_neg (by decide)] at HUE
      clear hnm HM HU HPL
      by_cases hb : obf = 0
      · subst hb
        rw [HUE.out, decide_eq_true rfl, Bool.true_and] at HRR
        clear HUE
        rcases hk15 with h | h | rfl
        · have hT0 : Hid (T = if k = 1 then true else decide (oim = 0)) := Lib.hid (by
            have hi := HIB.out
            unfold W at hi
            rw [← HT.out]
            rcases h with rfl | rfl | rfl | rfl | rfl | rfl | rfl | rfl | rfl | rfl | rfl | rfl
            · rw [show leI 1 = 0 from rfl, show moI 1 = 18446744073709551615 from rfl, decide_eq_true (by omega), decide_eq_true (by omega)]; rfl
            all_goals (
              rw [if_neg (by decide)]
              show (decide ((0 : Int) ≤ oim) && decide (oim ≤ (0 : Int))) = _
              by_cases h0 : oim = 0
              · subst h0; rfl
              · rw [decide_eq_false h0, decide_eq_false (show ¬ oim ≤ 0 by omega), Bool.and_false]))
          clear HT HIB HI
          rcases h with rfl | rfl | rfl | rfl | rfl | rfl | rfl | rfl | rfl | rfl | rfl | rfl
          all_goals (
            go_wp2_with fail
            go_ret
            exact ⟨by rw [HRR.out, hT0.out]; rfl, HBW.out⟩)
        · have hT0 : Hid (T = (decide (1 ≤ oim) && decide (oim ≤ 63))) := Lib.hid (by rw [← HT.out]; rcases h with rfl | rfl <;> rfl)
          by_cases h1 : 1 ≤ oim
          · rw [decide_eq_true h1, Bool.true_and] at hT0
            rcases h with rfl | rfl
            all_goals (
              go_wp2_with fail
              go_ret
              exact ⟨by rw [HRR.out, hT0.out]; rfl, HBW.out⟩)
          · rw [decide_eq_false h1, Bool.false_and] at hT0
            rcases h with rfl | rfl
            all_goals (
              go_wp2_with fail
              go_ret
              exact ⟨by rw [HRR.out, hT0.out]; rfl, HBW.out⟩)
        · have hT0 : Hid (T = (decide (1 ≤ oim) && decide (oim ≤ 1048576))) := Lib.hid (by rw [← HT.out]; rfl)
          by_cases h1 : 1 ≤ oim
          · rw [decide_eq_true h1, Bool.true_and] at hT0
            go_wp2_with fail
            go_ret
            exact ⟨by rw [HRR.out, hT0.out]; rfl, HBW.out⟩
          · rw [decide_eq_false h1, Bool.false_and] at hT0
            go_wp2_with fail
            go_ret
            exact ⟨by rw [HRR.out, hT0.out]; rfl, HBW.out⟩
      · rw [HUE.out, decide_eq_false hb, Bool.false_and] at HRR
        have hne : (obf != 0) = true := by simpa using hb
        clear HUE HT hb hk15 HI HIB
        go_wp2_with fail
        go_ret
        exact ⟨by rw [HRR.out]; rfl, HBW.out⟩
    · have hk2 : k = 14 ∨ k = 15 := by
        have h1 := HM.out
        unfold mm at h1
        simp only [Bool.or_eq_true, decide_eq_true_eq] at h1
        exact h1
      have HUE := Lib.hid (HU.out.symm.trans (HPL.out true))
      rw [if_pos rfl] at HUE
      have HTE : Hid (T = true) := Lib.hid (by
        have hi := HIB.out
        unfold W at hi
        rw [← HT.out]
        rcases hk2 with rfl | rfl
        · rw [show leI 14 = 0 from rfl, show moI 14 = 18446744073709551615 from rfl, decide_eq_true (by omega), decide_eq_true (by omega)]; rfl
        · rw [show leI 15 = 0 from rfl, show moI 15 = 18446744073709551615 from rfl, decide_eq_true (by omega), decide_eq_true (by omega)]; rfl)
      rw [HTE.out, Bool.and_true] at HRR
      clear HM HU HPL HT HTE
      by_cases hb0 : 0 ≤ obf
      · by_cases hbn : obf < (n : Int)
        · obtain ⟨i, rfl⟩ := Int.eq_ofNat_of_zero_le hb0
          have hi : i < bufs.length := by have := HL.out; omega
          rw [decide_eq_true hb0, decide_eq_true (show (i : Int) < (bufs.length : Int) by omega), Bool.true_and, Bool.true_and] at HUE
          obtain ⟨bb', bo, rfl, hbb, s0, s1, s2⟩ := bf_at (HRW.out wc HBW.out) (bfAt_some hi)
          obtain ⟨z1, z2⟩ := HSZ.out i hi
          generalize bfAt bufs (i : Int) = bx at *
          obtain ⟨sz, kd, sec⟩ := bx
          dsimp only at *
          have ewz : IntKind.u64.wrap sz = sz := by rw [IntKind.wrap_u64]; omega
          clear hi hbb HRW HSZ HL z1 z2
          by_cases hk1 : k = 15 ∧ kd = 1
          · obtain ⟨rfl, rfl⟩ := hk1
            rw [decide_eq_true rfl, decide_eq_true rfl] at HUE
            go_wp2_with fail
            go_ret
            exact ⟨by rw [HRR.out, HUE.out]; rfl, HBW.out⟩
          · have hkk : (decide (k = 15) && decide (kd = 1)) = false := by
              rw [Bool.and_eq_false_iff, decide_eq_false_iff_not, decide_eq_false_iff_not]
              by_cases h : k = 15
              · exact .inr (fun e => hk1 ⟨h, e⟩)
              · exact .inl h
            rw [hkk, Bool.not_false, Bool.true_and] at HUE
            have hkd : k = 15 → (kd == 1) = false := fun h => by rw [beq_eq_false_iff_ne]; exact fun e => hk1 ⟨h, e⟩
            clear hk1 hkk
            by_cases ha : oa = -1
            · subst ha
              rw [decide_eq_true rfl, Bool.not_true, Bool.false_or] at HUE
              rcases hk2 with rfl | rfl
              · clear hkd
                go_wp2_with fail
                go_quiet (fail)
                go_wp2_with fail
                go_ret
                exact ⟨by rw [HRR.out, HUE.out]; rfl, below_drewN HBW.out _⟩
              · have hkd2 := hkd rfl
                clear hkd
                go_wp2_with fail
                go_quiet (fail)
                go_wp2_with fail
                go_ret
                exact ⟨by rw [HRR.out, HUE.out]; rfl, below_drewN HBW.out _⟩
            · rw [decide_eq_false ha, Bool.not_false, Bool.true_or] at HUE
              have hna : (oa != -1) = true := by simpa using ha
              clear ha
              rcases hk2 with rfl | rfl
              · clear hkd
                go_wp2_with fail
                go_quiet (fail)
                go_wp2_with fail
                go_ret
                exact ⟨by rw [HRR.out, HUE.out]; rfl, below_drewN HBW.out _⟩
              · have hkd2 := hkd rfl
                clear hkd
                go_wp2_with fail
                go_quiet (fail)
                go_wp2_with fail
                go_ret
                exact ⟨by rw [HRR.out, HUE.out]; rfl, below_drewN HBW.out _⟩
        · rw [decide_eq_false (show ¬ obf < (bufs.length : Int) by have := HL.out; omega), Bool.and_false, Bool.false_and, Bool.false_and] at HUE
          rcases hk2 with rfl | rfl
          all_goals (
            go_wp2_with fail
            go_ret
            exact ⟨by rw [HRR.out, HUE.out]; rfl, HBW.out⟩)
      · rw [decide_eq_false hb0, Bool.false_and, Bool.false_and, Bool.false_and] at HUE
        rcases hk2 with rfl | rfl
        all_goals (
          go_wp2_with fail
          go_ret
          exact ⟨by rw [HRR.out, HUE.out]; rfl, HBW.out⟩)
end Lb
end Go.Proofs.YtbdhibgljaelbaaDoor
