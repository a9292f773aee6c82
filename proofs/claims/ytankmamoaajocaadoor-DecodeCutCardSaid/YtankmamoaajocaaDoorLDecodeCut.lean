/- DecodeCut's walk over what is asked of the landed package. -/
import Derived.Test.YtankmamoaajocaaDoorU1
import Derived.Test.YtankmamoaajocaaDoorA1
namespace Go.Proofs.YtankmamoaajocaaDoor
open Go Go.RowKit
namespace decodeCut
open Is Nt
set_option linter.unusedVariables false
theorem bel3 {a b c : World} (h : Below a.heap.size a b) (k : Below b.heap.size b c) : Below a.heap.size a c := h.trans (k.mono h.size)
theorem below_al {a b : World} (h : Below a.heap.size a b) (o : Obj) : Below a.heap.size a (b.alloc o) := h.alloc h.size o
set_option maxRecDepth 100000 in
set_option maxHeartbeats 1000000 in
theorem walk_ {G : World → Prop} (dc : DecC G) (w : World) (HG : Hid (G w)) (i : Ins) (code : ByteArray) (cut : Int) (hw : i.wf) (hws : code.size ≤ maxLen) (hc : (Lit.int .i64 cut).wf = true) :
    Calls Tryd.prog 5 #[.agg i.vs, .string code, .int .i64 cut] w fun e w' => e = .returned (.bool true) ∧ Below w.heap.size w w' := by
  have HL := Lib.hid (fun W hg => dlives_c dc W (Lib.hid hg))
  have HB0 := Lib.hid ((Below.refl w.heap.size w).alloc (Nat.le_refl _) (.cells i.vs 26))
  have HI0 := Lib.hid (Bk.new w 26 i.vs)
  have HRI := Lib.hid (fun W => rinst_c i W)
  rcases Nat.lt_or_ge 120 code.size with hbig | hsm
  · have hb1 : (120 : Int) < (code.size : Int) := by omega
    clear hw hws
    obtain ⟨op, d, s, t, b, x, sc, di, im⟩ := i
    unfold Ins.vs at *
    dsimp only at *
    go_enter Tryd.func5, Tryd.ntmps5
    go_wp2_with fail
    go_at_call 7
    refine (HL.out _ (dc.tb HG (by assumption))).mono ?_
    rintro e w1 ⟨rfl, hb⟩
    have HB1 := Lib.hid (bel3 HB0.out hb)
    clear hb
    go_wp2_with fail
    go_ret
    exact ⟨rfl, HB1.out⟩
  · have hs1 : (code.size : Int) ≤ 120 := by omega
    have hs0 : (0 : Int) ≤ (code.size : Int) := by omega
    have HA := Lib.hid (fun W hg => dc.all code W hg (by omega))
    obtain ⟨f1, f2, f3, f4, f5, f6⟩ := all_facts code
    have HAI := Lib.hid (fun W hg => dc.inst code ((allD code).2 : Int) W hg (i64s (by omega) (by omega)) (by omega))
    have HRA := Lib.hid (fun A c W h hc => rall_c A (allD code).1.length c (allD code).1 W h (by omega) hc)
    rw [f1, f2] at HRA
    rw [f6] at HAI
    have g1 : ((allD code).2 : Int) ≤ (code.size : Int) := by omega
    have g0 : (0 : Int) ≤ ((allD code).2 : Int) := by omega
    have HP := Lib.hid (fun L W h => Kit.pick_c cut L W hc h)
    have HPL := Lib.hid (fun L h => Kit.pick_lt (n := cut) (m := L) h)
    have HF3 := Lib.hid f3
    have HCUT := Lib.hid (fun h k h1 h2 => rd_cut (i := i) (k := k) h hw h1 h2)
    have HLEN := Lib.hid (fun h => encS_len (a := i) h)
    have HENC := Lib.hid (fun h => (encl_ok i h).2)
    have HINS := Lib.hid (fun (k : Nat) (W : World) hg => dc.inst ((encS i).extract 0 k) 0 W hg i64_z)
    have HK := Lib.hid (chk_01 i)
    unfold TellA at HA
    clear hw hws hc hsm f1 f2 f3 f5 f6
    generalize allD code = ad at *
    obtain ⟨al, an⟩ := ad
    dsimp only at *
    generalize strU (catU al) = az at *
    generalize encS i = es at *
    generalize chk i = ck at *
    generalize hokq : okI i = ok at *
    generalize hlnq : (encL i).length = ln at *
    clear hokq hlnq
    have HIV : Hid (∀ x : Int × Int, x = x) := Lib.hid (fun _ => rfl)
    generalize hiq : i = iq at *
    obtain ⟨op, d, s, t, b, x, sc, di, im⟩ := iq
    unfold Ins.vs at HRI HI0 HB0
    dsimp only at HRI HI0 HB0
    unfold Ins.vs
    dsimp only
    obtain ⟨a0, a1, a2, a3, a4, a5, a6, a7, a8⟩ := c9 HI0.out
    go_enter Tryd.func5, Tryd.ntmps5
    go_wp2_with fail
    go_at_call 7
    refine (HL.out _ (dc.tb HG (by assumption))).mono ?_
    rintro e w1 ⟨rfl, hb⟩
    have HI1 := Lib.hid (HI0.out.below hb HI0.out.lt)
    have HB1 := Lib.hid (bel3 HB0.out hb)
    clear hb a0 a1 a2 a3 a4 a5 a6 a7 a8 HL HB0 HI0
    obtain ⟨a0, a1, a2, a3, a4, a5, a6, a7, a8⟩ := c9 HI1.out
    go_wp2_with fail
    go_at_call 15
    refine (HRI.out _).mono ?_
    rintro e w2 ⟨rfl, hb⟩
    have HB2 := Lib.hid (bel3 HB1.out hb)
    clear hb a0 a1 a2 a3 a4 a5 a6 a7 a8 HRI HB1 HI1
    rcases HK.out with ⟨rfl, rfl⟩ | ⟨rfl, rfl⟩
    · obtain ⟨l1, l11⟩ := HENC.out rfl
      have hsz := HLEN.out rfl
      have hpl := HPL.out (es.size : Int) (by omega)
      have HCT := Lib.hid (HCUT.out rfl)
      have HPC := Lib.hid (fun W => HP.out (es.size : Int) W (by simp [Lit.wf, IntKind.min, IntKind.max, IntKind.signed, IntKind.bits]; omega))
      generalize Kit.pick cut (es.size : Int) = pk at *
      obtain ⟨p, rfl⟩ := Int.eq_ofNat_of_zero_le hpl.1
      have hp : p < ln := by omega
      have hp2 : (1 : Int) + (p : Int) ≤ (es.size : Int) := by omega
      have hp3 : (0 : Int) ≤ 1 + (p : Int) := by omega
      have hes : (es.size : Int) ≤ 11 := by omega
      have HIN := Lib.hid (fun W hg => HINS.out (1 + p) W hg (by rw [ByteArray.size_extract]; omega))
      rw [HCT.out (1 + p) (by omega) (by omega)] at HIN
      have HSZ := Lib.hid hsz
      have HP9 := Lib.hid hp
      have HL1 := Lib.hid l1
      clear HCT HCUT HINS HP HPL HLEN HENC hpl hsz hp l1 l11
      by_cases hkl : 1 + p = ln
      · rw [if_pos hkl] at HIN
        have HKL := Lib.hid hkl
        clear hkl
        unfold tD Ins.vs at HIN
        dsimp only at HIN
        go_wp2_with fail
        go_at_call 16
        refine (HPC.out _).mono ?_
        rintro e w2' ⟨rfl, rfl⟩
        have hkk : ((1 : Int) + (p : Int) == (es.size : Int)) = true := by have := HSZ.out; have := HP9.out; have := HKL.out; rw [beq_iff_eq]; omega
        have hkn : (es.size : Int) ≤ (1 : Int) + (p : Int) := by have := HSZ.out; have := HP9.out; have := HKL.out; omega
        go_wp2_with fail
        go_at_call 8
        refine (HIN.out _ (dc.tb HG (by assumption))).mono ?_
        rintro e w3 ⟨rfl, hb⟩
        have HB3 := Lib.hid (below_al (bel3 HB2.out hb) (.cells #[.int .i64 op, .int .i64 d, .int .i64 s, .int .i64 t, .int .i64 b, .int .i64 x, .int .i64 sc, .int .i64 di, .int .i64 im] 26))
        clear hb HIN
        by_cases hend : an = code.size
        · simp only [if_pos hend] at HA HAI
          subst hend
          unfold tD zI Ins.vs at HAI
          dsimp only at HAI
          go_wp2_with fail
          go_at_call 9
          refine (HA.out _ (dc.tb HG (by assumption))).mono ?_
          rintro e w5 ⟨A, c, rfl, hr, hc, hb⟩
          have HB5 := Lib.hid (bel3 HB3.out hb)
          have HR5 := Lib.hid hr
          have HC5 := Lib.hid hc
          clear hr hc hb HA
          go_wp2_with fail
          go_at_call 12
          refine (HRA.out A c w5 HR5.out HC5.out).mono ?_
          rintro e w6 ⟨rfl, hb⟩
          have HB6 := Lib.hid (bel3 HB5.out hb)
          clear hb HRA HR5 HC5
          have hq := HF3.out
          rw [beq_iff_eq] at hq
          go_wp2_with fail
          go_at_call 8
          refine (HAI.out _ (dc.tb HG (by assumption))).mono ?_
          rintro e w7 ⟨rfl, hb⟩
          have HB7 := Lib.hid (below_al (bel3 HB6.out hb) (.cells #[.int .i64 0, .int .i64 0, .int .i64 0, .int .i64 0, .int .i64 0, .int .i64 0, .int .i64 0, .int .i64 0, .int .i64 0] 26))
          clear hb HAI
          go_wp2_with fail
          go_ret
          exact ⟨rfl, HB7.out⟩
        · simp only [if_neg hend] at HA HAI
          have hne : ((an : Int) == (code.size : Int)) = false := by rw [beq_eq_false_iff_ne]; omega
          unfold tD zI Ins.vs at HAI
          dsimp only at HAI
          go_wp2_with fail
          go_at_call 9
          refine (HA.out _ (dc.tb HG (by assumption))).mono ?_
          rintro e w5 ⟨A, c, rfl, hr, hc, hb⟩
          have HB5 := Lib.hid (bel3 HB3.out hb)
          have HR5 := Lib.hid hr
          have HC5 := Lib.hid hc
          clear hr hc hb HA
          go_wp2_with fail
          go_at_call 12
          refine (HRA.out A c w5 HR5.out HC5.out).mono ?_
          rintro e w6 ⟨rfl, hb⟩
          have HB6 := Lib.hid (bel3 HB5.out hb)
          clear hb HRA HR5 HC5
          have hq := HF3.out
          rw [beq_iff_eq] at hq
          go_wp2_with fail
          go_at_call 8
          refine (HAI.out _ (dc.tb HG (by assumption))).mono ?_
          rintro e w7 ⟨rfl, hb⟩
          have HB7 := Lib.hid (below_al (bel3 HB6.out hb) (.cells #[.int .i64 0, .int .i64 0, .int .i64 0, .int .i64 0, .int .i64 0, .int .i64 0, .int .i64 0, .int .i64 0, .int .i64 0] 26))
          clear hb HAI
          go_wp2_with fail
          go_ret
          exact ⟨rfl, HB7.out⟩
      · rw [if_neg hkl] at HIN
        have HKL := Lib.hid hkl
        clear hkl
        unfold tD zI Ins.vs at HIN
        dsimp only at HIN
        go_wp2_with fail
        go_at_call 16
        refine (HPC.out _).mono ?_
        rintro e w2' ⟨rfl, rfl⟩
        have hkk : ((1 : Int) + (p : Int) == (es.size : Int)) = false := by have := HSZ.out; have := HP9.out; have := HKL.out; rw [beq_eq_false_iff_ne]; omega
        have hkq : (1 : Int) + (p : Int) < (es.size : Int) := by have := HSZ.out; have := HP9.out; have := HKL.out; omega
        have hkz : ¬ ((1 : Int) + (p : Int) = (es.size : Int)) := by have := HSZ.out; have := HP9.out; have := HKL.out; omega
        go_wp2_with fail
        go_at_call 8
        refine (HIN.out _ (dc.tb HG (by assumption))).mono ?_
        rintro e w3 ⟨rfl, hb⟩
        have HB3 := Lib.hid (below_al (bel3 HB2.out hb) (.cells #[.int .i64 0, .int .i64 0, .int .i64 0, .int .i64 0, .int .i64 0, .int .i64 0, .int .i64 0, .int .i64 0, .int .i64 0] 26))
        clear hb HIN
        by_cases hend : an = code.size
        · simp only [if_pos hend] at HA HAI
          subst hend
          unfold tD zI Ins.vs at HAI
          dsimp only at HAI
          go_wp2_with fail
          go_at_call 9
          refine (HA.out _ (dc.tb HG (by assumption))).mono ?_
          rintro e w5 ⟨A, c, rfl, hr, hc, hb⟩
          have HB5 := Lib.hid (bel3 HB3.out hb)
          have HR5 := Lib.hid hr
          have HC5 := Lib.hid hc
          clear hr hc hb HA
          go_wp2_with fail
          go_at_call 12
          refine (HRA.out A c w5 HR5.out HC5.out).mono ?_
          rintro e w6 ⟨rfl, hb⟩
          have HB6 := Lib.hid (bel3 HB5.out hb)
          clear hb HRA HR5 HC5
          have hq := HF3.out
          rw [beq_iff_eq] at hq
          go_wp2_with fail
          go_at_call 8
          refine (HAI.out _ (dc.tb HG (by assumption))).mono ?_
          rintro e w7 ⟨rfl, hb⟩
          have HB7 := Lib.hid (below_al (bel3 HB6.out hb) (.cells #[.int .i64 0, .int .i64 0, .int .i64 0, .int .i64 0, .int .i64 0, .int .i64 0, .int .i64 0, .int .i64 0, .int .i64 0] 26))
          clear hb HAI
          go_wp2_with fail
          go_ret
          exact ⟨rfl, HB7.out⟩
        · simp only [if_neg hend] at HA HAI
          have hne : ((an : Int) == (code.size : Int)) = false := by rw [beq_eq_false_iff_ne]; omega
          unfold tD zI Ins.vs at HAI
          dsimp only at HAI
          go_wp2_with fail
          go_at_call 9
          refine (HA.out _ (dc.tb HG (by assumption))).mono ?_
          rintro e w5 ⟨A, c, rfl, hr, hc, hb⟩
          have HB5 := Lib.hid (bel3 HB3.out hb)
          have HR5 := Lib.hid hr
          have HC5 := Lib.hid hc
          clear hr hc hb HA
          go_wp2_with fail
          go_at_call 12
          refine (HRA.out A c w5 HR5.out HC5.out).mono ?_
          rintro e w6 ⟨rfl, hb⟩
          have HB6 := Lib.hid (bel3 HB5.out hb)
          clear hb HRA HR5 HC5
          have hq := HF3.out
          rw [beq_iff_eq] at hq
          go_wp2_with fail
          go_at_call 8
          refine (HAI.out _ (dc.tb HG (by assumption))).mono ?_
          rintro e w7 ⟨rfl, hb⟩
          have HB7 := Lib.hid (below_al (bel3 HB6.out hb) (.cells #[.int .i64 0, .int .i64 0, .int .i64 0, .int .i64 0, .int .i64 0, .int .i64 0, .int .i64 0, .int .i64 0, .int .i64 0] 26))
          clear hb HAI
          go_wp2_with fail
          go_ret
          exact ⟨rfl, HB7.out⟩
    · clear HCUT HINS HP HPL HLEN HENC
      by_cases hend : an = code.size
      · simp only [if_pos hend] at HA HAI
        subst hend
        unfold tD zI Ins.vs at HAI
        dsimp only at HAI
        go_wp2_with fail
        go_at_call 9
        refine (HA.out _ (dc.tb HG (by assumption))).mono ?_
        rintro e w5 ⟨A, c, rfl, hr, hc, hb⟩
        have HB5 := Lib.hid (bel3 HB2.out hb)
        have HR5 := Lib.hid hr
        have HC5 := Lib.hid hc
        clear hr hc hb HA
        go_wp2_with fail
        go_at_call 12
        refine (HRA.out A c w5 HR5.out HC5.out).mono ?_
        rintro e w6 ⟨rfl, hb⟩
        have HB6 := Lib.hid (bel3 HB5.out hb)
        clear hb HRA HR5 HC5
        have hq := HF3.out
        rw [beq_iff_eq] at hq
        go_wp2_with fail
        go_at_call 8
        refine (HAI.out _ (dc.tb HG (by assumption))).mono ?_
        rintro e w7 ⟨rfl, hb⟩
        have HB7 := Lib.hid (below_al (bel3 HB6.out hb) (.cells #[.int .i64 0, .int .i64 0, .int .i64 0, .int .i64 0, .int .i64 0, .int .i64 0, .int .i64 0, .int .i64 0, .int .i64 0] 26))
        clear hb HAI
        go_wp2_with fail
        go_ret
        exact ⟨rfl, HB7.out⟩
      · simp only [if_neg hend] at HA HAI
        have hne : ((an : Int) == (code.size : Int)) = false := by rw [beq_eq_false_iff_ne]; omega
        unfold tD zI Ins.vs at HAI
        dsimp only at HAI
        go_wp2_with fail
        go_at_call 9
        refine (HA.out _ (dc.tb HG (by assumption))).mono ?_
        rintro e w5 ⟨A, c, rfl, hr, hc, hb⟩
        have HB5 := Lib.hid (bel3 HB2.out hb)
        have HR5 := Lib.hid hr
        have HC5 := Lib.hid hc
        clear hr hc hb HA
        go_wp2_with fail
        go_at_call 12
        refine (HRA.out A c w5 HR5.out HC5.out).mono ?_
        rintro e w6 ⟨rfl, hb⟩
        have HB6 := Lib.hid (bel3 HB5.out hb)
        clear hb HRA HR5 HC5
        have hq := HF3.out
        rw [beq_iff_eq] at hq
        go_wp2_with fail
        go_at_call 8
        refine (HAI.out _ (dc.tb HG (by assumption))).mono ?_
        rintro e w7 ⟨rfl, hb⟩
        have HB7 := Lib.hid (below_al (bel3 HB6.out hb) (.cells #[.int .i64 0, .int .i64 0, .int .i64 0, .int .i64 0, .int .i64 0, .int .i64 0, .int .i64 0, .int .i64 0, .int .i64 0] 26))
        clear hb HAI
        go_wp2_with fail
        go_ret
        exact ⟨rfl, HB7.out⟩
end decodeCut
end Go.Proofs.YtankmamoaajocaaDoor
