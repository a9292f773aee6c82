/- The landed package encode: All, Inst, Size. -/
import Derived.Test.YtblmagcekfbgdaaGreatDoorP5
import Derived.Test.YtblmagcekfbgdaaGreatDoorN0
import Derived.Test.YtblmagcekfbgdaaGreatDoorJ4
namespace Go.Proofs.YtblmagcekfbgdaaGreatDoor
open Go Go.RowKit Go.Sort Go.Maps
namespace Is
open Nt
set_option linter.unusedVariables false
set_option linter.unusedSimpArgs false
set_option maxRecDepth 100000 in
theorem conv7 {w : World} {B : Nat} {v : Value} {xs : List Int} (h : Rw B v xs w) (hb : B8s xs) : (convert 65 9 v).run Tryz.prog w = .ok (.string (strU xs)) w := by
  rcases h.2 with ⟨rfl, h0⟩ | ⟨g, cap, cur, rfl, _⟩
  · obtain rfl : xs = [] := List.eq_nil_of_length_eq_zero h0
    rfl
  · have hl : (toU8 xs).length = xs.length := List.length_map ..
    have h1 := run_convert_bytes_back (P := Tryz.prog) w 65 9 5 ⟨g, 0, none⟩ cap (toU8 xs) Tryz.underlying65 Tryz.underlying5 Tryz.underlying9 (fun j hj => by
      have hj' : j < xs.length := by rw [← hl]; exact hj
      have h2 := World.ownsRow.cells h (g := g) rfl j _ (b8_get hj')
      rw [h2]
      have h3 := hb _ (List.getElem_mem hj')
      have e : (toU8 xs)[j] = UInt8.ofNat (xs[j]'hj').toNat := by simp [toU8]
      rw [e, UInt8.toNat_ofNat']
      congr 2
      omega)
    rw [hl] at h1
    exact h1
set_option maxRecDepth 100000 in
theorem cat_b8 (xs : List Ins) (h : allOk xs = true) : B8s (catU xs) := by
  induction xs with
  | nil => exact B8s.nil
  | cons x xs ih =>
    unfold allOk at h
    simp only [List.all_cons, Bool.and_eq_true] at h
    exact (encl_ok x h.1).1.app (ih h.2)
set_option maxRecDepth 100000 in
theorem ownsMap_below {w w' : World} {b n : Nat} {k : TypeId} {D : DataW Unit} (h : w.ownsMap Tryz.prog k fnElem b n D) (hb : Below w.heap.size w w') : w'.ownsMap Tryz.prog k fnElem b n D := by
  have hlt := h.lt
  obtain ⟨es, clock, h1, F, hs, hD⟩ := h
  exact ⟨es, clock, (hb.block b hlt).trans h1, F, hs, hD⟩
set_option maxRecDepth 100000 in
theorem look_op {w : World} {b : Nat} (h : w.ownsMap Tryz.prog 3 fnElem b 33 formsD) (k : Nat) (h1 : 1 ≤ k) (h2 : k ≤ 33) : (Instr.lookup 66 (.map (some b)) (.int .i64 (k : Int)) false).run Tryz.prog w = .ok (.func (.func (opF k)) #[] #[]) w := by
  have hz : (zeroValue 69).run Tryz.prog w = .ok .nilFunc w := by kernel_rfl
  obtain ⟨v, ps, hrun, hv⟩ := h.lookup keyed_int Tryz.underlying66 hz (zd := .lit (.int .i64 (-1))) (zp := []) rfl (kl := .int .i64 (k : Int)) (keyOf_int_mk Tryz.underlying3 (by simp [Lit.wf, IntKind.min, IntKind.max, IntKind.signed, IntKind.bits]; omega))
  rw [forms_at k h1 h2] at hv
  rw [fnElem_inv hv] at hrun
  exact hrun
set_option maxRecDepth 100000 in
theorem ok_k {i : Ins} (h : okI i = true) : ∃ k : Nat, i.op = (k : Int) ∧ 1 ≤ k ∧ k ≤ 33 := by
  by_cases hr : 1 ≤ i.op ∧ i.op ≤ 33
  · exact ⟨i.op.toNat, by omega, by omega, by omega⟩
  · exfalso
    have hk := okI_iff h
    have e2 : formOf i.op = .no := by
      unfold formOf
      rw [if_neg (by omega), if_neg (by omega), if_neg (by omega), if_neg (by omega), if_neg (by omega), if_neg (by omega), if_neg (by omega), if_neg (by omega), if_neg (by omega), if_neg (by omega), if_neg (by omega)]
    rw [e2] at hk
    exact hk
set_option maxRecDepth 100000 in
set_option maxHeartbeats 8000000 in
theorem all_l (A : Option Addr) (n c : Nat) (is : List Ins) (w : World) (hT : TabE w) (h : RdX w w.heap.size A n is) (hn : n ≤ 400) (hc : n ≤ c) : Calls Tryz.prog 18 #[.slice A n c] w fun e w' => e = .returned (.tuple #[.string (allS is), .int .i64 (allE is)]) ∧ Below w.heap.size w w' := by
  have HR := Lib.hid h
  have HN := Lib.hid hn
  have HF := Lib.hid (fun W => forms_l W)
  have HT0 := Lib.hid hT
  have HG0 : Hid (G3 w.heap.size) := Lib.hid ⟨hT.inst.lt, hT.lt, hT.tlt⟩
  clear h hn hT
  go_enter Tryz.func18, Tryz.ntmps18
  go_wp2_with fail
  go_at_call 34
  refine (HF.out _).mono ?_
  rintro e w1 ⟨rfl, hown, hlt1, hb1⟩
  have HM1 := Lib.hid hown
  have HB1 := Lib.hid hb1
  have HL1 := Lib.hid hlt1
  have HG1 : Hid (G3 w1.heap.size) := Lib.hid ⟨Nat.lt_of_lt_of_le HG0.out.forms hb1.size, Nat.lt_of_lt_of_le HG0.out.own hb1.size, Nat.lt_of_lt_of_le HG0.out.tz hb1.size⟩
  have HT1 := Lib.hid (HT0.out.keep hb1)
  clear hown hb1 hlt1 HF
  go_wp2_with fail
  go_loopw [4, 12] (fun v i W => ∃ (j : Nat), j ≤ n ∧ i = .int .i64 (j : Int) ∧ Hid (Rw w1.heap.size v (catU (is.take j)) W) ∧ Hid (allOk (is.take j) = true) ∧ Hid (Below w1.heap.size w1 W)) (fun _ i _ => n - (intOf i).toNat)
  case atStart => exact ⟨0, by omega, rfl, Lib.hid (World.ownsRow_nil _ _ _ _), Lib.hid rfl, Lib.hid (Below.refl _ _)⟩
  case round =>
    obtain ⟨j, hj, rfl, HO, HK, HW⟩ := hrel
    obtain ⟨A1, c1, rfl⟩ := slice_of HO.out
    rcases Nat.lt_or_ge j n with hjn | hjn
    · have e1 : (j : Int) < (n : Int) := by omega
      have hn40 : (n : Int) ≤ 400 := by have := HN.out; omega
      have hj40 : (j : Int) < 401 := by omega
      have e0 : (0 : Int) ≤ (j : Int) := by omega
      obtain ⟨ad, rfl, hB, hrd⟩ := HR.out.rd (by omega)
      have hil : j < is.length := by rw [HR.out.len]; exact hjn
      obtain ⟨i, hi⟩ : ∃ i, is[j]? = some i := ⟨_, List.getElem?_eq_getElem hil⟩
      have hwf : i.wf := HR.out.oks i (List.mem_of_getElem? hi)
      have HBW : Hid (Below w.heap.size w wr) := Lib.hid (HB1.out.trans (HW.out.mono HB1.out.size))
      have hbb : (ad.add (j * 9)).block < w.heap.size := by rw [Nt.block_add]; exact hB
      obtain ⟨g0, g1, g2, g3, g4, g5, g6, g7, g8⟩ := hrd j i hi
      have k0 := (HBW.out.cell hbb).trans g0
      have k1 := (HBW.out.cell (p := ⟨(ad.add (j * 9)).block, (ad.add (j * 9)).off + 1, none⟩) hbb).trans g1
      have k2 := (HBW.out.cell (p := ⟨(ad.add (j * 9)).block, (ad.add (j * 9)).off + 2, none⟩) hbb).trans g2
      have k3 := (HBW.out.cell (p := ⟨(ad.add (j * 9)).block, (ad.add (j * 9)).off + 3, none⟩) hbb).trans g3
      have k4 := (HBW.out.cell (p := ⟨(ad.add (j * 9)).block, (ad.add (j * 9)).off + 4, none⟩) hbb).trans g4
      have k5 := (HBW.out.cell (p := ⟨(ad.add (j * 9)).block, (ad.add (j * 9)).off + 5, none⟩) hbb).trans g5
      have k6 := (HBW.out.cell (p := ⟨(ad.add (j * 9)).block, (ad.add (j * 9)).off + 6, none⟩) hbb).trans g6
      have k7 := (HBW.out.cell (p := ⟨(ad.add (j * 9)).block, (ad.add (j * 9)).off + 7, none⟩) hbb).trans g7
      have k8 := (HBW.out.cell (p := ⟨(ad.add (j * 9)).block, (ad.add (j * 9)).off + 8, none⟩) hbb).trans g8
      have HC := Lib.hid (fun W hT => check_l i hwf W hT)
      have HSN := Lib.hid (take_snoc hi)
      have HJN := Lib.hid hjn
      have HIS := Lib.hid hi
      have HTW := Lib.hid (HT1.out.keep HW.out)
      have HMW := Lib.hid (ownsMap_below HM1.out HW.out)
      have HKK := Lib.hid (show Kp wr (.slice A1 (catU (is.take j)).length c1) wr (.slice A1 (catU (is.take j)).length c1) from Kp.refl _ _)
      have HLN : Hid ((catU (is.take j)).length ≤ 800000) := Lib.hid (by
        have h1 := cat_len _ HK.out
        have h3 : (is.take j).length ≤ j := List.length_take_le j is
        have := HN.out
        omega)
      clear g0 g1 g2 g3 g4 g5 g6 g7 g8 hrd hil hB hjn hi hwf
      have HB0 := Lib.hid (HW.out.alloc HW.out.size (.cells i.vs 26))
      have HI0 := Lib.hid (Bk.new wr 26 i.vs)
      have HLE := Lib.hid ((Below.refl wr.heap.size wr).alloc (Nat.le_refl _) (.cells i.vs 26))
      have HO0 := Lib.hid (own_keep HO.out HLE.out)
      have HT0 := Lib.hid (HTW.out.keep HLE.out)
      have HM0 := Lib.hid (ownsMap_below HMW.out HLE.out)
      have hsz0 : w1.heap.size ≤ (wr.alloc (.cells i.vs 26)).heap.size := Nat.le_trans HW.out.size HLE.out.size
      have HSZ := Lib.hid hsz0
      clear HLE hsz0 HTW HMW HKK
      rcases chk_01 i with ⟨hk, he⟩ | ⟨hk, he⟩
      · obtain ⟨k, hik, h1, h33⟩ := ok_k hk
        have HOP := Lib.hid (fun (W : World) (v : Value) hT hG (ho : Rw w1.heap.size v (catU (is.take j)) W) hl hB => (op_l i k hik hk hT hG ho hl hB).2.2)
        have HLK := Lib.hid (fun (W : World) (h : W.ownsMap Tryz.prog 3 fnElem w.heap.size 33 formsD) => look_op h k h1 h33)
        have heg := enters_op k h1 h33
        have HO2 : Hid (catU (is.take (j + 1)) = catU (is.take j) ++ encL i) := Lib.hid (by rw [HSN.out, cat_snoc])
        have HK2 : Hid (allOk (is.take (j + 1)) = true) := Lib.hid (by rw [HSN.out, allOk_snoc, HK.out, hk]; rfl)
        rw [he] at HC
        clear hk he h1 h33 HSN HIS HO
        generalize opF k = fk at *
        generalize catU (is.take j) = xs at *
        generalize encL i = ys at *
        obtain ⟨op, d, s, t, b, x, sc, di, im⟩ := i
        dsimp only at hik
        subst hik
        unfold Ins.vs at *
        dsimp only at *
        go_wp2_with fail
        go_at_call 35
        refine (HC.out _ HT0.out.inst).mono ?_
        rintro e w2 ⟨rfl, hg2⟩
        have hb2 := hg2.below
        have HI2 := Lib.hid (HI0.out.below hb2 HI0.out.lt)
        have HO5 := Lib.hid (own_keep HO0.out hb2)
        have HT2 := Lib.hid (HT0.out.keep hb2)
        have hrun := HLK.out w2 (ownsMap_below HM0.out hb2)
        have HB2 := Lib.hid (HB0.out.trans (hb2.mono HSZ.out))
        have HSZ2 := Lib.hid (Nat.le_trans HSZ.out hb2.size)
        clear hg2 hb2 k0 k1 k2 k3 k4 k5 k6 k7 k8 HB0 HI0 HO0 HT0 HM0 HSZ HLK HC
        obtain ⟨a0, a1, a2, a3, a4, a5, a6, a7, a8⟩ := c9 HI2.out
        go_wp2_with fail
        refine (HOP.out w2 _ HT2.out HG1.out HO5.out HLN.out HSZ2.out).mono ?_
        rintro e w3 ⟨v3, rfl, o3, k3⟩
        have HO3 : Hid (Rw w1.heap.size v3 (catU (is.take (j + 1))) w3) := Lib.hid (by rw [HO2.out]; exact o3)
        have HB3 : Hid (Below w1.heap.size w1 w3) := Lib.hid (HB2.out.trans (k3.below HSZ2.out (fun g hg => (own_lt HO5.out g hg).1)))
        clear o3 k3 a0 a1 a2 a3 a4 a5 a6 a7 a8 hrun heg
        go_wp2_with fail
        go_roundw
        case rel => exact ⟨j + 1, by have := HJN.out; omega, by (try simp (disch := omega) only [IntWalk.wrap64_in]); go_num, HO3, HK2, HB3⟩
        case measure => (have := HJN.out; (try simp (disch := omega) only [IntWalk.wrap64_in] at *); simp [intOf] <;> omega)
      · have HF := Lib.hid (all_out HIS.out hk)
        rw [he] at HC
        clear hk he HSN HIS HO
        obtain ⟨op, d, s, t, b, x, sc, di, im⟩ := i
        unfold Ins.vs at *
        dsimp only at *
        go_wp2_with fail
        go_at_call 35
        refine (HC.out _ HT0.out.inst).mono ?_
        rintro e w2 ⟨rfl, hg2⟩
        have HB2 := Lib.hid (HB0.out.trans (hg2.below.mono HSZ.out))
        clear hg2 k0 k1 k2 k3 k4 k5 k6 k7 k8
        go_wp2_with fail
        go_ret2
        exact ⟨by unfold allS allE; rw [HF.out]; rfl, HB1.out.trans (HB2.out.mono HB1.out.size)⟩
    · obtain rfl : j = n := by omega
      have ht : is.take j = is := List.take_of_length_le (by rw [HR.out.len]; exact Nat.le_refl _)
      rw [ht] at HO HK
      have hcv := conv7 HO.out (cat_b8 _ HK.out)
      go_wp2_with fail
      go_ret2
      exact ⟨by unfold allS allE; rw [HK.out]; rfl, HB1.out.trans (HW.out.mono HB1.out.size)⟩
set_option maxRecDepth 100000 in
theorem one_all (i : Ins) : allS [i] = encS i ∧ allE [i] = chk i := by
  have h : allOk [i] = okI i := by simp [allOk]
  have hc : catU [i] = encL i := by simp [catU]
  unfold allS allE encS chk
  rw [h, hc]
  exact ⟨rfl, rfl⟩
set_option maxRecDepth 100000 in
theorem one_rd {w : World} {g : Nat} {i : Ins} (h : Bk w g 26 i.vs) (hi : i.wf) : RdX w w.heap.size (some ⟨g, 0, none⟩) 1 [i] := by
  refine ⟨rfl, fun j hj => ?_, fun _ => ⟨_, rfl, h.lt, fun j x hj => ?_⟩⟩
  · simp at hj; subst hj; exact hi
  · rcases j with _ | j
    · simp at hj
      subst hj
      exact ⟨h.cell 0, h.cell 1, h.cell 2, h.cell 3, h.cell 4, h.cell 5, h.cell 6, h.cell 7, h.cell 8⟩
    · simp at hj
set_option maxRecDepth 100000 in
set_option maxHeartbeats 4000000 in
theorem inst_l (i : Ins) (w : World) (hT : TabE w) (hi : i.wf) : Calls Tryz.prog 13 #[.agg i.vs] w fun e w' => e = .returned (.tuple #[.string (encS i), .int .i64 (chk i)]) ∧ Below w.heap.size w w' := by
  have HA := Lib.hid (fun (W : World) (g : Nat) (hT : TabE W) (h : Bk W g 26 i.vs) => all_l (some ⟨g, 0, none⟩) 1 1 [i] W hT (one_rd h hi) (by decide) (by decide))
  have HB0 := Lib.hid (((Below.refl w.heap.size w).alloc (Nat.le_refl _) (.cells i.vs 26)).alloc (by simp) (.cells i.vs 26))
  have HI0 := Lib.hid (Bk.new w 26 i.vs)
  have HI1 := Lib.hid (Bk.new' (w := w.alloc (.cells i.vs 26)) (t := 26) (cs := i.vs) (g := w.heap.size + 1) (by simp))
  have HT1 := Lib.hid (hT.keep HB0.out)
  rw [(one_all i).1, (one_all i).2] at HA
  clear hT hi
  generalize encS i = z1 at *
  generalize chk i = z2 at *
  obtain ⟨op, d, s, t, b, x, sc, di, im⟩ := i
  unfold Ins.vs at *
  dsimp only at *
  obtain ⟨a0, a1, a2, a3, a4, a5, a6, a7, a8⟩ := c9 HI0.out
  go_enter Tryz.func13, Tryz.ntmps13
  go_wp2_with fail
  go_at_call 18
  refine (HA.out _ _ HT1.out HI1.out).mono ?_
  rintro e w2 ⟨rfl, hb2⟩
  have HB2 : Hid (Below w.heap.size w w2) := Lib.hid (HB0.out.trans (hb2.mono HB0.out.size))
  clear a0 a1 a2 a3 a4 a5 a6 a7 a8 hb2
  go_wp2_with fail
  go_ret2
  exact ⟨rfl, HB2.out⟩
end Is
end Go.Proofs.YtblmagcekfbgdaaGreatDoor
