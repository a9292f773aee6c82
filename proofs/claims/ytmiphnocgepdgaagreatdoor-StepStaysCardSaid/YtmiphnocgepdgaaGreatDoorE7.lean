/- The document's own Writes, case by case. | The document's own Writes, case by case. -/
import Derived.Test.YtmiphnocgepdgaaGreatDoorE0
import Derived.Deep.Cut
namespace Go.Proofs.YtmiphnocgepdgaaGreatDoor
open Go Go.RowKit
namespace Is
open Nt
set_option linter.unusedVariables false
set_option linter.unusedSimpArgs false
set_option maxRecDepth 100000 in
set_option maxHeartbeats 4000000 in
theorem writes_ds (i : Ins) (hok : okI i = true) (hop : i.op = 1 ∨ (6 ≤ i.op ∧ i.op ≤ 12) ∨ i.op = 20 ∨ i.op = 21 ∨ i.op = 26 ∨ i.op = 27) (w : World) : Calls Tryz.prog 23 #[.agg i.vs] w (RowP (wrL i) w) := by
  obtain ⟨op, d, s, t, b, x, sc, di, im⟩ := i
  dsimp only at hop
  have hf : formOf (op) = .ds := by
    unfold formOf
    first | rfl | (simp; omega) | (repeat (first | rw [if_pos (by omega)] | rw [if_neg (by omega)]))
  have hk := hok
  unfold okI at hk
  dsimp only at hk
  rw [hf] at hk
  simp only [okF, Bool.and_eq_true] at hk
  have hchk : chk ⟨op, d, s, t, b, x, sc, di, im⟩ = 0 := by unfold chk; rw [hok]; rfl
  have kd := reg_nat hk.1.1.1.1
  obtain ⟨nd, rfl, ld⟩ := kd
  obtain ⟨pf, hpf⟩ : ∃ pf : Int → Bool, pf = fun z => (false || decide (z = (nd : Int))) := ⟨_, rfl⟩
  have hL : wrL ⟨op, (nd : Int), s, t, b, x, sc, di, im⟩ = regK pf 16 := by
    unfold wrL
    rw [if_pos hok]
    show List.filter _ _ = List.filter _ _
    congr 1
    funext z
    dsimp only
    rw [hf, hpf]
    have m13 : ¬ (op = 13) := by omega
    have m14 : ¬ (op = 14) := by omega
    have m18 : ¬ (op = 18) := by omega
    have m29 : ¬ (op = 29) := by omega
    first | rfl | simp [wrF, m13, m14, m18, m29]
  rw [hL]
  have HF : Hid (∀ W, Calls Tryz.prog 45 #[.int .i64 op] W fun e w' => e = .returned (.string ⟨#[68, 83]⟩) ∧ w' = W) := Lib.hid (fun W => by have h1 := form_c (op) W; rw [hf] at h1; exact h1)
  have HH : Hid (∀ c W, Calls Tryz.prog 44 #[.string ⟨#[68, 83]⟩, .int .u8 c] W fun e w' => e = .returned (.bool (hasB ⟨#[68, 83]⟩ c)) ∧ w' = W) := Lib.hid (fun c W => has_c ⟨#[68, 83]⟩ c W (by decide))
  have h68 : hasB ⟨#[68, 83]⟩ 68 = true := by decide
  have HC : Hid (∀ W, Calls Tryz.prog 28 #[.agg (Ins.vs ⟨op, (nd : Int), s, t, b, x, sc, di, im⟩)] W fun e w' => e = .returned (.int .i64 0) ∧ Below W.heap.size W w') := Lib.hid (fun W => by have h1 := check_r ⟨op, (nd : Int), s, t, b, x, sc, di, im⟩ W; rw [hchk] at h1; exact h1)
  have HRI : Hid (∀ W, Calls Tryz.prog 52 #[.agg #[.bool (pf 0), .bool (pf 1), .bool (pf 2), .bool (pf 3), .bool (pf 4), .bool (pf 5), .bool (pf 6), .bool (pf 7), .bool (pf 8), .bool (pf 9), .bool (pf 10), .bool (pf 11), .bool (pf 12), .bool (pf 13), .bool (pf 14), .bool (pf 15)]] W (RowP (regK pf 16) W)) := Lib.hid (fun W => rising_r pf W)
  have z13 : (op == 13) = false := by rw [beq_eq_false_iff_ne]; omega
  have y13 : (op != 13) = true := by rw [bne, z13]; rfl
  have z14 : (op == 14) = false := by rw [beq_eq_false_iff_ne]; omega
  have y14 : (op != 14) = true := by rw [bne, z14]; rfl
  have z18 : (op == 18) = false := by rw [beq_eq_false_iff_ne]; omega
  have y18 : (op != 18) = true := by rw [bne, z18]; rfl
  have z19 : (op == 19) = false := by rw [beq_eq_false_iff_ne]; omega
  have y19 : (op != 19) = true := by rw [bne, z19]; rfl
  have z28 : (op == 28) = false := by rw [beq_eq_false_iff_ne]; omega
  have y28 : (op != 28) = true := by rw [bne, z28]; rfl
  have z29 : (op == 29) = false := by rw [beq_eq_false_iff_ne]; omega
  have y29 : (op != 29) = true := by rw [bne, z29]; rfl
  have z33 : (op == 33) = false := by rw [beq_eq_false_iff_ne]; omega
  have y33 : (op != 33) = true := by rw [bne, z33]; rfl
  have HPF := Lib.hid hpf
  have td : ((nd : Nat) : Int).toNat = nd := by omega
  have ud : (0 : Int) ≤ ((nd : Nat) : Int) := by omega
  have vd : ((nd : Nat) : Int) < 16 := by omega
  unfold Ins.vs at *
  dsimp only
  clear hf hk hchk hL hok hpf
  go_enter Tryz.func23, Tryz.ntmps23
  go_wp2_with fail
  go_at_call 28
  refine (HC.out _).mono ?_
  rintro e w1 ⟨rfl, hb1⟩
  have hI1 : Bk w1 w.heap.size 37 #[.int .i64 op, .int .i64 (nd : Int), .int .i64 s, .int .i64 t, .int .i64 b, .int .i64 x, .int .i64 sc, .int .i64 di, .int .i64 im] := (Bk.new w _ _).below hb1 (by simp)
  have hB1 : Below w.heap.size w w1 := ((Below.refl _ w).alloc (Nat.le_refl _) _).trans (hb1.mono (by simp))
  have hl1 : w.heap.size < w1.heap.size := hI1.lt
  have HI1 := Lib.hid hI1
  have HB1 := Lib.hid hB1
  have cop1 : w1.cell? ⟨w.heap.size, 0, none⟩ = some (.int .i64 op) := hI1.cell 0
  have cd1 : w1.cell? ⟨w.heap.size, 1, none⟩ = some (.int .i64 (nd : Int)) := hI1.cell 1
  clear hI1 hB1 hb1
  go_wp2_with fail
  go_at_call 45
  refine (HF.out _).mono ?_
  rintro e w2 ⟨rfl, hw2⟩
  have hI2 : Bk w2 w.heap.size 37 #[.int .i64 op, .int .i64 (nd : Int), .int .i64 s, .int .i64 t, .int .i64 b, .int .i64 x, .int .i64 sc, .int .i64 di, .int .i64 im] := by rw [hw2]; exact HI1.out.alloc _
  have hL2 : Bk w2 w1.heap.size 92 (tab fun _ => false) := by rw [hw2]; exact Bk.new _ _ _
  have hB2 : Below w.heap.size w w2 := by rw [hw2]; exact HB1.out.alloc HB1.out.size _
  have HI := Lib.hid hI2
  have HL := Lib.hid hL2
  have HB := Lib.hid hB2
  have cop2 : w2.cell? ⟨w.heap.size, 0, none⟩ = some (.int .i64 op) := hI2.cell 0
  have cd2 : w2.cell? ⟨w.heap.size, 1, none⟩ = some (.int .i64 (nd : Int)) := hI2.cell 1
  clear hI2 hL2 hB2 hw2
  go_wp2_with fail
  go_at_call 44
  refine (HH.out _ _).mono ?_
  simp only [h68]
  rintro e w3 ⟨rfl, hw3⟩
  have HI3 := Lib.hid (show Bk w3 w.heap.size 37 #[.int .i64 op, .int .i64 (nd : Int), .int .i64 s, .int .i64 t, .int .i64 b, .int .i64 x, .int .i64 sc, .int .i64 di, .int .i64 im] by rw [hw3]; exact HI.out)
  have HL3 := Lib.hid (show Bk w3 w1.heap.size 92 (tab (fun _ => false)) by rw [hw3]; exact HL.out)
  have HB3 := Lib.hid (show Below w.heap.size w w3 by rw [hw3]; exact HB.out)
  clear hw3 HI HL HB
  have HI := HI3
  have HL := HL3
  have HB := HB3
  clear HI3 HL3 HB3
  have cop3 : w3.cell? ⟨w.heap.size, 0, none⟩ = some (.int .i64 op) := HI.out.cell 0
  have cd3 : w3.cell? ⟨w.heap.size, 1, none⟩ = some (.int .i64 (nd : Int)) := HI.out.cell 1
  have cl03 : w3.cell? ⟨w1.heap.size, nd, none⟩ = some (.bool _) := ((HL.out).cell _).trans (tab_get _ (by omega))
  have fl03 : w3.frozen? ⟨w1.heap.size, nd, none⟩ = false := (HL.out).frozen _
  have ccd13 : (w3.setCell ⟨w1.heap.size, nd, none⟩ (.bool true)).cell? ⟨w.heap.size, 1, none⟩ = some (.int .i64 (nd : Int)) := ((HI.out).far (p := ⟨w1.heap.size, nd, none⟩) (Nat.ne_of_lt hl1) (.bool true)).cell 1
  have ccop13 : (w3.setCell ⟨w1.heap.size, nd, none⟩ (.bool true)).cell? ⟨w.heap.size, 0, none⟩ = some (.int .i64 op) := ((HI.out).far (p := ⟨w1.heap.size, nd, none⟩) (Nat.ne_of_lt hl1) (.bool true)).cell 0
  go_upto_region 11 with fail
  obtain ⟨wf, hwf⟩ : ∃ wf, wf = (w3.setCell ⟨w1.heap.size, nd, none⟩ (.bool true)) := ⟨_, rfl⟩
  try rw [← hwf]
  have hlf : Bk wf w1.heap.size 92 (tab pf) := by rw [hwf, HPF.out]; exact tab_put (HL.out) ld
  have hbf : Below w.heap.size w wf := by rw [hwf]; exact (HB.out).setCell (p := ⟨w1.heap.size, nd, none⟩) (Nat.le_of_lt hl1) _
  have q0 : wf.cell? ⟨w1.heap.size, 0, none⟩ = some (.bool (pf 0)) := (hlf.cell 0).trans (tab_get pf (by decide))
  have q1 : wf.cell? ⟨w1.heap.size, 1, none⟩ = some (.bool (pf 1)) := (hlf.cell 1).trans (tab_get pf (by decide))
  have q2 : wf.cell? ⟨w1.heap.size, 2, none⟩ = some (.bool (pf 2)) := (hlf.cell 2).trans (tab_get pf (by decide))
  have q3 : wf.cell? ⟨w1.heap.size, 3, none⟩ = some (.bool (pf 3)) := (hlf.cell 3).trans (tab_get pf (by decide))
  have q4 : wf.cell? ⟨w1.heap.size, 4, none⟩ = some (.bool (pf 4)) := (hlf.cell 4).trans (tab_get pf (by decide))
  have q5 : wf.cell? ⟨w1.heap.size, 5, none⟩ = some (.bool (pf 5)) := (hlf.cell 5).trans (tab_get pf (by decide))
  have q6 : wf.cell? ⟨w1.heap.size, 6, none⟩ = some (.bool (pf 6)) := (hlf.cell 6).trans (tab_get pf (by decide))
  have q7 : wf.cell? ⟨w1.heap.size, 7, none⟩ = some (.bool (pf 7)) := (hlf.cell 7).trans (tab_get pf (by decide))
  have q8 : wf.cell? ⟨w1.heap.size, 8, none⟩ = some (.bool (pf 8)) := (hlf.cell 8).trans (tab_get pf (by decide))
  have q9 : wf.cell? ⟨w1.heap.size, 9, none⟩ = some (.bool (pf 9)) := (hlf.cell 9).trans (tab_get pf (by decide))
  have q10 : wf.cell? ⟨w1.heap.size, 10, none⟩ = some (.bool (pf 10)) := (hlf.cell 10).trans (tab_get pf (by decide))
  have q11 : wf.cell? ⟨w1.heap.size, 11, none⟩ = some (.bool (pf 11)) := (hlf.cell 11).trans (tab_get pf (by decide))
  have q12 : wf.cell? ⟨w1.heap.size, 12, none⟩ = some (.bool (pf 12)) := (hlf.cell 12).trans (tab_get pf (by decide))
  have q13 : wf.cell? ⟨w1.heap.size, 13, none⟩ = some (.bool (pf 13)) := (hlf.cell 13).trans (tab_get pf (by decide))
  have q14 : wf.cell? ⟨w1.heap.size, 14, none⟩ = some (.bool (pf 14)) := (hlf.cell 14).trans (tab_get pf (by decide))
  have q15 : wf.cell? ⟨w1.heap.size, 15, none⟩ = some (.bool (pf 15)) := (hlf.cell 15).trans (tab_get pf (by decide))
  have HBF := Lib.hid hbf
  clear hlf hbf hwf
  go_wp2_with fail
  go_at_call 52
  refine (HRI.out _).mono ?_
  rintro e w9 ⟨v, rfl, ho, hb9⟩
  have HO := Lib.hid ho
  have HB9 := Lib.hid hb9
  clear ho hb9
  go_wp2_with fail
  go_ret
  exact ⟨v, rfl, ownsRow_base HO.out HBF.out.size, HBF.out.trans (HB9.out.mono HBF.out.size)⟩
set_option maxRecDepth 100000 in
set_option maxHeartbeats 4000000 in
theorem writes_ds13 (i : Ins) (hok : okI i = true) (hop : i.op = 13) (w : World) : Calls Tryz.prog 23 #[.agg i.vs] w (RowP (wrL i) w) := by
  obtain ⟨op, d, s, t, b, x, sc, di, im⟩ := i
  dsimp only at hop
  subst hop
  have hf : formOf (13) = .ds := by
    unfold formOf
    first | rfl | (simp; omega) | (repeat (first | rw [if_pos (by omega)] | rw [if_neg (by omega)]))
  have hk := hok
  unfold okI at hk
  dsimp only at hk
  rw [hf] at hk
  simp only [okF, Bool.and_eq_true] at hk
  have hchk : chk ⟨13, d, s, t, b, x, sc, di, im⟩ = 0 := by unfold chk; rw [hok]; rfl
  obtain ⟨pf, hpf⟩ : ∃ pf : Int → Bool, pf = fun z => false := ⟨_, rfl⟩
  have hL : wrL ⟨13, d, s, t, b, x, sc, di, im⟩ = regK pf 16 := by
    unfold wrL
    rw [if_pos hok]
    show List.filter _ _ = List.filter _ _
    congr 1
    funext z
    dsimp only
    rw [hf, hpf]
    first | rfl | simp [wrF]
  rw [hL]
  have HF : Hid (∀ W, Calls Tryz.prog 45 #[.int .i64 13] W fun e w' => e = .returned (.string ⟨#[68, 83]⟩) ∧ w' = W) := Lib.hid (fun W => by have h1 := form_c (13) W; rw [hf] at h1; exact h1)
  have HH : Hid (∀ c W, Calls Tryz.prog 44 #[.string ⟨#[68, 83]⟩, .int .u8 c] W fun e w' => e = .returned (.bool (hasB ⟨#[68, 83]⟩ c)) ∧ w' = W) := Lib.hid (fun c W => has_c ⟨#[68, 83]⟩ c W (by decide))
  have h68 : hasB ⟨#[68, 83]⟩ 68 = true := by decide
  have HC : Hid (∀ W, Calls Tryz.prog 28 #[.agg (Ins.vs ⟨13, d, s, t, b, x, sc, di, im⟩)] W fun e w' => e = .returned (.int .i64 0) ∧ Below W.heap.size W w') := Lib.hid (fun W => by have h1 := check_r ⟨13, d, s, t, b, x, sc, di, im⟩ W; rw [hchk] at h1; exact h1)
  have HRI : Hid (∀ W, Calls Tryz.prog 52 #[.agg #[.bool (pf 0), .bool (pf 1), .bool (pf 2), .bool (pf 3), .bool (pf 4), .bool (pf 5), .bool (pf 6), .bool (pf 7), .bool (pf 8), .bool (pf 9), .bool (pf 10), .bool (pf 11), .bool (pf 12), .bool (pf 13), .bool (pf 14), .bool (pf 15)]] W (RowP (regK pf 16) W)) := Lib.hid (fun W => rising_r pf W)
  have HPF := Lib.hid hpf
  unfold Ins.vs at *
  dsimp only
  clear hf hk hchk hL hok hpf
  go_enter Tryz.func23, Tryz.ntmps23
  go_wp2_with fail
  go_at_call 28
  refine (HC.out _).mono ?_
  rintro e w1 ⟨rfl, hb1⟩
  have hI1 : Bk w1 w.heap.size 37 #[.int .i64 13, .int .i64 d, .int .i64 s, .int .i64 t, .int .i64 b, .int .i64 x, .int .i64 sc, .int .i64 di, .int .i64 im] := (Bk.new w _ _).below hb1 (by simp)
  have hB1 : Below w.heap.size w w1 := ((Below.refl _ w).alloc (Nat.le_refl _) _).trans (hb1.mono (by simp))
  have hl1 : w.heap.size < w1.heap.size := hI1.lt
  have HI1 := Lib.hid hI1
  have HB1 := Lib.hid hB1
  have cop1 : w1.cell? ⟨w.heap.size, 0, none⟩ = some (.int .i64 13) := hI1.cell 0
  clear hI1 hB1 hb1
  go_wp2_with fail
  go_at_call 45
  refine (HF.out _).mono ?_
  rintro e w2 ⟨rfl, hw2⟩
  have hI2 : Bk w2 w.heap.size 37 #[.int .i64 13, .int .i64 d, .int .i64 s, .int .i64 t, .int .i64 b, .int .i64 x, .int .i64 sc, .int .i64 di, .int .i64 im] := by rw [hw2]; exact HI1.out.alloc _
  have hL2 : Bk w2 w1.heap.size 92 (tab fun _ => false) := by rw [hw2]; exact Bk.new _ _ _
  have hB2 : Below w.heap.size w w2 := by rw [hw2]; exact HB1.out.alloc HB1.out.size _
  have HI := Lib.hid hI2
  have HL := Lib.hid hL2
  have HB := Lib.hid hB2
  have cop2 : w2.cell? ⟨w.heap.size, 0, none⟩ = some (.int .i64 13) := hI2.cell 0
  clear hI2 hL2 hB2 hw2
  go_wp2_with fail
  go_at_call 44
  refine (HH.out _ _).mono ?_
  simp only [h68]
  rintro e w3 ⟨rfl, hw3⟩
  have HI3 := Lib.hid (show Bk w3 w.heap.size 37 #[.int .i64 13, .int .i64 d, .int .i64 s, .int .i64 t, .int .i64 b, .int .i64 x, .int .i64 sc, .int .i64 di, .int .i64 im] by rw [hw3]; exact HI.out)
  have HL3 := Lib.hid (show Bk w3 w1.heap.size 92 (tab (fun _ => false)) by rw [hw3]; exact HL.out)
  have HB3 := Lib.hid (show Below w.heap.size w w3 by rw [hw3]; exact HB.out)
  clear hw3 HI HL HB
  have HI := HI3
  have HL := HL3
  have HB := HB3
  clear HI3 HL3 HB3
  have cop3 : w3.cell? ⟨w.heap.size, 0, none⟩ = some (.int .i64 13) := HI.out.cell 0
  go_upto_region 11 with fail
  obtain ⟨wf, hwf⟩ : ∃ wf, wf = w3 := ⟨_, rfl⟩
  try rw [← hwf]
  have hlf : Bk wf w1.heap.size 92 (tab pf) := by rw [hwf, HPF.out]; exact HL.out
  have hbf : Below w.heap.size w wf := by rw [hwf]; exact HB.out
  have q0 : wf.cell? ⟨w1.heap.size, 0, none⟩ = some (.bool (pf 0)) := (hlf.cell 0).trans (tab_get pf (by decide))
  have q1 : wf.cell? ⟨w1.heap.size, 1, none⟩ = some (.bool (pf 1)) := (hlf.cell 1).trans (tab_get pf (by decide))
  have q2 : wf.cell? ⟨w1.heap.size, 2, none⟩ = some (.bool (pf 2)) := (hlf.cell 2).trans (tab_get pf (by decide))
  have q3 : wf.cell? ⟨w1.heap.size, 3, none⟩ = some (.bool (pf 3)) := (hlf.cell 3).trans (tab_get pf (by decide))
  have q4 : wf.cell? ⟨w1.heap.size, 4, none⟩ = some (.bool (pf 4)) := (hlf.cell 4).trans (tab_get pf (by decide))
  have q5 : wf.cell? ⟨w1.heap.size, 5, none⟩ = some (.bool (pf 5)) := (hlf.cell 5).trans (tab_get pf (by decide))
  have q6 : wf.cell? ⟨w1.heap.size, 6, none⟩ = some (.bool (pf 6)) := (hlf.cell 6).trans (tab_get pf (by decide))
  have q7 : wf.cell? ⟨w1.heap.size, 7, none⟩ = some (.bool (pf 7)) := (hlf.cell 7).trans (tab_get pf (by decide))
  have q8 : wf.cell? ⟨w1.heap.size, 8, none⟩ = some (.bool (pf 8)) := (hlf.cell 8).trans (tab_get pf (by decide))
  have q9 : wf.cell? ⟨w1.heap.size, 9, none⟩ = some (.bool (pf 9)) := (hlf.cell 9).trans (tab_get pf (by decide))
  have q10 : wf.cell? ⟨w1.heap.size, 10, none⟩ = some (.bool (pf 10)) := (hlf.cell 10).trans (tab_get pf (by decide))
  have q11 : wf.cell? ⟨w1.heap.size, 11, none⟩ = some (.bool (pf 11)) := (hlf.cell 11).trans (tab_get pf (by decide))
  have q12 : wf.cell? ⟨w1.heap.size, 12, none⟩ = some (.bool (pf 12)) := (hlf.cell 12).trans (tab_get pf (by decide))
  have q13 : wf.cell? ⟨w1.heap.size, 13, none⟩ = some (.bool (pf 13)) := (hlf.cell 13).trans (tab_get pf (by decide))
  have q14 : wf.cell? ⟨w1.heap.size, 14, none⟩ = some (.bool (pf 14)) := (hlf.cell 14).trans (tab_get pf (by decide))
  have q15 : wf.cell? ⟨w1.heap.size, 15, none⟩ = some (.bool (pf 15)) := (hlf.cell 15).trans (tab_get pf (by decide))
  have HBF := Lib.hid hbf
  clear hlf hbf hwf
  go_wp2_with fail
  go_at_call 52
  refine (HRI.out _).mono ?_
  rintro e w9 ⟨v, rfl, ho, hb9⟩
  have HO := Lib.hid ho
  have HB9 := Lib.hid hb9
  clear ho hb9
  go_wp2_with fail
  go_ret
  exact ⟨v, rfl, ownsRow_base HO.out HBF.out.size, HBF.out.trans (HB9.out.mono HBF.out.size)⟩
set_option maxRecDepth 100000 in
set_option maxHeartbeats 4000000 in
theorem writes_ds14 (i : Ins) (hok : okI i = true) (hop : i.op = 14) (w : World) : Calls Tryz.prog 23 #[.agg i.vs] w (RowP (wrL i) w) := by
  obtain ⟨op, d, s, t, b, x, sc, di, im⟩ := i
  dsimp only at hop
  subst hop
  have hf : formOf (14) = .ds := by
    unfold formOf
    first | rfl | (simp; omega) | (repeat (first | rw [if_pos (by omega)] | rw [if_neg (by omega)]))
  have hk := hok
  unfold okI at hk
  dsimp only at hk
  rw [hf] at hk
  simp only [okF, Bool.and_eq_true] at hk
  have hchk : chk ⟨14, d, s, t, b, x, sc, di, im⟩ = 0 := by unfold chk; rw [hok]; rfl
  obtain ⟨pf, hpf⟩ : ∃ pf : Int → Bool, pf = fun z => false := ⟨_, rfl⟩
  have hL : wrL ⟨14, d, s, t, b, x, sc, di, im⟩ = regK pf 16 := by
    unfold wrL
    rw [if_pos hok]
    show List.filter _ _ = List.filter _ _
    congr 1
    funext z
    dsimp only
    rw [hf, hpf]
    first | rfl | simp [wrF]
  rw [hL]
  have HF : Hid (∀ W, Calls Tryz.prog 45 #[.int .i64 14] W fun e w' => e = .returned (.string ⟨#[68, 83]⟩) ∧ w' = W) := Lib.hid (fun W => by have h1 := form_c (14) W; rw [hf] at h1; exact h1)
  have HH : Hid (∀ c W, Calls Tryz.prog 44 #[.string ⟨#[68, 83]⟩, .int .u8 c] W fun e w' => e = .returned (.bool (hasB ⟨#[68, 83]⟩ c)) ∧ w' = W) := Lib.hid (fun c W => has_c ⟨#[68, 83]⟩ c W (by decide))
  have h68 : hasB ⟨#[68, 83]⟩ 68 = true := by decide
  have HC : Hid (∀ W, Calls Tryz.prog 28 #[.agg (Ins.vs ⟨14, d, s, t, b, x, sc, di, im⟩)] W fun e w' => e = .returned (.int .i64 0) ∧ Below W.heap.size W w') := Lib.hid (fun W => by have h1 := check_r ⟨14, d, s, t, b, x, sc, di, im⟩ W; rw [hchk] at h1; exact h1)
  have HRI : Hid (∀ W, Calls Tryz.prog 52 #[.agg #[.bool (pf 0), .bool (pf 1), .bool (pf 2), .bool (pf 3), .bool (pf 4), .bool (pf 5), .bool (pf 6), .bool (pf 7), .bool (pf 8), .bool (pf 9), .bool (pf 10), .bool (pf 11), .bool (pf 12), .bool (pf 13), .bool (pf 14), .bool (pf 15)]] W (RowP (regK pf 16) W)) := Lib.hid (fun W => rising_r pf W)
  have HPF := Lib.hid hpf
  unfold Ins.vs at *
  dsimp only
  clear hf hk hchk hL hok hpf
  go_enter Tryz.func23, Tryz.ntmps23
  go_wp2_with fail
  go_at_call 28
  refine (HC.out _).mono ?_
  rintro e w1 ⟨rfl, hb1⟩
  have hI1 : Bk w1 w.heap.size 37 #[.int .i64 14, .int .i64 d, .int .i64 s, .int .i64 t, .int .i64 b, .int .i64 x, .int .i64 sc, .int .i64 di, .int .i64 im] := (Bk.new w _ _).below hb1 (by simp)
  have hB1 : Below w.heap.size w w1 := ((Below.refl _ w).alloc (Nat.le_refl _) _).trans (hb1.mono (by simp))
  have hl1 : w.heap.size < w1.heap.size := hI1.lt
  have HI1 := Lib.hid hI1
  have HB1 := Lib.hid hB1
  have cop1 : w1.cell? ⟨w.heap.size, 0, none⟩ = some (.int .i64 14) := hI1.cell 0
  clear hI1 hB1 hb1
  go_wp2_with fail
  go_at_call 45
  refine (HF.out _).mono ?_
  rintro e w2 ⟨rfl, hw2⟩
  have hI2 : Bk w2 w.heap.size 37 #[.int .i64 14, .int .i64 d, .int .i64 s, .int .i64 t, .int .i64 b, .int .i64 x, .int .i64 sc, .int .i64 di, .int .i64 im] := by rw [hw2]; exact HI1.out.alloc _
  have hL2 : Bk w2 w1.heap.size 92 (tab fun _ => false) := by rw [hw2]; exact Bk.new _ _ _
  have hB2 : Below w.heap.size w w2 := by rw [hw2]; exact HB1.out.alloc HB1.out.size _
  have HI := Lib.hid hI2
  have HL := Lib.hid hL2
  have HB := Lib.hid hB2
  have cop2 : w2.cell? ⟨w.heap.size, 0, none⟩ = some (.int .i64 14) := hI2.cell 0
  clear hI2 hL2 hB2 hw2
  go_wp2_with fail
  go_at_call 44
  refine (HH.out _ _).mono ?_
  simp only [h68]
  rintro e w3 ⟨rfl, hw3⟩
  have HI3 := Lib.hid (show Bk w3 w.heap.size 37 #[.int .i64 14, .int .i64 d, .int .i64 s, .int .i64 t, .int .i64 b, .int .i64 x, .int .i64 sc, .int .i64 di, .int .i64 im] by rw [hw3]; exact HI.out)
  have HL3 := Lib.hid (show Bk w3 w1.heap.size 92 (tab (fun _ => false)) by rw [hw3]; exact HL.out)
  have HB3 := Lib.hid (show Below w.heap.size w w3 by rw [hw3]; exact HB.out)
  clear hw3 HI HL HB
  have HI := HI3
  have HL := HL3
  have HB := HB3
  clear HI3 HL3 HB3
  have cop3 : w3.cell? ⟨w.heap.size, 0, none⟩ = some (.int .i64 14) := HI.out.cell 0
  go_upto_region 11 with fail
  obtain ⟨wf, hwf⟩ : ∃ wf, wf = w3 := ⟨_, rfl⟩
  try rw [← hwf]
  have hlf : Bk wf w1.heap.size 92 (tab pf) := by rw [hwf, HPF.out]; exact HL.out
  have hbf : Below w.heap.size w wf := by rw [hwf]; exact HB.out
  have q0 : wf.cell? ⟨w1.heap.size, 0, none⟩ = some (.bool (pf 0)) := (hlf.cell 0).trans (tab_get pf (by decide))
  have q1 : wf.cell? ⟨w1.heap.size, 1, none⟩ = some (.bool (pf 1)) := (hlf.cell 1).trans (tab_get pf (by decide))
  have q2 : wf.cell? ⟨w1.heap.size, 2, none⟩ = some (.bool (pf 2)) := (hlf.cell 2).trans (tab_get pf (by decide))
  have q3 : wf.cell? ⟨w1.heap.size, 3, none⟩ = some (.bool (pf 3)) := (hlf.cell 3).trans (tab_get pf (by decide))
  have q4 : wf.cell? ⟨w1.heap.size, 4, none⟩ = some (.bool (pf 4)) := (hlf.cell 4).trans (tab_get pf (by decide))
  have q5 : wf.cell? ⟨w1.heap.size, 5, none⟩ = some (.bool (pf 5)) := (hlf.cell 5).trans (tab_get pf (by decide))
  have q6 : wf.cell? ⟨w1.heap.size, 6, none⟩ = some (.bool (pf 6)) := (hlf.cell 6).trans (tab_get pf (by decide))
  have q7 : wf.cell? ⟨w1.heap.size, 7, none⟩ = some (.bool (pf 7)) := (hlf.cell 7).trans (tab_get pf (by decide))
  have q8 : wf.cell? ⟨w1.heap.size, 8, none⟩ = some (.bool (pf 8)) := (hlf.cell 8).trans (tab_get pf (by decide))
  have q9 : wf.cell? ⟨w1.heap.size, 9, none⟩ = some (.bool (pf 9)) := (hlf.cell 9).trans (tab_get pf (by decide))
  have q10 : wf.cell? ⟨w1.heap.size, 10, none⟩ = some (.bool (pf 10)) := (hlf.cell 10).trans (tab_get pf (by decide))
  have q11 : wf.cell? ⟨w1.heap.size, 11, none⟩ = some (.bool (pf 11)) := (hlf.cell 11).trans (tab_get pf (by decide))
  have q12 : wf.cell? ⟨w1.heap.size, 12, none⟩ = some (.bool (pf 12)) := (hlf.cell 12).trans (tab_get pf (by decide))
  have q13 : wf.cell? ⟨w1.heap.size, 13, none⟩ = some (.bool (pf 13)) := (hlf.cell 13).trans (tab_get pf (by decide))
  have q14 : wf.cell? ⟨w1.heap.size, 14, none⟩ = some (.bool (pf 14)) := (hlf.cell 14).trans (tab_get pf (by decide))
  have q15 : wf.cell? ⟨w1.heap.size, 15, none⟩ = some (.bool (pf 15)) := (hlf.cell 15).trans (tab_get pf (by decide))
  have HBF := Lib.hid hbf
  clear hlf hbf hwf
  go_wp2_with fail
  go_at_call 52
  refine (HRI.out _).mono ?_
  rintro e w9 ⟨v, rfl, ho, hb9⟩
  have HO := Lib.hid ho
  have HB9 := Lib.hid hb9
  clear ho hb9
  go_wp2_with fail
  go_ret
  exact ⟨v, rfl, ownsRow_base HO.out HBF.out.size, HBF.out.trans (HB9.out.mono HBF.out.size)⟩
end Is
end Go.Proofs.YtmiphnocgepdgaaGreatDoor
namespace Go.Proofs.YtmiphnocgepdgaaGreatDoor
open Go Go.RowKit
namespace Is
open Nt
set_option linter.unusedVariables false
set_option linter.unusedSimpArgs false
set_option maxRecDepth 100000 in
set_option maxHeartbeats 4000000 in
theorem writes_di (i : Ins) (hok : okI i = true) (hop : i.op = 2) (w : World) : Calls Tryz.prog 23 #[.agg i.vs] w (RowP (wrL i) w) := by
  obtain ⟨op, d, s, t, b, x, sc, di, im⟩ := i
  dsimp only at hop
  subst hop
  have hf : formOf (2) = .di := by
    unfold formOf
    first | rfl | (simp; omega) | (repeat (first | rw [if_pos (by omega)] | rw [if_neg (by omega)]))
  have hk := hok
  unfold okI at hk
  dsimp only at hk
  rw [hf] at hk
  simp only [okF, Bool.and_eq_true] at hk
  have hchk : chk ⟨2, d, s, t, b, x, sc, di, im⟩ = 0 := by unfold chk; rw [hok]; rfl
  have kd := reg_nat hk.1.1.1
  obtain ⟨nd, rfl, ld⟩ := kd
  obtain ⟨pf, hpf⟩ : ∃ pf : Int → Bool, pf = fun z => (false || decide (z = (nd : Int))) := ⟨_, rfl⟩
  have hL : wrL ⟨2, (nd : Int), s, t, b, x, sc, di, im⟩ = regK pf 16 := by
    unfold wrL
    rw [if_pos hok]
    show List.filter _ _ = List.filter _ _
    congr 1
    funext z
    dsimp only
    rw [hf, hpf]
    first | rfl | simp [wrF]
  rw [hL]
  have HF : Hid (∀ W, Calls Tryz.prog 45 #[.int .i64 2] W fun e w' => e = .returned (.string ⟨#[68, 73]⟩) ∧ w' = W) := Lib.hid (fun W => by have h1 := form_c (2) W; rw [hf] at h1; exact h1)
  have HH : Hid (∀ c W, Calls Tryz.prog 44 #[.string ⟨#[68, 73]⟩, .int .u8 c] W fun e w' => e = .returned (.bool (hasB ⟨#[68, 73]⟩ c)) ∧ w' = W) := Lib.hid (fun c W => has_c ⟨#[68, 73]⟩ c W (by decide))
  have h68 : hasB ⟨#[68, 73]⟩ 68 = true := by decide
  have HC : Hid (∀ W, Calls Tryz.prog 28 #[.agg (Ins.vs ⟨2, (nd : Int), s, t, b, x, sc, di, im⟩)] W fun e w' => e = .returned (.int .i64 0) ∧ Below W.heap.size W w') := Lib.hid (fun W => by have h1 := check_r ⟨2, (nd : Int), s, t, b, x, sc, di, im⟩ W; rw [hchk] at h1; exact h1)
  have HRI : Hid (∀ W, Calls Tryz.prog 52 #[.agg #[.bool (pf 0), .bool (pf 1), .bool (pf 2), .bool (pf 3), .bool (pf 4), .bool (pf 5), .bool (pf 6), .bool (pf 7), .bool (pf 8), .bool (pf 9), .bool (pf 10), .bool (pf 11), .bool (pf 12), .bool (pf 13), .bool (pf 14), .bool (pf 15)]] W (RowP (regK pf 16) W)) := Lib.hid (fun W => rising_r pf W)
  have HPF := Lib.hid hpf
  have td : ((nd : Nat) : Int).toNat = nd := by omega
  have ud : (0 : Int) ≤ ((nd : Nat) : Int) := by omega
  have vd : ((nd : Nat) : Int) < 16 := by omega
  unfold Ins.vs at *
  dsimp only
  clear hf hk hchk hL hok hpf
  go_enter Tryz.func23, Tryz.ntmps23
  go_wp2_with fail
  go_at_call 28
  refine (HC.out _).mono ?_
  rintro e w1 ⟨rfl, hb1⟩
  have hI1 : Bk w1 w.heap.size 37 #[.int .i64 2, .int .i64 (nd : Int), .int .i64 s, .int .i64 t, .int .i64 b, .int .i64 x, .int .i64 sc, .int .i64 di, .int .i64 im] := (Bk.new w _ _).below hb1 (by simp)
  have hB1 : Below w.heap.size w w1 := ((Below.refl _ w).alloc (Nat.le_refl _) _).trans (hb1.mono (by simp))
  have hl1 : w.heap.size < w1.heap.size := hI1.lt
  have HI1 := Lib.hid hI1
  have HB1 := Lib.hid hB1
  have cop1 : w1.cell? ⟨w.heap.size, 0, none⟩ = some (.int .i64 2) := hI1.cell 0
  have cd1 : w1.cell? ⟨w.heap.size, 1, none⟩ = some (.int .i64 (nd : Int)) := hI1.cell 1
  clear hI1 hB1 hb1
  go_wp2_with fail
  go_at_call 45
  refine (HF.out _).mono ?_
  rintro e w2 ⟨rfl, hw2⟩
  have hI2 : Bk w2 w.heap.size 37 #[.int .i64 2, .int .i64 (nd : Int), .int .i64 s, .int .i64 t, .int .i64 b, .int .i64 x, .int .i64 sc, .int .i64 di, .int .i64 im] := by rw [hw2]; exact HI1.out.alloc _
  have hL2 : Bk w2 w1.heap.size 92 (tab fun _ => false) := by rw [hw2]; exact Bk.new _ _ _
  have hB2 : Below w.heap.size w w2 := by rw [hw2]; exact HB1.out.alloc HB1.out.size _
  have HI := Lib.hid hI2
  have HL := Lib.hid hL2
  have HB := Lib.hid hB2
  have cop2 : w2.cell? ⟨w.heap.size, 0, none⟩ = some (.int .i64 2) := hI2.cell 0
  have cd2 : w2.cell? ⟨w.heap.size, 1, none⟩ = some (.int .i64 (nd : Int)) := hI2.cell 1
  clear hI2 hL2 hB2 hw2
  go_wp2_with fail
  go_at_call 44
  refine (HH.out _ _).mono ?_
  simp only [h68]
  rintro e w3 ⟨rfl, hw3⟩
  have HI3 := Lib.hid (show Bk w3 w.heap.size 37 #[.int .i64 2, .int .i64 (nd : Int), .int .i64 s, .int .i64 t, .int .i64 b, .int .i64 x, .int .i64 sc, .int .i64 di, .int .i64 im] by rw [hw3]; exact HI.out)
  have HL3 := Lib.hid (show Bk w3 w1.heap.size 92 (tab (fun _ => false)) by rw [hw3]; exact HL.out)
  have HB3 := Lib.hid (show Below w.heap.size w w3 by rw [hw3]; exact HB.out)
  clear hw3 HI HL HB
  have HI := HI3
  have HL := HL3
  have HB := HB3
  clear HI3 HL3 HB3
  have cop3 : w3.cell? ⟨w.heap.size, 0, none⟩ = some (.int .i64 2) := HI.out.cell 0
  have cd3 : w3.cell? ⟨w.heap.size, 1, none⟩ = some (.int .i64 (nd : Int)) := HI.out.cell 1
  have cl03 : w3.cell? ⟨w1.heap.size, nd, none⟩ = some (.bool _) := ((HL.out).cell _).trans (tab_get _ (by omega))
  have fl03 : w3.frozen? ⟨w1.heap.size, nd, none⟩ = false := (HL.out).frozen _
  have ccd13 : (w3.setCell ⟨w1.heap.size, nd, none⟩ (.bool true)).cell? ⟨w.heap.size, 1, none⟩ = some (.int .i64 (nd : Int)) := ((HI.out).far (p := ⟨w1.heap.size, nd, none⟩) (Nat.ne_of_lt hl1) (.bool true)).cell 1
  have ccop13 : (w3.setCell ⟨w1.heap.size, nd, none⟩ (.bool true)).cell? ⟨w.heap.size, 0, none⟩ = some (.int .i64 2) := ((HI.out).far (p := ⟨w1.heap.size, nd, none⟩) (Nat.ne_of_lt hl1) (.bool true)).cell 0
  go_upto_region 11 with fail
  obtain ⟨wf, hwf⟩ : ∃ wf, wf = (w3.setCell ⟨w1.heap.size, nd, none⟩ (.bool true)) := ⟨_, rfl⟩
  try rw [← hwf]
  have hlf : Bk wf w1.heap.size 92 (tab pf) := by rw [hwf, HPF.out]; exact tab_put (HL.out) ld
  have hbf : Below w.heap.size w wf := by rw [hwf]; exact (HB.out).setCell (p := ⟨w1.heap.size, nd, none⟩) (Nat.le_of_lt hl1) _
  have q0 : wf.cell? ⟨w1.heap.size, 0, none⟩ = some (.bool (pf 0)) := (hlf.cell 0).trans (tab_get pf (by decide))
  have q1 : wf.cell? ⟨w1.heap.size, 1, none⟩ = some (.bool (pf 1)) := (hlf.cell 1).trans (tab_get pf (by decide))
  have q2 : wf.cell? ⟨w1.heap.size, 2, none⟩ = some (.bool (pf 2)) := (hlf.cell 2).trans (tab_get pf (by decide))
  have q3 : wf.cell? ⟨w1.heap.size, 3, none⟩ = some (.bool (pf 3)) := (hlf.cell 3).trans (tab_get pf (by decide))
  have q4 : wf.cell? ⟨w1.heap.size, 4, none⟩ = some (.bool (pf 4)) := (hlf.cell 4).trans (tab_get pf (by decide))
  have q5 : wf.cell? ⟨w1.heap.size, 5, none⟩ = some (.bool (pf 5)) := (hlf.cell 5).trans (tab_get pf (by decide))
  have q6 : wf.cell? ⟨w1.heap.size, 6, none⟩ = some (.bool (pf 6)) := (hlf.cell 6).trans (tab_get pf (by decide))
  have q7 : wf.cell? ⟨w1.heap.size, 7, none⟩ = some (.bool (pf 7)) := (hlf.cell 7).trans (tab_get pf (by decide))
  have q8 : wf.cell? ⟨w1.heap.size, 8, none⟩ = some (.bool (pf 8)) := (hlf.cell 8).trans (tab_get pf (by decide))
  have q9 : wf.cell? ⟨w1.heap.size, 9, none⟩ = some (.bool (pf 9)) := (hlf.cell 9).trans (tab_get pf (by decide))
  have q10 : wf.cell? ⟨w1.heap.size, 10, none⟩ = some (.bool (pf 10)) := (hlf.cell 10).trans (tab_get pf (by decide))
  have q11 : wf.cell? ⟨w1.heap.size, 11, none⟩ = some (.bool (pf 11)) := (hlf.cell 11).trans (tab_get pf (by decide))
  have q12 : wf.cell? ⟨w1.heap.size, 12, none⟩ = some (.bool (pf 12)) := (hlf.cell 12).trans (tab_get pf (by decide))
  have q13 : wf.cell? ⟨w1.heap.size, 13, none⟩ = some (.bool (pf 13)) := (hlf.cell 13).trans (tab_get pf (by decide))
  have q14 : wf.cell? ⟨w1.heap.size, 14, none⟩ = some (.bool (pf 14)) := (hlf.cell 14).trans (tab_get pf (by decide))
  have q15 : wf.cell? ⟨w1.heap.size, 15, none⟩ = some (.bool (pf 15)) := (hlf.cell 15).trans (tab_get pf (by decide))
  have HBF := Lib.hid hbf
  clear hlf hbf hwf
  go_wp2_with fail
  go_at_call 52
  refine (HRI.out _).mono ?_
  rintro e w9 ⟨v, rfl, ho, hb9⟩
  have HO := Lib.hid ho
  have HB9 := Lib.hid hb9
  clear ho hb9
  go_wp2_with fail
  go_ret
  exact ⟨v, rfl, ownsRow_base HO.out HBF.out.size, HBF.out.trans (HB9.out.mono HBF.out.size)⟩
set_option maxRecDepth 100000 in
set_option maxHeartbeats 4000000 in
theorem writes_dm (i : Ins) (hok : okI i = true) (hop : i.op = 3 ∨ i.op = 5) (w : World) : Calls Tryz.prog 23 #[.agg i.vs] w (RowP (wrL i) w) := by
  obtain ⟨op, d, s, t, b, x, sc, di, im⟩ := i
  dsimp only at hop
  have hf : formOf (op) = .dm := by
    unfold formOf
    first | rfl | (simp; omega) | (repeat (first | rw [if_pos (by omega)] | rw [if_neg (by omega)]))
  have hk := hok
  unfold okI at hk
  dsimp only at hk
  rw [hf] at hk
  simp only [okF, Bool.and_eq_true] at hk
  have hchk : chk ⟨op, d, s, t, b, x, sc, di, im⟩ = 0 := by unfold chk; rw [hok]; rfl
  have kd := reg_nat hk.1.1.1.1
  obtain ⟨nd, rfl, ld⟩ := kd
  obtain ⟨pf, hpf⟩ : ∃ pf : Int → Bool, pf = fun z => (false || decide (z = (nd : Int))) := ⟨_, rfl⟩
  have hL : wrL ⟨op, (nd : Int), s, t, b, x, sc, di, im⟩ = regK pf 16 := by
    unfold wrL
    rw [if_pos hok]
    show List.filter _ _ = List.filter _ _
    congr 1
    funext z
    dsimp only
    rw [hf, hpf]
    have m1 : ¬ (op = 1) := by omega
    have m13 : ¬ (op = 13) := by omega
    have m14 : ¬ (op = 14) := by omega
    have m18 : ¬ (op = 18) := by omega
    have m29 : ¬ (op = 29) := by omega
    first | rfl | simp [wrF, m1, m13, m14, m18, m29]
  rw [hL]
  have HF : Hid (∀ W, Calls Tryz.prog 45 #[.int .i64 op] W fun e w' => e = .returned (.string ⟨#[68, 77]⟩) ∧ w' = W) := Lib.hid (fun W => by have h1 := form_c (op) W; rw [hf] at h1; exact h1)
  have HH : Hid (∀ c W, Calls Tryz.prog 44 #[.string ⟨#[68, 77]⟩, .int .u8 c] W fun e w' => e = .returned (.bool (hasB ⟨#[68, 77]⟩ c)) ∧ w' = W) := Lib.hid (fun c W => has_c ⟨#[68, 77]⟩ c W (by decide))
  have h68 : hasB ⟨#[68, 77]⟩ 68 = true := by decide
  have HC : Hid (∀ W, Calls Tryz.prog 28 #[.agg (Ins.vs ⟨op, (nd : Int), s, t, b, x, sc, di, im⟩)] W fun e w' => e = .returned (.int .i64 0) ∧ Below W.heap.size W w') := Lib.hid (fun W => by have h1 := check_r ⟨op, (nd : Int), s, t, b, x, sc, di, im⟩ W; rw [hchk] at h1; exact h1)
  have HRI : Hid (∀ W, Calls Tryz.prog 52 #[.agg #[.bool (pf 0), .bool (pf 1), .bool (pf 2), .bool (pf 3), .bool (pf 4), .bool (pf 5), .bool (pf 6), .bool (pf 7), .bool (pf 8), .bool (pf 9), .bool (pf 10), .bool (pf 11), .bool (pf 12), .bool (pf 13), .bool (pf 14), .bool (pf 15)]] W (RowP (regK pf 16) W)) := Lib.hid (fun W => rising_r pf W)
  have z13 : (op == 13) = false := by rw [beq_eq_false_iff_ne]; omega
  have y13 : (op != 13) = true := by rw [bne, z13]; rfl
  have z14 : (op == 14) = false := by rw [beq_eq_false_iff_ne]; omega
  have y14 : (op != 14) = true := by rw [bne, z14]; rfl
  have z18 : (op == 18) = false := by rw [beq_eq_false_iff_ne]; omega
  have y18 : (op != 18) = true := by rw [bne, z18]; rfl
  have z19 : (op == 19) = false := by rw [beq_eq_false_iff_ne]; omega
  have y19 : (op != 19) = true := by rw [bne, z19]; rfl
  have z28 : (op == 28) = false := by rw [beq_eq_false_iff_ne]; omega
  have y28 : (op != 28) = true := by rw [bne, z28]; rfl
  have z29 : (op == 29) = false := by rw [beq_eq_false_iff_ne]; omega
  have y29 : (op != 29) = true := by rw [bne, z29]; rfl
  have z33 : (op == 33) = false := by rw [beq_eq_false_iff_ne]; omega
  have y33 : (op != 33) = true := by rw [bne, z33]; rfl
  have HPF := Lib.hid hpf
  have td : ((nd : Nat) : Int).toNat = nd := by omega
  have ud : (0 : Int) ≤ ((nd : Nat) : Int) := by omega
  have vd : ((nd : Nat) : Int) < 16 := by omega
  unfold Ins.vs at *
  dsimp only
  clear hf hk hchk hL hok hpf
  go_enter Tryz.func23, Tryz.ntmps23
  go_wp2_with fail
  go_at_call 28
  refine (HC.out _).mono ?_
  rintro e w1 ⟨rfl, hb1⟩
  have hI1 : Bk w1 w.heap.size 37 #[.int .i64 op, .int .i64 (nd : Int), .int .i64 s, .int .i64 t, .int .i64 b, .int .i64 x, .int .i64 sc, .int .i64 di, .int .i64 im] := (Bk.new w _ _).below hb1 (by simp)
  have hB1 : Below w.heap.size w w1 := ((Below.refl _ w).alloc (Nat.le_refl _) _).trans (hb1.mono (by simp))
  have hl1 : w.heap.size < w1.heap.size := hI1.lt
  have HI1 := Lib.hid hI1
  have HB1 := Lib.hid hB1
  have cop1 : w1.cell? ⟨w.heap.size, 0, none⟩ = some (.int .i64 op) := hI1.cell 0
  have cd1 : w1.cell? ⟨w.heap.size, 1, none⟩ = some (.int .i64 (nd : Int)) := hI1.cell 1
  clear hI1 hB1 hb1
  go_wp2_with fail
  go_at_call 45
  refine (HF.out _).mono ?_
  rintro e w2 ⟨rfl, hw2⟩
  have hI2 : Bk w2 w.heap.size 37 #[.int .i64 op, .int .i64 (nd : Int), .int .i64 s, .int .i64 t, .int .i64 b, .int .i64 x, .int .i64 sc, .int .i64 di, .int .i64 im] := by rw [hw2]; exact HI1.out.alloc _
  have hL2 : Bk w2 w1.heap.size 92 (tab fun _ => false) := by rw [hw2]; exact Bk.new _ _ _
  have hB2 : Below w.heap.size w w2 := by rw [hw2]; exact HB1.out.alloc HB1.out.size _
  have HI := Lib.hid hI2
  have HL := Lib.hid hL2
  have HB := Lib.hid hB2
  have cop2 : w2.cell? ⟨w.heap.size, 0, none⟩ = some (.int .i64 op) := hI2.cell 0
  have cd2 : w2.cell? ⟨w.heap.size, 1, none⟩ = some (.int .i64 (nd : Int)) := hI2.cell 1
  clear hI2 hL2 hB2 hw2
  go_wp2_with fail
  go_at_call 44
  refine (HH.out _ _).mono ?_
  simp only [h68]
  rintro e w3 ⟨rfl, hw3⟩
  have HI3 := Lib.hid (show Bk w3 w.heap.size 37 #[.int .i64 op, .int .i64 (nd : Int), .int .i64 s, .int .i64 t, .int .i64 b, .int .i64 x, .int .i64 sc, .int .i64 di, .int .i64 im] by rw [hw3]; exact HI.out)
  have HL3 := Lib.hid (show Bk w3 w1.heap.size 92 (tab (fun _ => false)) by rw [hw3]; exact HL.out)
  have HB3 := Lib.hid (show Below w.heap.size w w3 by rw [hw3]; exact HB.out)
  clear hw3 HI HL HB
  have HI := HI3
  have HL := HL3
  have HB := HB3
  clear HI3 HL3 HB3
  have cop3 : w3.cell? ⟨w.heap.size, 0, none⟩ = some (.int .i64 op) := HI.out.cell 0
  have cd3 : w3.cell? ⟨w.heap.size, 1, none⟩ = some (.int .i64 (nd : Int)) := HI.out.cell 1
  have cl03 : w3.cell? ⟨w1.heap.size, nd, none⟩ = some (.bool _) := ((HL.out).cell _).trans (tab_get _ (by omega))
  have fl03 : w3.frozen? ⟨w1.heap.size, nd, none⟩ = false := (HL.out).frozen _
  have ccd13 : (w3.setCell ⟨w1.heap.size, nd, none⟩ (.bool true)).cell? ⟨w.heap.size, 1, none⟩ = some (.int .i64 (nd : Int)) := ((HI.out).far (p := ⟨w1.heap.size, nd, none⟩) (Nat.ne_of_lt hl1) (.bool true)).cell 1
  have ccop13 : (w3.setCell ⟨w1.heap.size, nd, none⟩ (.bool true)).cell? ⟨w.heap.size, 0, none⟩ = some (.int .i64 op) := ((HI.out).far (p := ⟨w1.heap.size, nd, none⟩) (Nat.ne_of_lt hl1) (.bool true)).cell 0
  go_upto_region 11 with fail
  obtain ⟨wf, hwf⟩ : ∃ wf, wf = (w3.setCell ⟨w1.heap.size, nd, none⟩ (.bool true)) := ⟨_, rfl⟩
  try rw [← hwf]
  have hlf : Bk wf w1.heap.size 92 (tab pf) := by rw [hwf, HPF.out]; exact tab_put (HL.out) ld
  have hbf : Below w.heap.size w wf := by rw [hwf]; exact (HB.out).setCell (p := ⟨w1.heap.size, nd, none⟩) (Nat.le_of_lt hl1) _
  have q0 : wf.cell? ⟨w1.heap.size, 0, none⟩ = some (.bool (pf 0)) := (hlf.cell 0).trans (tab_get pf (by decide))
  have q1 : wf.cell? ⟨w1.heap.size, 1, none⟩ = some (.bool (pf 1)) := (hlf.cell 1).trans (tab_get pf (by decide))
  have q2 : wf.cell? ⟨w1.heap.size, 2, none⟩ = some (.bool (pf 2)) := (hlf.cell 2).trans (tab_get pf (by decide))
  have q3 : wf.cell? ⟨w1.heap.size, 3, none⟩ = some (.bool (pf 3)) := (hlf.cell 3).trans (tab_get pf (by decide))
  have q4 : wf.cell? ⟨w1.heap.size, 4, none⟩ = some (.bool (pf 4)) := (hlf.cell 4).trans (tab_get pf (by decide))
  have q5 : wf.cell? ⟨w1.heap.size, 5, none⟩ = some (.bool (pf 5)) := (hlf.cell 5).trans (tab_get pf (by decide))
  have q6 : wf.cell? ⟨w1.heap.size, 6, none⟩ = some (.bool (pf 6)) := (hlf.cell 6).trans (tab_get pf (by decide))
  have q7 : wf.cell? ⟨w1.heap.size, 7, none⟩ = some (.bool (pf 7)) := (hlf.cell 7).trans (tab_get pf (by decide))
  have q8 : wf.cell? ⟨w1.heap.size, 8, none⟩ = some (.bool (pf 8)) := (hlf.cell 8).trans (tab_get pf (by decide))
  have q9 : wf.cell? ⟨w1.heap.size, 9, none⟩ = some (.bool (pf 9)) := (hlf.cell 9).trans (tab_get pf (by decide))
  have q10 : wf.cell? ⟨w1.heap.size, 10, none⟩ = some (.bool (pf 10)) := (hlf.cell 10).trans (tab_get pf (by decide))
  have q11 : wf.cell? ⟨w1.heap.size, 11, none⟩ = some (.bool (pf 11)) := (hlf.cell 11).trans (tab_get pf (by decide))
  have q12 : wf.cell? ⟨w1.heap.size, 12, none⟩ = some (.bool (pf 12)) := (hlf.cell 12).trans (tab_get pf (by decide))
  have q13 : wf.cell? ⟨w1.heap.size, 13, none⟩ = some (.bool (pf 13)) := (hlf.cell 13).trans (tab_get pf (by decide))
  have q14 : wf.cell? ⟨w1.heap.size, 14, none⟩ = some (.bool (pf 14)) := (hlf.cell 14).trans (tab_get pf (by decide))
  have q15 : wf.cell? ⟨w1.heap.size, 15, none⟩ = some (.bool (pf 15)) := (hlf.cell 15).trans (tab_get pf (by decide))
  have HBF := Lib.hid hbf
  clear hlf hbf hwf
  go_wp2_with fail
  go_at_call 52
  refine (HRI.out _).mono ?_
  rintro e w9 ⟨v, rfl, ho, hb9⟩
  have HO := Lib.hid ho
  have HB9 := Lib.hid hb9
  clear ho hb9
  go_wp2_with fail
  go_ret
  exact ⟨v, rfl, ownsRow_base HO.out HBF.out.size, HBF.out.trans (HB9.out.mono HBF.out.size)⟩
set_option maxRecDepth 100000 in
set_option maxHeartbeats 4000000 in
theorem writes_sm (i : Ins) (hok : okI i = true) (hop : i.op = 4) (w : World) : Calls Tryz.prog 23 #[.agg i.vs] w (RowP (wrL i) w) := by
  obtain ⟨op, d, s, t, b, x, sc, di, im⟩ := i
  dsimp only at hop
  subst hop
  have hf : formOf (4) = .sm := by
    unfold formOf
    first | rfl | (simp; omega) | (repeat (first | rw [if_pos (by omega)] | rw [if_neg (by omega)]))
  have hk := hok
  unfold okI at hk
  dsimp only at hk
  rw [hf] at hk
  simp only [okF, Bool.and_eq_true] at hk
  have hchk : chk ⟨4, d, s, t, b, x, sc, di, im⟩ = 0 := by unfold chk; rw [hok]; rfl
  obtain ⟨pf, hpf⟩ : ∃ pf : Int → Bool, pf = fun z => false := ⟨_, rfl⟩
  have hL : wrL ⟨4, d, s, t, b, x, sc, di, im⟩ = regK pf 16 := by
    unfold wrL
    rw [if_pos hok]
    show List.filter _ _ = List.filter _ _
    congr 1
    funext z
    dsimp only
    rw [hf, hpf]
    first | rfl | simp [wrF]
  rw [hL]
  have HF : Hid (∀ W, Calls Tryz.prog 45 #[.int .i64 4] W fun e w' => e = .returned (.string ⟨#[83, 77]⟩) ∧ w' = W) := Lib.hid (fun W => by have h1 := form_c (4) W; rw [hf] at h1; exact h1)
  have HH : Hid (∀ c W, Calls Tryz.prog 44 #[.string ⟨#[83, 77]⟩, .int .u8 c] W fun e w' => e = .returned (.bool (hasB ⟨#[83, 77]⟩ c)) ∧ w' = W) := Lib.hid (fun c W => has_c ⟨#[83, 77]⟩ c W (by decide))
  have h68 : hasB ⟨#[83, 77]⟩ 68 = false := by decide
  have HC : Hid (∀ W, Calls Tryz.prog 28 #[.agg (Ins.vs ⟨4, d, s, t, b, x, sc, di, im⟩)] W fun e w' => e = .returned (.int .i64 0) ∧ Below W.heap.size W w') := Lib.hid (fun W => by have h1 := check_r ⟨4, d, s, t, b, x, sc, di, im⟩ W; rw [hchk] at h1; exact h1)
  have HRI : Hid (∀ W, Calls Tryz.prog 52 #[.agg #[.bool (pf 0), .bool (pf 1), .bool (pf 2), .bool (pf 3), .bool (pf 4), .bool (pf 5), .bool (pf 6), .bool (pf 7), .bool (pf 8), .bool (pf 9), .bool (pf 10), .bool (pf 11), .bool (pf 12), .bool (pf 13), .bool (pf 14), .bool (pf 15)]] W (RowP (regK pf 16) W)) := Lib.hid (fun W => rising_r pf W)
  have HPF := Lib.hid hpf
  unfold Ins.vs at *
  dsimp only
  clear hf hk hchk hL hok hpf
  go_enter Tryz.func23, Tryz.ntmps23
  go_wp2_with fail
  go_at_call 28
  refine (HC.out _).mono ?_
  rintro e w1 ⟨rfl, hb1⟩
  have hI1 : Bk w1 w.heap.size 37 #[.int .i64 4, .int .i64 d, .int .i64 s, .int .i64 t, .int .i64 b, .int .i64 x, .int .i64 sc, .int .i64 di, .int .i64 im] := (Bk.new w _ _).below hb1 (by simp)
  have hB1 : Below w.heap.size w w1 := ((Below.refl _ w).alloc (Nat.le_refl _) _).trans (hb1.mono (by simp))
  have hl1 : w.heap.size < w1.heap.size := hI1.lt
  have HI1 := Lib.hid hI1
  have HB1 := Lib.hid hB1
  have cop1 : w1.cell? ⟨w.heap.size, 0, none⟩ = some (.int .i64 4) := hI1.cell 0
  clear hI1 hB1 hb1
  go_wp2_with fail
  go_at_call 45
  refine (HF.out _).mono ?_
  rintro e w2 ⟨rfl, hw2⟩
  have hI2 : Bk w2 w.heap.size 37 #[.int .i64 4, .int .i64 d, .int .i64 s, .int .i64 t, .int .i64 b, .int .i64 x, .int .i64 sc, .int .i64 di, .int .i64 im] := by rw [hw2]; exact HI1.out.alloc _
  have hL2 : Bk w2 w1.heap.size 92 (tab fun _ => false) := by rw [hw2]; exact Bk.new _ _ _
  have hB2 : Below w.heap.size w w2 := by rw [hw2]; exact HB1.out.alloc HB1.out.size _
  have HI := Lib.hid hI2
  have HL := Lib.hid hL2
  have HB := Lib.hid hB2
  have cop2 : w2.cell? ⟨w.heap.size, 0, none⟩ = some (.int .i64 4) := hI2.cell 0
  clear hI2 hL2 hB2 hw2
  go_wp2_with fail
  go_at_call 44
  refine (HH.out _ _).mono ?_
  simp only [h68]
  rintro e w3 ⟨rfl, hw3⟩
  have HI3 := Lib.hid (show Bk w3 w.heap.size 37 #[.int .i64 4, .int .i64 d, .int .i64 s, .int .i64 t, .int .i64 b, .int .i64 x, .int .i64 sc, .int .i64 di, .int .i64 im] by rw [hw3]; exact HI.out)
  have HL3 := Lib.hid (show Bk w3 w1.heap.size 92 (tab (fun _ => false)) by rw [hw3]; exact HL.out)
  have HB3 := Lib.hid (show Below w.heap.size w w3 by rw [hw3]; exact HB.out)
  clear hw3 HI HL HB
  have HI := HI3
  have HL := HL3
  have HB := HB3
  clear HI3 HL3 HB3
  have cop3 : w3.cell? ⟨w.heap.size, 0, none⟩ = some (.int .i64 4) := HI.out.cell 0
  go_upto_region 11 with fail
  obtain ⟨wf, hwf⟩ : ∃ wf, wf = w3 := ⟨_, rfl⟩
  try rw [← hwf]
  have hlf : Bk wf w1.heap.size 92 (tab pf) := by rw [hwf, HPF.out]; exact HL.out
  have hbf : Below w.heap.size w wf := by rw [hwf]; exact HB.out
  have q0 : wf.cell? ⟨w1.heap.size, 0, none⟩ = some (.bool (pf 0)) := (hlf.cell 0).trans (tab_get pf (by decide))
  have q1 : wf.cell? ⟨w1.heap.size, 1, none⟩ = some (.bool (pf 1)) := (hlf.cell 1).trans (tab_get pf (by decide))
  have q2 : wf.cell? ⟨w1.heap.size, 2, none⟩ = some (.bool (pf 2)) := (hlf.cell 2).trans (tab_get pf (by decide))
  have q3 : wf.cell? ⟨w1.heap.size, 3, none⟩ = some (.bool (pf 3)) := (hlf.cell 3).trans (tab_get pf (by decide))
  have q4 : wf.cell? ⟨w1.heap.size, 4, none⟩ = some (.bool (pf 4)) := (hlf.cell 4).trans (tab_get pf (by decide))
  have q5 : wf.cell? ⟨w1.heap.size, 5, none⟩ = some (.bool (pf 5)) := (hlf.cell 5).trans (tab_get pf (by decide))
  have q6 : wf.cell? ⟨w1.heap.size, 6, none⟩ = some (.bool (pf 6)) := (hlf.cell 6).trans (tab_get pf (by decide))
  have q7 : wf.cell? ⟨w1.heap.size, 7, none⟩ = some (.bool (pf 7)) := (hlf.cell 7).trans (tab_get pf (by decide))
  have q8 : wf.cell? ⟨w1.heap.size, 8, none⟩ = some (.bool (pf 8)) := (hlf.cell 8).trans (tab_get pf (by decide))
  have q9 : wf.cell? ⟨w1.heap.size, 9, none⟩ = some (.bool (pf 9)) := (hlf.cell 9).trans (tab_get pf (by decide))
  have q10 : wf.cell? ⟨w1.heap.size, 10, none⟩ = some (.bool (pf 10)) := (hlf.cell 10).trans (tab_get pf (by decide))
  have q11 : wf.cell? ⟨w1.heap.size, 11, none⟩ = some (.bool (pf 11)) := (hlf.cell 11).trans (tab_get pf (by decide))
  have q12 : wf.cell? ⟨w1.heap.size, 12, none⟩ = some (.bool (pf 12)) := (hlf.cell 12).trans (tab_get pf (by decide))
  have q13 : wf.cell? ⟨w1.heap.size, 13, none⟩ = some (.bool (pf 13)) := (hlf.cell 13).trans (tab_get pf (by decide))
  have q14 : wf.cell? ⟨w1.heap.size, 14, none⟩ = some (.bool (pf 14)) := (hlf.cell 14).trans (tab_get pf (by decide))
  have q15 : wf.cell? ⟨w1.heap.size, 15, none⟩ = some (.bool (pf 15)) := (hlf.cell 15).trans (tab_get pf (by decide))
  have HBF := Lib.hid hbf
  clear hlf hbf hwf
  go_wp2_with fail
  go_at_call 52
  refine (HRI.out _).mono ?_
  rintro e w9 ⟨v, rfl, ho, hb9⟩
  have HO := Lib.hid ho
  have HB9 := Lib.hid hb9
  clear ho hb9
  go_wp2_with fail
  go_ret
  exact ⟨v, rfl, ownsRow_base HO.out HBF.out.size, HBF.out.trans (HB9.out.mono HBF.out.size)⟩
end Is
end Go.Proofs.YtmiphnocgepdgaaGreatDoor
