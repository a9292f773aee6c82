/- The document's own Reads, case by case. | The document's own Reads, case by case. -/
import Derived.Test.YtmiphnocgepdgaaGreatDoorE0
import Derived.Deep.Cut
namespace Go.Proofs.YtmiphnocgepdgaaGreatDoor
open Go Go.RowKit
namespace Is
open Nt
set_option linter.unusedVariables false
set_option linter.unusedSimpArgs false
set_option maxRecDepth 100000 in
set_option maxHeartbeats 4000000 in
theorem reads_d29 (i : Ins) (hok : okI i = true) (hop : i.op = 29) (w : World) : Calls Tryz.prog 24 #[.agg i.vs] w (RowP (rdL i) w) := by
  obtain ⟨op, d, s, t, b, x, sc, di, im⟩ := i
  dsimp only at hop
  subst hop
  have hf : formOf (29) = .d := by
    unfold formOf
    first | rfl | (simp; omega) | (repeat (first | rw [if_pos (by omega)] | rw [if_neg (by omega)]))
  have hk := hok
  unfold okI at hk
  dsimp only at hk
  rw [hf] at hk
  simp only [okF, Bool.and_eq_true] at hk
  have hchk : chk ⟨29, d, s, t, b, x, sc, di, im⟩ = 0 := by unfold chk; rw [hok]; rfl
  obtain ⟨pf, hpf⟩ : ∃ pf : Int → Bool, pf = fun z => (false || decide (z = ((4 : Nat) : Int))) := ⟨_, rfl⟩
  have hL : rdL ⟨29, d, s, t, b, x, sc, di, im⟩ = regK pf 16 := by
    unfold rdL
    rw [if_pos hok]
    show List.filter _ _ = List.filter _ _
    congr 1
    funext z
    dsimp only
    rw [hf, hpf]
    first | rfl | simp [rdF]
  rw [hL]
  have HF : Hid (∀ W, Calls Tryz.prog 45 #[.int .i64 29] W fun e w' => e = .returned (.string ⟨#[68]⟩) ∧ w' = W) := Lib.hid (fun W => by have h1 := form_c (29) W; rw [hf] at h1; exact h1)
  have HH : Hid (∀ c W, Calls Tryz.prog 44 #[.string ⟨#[68]⟩, .int .u8 c] W fun e w' => e = .returned (.bool (hasB ⟨#[68]⟩ c)) ∧ w' = W) := Lib.hid (fun c W => has_c ⟨#[68]⟩ c W (by decide))
  have h83 : hasB ⟨#[68]⟩ 83 = false := by decide
  have h84 : hasB ⟨#[68]⟩ 84 = false := by decide
  have h77 : hasB ⟨#[68]⟩ 77 = false := by decide
  have h68 : hasB ⟨#[68]⟩ 68 = true := by decide
  have HC : Hid (∀ W, Calls Tryz.prog 28 #[.agg (Ins.vs ⟨29, d, s, t, b, x, sc, di, im⟩)] W fun e w' => e = .returned (.int .i64 0) ∧ Below W.heap.size W w') := Lib.hid (fun W => by have h1 := check_r ⟨29, d, s, t, b, x, sc, di, im⟩ W; rw [hchk] at h1; exact h1)
  have HRI : Hid (∀ W, Calls Tryz.prog 52 #[.agg #[.bool (pf 0), .bool (pf 1), .bool (pf 2), .bool (pf 3), .bool (pf 4), .bool (pf 5), .bool (pf 6), .bool (pf 7), .bool (pf 8), .bool (pf 9), .bool (pf 10), .bool (pf 11), .bool (pf 12), .bool (pf 13), .bool (pf 14), .bool (pf 15)]] W (RowP (regK pf 16) W)) := Lib.hid (fun W => rising_r pf W)
  have HPF := Lib.hid hpf
  unfold Ins.vs at *
  dsimp only
  clear hf hk hchk hL hok hpf
  go_enter Tryz.func24, Tryz.ntmps24
  go_wp2_with fail
  go_at_call 28
  refine (HC.out _).mono ?_
  rintro e w1 ⟨rfl, hb1⟩
  have hI1 : Bk w1 w.heap.size 37 #[.int .i64 29, .int .i64 d, .int .i64 s, .int .i64 t, .int .i64 b, .int .i64 x, .int .i64 sc, .int .i64 di, .int .i64 im] := (Bk.new w _ _).below hb1 (by simp)
  have hB1 : Below w.heap.size w w1 := ((Below.refl _ w).alloc (Nat.le_refl _) _).trans (hb1.mono (by simp))
  have hl1 : w.heap.size < w1.heap.size := hI1.lt
  have HI1 := Lib.hid hI1
  have HB1 := Lib.hid hB1
  have cop1 : w1.cell? ⟨w.heap.size, 0, none⟩ = some (.int .i64 29) := hI1.cell 0
  clear hI1 hB1 hb1
  go_wp2_with fail
  go_at_call 45
  refine (HF.out _).mono ?_
  rintro e w2 ⟨rfl, hw2⟩
  have hI2 : Bk w2 w.heap.size 37 #[.int .i64 29, .int .i64 d, .int .i64 s, .int .i64 t, .int .i64 b, .int .i64 x, .int .i64 sc, .int .i64 di, .int .i64 im] := by rw [hw2]; exact HI1.out.alloc _
  have hL2 : Bk w2 w1.heap.size 92 (tab fun _ => false) := by rw [hw2]; exact Bk.new _ _ _
  have hB2 : Below w.heap.size w w2 := by rw [hw2]; exact HB1.out.alloc HB1.out.size _
  have HI := Lib.hid hI2
  have HL := Lib.hid hL2
  have HB := Lib.hid hB2
  have cop2 : w2.cell? ⟨w.heap.size, 0, none⟩ = some (.int .i64 29) := hI2.cell 0
  clear hI2 hL2 hB2 hw2
  go_wp2_with fail
  go_at_call 44
  refine (HH.out _ _).mono ?_
  simp only [h83]
  rintro e w3 ⟨rfl, hw3⟩
  have HI3 := Lib.hid (show Bk w3 w.heap.size 37 #[.int .i64 29, .int .i64 d, .int .i64 s, .int .i64 t, .int .i64 b, .int .i64 x, .int .i64 sc, .int .i64 di, .int .i64 im] by rw [hw3]; exact HI.out)
  have HL3 := Lib.hid (show Bk w3 w1.heap.size 92 (tab (fun _ => false)) by rw [hw3]; exact HL.out)
  have HB3 := Lib.hid (show Below w.heap.size w w3 by rw [hw3]; exact HB.out)
  clear hw3 HI HL HB
  have HI := HI3
  have HL := HL3
  have HB := HB3
  clear HI3 HL3 HB3
  have cop3 : w3.cell? ⟨w.heap.size, 0, none⟩ = some (.int .i64 29) := HI.out.cell 0
  go_wp2_with fail
  go_at_call 44
  refine (HH.out _ _).mono ?_
  simp only [h84]
  rintro e w4 ⟨rfl, hw4⟩
  have HI4 := Lib.hid (show Bk w4 w.heap.size 37 #[.int .i64 29, .int .i64 d, .int .i64 s, .int .i64 t, .int .i64 b, .int .i64 x, .int .i64 sc, .int .i64 di, .int .i64 im] by rw [hw4]; exact HI.out)
  have HL4 := Lib.hid (show Bk w4 w1.heap.size 92 (tab (fun _ => false)) by rw [hw4]; exact HL.out)
  have HB4 := Lib.hid (show Below w.heap.size w w4 by rw [hw4]; exact HB.out)
  clear hw4 HI HL HB
  have HI := HI4
  have HL := HL4
  have HB := HB4
  clear HI4 HL4 HB4
  have cop4 : w4.cell? ⟨w.heap.size, 0, none⟩ = some (.int .i64 29) := HI.out.cell 0
  go_wp2_with fail
  go_at_call 44
  refine (HH.out _ _).mono ?_
  simp only [h77]
  rintro e w5 ⟨rfl, hw5⟩
  have HI5 := Lib.hid (show Bk w5 w.heap.size 37 #[.int .i64 29, .int .i64 d, .int .i64 s, .int .i64 t, .int .i64 b, .int .i64 x, .int .i64 sc, .int .i64 di, .int .i64 im] by rw [hw5]; exact HI.out)
  have HL5 := Lib.hid (show Bk w5 w1.heap.size 92 (tab (fun _ => false)) by rw [hw5]; exact HL.out)
  have HB5 := Lib.hid (show Below w.heap.size w w5 by rw [hw5]; exact HB.out)
  clear hw5 HI HL HB
  have HI := HI5
  have HL := HL5
  have HB := HB5
  clear HI5 HL5 HB5
  have cop5 : w5.cell? ⟨w.heap.size, 0, none⟩ = some (.int .i64 29) := HI.out.cell 0
  go_wp2_with fail
  go_at_call 44
  refine (HH.out _ _).mono ?_
  simp only [h68]
  rintro e w6 ⟨rfl, hw6⟩
  have HI6 := Lib.hid (show Bk w6 w.heap.size 37 #[.int .i64 29, .int .i64 d, .int .i64 s, .int .i64 t, .int .i64 b, .int .i64 x, .int .i64 sc, .int .i64 di, .int .i64 im] by rw [hw6]; exact HI.out)
  have HL6 := Lib.hid (show Bk w6 w1.heap.size 92 (tab (fun _ => false)) by rw [hw6]; exact HL.out)
  have HB6 := Lib.hid (show Below w.heap.size w w6 by rw [hw6]; exact HB.out)
  clear hw6 HI HL HB
  have HI := HI6
  have HL := HL6
  have HB := HB6
  clear HI6 HL6 HB6
  have cop6 : w6.cell? ⟨w.heap.size, 0, none⟩ = some (.int .i64 29) := HI.out.cell 0
  have cl06 : w6.cell? ⟨w1.heap.size, 4, none⟩ = some (.bool _) := ((HL.out).cell _).trans (tab_get _ (by omega))
  have fl06 : w6.frozen? ⟨w1.heap.size, 4, none⟩ = false := (HL.out).frozen _
  have ccop16 : (w6.setCell ⟨w1.heap.size, 4, none⟩ (.bool true)).cell? ⟨w.heap.size, 0, none⟩ = some (.int .i64 29) := ((HI.out).far (p := ⟨w1.heap.size, 4, none⟩) (Nat.ne_of_lt hl1) (.bool true)).cell 0
  go_upto_region 17 with fail
  obtain ⟨wf, hwf⟩ : ∃ wf, wf = (w6.setCell ⟨w1.heap.size, 4, none⟩ (.bool true)) := ⟨_, rfl⟩
  try rw [← hwf]
  have hlf : Bk wf w1.heap.size 92 (tab pf) := by rw [hwf, HPF.out]; exact tab_put (HL.out) (by decide)
  have hbf : Below w.heap.size w wf := by rw [hwf]; exact (HB.out).setCell (p := ⟨w1.heap.size, 4, none⟩) (Nat.le_of_lt hl1) _
  have q0 : wf.cell? ⟨w1.heap.size, 0, none⟩ = some (.bool (pf 0)) := (hlf.cell 0).trans (tab_get pf (by decide))
  have q1 : wf.cell? ⟨w1.heap.size, 1, none⟩ = some (.bool (pf 1)) := (hlf.cell 1).trans (tab_get pf (by decide))
  have q2 : wf.cell? ⟨w1.heap.size, 2, none⟩ = some (.bool (pf 2)) := (hlf.cell 2).trans (tab_get pf (by decide))
  have q3 : wf.cell? ⟨w1.heap.size, 3, none⟩ = some (.bool (pf 3)) := (hlf.cell 3).trans (tab_get pf (by decide))
  have q4 : wf.cell? ⟨w1.heap.size, 4, none⟩ = some (.bool (pf 4)) := (hlf.cell 4).trans (tab_get pf (by decide))
  have q5 : wf.cell? ⟨w1.heap.size, 5, none⟩ = some (.bool (pf 5)) := (hlf.cell 5).trans (tab_get pf (by decide))
  have q6 : wf.cell? ⟨w1.heap.size, 6, none⟩ = some (.bool (pf 6)) := (hlf.cell 6).trans (tab_get pf (by decide))
  have q7 : wf.cell? ⟨w1.heap.size, 7, none⟩ = some (.bool (pf 7)) := (hlf.cell 7).trans (tab_get pf (by decide))
  have q8 : wf.cell? ⟨w1.heap.size, 8, none⟩ = some (.bool (pf 8)) := (hlf.cell 8).trans (tab_get pf (by decide))
  have q9 : wf.cell? ⟨w1.heap.size, 9, none⟩ = some (.bool (pf 9)) := (hlf.cell 9).trans (tab_get pf (by decide))
  have q10 : wf.cell? ⟨w1.heap.size, 10, none⟩ = some (.bool (pf 10)) := (hlf.cell 10).trans (tab_get pf (by decide))
  have q11 : wf.cell? ⟨w1.heap.size, 11, none⟩ = some (.bool (pf 11)) := (hlf.cell 11).trans (tab_get pf (by decide))
  have q12 : wf.cell? ⟨w1.heap.size, 12, none⟩ = some (.bool (pf 12)) := (hlf.cell 12).trans (tab_get pf (by decide))
  have q13 : wf.cell? ⟨w1.heap.size, 13, none⟩ = some (.bool (pf 13)) := (hlf.cell 13).trans (tab_get pf (by decide))
  have q14 : wf.cell? ⟨w1.heap.size, 14, none⟩ = some (.bool (pf 14)) := (hlf.cell 14).trans (tab_get pf (by decide))
  have q15 : wf.cell? ⟨w1.heap.size, 15, none⟩ = some (.bool (pf 15)) := (hlf.cell 15).trans (tab_get pf (by decide))
  have HBF := Lib.hid hbf
  clear hlf hbf hwf
  go_wp2_with fail
  go_at_call 52
  refine (HRI.out _).mono ?_
  rintro e w9 ⟨v, rfl, ho, hb9⟩
  have HO := Lib.hid ho
  have HB9 := Lib.hid hb9
  clear ho hb9
  go_wp2_with fail
  go_ret
  exact ⟨v, rfl, ownsRow_base HO.out HBF.out.size, HBF.out.trans (HB9.out.mono HBF.out.size)⟩
set_option maxRecDepth 100000 in
set_option maxHeartbeats 4000000 in
theorem reads_db (i : Ins) (hok : okI i = true) (hop : i.op = 24 ∨ i.op = 25) (w : World) : Calls Tryz.prog 24 #[.agg i.vs] w (RowP (rdL i) w) := by
  obtain ⟨op, d, s, t, b, x, sc, di, im⟩ := i
  dsimp only at hop
  have hf : formOf (op) = .db := by
    unfold formOf
    first | rfl | (simp; omega) | (repeat (first | rw [if_pos (by omega)] | rw [if_neg (by omega)]))
  have hk := hok
  unfold okI at hk
  dsimp only at hk
  rw [hf] at hk
  simp only [okF, Bool.and_eq_true] at hk
  have hchk : chk ⟨op, d, s, t, b, x, sc, di, im⟩ = 0 := by unfold chk; rw [hok]; rfl
  have kd := reg_nat hk.1.1.1.1
  obtain ⟨nd, rfl, ld⟩ := kd
  obtain ⟨pf, hpf⟩ : ∃ pf : Int → Bool, pf = fun z => (false || decide (z = (nd : Int))) := ⟨_, rfl⟩
  have hL : rdL ⟨op, (nd : Int), s, t, b, x, sc, di, im⟩ = regK pf 16 := by
    unfold rdL
    rw [if_pos hok]
    show List.filter _ _ = List.filter _ _
    congr 1
    funext z
    dsimp only
    rw [hf, hpf]
    have m1 : ¬ (op = 1) := by omega
    have m29 : ¬ (op = 29) := by omega
    first | rfl | simp [rdF, m1, m29]
  rw [hL]
  have HF : Hid (∀ W, Calls Tryz.prog 45 #[.int .i64 op] W fun e w' => e = .returned (.string ⟨#[68, 98]⟩) ∧ w' = W) := Lib.hid (fun W => by have h1 := form_c (op) W; rw [hf] at h1; exact h1)
  have HH : Hid (∀ c W, Calls Tryz.prog 44 #[.string ⟨#[68, 98]⟩, .int .u8 c] W fun e w' => e = .returned (.bool (hasB ⟨#[68, 98]⟩ c)) ∧ w' = W) := Lib.hid (fun c W => has_c ⟨#[68, 98]⟩ c W (by decide))
  have h83 : hasB ⟨#[68, 98]⟩ 83 = false := by decide
  have h84 : hasB ⟨#[68, 98]⟩ 84 = false := by decide
  have h77 : hasB ⟨#[68, 98]⟩ 77 = false := by decide
  have h68 : hasB ⟨#[68, 98]⟩ 68 = true := by decide
  have HC : Hid (∀ W, Calls Tryz.prog 28 #[.agg (Ins.vs ⟨op, (nd : Int), s, t, b, x, sc, di, im⟩)] W fun e w' => e = .returned (.int .i64 0) ∧ Below W.heap.size W w') := Lib.hid (fun W => by have h1 := check_r ⟨op, (nd : Int), s, t, b, x, sc, di, im⟩ W; rw [hchk] at h1; exact h1)
  have HRI : Hid (∀ W, Calls Tryz.prog 52 #[.agg #[.bool (pf 0), .bool (pf 1), .bool (pf 2), .bool (pf 3), .bool (pf 4), .bool (pf 5), .bool (pf 6), .bool (pf 7), .bool (pf 8), .bool (pf 9), .bool (pf 10), .bool (pf 11), .bool (pf 12), .bool (pf 13), .bool (pf 14), .bool (pf 15)]] W (RowP (regK pf 16) W)) := Lib.hid (fun W => rising_r pf W)
  have z1 : (op == 1) = false := by rw [beq_eq_false_iff_ne]; omega
  have y1 : (op != 1) = true := by rw [bne, z1]; rfl
  have z2 : (op == 2) = false := by rw [beq_eq_false_iff_ne]; omega
  have y2 : (op != 2) = true := by rw [bne, z2]; rfl
  have z3 : (op == 3) = false := by rw [beq_eq_false_iff_ne]; omega
  have y3 : (op != 3) = true := by rw [bne, z3]; rfl
  have z5 : (op == 5) = false := by rw [beq_eq_false_iff_ne]; omega
  have y5 : (op != 5) = true := by rw [bne, z5]; rfl
  have z19 : (op == 19) = false := by rw [beq_eq_false_iff_ne]; omega
  have y19 : (op != 19) = true := by rw [bne, z19]; rfl
  have z29 : (op == 29) = false := by rw [beq_eq_false_iff_ne]; omega
  have y29 : (op != 29) = true := by rw [bne, z29]; rfl
  have z28 : (op == 28) = false := by rw [beq_eq_false_iff_ne]; omega
  have y28 : (op != 28) = true := by rw [bne, z28]; rfl
  have z33 : (op == 33) = false := by rw [beq_eq_false_iff_ne]; omega
  have y33 : (op != 33) = true := by rw [bne, z33]; rfl
  have HPF := Lib.hid hpf
  have td : ((nd : Nat) : Int).toNat = nd := by omega
  have ud : (0 : Int) ≤ ((nd : Nat) : Int) := by omega
  have vd : ((nd : Nat) : Int) < 16 := by omega
  unfold Ins.vs at *
  dsimp only
  clear hf hk hchk hL hok hpf
  go_enter Tryz.func24, Tryz.ntmps24
  go_wp2_with fail
  go_at_call 28
  refine (HC.out _).mono ?_
  rintro e w1 ⟨rfl, hb1⟩
  have hI1 : Bk w1 w.heap.size 37 #[.int .i64 op, .int .i64 (nd : Int), .int .i64 s, .int .i64 t, .int .i64 b, .int .i64 x, .int .i64 sc, .int .i64 di, .int .i64 im] := (Bk.new w _ _).below hb1 (by simp)
  have hB1 : Below w.heap.size w w1 := ((Below.refl _ w).alloc (Nat.le_refl _) _).trans (hb1.mono (by simp))
  have hl1 : w.heap.size < w1.heap.size := hI1.lt
  have HI1 := Lib.hid hI1
  have HB1 := Lib.hid hB1
  have cop1 : w1.cell? ⟨w.heap.size, 0, none⟩ = some (.int .i64 op) := hI1.cell 0
  have cd1 : w1.cell? ⟨w.heap.size, 1, none⟩ = some (.int .i64 (nd : Int)) := hI1.cell 1
  clear hI1 hB1 hb1
  go_wp2_with fail
  go_at_call 45
  refine (HF.out _).mono ?_
  rintro e w2 ⟨rfl, hw2⟩
  have hI2 : Bk w2 w.heap.size 37 #[.int .i64 op, .int .i64 (nd : Int), .int .i64 s, .int .i64 t, .int .i64 b, .int .i64 x, .int .i64 sc, .int .i64 di, .int .i64 im] := by rw [hw2]; exact HI1.out.alloc _
  have hL2 : Bk w2 w1.heap.size 92 (tab fun _ => false) := by rw [hw2]; exact Bk.new _ _ _
  have hB2 : Below w.heap.size w w2 := by rw [hw2]; exact HB1.out.alloc HB1.out.size _
  have HI := Lib.hid hI2
  have HL := Lib.hid hL2
  have HB := Lib.hid hB2
  have cop2 : w2.cell? ⟨w.heap.size, 0, none⟩ = some (.int .i64 op) := hI2.cell 0
  have cd2 : w2.cell? ⟨w.heap.size, 1, none⟩ = some (.int .i64 (nd : Int)) := hI2.cell 1
  clear hI2 hL2 hB2 hw2
  go_wp2_with fail
  go_at_call 44
  refine (HH.out _ _).mono ?_
  simp only [h83]
  rintro e w3 ⟨rfl, hw3⟩
  have HI3 := Lib.hid (show Bk w3 w.heap.size 37 #[.int .i64 op, .int .i64 (nd : Int), .int .i64 s, .int .i64 t, .int .i64 b, .int .i64 x, .int .i64 sc, .int .i64 di, .int .i64 im] by rw [hw3]; exact HI.out)
  have HL3 := Lib.hid (show Bk w3 w1.heap.size 92 (tab (fun _ => false)) by rw [hw3]; exact HL.out)
  have HB3 := Lib.hid (show Below w.heap.size w w3 by rw [hw3]; exact HB.out)
  clear hw3 HI HL HB
  have HI := HI3
  have HL := HL3
  have HB := HB3
  clear HI3 HL3 HB3
  have cop3 : w3.cell? ⟨w.heap.size, 0, none⟩ = some (.int .i64 op) := HI.out.cell 0
  have cd3 : w3.cell? ⟨w.heap.size, 1, none⟩ = some (.int .i64 (nd : Int)) := HI.out.cell 1
  go_wp2_with fail
  go_at_call 44
  refine (HH.out _ _).mono ?_
  simp only [h84]
  rintro e w4 ⟨rfl, hw4⟩
  have HI4 := Lib.hid (show Bk w4 w.heap.size 37 #[.int .i64 op, .int .i64 (nd : Int), .int .i64 s, .int .i64 t, .int .i64 b, .int .i64 x, .int .i64 sc, .int .i64 di, .int .i64 im] by rw [hw4]; exact HI.out)
  have HL4 := Lib.hid (show Bk w4 w1.heap.size 92 (tab (fun _ => false)) by rw [hw4]; exact HL.out)
  have HB4 := Lib.hid (show Below w.heap.size w w4 by rw [hw4]; exact HB.out)
  clear hw4 HI HL HB
  have HI := HI4
  have HL := HL4
  have HB := HB4
  clear HI4 HL4 HB4
  have cop4 : w4.cell? ⟨w.heap.size, 0, none⟩ = some (.int .i64 op) := HI.out.cell 0
  have cd4 : w4.cell? ⟨w.heap.size, 1, none⟩ = some (.int .i64 (nd : Int)) := HI.out.cell 1
  go_wp2_with fail
  go_at_call 44
  refine (HH.out _ _).mono ?_
  simp only [h77]
  rintro e w5 ⟨rfl, hw5⟩
  have HI5 := Lib.hid (show Bk w5 w.heap.size 37 #[.int .i64 op, .int .i64 (nd : Int), .int .i64 s, .int .i64 t, .int .i64 b, .int .i64 x, .int .i64 sc, .int .i64 di, .int .i64 im] by rw [hw5]; exact HI.out)
  have HL5 := Lib.hid (show Bk w5 w1.heap.size 92 (tab (fun _ => false)) by rw [hw5]; exact HL.out)
  have HB5 := Lib.hid (show Below w.heap.size w w5 by rw [hw5]; exact HB.out)
  clear hw5 HI HL HB
  have HI := HI5
  have HL := HL5
  have HB := HB5
  clear HI5 HL5 HB5
  have cop5 : w5.cell? ⟨w.heap.size, 0, none⟩ = some (.int .i64 op) := HI.out.cell 0
  have cd5 : w5.cell? ⟨w.heap.size, 1, none⟩ = some (.int .i64 (nd : Int)) := HI.out.cell 1
  go_wp2_with fail
  go_at_call 44
  refine (HH.out _ _).mono ?_
  simp only [h68]
  rintro e w6 ⟨rfl, hw6⟩
  have HI6 := Lib.hid (show Bk w6 w.heap.size 37 #[.int .i64 op, .int .i64 (nd : Int), .int .i64 s, .int .i64 t, .int .i64 b, .int .i64 x, .int .i64 sc, .int .i64 di, .int .i64 im] by rw [hw6]; exact HI.out)
  have HL6 := Lib.hid (show Bk w6 w1.heap.size 92 (tab (fun _ => false)) by rw [hw6]; exact HL.out)
  have HB6 := Lib.hid (show Below w.heap.size w w6 by rw [hw6]; exact HB.out)
  clear hw6 HI HL HB
  have HI := HI6
  have HL := HL6
  have HB := HB6
  clear HI6 HL6 HB6
  have cop6 : w6.cell? ⟨w.heap.size, 0, none⟩ = some (.int .i64 op) := HI.out.cell 0
  have cd6 : w6.cell? ⟨w.heap.size, 1, none⟩ = some (.int .i64 (nd : Int)) := HI.out.cell 1
  have cl06 : w6.cell? ⟨w1.heap.size, nd, none⟩ = some (.bool _) := ((HL.out).cell _).trans (tab_get _ (by omega))
  have fl06 : w6.frozen? ⟨w1.heap.size, nd, none⟩ = false := (HL.out).frozen _
  have ccd16 : (w6.setCell ⟨w1.heap.size, nd, none⟩ (.bool true)).cell? ⟨w.heap.size, 1, none⟩ = some (.int .i64 (nd : Int)) := ((HI.out).far (p := ⟨w1.heap.size, nd, none⟩) (Nat.ne_of_lt hl1) (.bool true)).cell 1
  have ccop16 : (w6.setCell ⟨w1.heap.size, nd, none⟩ (.bool true)).cell? ⟨w.heap.size, 0, none⟩ = some (.int .i64 op) := ((HI.out).far (p := ⟨w1.heap.size, nd, none⟩) (Nat.ne_of_lt hl1) (.bool true)).cell 0
  go_upto_region 17 with fail
  obtain ⟨wf, hwf⟩ : ∃ wf, wf = (w6.setCell ⟨w1.heap.size, nd, none⟩ (.bool true)) := ⟨_, rfl⟩
  try rw [← hwf]
  have hlf : Bk wf w1.heap.size 92 (tab pf) := by rw [hwf, HPF.out]; exact tab_put (HL.out) ld
  have hbf : Below w.heap.size w wf := by rw [hwf]; exact (HB.out).setCell (p := ⟨w1.heap.size, nd, none⟩) (Nat.le_of_lt hl1) _
  have q0 : wf.cell? ⟨w1.heap.size, 0, none⟩ = some (.bool (pf 0)) := (hlf.cell 0).trans (tab_get pf (by decide))
  have q1 : wf.cell? ⟨w1.heap.size, 1, none⟩ = some (.bool (pf 1)) := (hlf.cell 1).trans (tab_get pf (by decide))
  have q2 : wf.cell? ⟨w1.heap.size, 2, none⟩ = some (.bool (pf 2)) := (hlf.cell 2).trans (tab_get pf (by decide))
  have q3 : wf.cell? ⟨w1.heap.size, 3, none⟩ = some (.bool (pf 3)) := (hlf.cell 3).trans (tab_get pf (by decide))
  have q4 : wf.cell? ⟨w1.heap.size, 4, none⟩ = some (.bool (pf 4)) := (hlf.cell 4).trans (tab_get pf (by decide))
  have q5 : wf.cell? ⟨w1.heap.size, 5, none⟩ = some (.bool (pf 5)) := (hlf.cell 5).trans (tab_get pf (by decide))
  have q6 : wf.cell? ⟨w1.heap.size, 6, none⟩ = some (.bool (pf 6)) := (hlf.cell 6).trans (tab_get pf (by decide))
  have q7 : wf.cell? ⟨w1.heap.size, 7, none⟩ = some (.bool (pf 7)) := (hlf.cell 7).trans (tab_get pf (by decide))
  have q8 : wf.cell? ⟨w1.heap.size, 8, none⟩ = some (.bool (pf 8)) := (hlf.cell 8).trans (tab_get pf (by decide))
  have q9 : wf.cell? ⟨w1.heap.size, 9, none⟩ = some (.bool (pf 9)) := (hlf.cell 9).trans (tab_get pf (by decide))
  have q10 : wf.cell? ⟨w1.heap.size, 10, none⟩ = some (.bool (pf 10)) := (hlf.cell 10).trans (tab_get pf (by decide))
  have q11 : wf.cell? ⟨w1.heap.size, 11, none⟩ = some (.bool (pf 11)) := (hlf.cell 11).trans (tab_get pf (by decide))
  have q12 : wf.cell? ⟨w1.heap.size, 12, none⟩ = some (.bool (pf 12)) := (hlf.cell 12).trans (tab_get pf (by decide))
  have q13 : wf.cell? ⟨w1.heap.size, 13, none⟩ = some (.bool (pf 13)) := (hlf.cell 13).trans (tab_get pf (by decide))
  have q14 : wf.cell? ⟨w1.heap.size, 14, none⟩ = some (.bool (pf 14)) := (hlf.cell 14).trans (tab_get pf (by decide))
  have q15 : wf.cell? ⟨w1.heap.size, 15, none⟩ = some (.bool (pf 15)) := (hlf.cell 15).trans (tab_get pf (by decide))
  have HBF := Lib.hid hbf
  clear hlf hbf hwf
  go_wp2_with fail
  go_at_call 52
  refine (HRI.out _).mono ?_
  rintro e w9 ⟨v, rfl, ho, hb9⟩
  have HO := Lib.hid ho
  have HB9 := Lib.hid hb9
  clear ho hb9
  go_wp2_with fail
  go_ret
  exact ⟨v, rfl, ownsRow_base HO.out HBF.out.size, HBF.out.trans (HB9.out.mono HBF.out.size)⟩
set_option maxRecDepth 100000 in
set_option maxHeartbeats 4000000 in
theorem reads_s (i : Ins) (hok : okI i = true) (hop : i.op = 28) (w : World) : Calls Tryz.prog 24 #[.agg i.vs] w (RowP (rdL i) w) := by
  obtain ⟨op, d, s, t, b, x, sc, di, im⟩ := i
  dsimp only at hop
  subst hop
  have hf : formOf (28) = .s := by
    unfold formOf
    first | rfl | (simp; omega) | (repeat (first | rw [if_pos (by omega)] | rw [if_neg (by omega)]))
  have hk := hok
  unfold okI at hk
  dsimp only at hk
  rw [hf] at hk
  simp only [okF, Bool.and_eq_true] at hk
  have hchk : chk ⟨28, d, s, t, b, x, sc, di, im⟩ = 0 := by unfold chk; rw [hok]; rfl
  have ks := reg_nat hk.1.1.1.2
  obtain ⟨ns, rfl, ls⟩ := ks
  obtain ⟨pf, hpf⟩ : ∃ pf : Int → Bool, pf = fun z => ((false || decide (z = (ns : Int))) || decide (z = ((4 : Nat) : Int))) := ⟨_, rfl⟩
  have hL : rdL ⟨28, d, (ns : Int), t, b, x, sc, di, im⟩ = regK pf 16 := by
    unfold rdL
    rw [if_pos hok]
    show List.filter _ _ = List.filter _ _
    congr 1
    funext z
    dsimp only
    rw [hf, hpf]
    first | rfl | simp [rdF]
  rw [hL]
  have HF : Hid (∀ W, Calls Tryz.prog 45 #[.int .i64 28] W fun e w' => e = .returned (.string ⟨#[83]⟩) ∧ w' = W) := Lib.hid (fun W => by have h1 := form_c (28) W; rw [hf] at h1; exact h1)
  have HH : Hid (∀ c W, Calls Tryz.prog 44 #[.string ⟨#[83]⟩, .int .u8 c] W fun e w' => e = .returned (.bool (hasB ⟨#[83]⟩ c)) ∧ w' = W) := Lib.hid (fun c W => has_c ⟨#[83]⟩ c W (by decide))
  have h83 : hasB ⟨#[83]⟩ 83 = true := by decide
  have h84 : hasB ⟨#[83]⟩ 84 = false := by decide
  have h77 : hasB ⟨#[83]⟩ 77 = false := by decide
  have h68 : hasB ⟨#[83]⟩ 68 = false := by decide
  have HC : Hid (∀ W, Calls Tryz.prog 28 #[.agg (Ins.vs ⟨28, d, (ns : Int), t, b, x, sc, di, im⟩)] W fun e w' => e = .returned (.int .i64 0) ∧ Below W.heap.size W w') := Lib.hid (fun W => by have h1 := check_r ⟨28, d, (ns : Int), t, b, x, sc, di, im⟩ W; rw [hchk] at h1; exact h1)
  have HRI : Hid (∀ W, Calls Tryz.prog 52 #[.agg #[.bool (pf 0), .bool (pf 1), .bool (pf 2), .bool (pf 3), .bool (pf 4), .bool (pf 5), .bool (pf 6), .bool (pf 7), .bool (pf 8), .bool (pf 9), .bool (pf 10), .bool (pf 11), .bool (pf 12), .bool (pf 13), .bool (pf 14), .bool (pf 15)]] W (RowP (regK pf 16) W)) := Lib.hid (fun W => rising_r pf W)
  have HPF := Lib.hid hpf
  have ts : ((ns : Nat) : Int).toNat = ns := by omega
  have us : (0 : Int) ≤ ((ns : Nat) : Int) := by omega
  have vs : ((ns : Nat) : Int) < 16 := by omega
  unfold Ins.vs at *
  dsimp only
  clear hf hk hchk hL hok hpf
  go_enter Tryz.func24, Tryz.ntmps24
  go_wp2_with fail
  go_at_call 28
  refine (HC.out _).mono ?_
  rintro e w1 ⟨rfl, hb1⟩
  have hI1 : Bk w1 w.heap.size 37 #[.int .i64 28, .int .i64 d, .int .i64 (ns : Int), .int .i64 t, .int .i64 b, .int .i64 x, .int .i64 sc, .int .i64 di, .int .i64 im] := (Bk.new w _ _).below hb1 (by simp)
  have hB1 : Below w.heap.size w w1 := ((Below.refl _ w).alloc (Nat.le_refl _) _).trans (hb1.mono (by simp))
  have hl1 : w.heap.size < w1.heap.size := hI1.lt
  have HI1 := Lib.hid hI1
  have HB1 := Lib.hid hB1
  have cop1 : w1.cell? ⟨w.heap.size, 0, none⟩ = some (.int .i64 28) := hI1.cell 0
  have cs1 : w1.cell? ⟨w.heap.size, 2, none⟩ = some (.int .i64 (ns : Int)) := hI1.cell 2
  clear hI1 hB1 hb1
  go_wp2_with fail
  go_at_call 45
  refine (HF.out _).mono ?_
  rintro e w2 ⟨rfl, hw2⟩
  have hI2 : Bk w2 w.heap.size 37 #[.int .i64 28, .int .i64 d, .int .i64 (ns : Int), .int .i64 t, .int .i64 b, .int .i64 x, .int .i64 sc, .int .i64 di, .int .i64 im] := by rw [hw2]; exact HI1.out.alloc _
  have hL2 : Bk w2 w1.heap.size 92 (tab fun _ => false) := by rw [hw2]; exact Bk.new _ _ _
  have hB2 : Below w.heap.size w w2 := by rw [hw2]; exact HB1.out.alloc HB1.out.size _
  have HI := Lib.hid hI2
  have HL := Lib.hid hL2
  have HB := Lib.hid hB2
  have cop2 : w2.cell? ⟨w.heap.size, 0, none⟩ = some (.int .i64 28) := hI2.cell 0
  have cs2 : w2.cell? ⟨w.heap.size, 2, none⟩ = some (.int .i64 (ns : Int)) := hI2.cell 2
  clear hI2 hL2 hB2 hw2
  go_wp2_with fail
  go_at_call 44
  refine (HH.out _ _).mono ?_
  simp only [h83]
  rintro e w3 ⟨rfl, hw3⟩
  have HI3 := Lib.hid (show Bk w3 w.heap.size 37 #[.int .i64 28, .int .i64 d, .int .i64 (ns : Int), .int .i64 t, .int .i64 b, .int .i64 x, .int .i64 sc, .int .i64 di, .int .i64 im] by rw [hw3]; exact HI.out)
  have HL3 := Lib.hid (show Bk w3 w1.heap.size 92 (tab (fun _ => false)) by rw [hw3]; exact HL.out)
  have HB3 := Lib.hid (show Below w.heap.size w w3 by rw [hw3]; exact HB.out)
  clear hw3 HI HL HB
  have HI := HI3
  have HL := HL3
  have HB := HB3
  clear HI3 HL3 HB3
  have cop3 : w3.cell? ⟨w.heap.size, 0, none⟩ = some (.int .i64 28) := HI.out.cell 0
  have cs3 : w3.cell? ⟨w.heap.size, 2, none⟩ = some (.int .i64 (ns : Int)) := HI.out.cell 2
  have cl03 : w3.cell? ⟨w1.heap.size, ns, none⟩ = some (.bool _) := ((HL.out).cell _).trans (tab_get _ (by omega))
  have fl03 : w3.frozen? ⟨w1.heap.size, ns, none⟩ = false := (HL.out).frozen _
  have ccs13 : (w3.setCell ⟨w1.heap.size, ns, none⟩ (.bool true)).cell? ⟨w.heap.size, 2, none⟩ = some (.int .i64 (ns : Int)) := ((HI.out).far (p := ⟨w1.heap.size, ns, none⟩) (Nat.ne_of_lt hl1) (.bool true)).cell 2
  have ccop13 : (w3.setCell ⟨w1.heap.size, ns, none⟩ (.bool true)).cell? ⟨w.heap.size, 0, none⟩ = some (.int .i64 28) := ((HI.out).far (p := ⟨w1.heap.size, ns, none⟩) (Nat.ne_of_lt hl1) (.bool true)).cell 0
  go_wp2_with fail
  go_at_call 44
  refine (HH.out _ _).mono ?_
  simp only [h84]
  rintro e w4 ⟨rfl, hw4⟩
  have HI4 := Lib.hid (show Bk w4 w.heap.size 37 #[.int .i64 28, .int .i64 d, .int .i64 (ns : Int), .int .i64 t, .int .i64 b, .int .i64 x, .int .i64 sc, .int .i64 di, .int .i64 im] by rw [hw4]; exact (HI.out).far (p := ⟨w1.heap.size, ns, none⟩) (Nat.ne_of_lt hl1) (.bool true))
  have HL4 := Lib.hid (show Bk w4 w1.heap.size 92 (tab (fun (z : Int) => (fun _ => false) z || decide (z = ((ns : Nat) : Int)))) by rw [hw4]; exact tab_put (HL.out) ls)
  have HB4 := Lib.hid (show Below w.heap.size w w4 by rw [hw4]; exact (HB.out).setCell (p := ⟨w1.heap.size, ns, none⟩) (Nat.le_of_lt hl1) _)
  clear hw4 HI HL HB
  have HI := HI4
  have HL := HL4
  have HB := HB4
  clear HI4 HL4 HB4
  have cop4 : w4.cell? ⟨w.heap.size, 0, none⟩ = some (.int .i64 28) := HI.out.cell 0
  have cs4 : w4.cell? ⟨w.heap.size, 2, none⟩ = some (.int .i64 (ns : Int)) := HI.out.cell 2
  go_wp2_with fail
  go_at_call 44
  refine (HH.out _ _).mono ?_
  simp only [h77]
  rintro e w5 ⟨rfl, hw5⟩
  have HI5 := Lib.hid (show Bk w5 w.heap.size 37 #[.int .i64 28, .int .i64 d, .int .i64 (ns : Int), .int .i64 t, .int .i64 b, .int .i64 x, .int .i64 sc, .int .i64 di, .int .i64 im] by rw [hw5]; exact HI.out)
  have HL5 := Lib.hid (show Bk w5 w1.heap.size 92 (tab (fun (z : Int) => (fun _ => false) z || decide (z = ((ns : Nat) : Int)))) by rw [hw5]; exact HL.out)
  have HB5 := Lib.hid (show Below w.heap.size w w5 by rw [hw5]; exact HB.out)
  clear hw5 HI HL HB
  have HI := HI5
  have HL := HL5
  have HB := HB5
  clear HI5 HL5 HB5
  have cop5 : w5.cell? ⟨w.heap.size, 0, none⟩ = some (.int .i64 28) := HI.out.cell 0
  have cs5 : w5.cell? ⟨w.heap.size, 2, none⟩ = some (.int .i64 (ns : Int)) := HI.out.cell 2
  go_wp2_with fail
  go_at_call 44
  refine (HH.out _ _).mono ?_
  simp only [h68]
  rintro e w6 ⟨rfl, hw6⟩
  have HI6 := Lib.hid (show Bk w6 w.heap.size 37 #[.int .i64 28, .int .i64 d, .int .i64 (ns : Int), .int .i64 t, .int .i64 b, .int .i64 x, .int .i64 sc, .int .i64 di, .int .i64 im] by rw [hw6]; exact HI.out)
  have HL6 := Lib.hid (show Bk w6 w1.heap.size 92 (tab (fun (z : Int) => (fun _ => false) z || decide (z = ((ns : Nat) : Int)))) by rw [hw6]; exact HL.out)
  have HB6 := Lib.hid (show Below w.heap.size w w6 by rw [hw6]; exact HB.out)
  clear hw6 HI HL HB
  have HI := HI6
  have HL := HL6
  have HB := HB6
  clear HI6 HL6 HB6
  have cop6 : w6.cell? ⟨w.heap.size, 0, none⟩ = some (.int .i64 28) := HI.out.cell 0
  have cs6 : w6.cell? ⟨w.heap.size, 2, none⟩ = some (.int .i64 (ns : Int)) := HI.out.cell 2
  have cl06 : w6.cell? ⟨w1.heap.size, 4, none⟩ = some (.bool _) := ((HL.out).cell _).trans (tab_get _ (by omega))
  have fl06 : w6.frozen? ⟨w1.heap.size, 4, none⟩ = false := (HL.out).frozen _
  have ccs16 : (w6.setCell ⟨w1.heap.size, 4, none⟩ (.bool true)).cell? ⟨w.heap.size, 2, none⟩ = some (.int .i64 (ns : Int)) := ((HI.out).far (p := ⟨w1.heap.size, 4, none⟩) (Nat.ne_of_lt hl1) (.bool true)).cell 2
  have ccop16 : (w6.setCell ⟨w1.heap.size, 4, none⟩ (.bool true)).cell? ⟨w.heap.size, 0, none⟩ = some (.int .i64 28) := ((HI.out).far (p := ⟨w1.heap.size, 4, none⟩) (Nat.ne_of_lt hl1) (.bool true)).cell 0
  go_upto_region 17 with fail
  obtain ⟨wf, hwf⟩ : ∃ wf, wf = (w6.setCell ⟨w1.heap.size, 4, none⟩ (.bool true)) := ⟨_, rfl⟩
  try rw [← hwf]
  have hlf : Bk wf w1.heap.size 92 (tab pf) := by rw [hwf, HPF.out]; exact tab_put (HL.out) (by decide)
  have hbf : Below w.heap.size w wf := by rw [hwf]; exact (HB.out).setCell (p := ⟨w1.heap.size, 4, none⟩) (Nat.le_of_lt hl1) _
  have q0 : wf.cell? ⟨w1.heap.size, 0, none⟩ = some (.bool (pf 0)) := (hlf.cell 0).trans (tab_get pf (by decide))
  have q1 : wf.cell? ⟨w1.heap.size, 1, none⟩ = some (.bool (pf 1)) := (hlf.cell 1).trans (tab_get pf (by decide))
  have q2 : wf.cell? ⟨w1.heap.size, 2, none⟩ = some (.bool (pf 2)) := (hlf.cell 2).trans (tab_get pf (by decide))
  have q3 : wf.cell? ⟨w1.heap.size, 3, none⟩ = some (.bool (pf 3)) := (hlf.cell 3).trans (tab_get pf (by decide))
  have q4 : wf.cell? ⟨w1.heap.size, 4, none⟩ = some (.bool (pf 4)) := (hlf.cell 4).trans (tab_get pf (by decide))
  have q5 : wf.cell? ⟨w1.heap.size, 5, none⟩ = some (.bool (pf 5)) := (hlf.cell 5).trans (tab_get pf (by decide))
  have q6 : wf.cell? ⟨w1.heap.size, 6, none⟩ = some (.bool (pf 6)) := (hlf.cell 6).trans (tab_get pf (by decide))
  have q7 : wf.cell? ⟨w1.heap.size, 7, none⟩ = some (.bool (pf 7)) := (hlf.cell 7).trans (tab_get pf (by decide))
  have q8 : wf.cell? ⟨w1.heap.size, 8, none⟩ = some (.bool (pf 8)) := (hlf.cell 8).trans (tab_get pf (by decide))
  have q9 : wf.cell? ⟨w1.heap.size, 9, none⟩ = some (.bool (pf 9)) := (hlf.cell 9).trans (tab_get pf (by decide))
  have q10 : wf.cell? ⟨w1.heap.size, 10, none⟩ = some (.bool (pf 10)) := (hlf.cell 10).trans (tab_get pf (by decide))
  have q11 : wf.cell? ⟨w1.heap.size, 11, none⟩ = some (.bool (pf 11)) := (hlf.cell 11).trans (tab_get pf (by decide))
  have q12 : wf.cell? ⟨w1.heap.size, 12, none⟩ = some (.bool (pf 12)) := (hlf.cell 12).trans (tab_get pf (by decide))
  have q13 : wf.cell? ⟨w1.heap.size, 13, none⟩ = some (.bool (pf 13)) := (hlf.cell 13).trans (tab_get pf (by decide))
  have q14 : wf.cell? ⟨w1.heap.size, 14, none⟩ = some (.bool (pf 14)) := (hlf.cell 14).trans (tab_get pf (by decide))
  have q15 : wf.cell? ⟨w1.heap.size, 15, none⟩ = some (.bool (pf 15)) := (hlf.cell 15).trans (tab_get pf (by decide))
  have HBF := Lib.hid hbf
  clear hlf hbf hwf
  go_wp2_with fail
  go_at_call 52
  refine (HRI.out _).mono ?_
  rintro e w9 ⟨v, rfl, ho, hb9⟩
  have HO := Lib.hid ho
  have HB9 := Lib.hid hb9
  clear ho hb9
  go_wp2_with fail
  go_ret
  exact ⟨v, rfl, ownsRow_base HO.out HBF.out.size, HBF.out.trans (HB9.out.mono HBF.out.size)⟩
end Is
end Go.Proofs.YtmiphnocgepdgaaGreatDoor
namespace Go.Proofs.YtmiphnocgepdgaaGreatDoor
open Go Go.RowKit
namespace Is
open Nt
set_option linter.unusedVariables false
set_option linter.unusedSimpArgs false
set_option maxRecDepth 100000 in
set_option maxHeartbeats 4000000 in
theorem reads_j (i : Ins) (hok : okI i = true) (hop : i.op = 30 ∨ i.op = 31 ∨ i.op = 32) (w : World) : Calls Tryz.prog 24 #[.agg i.vs] w (RowP (rdL i) w) := by
  obtain ⟨op, d, s, t, b, x, sc, di, im⟩ := i
  dsimp only at hop
  have hf : formOf (op) = .j := by
    unfold formOf
    first | rfl | (simp; omega) | (repeat (first | rw [if_pos (by omega)] | rw [if_neg (by omega)]))
  have hk := hok
  unfold okI at hk
  dsimp only at hk
  rw [hf] at hk
  simp only [okF, Bool.and_eq_true] at hk
  have hchk : chk ⟨op, d, s, t, b, x, sc, di, im⟩ = 0 := by unfold chk; rw [hok]; rfl
  obtain ⟨pf, hpf⟩ : ∃ pf : Int → Bool, pf = fun z => false := ⟨_, rfl⟩
  have hL : rdL ⟨op, d, s, t, b, x, sc, di, im⟩ = regK pf 16 := by
    unfold rdL
    rw [if_pos hok]
    show List.filter _ _ = List.filter _ _
    congr 1
    funext z
    dsimp only
    rw [hf, hpf]
    have m1 : ¬ (op = 1) := by omega
    have m29 : ¬ (op = 29) := by omega
    first | rfl | simp [rdF, m1, m29]
  rw [hL]
  have HF : Hid (∀ W, Calls Tryz.prog 45 #[.int .i64 op] W fun e w' => e = .returned (.string ⟨#[105]⟩) ∧ w' = W) := Lib.hid (fun W => by have h1 := form_c (op) W; rw [hf] at h1; exact h1)
  have HH : Hid (∀ c W, Calls Tryz.prog 44 #[.string ⟨#[105]⟩, .int .u8 c] W fun e w' => e = .returned (.bool (hasB ⟨#[105]⟩ c)) ∧ w' = W) := Lib.hid (fun c W => has_c ⟨#[105]⟩ c W (by decide))
  have h83 : hasB ⟨#[105]⟩ 83 = false := by decide
  have h84 : hasB ⟨#[105]⟩ 84 = false := by decide
  have h77 : hasB ⟨#[105]⟩ 77 = false := by decide
  have h68 : hasB ⟨#[105]⟩ 68 = false := by decide
  have HC : Hid (∀ W, Calls Tryz.prog 28 #[.agg (Ins.vs ⟨op, d, s, t, b, x, sc, di, im⟩)] W fun e w' => e = .returned (.int .i64 0) ∧ Below W.heap.size W w') := Lib.hid (fun W => by have h1 := check_r ⟨op, d, s, t, b, x, sc, di, im⟩ W; rw [hchk] at h1; exact h1)
  have HRI : Hid (∀ W, Calls Tryz.prog 52 #[.agg #[.bool (pf 0), .bool (pf 1), .bool (pf 2), .bool (pf 3), .bool (pf 4), .bool (pf 5), .bool (pf 6), .bool (pf 7), .bool (pf 8), .bool (pf 9), .bool (pf 10), .bool (pf 11), .bool (pf 12), .bool (pf 13), .bool (pf 14), .bool (pf 15)]] W (RowP (regK pf 16) W)) := Lib.hid (fun W => rising_r pf W)
  have z1 : (op == 1) = false := by rw [beq_eq_false_iff_ne]; omega
  have y1 : (op != 1) = true := by rw [bne, z1]; rfl
  have z2 : (op == 2) = false := by rw [beq_eq_false_iff_ne]; omega
  have y2 : (op != 2) = true := by rw [bne, z2]; rfl
  have z3 : (op == 3) = false := by rw [beq_eq_false_iff_ne]; omega
  have y3 : (op != 3) = true := by rw [bne, z3]; rfl
  have z5 : (op == 5) = false := by rw [beq_eq_false_iff_ne]; omega
  have y5 : (op != 5) = true := by rw [bne, z5]; rfl
  have z19 : (op == 19) = false := by rw [beq_eq_false_iff_ne]; omega
  have y19 : (op != 19) = true := by rw [bne, z19]; rfl
  have z29 : (op == 29) = false := by rw [beq_eq_false_iff_ne]; omega
  have y29 : (op != 29) = true := by rw [bne, z29]; rfl
  have z28 : (op == 28) = false := by rw [beq_eq_false_iff_ne]; omega
  have y28 : (op != 28) = true := by rw [bne, z28]; rfl
  have z33 : (op == 33) = false := by rw [beq_eq_false_iff_ne]; omega
  have y33 : (op != 33) = true := by rw [bne, z33]; rfl
  have HPF := Lib.hid hpf
  unfold Ins.vs at *
  dsimp only
  clear hf hk hchk hL hok hpf
  go_enter Tryz.func24, Tryz.ntmps24
  go_wp2_with fail
  go_at_call 28
  refine (HC.out _).mono ?_
  rintro e w1 ⟨rfl, hb1⟩
  have hI1 : Bk w1 w.heap.size 37 #[.int .i64 op, .int .i64 d, .int .i64 s, .int .i64 t, .int .i64 b, .int .i64 x, .int .i64 sc, .int .i64 di, .int .i64 im] := (Bk.new w _ _).below hb1 (by simp)
  have hB1 : Below w.heap.size w w1 := ((Below.refl _ w).alloc (Nat.le_refl _) _).trans (hb1.mono (by simp))
  have hl1 : w.heap.size < w1.heap.size := hI1.lt
  have HI1 := Lib.hid hI1
  have HB1 := Lib.hid hB1
  have cop1 : w1.cell? ⟨w.heap.size, 0, none⟩ = some (.int .i64 op) := hI1.cell 0
  clear hI1 hB1 hb1
  go_wp2_with fail
  go_at_call 45
  refine (HF.out _).mono ?_
  rintro e w2 ⟨rfl, hw2⟩
  have hI2 : Bk w2 w.heap.size 37 #[.int .i64 op, .int .i64 d, .int .i64 s, .int .i64 t, .int .i64 b, .int .i64 x, .int .i64 sc, .int .i64 di, .int .i64 im] := by rw [hw2]; exact HI1.out.alloc _
  have hL2 : Bk w2 w1.heap.size 92 (tab fun _ => false) := by rw [hw2]; exact Bk.new _ _ _
  have hB2 : Below w.heap.size w w2 := by rw [hw2]; exact HB1.out.alloc HB1.out.size _
  have HI := Lib.hid hI2
  have HL := Lib.hid hL2
  have HB := Lib.hid hB2
  have cop2 : w2.cell? ⟨w.heap.size, 0, none⟩ = some (.int .i64 op) := hI2.cell 0
  clear hI2 hL2 hB2 hw2
  go_wp2_with fail
  go_at_call 44
  refine (HH.out _ _).mono ?_
  simp only [h83]
  rintro e w3 ⟨rfl, hw3⟩
  have HI3 := Lib.hid (show Bk w3 w.heap.size 37 #[.int .i64 op, .int .i64 d, .int .i64 s, .int .i64 t, .int .i64 b, .int .i64 x, .int .i64 sc, .int .i64 di, .int .i64 im] by rw [hw3]; exact HI.out)
  have HL3 := Lib.hid (show Bk w3 w1.heap.size 92 (tab (fun _ => false)) by rw [hw3]; exact HL.out)
  have HB3 := Lib.hid (show Below w.heap.size w w3 by rw [hw3]; exact HB.out)
  clear hw3 HI HL HB
  have HI := HI3
  have HL := HL3
  have HB := HB3
  clear HI3 HL3 HB3
  have cop3 : w3.cell? ⟨w.heap.size, 0, none⟩ = some (.int .i64 op) := HI.out.cell 0
  go_wp2_with fail
  go_at_call 44
  refine (HH.out _ _).mono ?_
  simp only [h84]
  rintro e w4 ⟨rfl, hw4⟩
  have HI4 := Lib.hid (show Bk w4 w.heap.size 37 #[.int .i64 op, .int .i64 d, .int .i64 s, .int .i64 t, .int .i64 b, .int .i64 x, .int .i64 sc, .int .i64 di, .int .i64 im] by rw [hw4]; exact HI.out)
  have HL4 := Lib.hid (show Bk w4 w1.heap.size 92 (tab (fun _ => false)) by rw [hw4]; exact HL.out)
  have HB4 := Lib.hid (show Below w.heap.size w w4 by rw [hw4]; exact HB.out)
  clear hw4 HI HL HB
  have HI := HI4
  have HL := HL4
  have HB := HB4
  clear HI4 HL4 HB4
  have cop4 : w4.cell? ⟨w.heap.size, 0, none⟩ = some (.int .i64 op) := HI.out.cell 0
  go_wp2_with fail
  go_at_call 44
  refine (HH.out _ _).mono ?_
  simp only [h77]
  rintro e w5 ⟨rfl, hw5⟩
  have HI5 := Lib.hid (show Bk w5 w.heap.size 37 #[.int .i64 op, .int .i64 d, .int .i64 s, .int .i64 t, .int .i64 b, .int .i64 x, .int .i64 sc, .int .i64 di, .int .i64 im] by rw [hw5]; exact HI.out)
  have HL5 := Lib.hid (show Bk w5 w1.heap.size 92 (tab (fun _ => false)) by rw [hw5]; exact HL.out)
  have HB5 := Lib.hid (show Below w.heap.size w w5 by rw [hw5]; exact HB.out)
  clear hw5 HI HL HB
  have HI := HI5
  have HL := HL5
  have HB := HB5
  clear HI5 HL5 HB5
  have cop5 : w5.cell? ⟨w.heap.size, 0, none⟩ = some (.int .i64 op) := HI.out.cell 0
  go_wp2_with fail
  go_at_call 44
  refine (HH.out _ _).mono ?_
  simp only [h68]
  rintro e w6 ⟨rfl, hw6⟩
  have HI6 := Lib.hid (show Bk w6 w.heap.size 37 #[.int .i64 op, .int .i64 d, .int .i64 s, .int .i64 t, .int .i64 b, .int .i64 x, .int .i64 sc, .int .i64 di, .int .i64 im] by rw [hw6]; exact HI.out)
  have HL6 := Lib.hid (show Bk w6 w1.heap.size 92 (tab (fun _ => false)) by rw [hw6]; exact HL.out)
  have HB6 := Lib.hid (show Below w.heap.size w w6 by rw [hw6]; exact HB.out)
  clear hw6 HI HL HB
  have HI := HI6
  have HL := HL6
  have HB := HB6
  clear HI6 HL6 HB6
  have cop6 : w6.cell? ⟨w.heap.size, 0, none⟩ = some (.int .i64 op) := HI.out.cell 0
  go_upto_region 17 with fail
  obtain ⟨wf, hwf⟩ : ∃ wf, wf = w6 := ⟨_, rfl⟩
  try rw [← hwf]
  have hlf : Bk wf w1.heap.size 92 (tab pf) := by rw [hwf, HPF.out]; exact HL.out
  have hbf : Below w.heap.size w wf := by rw [hwf]; exact HB.out
  have q0 : wf.cell? ⟨w1.heap.size, 0, none⟩ = some (.bool (pf 0)) := (hlf.cell 0).trans (tab_get pf (by decide))
  have q1 : wf.cell? ⟨w1.heap.size, 1, none⟩ = some (.bool (pf 1)) := (hlf.cell 1).trans (tab_get pf (by decide))
  have q2 : wf.cell? ⟨w1.heap.size, 2, none⟩ = some (.bool (pf 2)) := (hlf.cell 2).trans (tab_get pf (by decide))
  have q3 : wf.cell? ⟨w1.heap.size, 3, none⟩ = some (.bool (pf 3)) := (hlf.cell 3).trans (tab_get pf (by decide))
  have q4 : wf.cell? ⟨w1.heap.size, 4, none⟩ = some (.bool (pf 4)) := (hlf.cell 4).trans (tab_get pf (by decide))
  have q5 : wf.cell? ⟨w1.heap.size, 5, none⟩ = some (.bool (pf 5)) := (hlf.cell 5).trans (tab_get pf (by decide))
  have q6 : wf.cell? ⟨w1.heap.size, 6, none⟩ = some (.bool (pf 6)) := (hlf.cell 6).trans (tab_get pf (by decide))
  have q7 : wf.cell? ⟨w1.heap.size, 7, none⟩ = some (.bool (pf 7)) := (hlf.cell 7).trans (tab_get pf (by decide))
  have q8 : wf.cell? ⟨w1.heap.size, 8, none⟩ = some (.bool (pf 8)) := (hlf.cell 8).trans (tab_get pf (by decide))
  have q9 : wf.cell? ⟨w1.heap.size, 9, none⟩ = some (.bool (pf 9)) := (hlf.cell 9).trans (tab_get pf (by decide))
  have q10 : wf.cell? ⟨w1.heap.size, 10, none⟩ = some (.bool (pf 10)) := (hlf.cell 10).trans (tab_get pf (by decide))
  have q11 : wf.cell? ⟨w1.heap.size, 11, none⟩ = some (.bool (pf 11)) := (hlf.cell 11).trans (tab_get pf (by decide))
  have q12 : wf.cell? ⟨w1.heap.size, 12, none⟩ = some (.bool (pf 12)) := (hlf.cell 12).trans (tab_get pf (by decide))
  have q13 : wf.cell? ⟨w1.heap.size, 13, none⟩ = some (.bool (pf 13)) := (hlf.cell 13).trans (tab_get pf (by decide))
  have q14 : wf.cell? ⟨w1.heap.size, 14, none⟩ = some (.bool (pf 14)) := (hlf.cell 14).trans (tab_get pf (by decide))
  have q15 : wf.cell? ⟨w1.heap.size, 15, none⟩ = some (.bool (pf 15)) := (hlf.cell 15).trans (tab_get pf (by decide))
  have HBF := Lib.hid hbf
  clear hlf hbf hwf
  go_wp2_with fail
  go_at_call 52
  refine (HRI.out _).mono ?_
  rintro e w9 ⟨v, rfl, ho, hb9⟩
  have HO := Lib.hid ho
  have HB9 := Lib.hid hb9
  clear ho hb9
  go_wp2_with fail
  go_ret
  exact ⟨v, rfl, ownsRow_base HO.out HBF.out.size, HBF.out.trans (HB9.out.mono HBF.out.size)⟩
set_option maxRecDepth 100000 in
set_option maxHeartbeats 4000000 in
theorem reads_r (i : Ins) (hok : okI i = true) (hop : i.op = 33) (w : World) : Calls Tryz.prog 24 #[.agg i.vs] w (RowP (rdL i) w) := by
  obtain ⟨op, d, s, t, b, x, sc, di, im⟩ := i
  dsimp only at hop
  subst hop
  have hf : formOf (33) = .r := by
    unfold formOf
    first | rfl | (simp; omega) | (repeat (first | rw [if_pos (by omega)] | rw [if_neg (by omega)]))
  have hk := hok
  unfold okI at hk
  dsimp only at hk
  rw [hf] at hk
  simp only [okF, Bool.and_eq_true] at hk
  have hchk : chk ⟨33, d, s, t, b, x, sc, di, im⟩ = 0 := by unfold chk; rw [hok]; rfl
  obtain ⟨pf, hpf⟩ : ∃ pf : Int → Bool, pf = fun z => (false || decide (z = ((4 : Nat) : Int))) := ⟨_, rfl⟩
  have hL : rdL ⟨33, d, s, t, b, x, sc, di, im⟩ = regK pf 16 := by
    unfold rdL
    rw [if_pos hok]
    show List.filter _ _ = List.filter _ _
    congr 1
    funext z
    dsimp only
    rw [hf, hpf]
    first | rfl | simp [rdF]
  rw [hL]
  have HF : Hid (∀ W, Calls Tryz.prog 45 #[.int .i64 33] W fun e w' => e = .returned (.string ⟨#[45]⟩) ∧ w' = W) := Lib.hid (fun W => by have h1 := form_c (33) W; rw [hf] at h1; exact h1)
  have HH : Hid (∀ c W, Calls Tryz.prog 44 #[.string ⟨#[45]⟩, .int .u8 c] W fun e w' => e = .returned (.bool (hasB ⟨#[45]⟩ c)) ∧ w' = W) := Lib.hid (fun c W => has_c ⟨#[45]⟩ c W (by decide))
  have h83 : hasB ⟨#[45]⟩ 83 = false := by decide
  have h84 : hasB ⟨#[45]⟩ 84 = false := by decide
  have h77 : hasB ⟨#[45]⟩ 77 = false := by decide
  have h68 : hasB ⟨#[45]⟩ 68 = false := by decide
  have HC : Hid (∀ W, Calls Tryz.prog 28 #[.agg (Ins.vs ⟨33, d, s, t, b, x, sc, di, im⟩)] W fun e w' => e = .returned (.int .i64 0) ∧ Below W.heap.size W w') := Lib.hid (fun W => by have h1 := check_r ⟨33, d, s, t, b, x, sc, di, im⟩ W; rw [hchk] at h1; exact h1)
  have HRI : Hid (∀ W, Calls Tryz.prog 52 #[.agg #[.bool (pf 0), .bool (pf 1), .bool (pf 2), .bool (pf 3), .bool (pf 4), .bool (pf 5), .bool (pf 6), .bool (pf 7), .bool (pf 8), .bool (pf 9), .bool (pf 10), .bool (pf 11), .bool (pf 12), .bool (pf 13), .bool (pf 14), .bool (pf 15)]] W (RowP (regK pf 16) W)) := Lib.hid (fun W => rising_r pf W)
  have HPF := Lib.hid hpf
  unfold Ins.vs at *
  dsimp only
  clear hf hk hchk hL hok hpf
  go_enter Tryz.func24, Tryz.ntmps24
  go_wp2_with fail
  go_at_call 28
  refine (HC.out _).mono ?_
  rintro e w1 ⟨rfl, hb1⟩
  have hI1 : Bk w1 w.heap.size 37 #[.int .i64 33, .int .i64 d, .int .i64 s, .int .i64 t, .int .i64 b, .int .i64 x, .int .i64 sc, .int .i64 di, .int .i64 im] := (Bk.new w _ _).below hb1 (by simp)
  have hB1 : Below w.heap.size w w1 := ((Below.refl _ w).alloc (Nat.le_refl _) _).trans (hb1.mono (by simp))
  have hl1 : w.heap.size < w1.heap.size := hI1.lt
  have HI1 := Lib.hid hI1
  have HB1 := Lib.hid hB1
  have cop1 : w1.cell? ⟨w.heap.size, 0, none⟩ = some (.int .i64 33) := hI1.cell 0
  clear hI1 hB1 hb1
  go_wp2_with fail
  go_at_call 45
  refine (HF.out _).mono ?_
  rintro e w2 ⟨rfl, hw2⟩
  have hI2 : Bk w2 w.heap.size 37 #[.int .i64 33, .int .i64 d, .int .i64 s, .int .i64 t, .int .i64 b, .int .i64 x, .int .i64 sc, .int .i64 di, .int .i64 im] := by rw [hw2]; exact HI1.out.alloc _
  have hL2 : Bk w2 w1.heap.size 92 (tab fun _ => false) := by rw [hw2]; exact Bk.new _ _ _
  have hB2 : Below w.heap.size w w2 := by rw [hw2]; exact HB1.out.alloc HB1.out.size _
  have HI := Lib.hid hI2
  have HL := Lib.hid hL2
  have HB := Lib.hid hB2
  have cop2 : w2.cell? ⟨w.heap.size, 0, none⟩ = some (.int .i64 33) := hI2.cell 0
  clear hI2 hL2 hB2 hw2
  go_wp2_with fail
  go_at_call 44
  refine (HH.out _ _).mono ?_
  simp only [h83]
  rintro e w3 ⟨rfl, hw3⟩
  have HI3 := Lib.hid (show Bk w3 w.heap.size 37 #[.int .i64 33, .int .i64 d, .int .i64 s, .int .i64 t, .int .i64 b, .int .i64 x, .int .i64 sc, .int .i64 di, .int .i64 im] by rw [hw3]; exact HI.out)
  have HL3 := Lib.hid (show Bk w3 w1.heap.size 92 (tab (fun _ => false)) by rw [hw3]; exact HL.out)
  have HB3 := Lib.hid (show Below w.heap.size w w3 by rw [hw3]; exact HB.out)
  clear hw3 HI HL HB
  have HI := HI3
  have HL := HL3
  have HB := HB3
  clear HI3 HL3 HB3
  have cop3 : w3.cell? ⟨w.heap.size, 0, none⟩ = some (.int .i64 33) := HI.out.cell 0
  go_wp2_with fail
  go_at_call 44
  refine (HH.out _ _).mono ?_
  simp only [h84]
  rintro e w4 ⟨rfl, hw4⟩
  have HI4 := Lib.hid (show Bk w4 w.heap.size 37 #[.int .i64 33, .int .i64 d, .int .i64 s, .int .i64 t, .int .i64 b, .int .i64 x, .int .i64 sc, .int .i64 di, .int .i64 im] by rw [hw4]; exact HI.out)
  have HL4 := Lib.hid (show Bk w4 w1.heap.size 92 (tab (fun _ => false)) by rw [hw4]; exact HL.out)
  have HB4 := Lib.hid (show Below w.heap.size w w4 by rw [hw4]; exact HB.out)
  clear hw4 HI HL HB
  have HI := HI4
  have HL := HL4
  have HB := HB4
  clear HI4 HL4 HB4
  have cop4 : w4.cell? ⟨w.heap.size, 0, none⟩ = some (.int .i64 33) := HI.out.cell 0
  go_wp2_with fail
  go_at_call 44
  refine (HH.out _ _).mono ?_
  simp only [h77]
  rintro e w5 ⟨rfl, hw5⟩
  have HI5 := Lib.hid (show Bk w5 w.heap.size 37 #[.int .i64 33, .int .i64 d, .int .i64 s, .int .i64 t, .int .i64 b, .int .i64 x, .int .i64 sc, .int .i64 di, .int .i64 im] by rw [hw5]; exact HI.out)
  have HL5 := Lib.hid (show Bk w5 w1.heap.size 92 (tab (fun _ => false)) by rw [hw5]; exact HL.out)
  have HB5 := Lib.hid (show Below w.heap.size w w5 by rw [hw5]; exact HB.out)
  clear hw5 HI HL HB
  have HI := HI5
  have HL := HL5
  have HB := HB5
  clear HI5 HL5 HB5
  have cop5 : w5.cell? ⟨w.heap.size, 0, none⟩ = some (.int .i64 33) := HI.out.cell 0
  go_wp2_with fail
  go_at_call 44
  refine (HH.out _ _).mono ?_
  simp only [h68]
  rintro e w6 ⟨rfl, hw6⟩
  have HI6 := Lib.hid (show Bk w6 w.heap.size 37 #[.int .i64 33, .int .i64 d, .int .i64 s, .int .i64 t, .int .i64 b, .int .i64 x, .int .i64 sc, .int .i64 di, .int .i64 im] by rw [hw6]; exact HI.out)
  have HL6 := Lib.hid (show Bk w6 w1.heap.size 92 (tab (fun _ => false)) by rw [hw6]; exact HL.out)
  have HB6 := Lib.hid (show Below w.heap.size w w6 by rw [hw6]; exact HB.out)
  clear hw6 HI HL HB
  have HI := HI6
  have HL := HL6
  have HB := HB6
  clear HI6 HL6 HB6
  have cop6 : w6.cell? ⟨w.heap.size, 0, none⟩ = some (.int .i64 33) := HI.out.cell 0
  have cl06 : w6.cell? ⟨w1.heap.size, 4, none⟩ = some (.bool _) := ((HL.out).cell _).trans (tab_get _ (by omega))
  have fl06 : w6.frozen? ⟨w1.heap.size, 4, none⟩ = false := (HL.out).frozen _
  have ccop16 : (w6.setCell ⟨w1.heap.size, 4, none⟩ (.bool true)).cell? ⟨w.heap.size, 0, none⟩ = some (.int .i64 33) := ((HI.out).far (p := ⟨w1.heap.size, 4, none⟩) (Nat.ne_of_lt hl1) (.bool true)).cell 0
  go_upto_region 17 with fail
  obtain ⟨wf, hwf⟩ : ∃ wf, wf = (w6.setCell ⟨w1.heap.size, 4, none⟩ (.bool true)) := ⟨_, rfl⟩
  try rw [← hwf]
  have hlf : Bk wf w1.heap.size 92 (tab pf) := by rw [hwf, HPF.out]; exact tab_put (HL.out) (by decide)
  have hbf : Below w.heap.size w wf := by rw [hwf]; exact (HB.out).setCell (p := ⟨w1.heap.size, 4, none⟩) (Nat.le_of_lt hl1) _
  have q0 : wf.cell? ⟨w1.heap.size, 0, none⟩ = some (.bool (pf 0)) := (hlf.cell 0).trans (tab_get pf (by decide))
  have q1 : wf.cell? ⟨w1.heap.size, 1, none⟩ = some (.bool (pf 1)) := (hlf.cell 1).trans (tab_get pf (by decide))
  have q2 : wf.cell? ⟨w1.heap.size, 2, none⟩ = some (.bool (pf 2)) := (hlf.cell 2).trans (tab_get pf (by decide))
  have q3 : wf.cell? ⟨w1.heap.size, 3, none⟩ = some (.bool (pf 3)) := (hlf.cell 3).trans (tab_get pf (by decide))
  have q4 : wf.cell? ⟨w1.heap.size, 4, none⟩ = some (.bool (pf 4)) := (hlf.cell 4).trans (tab_get pf (by decide))
  have q5 : wf.cell? ⟨w1.heap.size, 5, none⟩ = some (.bool (pf 5)) := (hlf.cell 5).trans (tab_get pf (by decide))
  have q6 : wf.cell? ⟨w1.heap.size, 6, none⟩ = some (.bool (pf 6)) := (hlf.cell 6).trans (tab_get pf (by decide))
  have q7 : wf.cell? ⟨w1.heap.size, 7, none⟩ = some (.bool (pf 7)) := (hlf.cell 7).trans (tab_get pf (by decide))
  have q8 : wf.cell? ⟨w1.heap.size, 8, none⟩ = some (.bool (pf 8)) := (hlf.cell 8).trans (tab_get pf (by decide))
  have q9 : wf.cell? ⟨w1.heap.size, 9, none⟩ = some (.bool (pf 9)) := (hlf.cell 9).trans (tab_get pf (by decide))
  have q10 : wf.cell? ⟨w1.heap.size, 10, none⟩ = some (.bool (pf 10)) := (hlf.cell 10).trans (tab_get pf (by decide))
  have q11 : wf.cell? ⟨w1.heap.size, 11, none⟩ = some (.bool (pf 11)) := (hlf.cell 11).trans (tab_get pf (by decide))
  have q12 : wf.cell? ⟨w1.heap.size, 12, none⟩ = some (.bool (pf 12)) := (hlf.cell 12).trans (tab_get pf (by decide))
  have q13 : wf.cell? ⟨w1.heap.size, 13, none⟩ = some (.bool (pf 13)) := (hlf.cell 13).trans (tab_get pf (by decide))
  have q14 : wf.cell? ⟨w1.heap.size, 14, none⟩ = some (.bool (pf 14)) := (hlf.cell 14).trans (tab_get pf (by decide))
  have q15 : wf.cell? ⟨w1.heap.size, 15, none⟩ = some (.bool (pf 15)) := (hlf.cell 15).trans (tab_get pf (by decide))
  have HBF := Lib.hid hbf
  clear hlf hbf hwf
  go_wp2_with fail
  go_at_call 52
  refine (HRI.out _).mono ?_
  rintro e w9 ⟨v, rfl, ho, hb9⟩
  have HO := Lib.hid ho
  have HB9 := Lib.hid hb9
  clear ho hb9
  go_wp2_with fail
  go_ret
  exact ⟨v, rfl, ownsRow_base HO.out HBF.out.size, HBF.out.trans (HB9.out.mono HBF.out.size)⟩
end Is
end Go.Proofs.YtmiphnocgepdgaaGreatDoor
