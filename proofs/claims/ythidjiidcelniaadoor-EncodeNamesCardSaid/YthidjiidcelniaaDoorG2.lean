/- What operation bytes begin with. -/
import Derived.Test.YthidjiidcelniaaDoorG1
namespace Go.Proofs.YthidjiidcelniaaDoor
open Go Go.RowKit
namespace Is
set_option linter.unusedVariables false
set_option linter.unusedSimpArgs false
theorem op_1 (i : Ins) (hk : OkP i .ds) (ho : i.op = 1) (r : List Int) : opOf (encL i ++ r) = i.op := by
  obtain ⟨op, d, s, t, b, x, sc, di, im⟩ := i
  dsimp only at ho
  subst ho
  obtain ⟨⟨d1, d2⟩, ⟨s1, s2⟩, t0, ⟨b0, x0, c0, i0⟩, m0⟩ := hk
  dsimp only at *
  have hr := rex_b (m := s) (x := 0) (l := d) (by omega) (by omega) (by omega) (by omega) (by omega) (by omega)
  show opAt (rexI s 0 d) 137 (rmI s d) = 1
  generalize rexI s 0 d = q at *
  unfold opAt
  try unfold rmI
  repeat (first | rw [if_pos (by omega)] | rw [if_neg (by omega)])

theorem op_2 (i : Ins) (hk : OkP i .di) (ho : i.op = 2) (r : List Int) : opOf (encL i ++ r) = i.op := by
  obtain ⟨op, d, s, t, b, x, sc, di, im⟩ := i
  dsimp only at ho
  subst ho
  obtain ⟨⟨d1, d2⟩, s0, t0, ⟨b0, x0, c0, i0⟩⟩ := hk
  dsimp only at *
  have hr := rex_b (m := 0) (x := 0) (l := d) (by omega) (by omega) (by omega) (by omega) (by omega) (by omega)
  show opAt (rexI 0 0 d) (184 + d % 8) (im % 256) = 2
  generalize rexI 0 0 d = q at *
  unfold opAt
  try unfold rmI
  repeat (first | rw [if_pos (by omega)] | rw [if_neg (by omega)])

theorem op_3 (i : Ins) (hk : OkP i .dm) (ho : i.op = 3) (r : List Int) : opOf (encL i ++ r) = i.op := by
  obtain ⟨op, d, s, t, b, x, sc, di, im⟩ := i
  dsimp only at ho
  subst ho
  obtain ⟨⟨d1, d2⟩, s0, t0, pl, m0⟩ := hk
  dsimp only at *
  obtain ⟨⟨b1, b2⟩, ⟨i1, i2⟩, hx⟩ := pl
  dsimp only at *
  have x1 : -1 ≤ x ∧ x ≤ 15 := by unfold R16 at hx; omega
  have hr := rex_b (m := d) (x := x) (l := b) (by omega) (by omega) x1.1 x1.2 (by omega) (by omega)
  obtain ⟨z, l, hz, z1, z2⟩ := plc_head d ⟨3, d, s, t, b, x, sc, di, im⟩
  have e : encL ⟨3, d, s, t, b, x, sc, di, im⟩ = rexI d x b :: 139 :: z :: l := by rw [← hz]; rfl
  rw [e]
  show opAt (rexI d x b) 139 z = 3
  generalize rexI d x b = q at *
  unfold opAt
  try unfold rmI
  repeat (first | rw [if_pos (by omega)] | rw [if_neg (by omega)])

theorem op_4 (i : Ins) (hk : OkP i .sm) (ho : i.op = 4) (r : List Int) : opOf (encL i ++ r) = i.op := by
  obtain ⟨op, d, s, t, b, x, sc, di, im⟩ := i
  dsimp only at ho
  subst ho
  obtain ⟨d0, ⟨s1, s2⟩, t0, pl, m0⟩ := hk
  dsimp only at *
  obtain ⟨⟨b1, b2⟩, ⟨i1, i2⟩, hx⟩ := pl
  dsimp only at *
  have x1 : -1 ≤ x ∧ x ≤ 15 := by unfold R16 at hx; omega
  have hr := rex_b (m := s) (x := x) (l := b) (by omega) (by omega) x1.1 x1.2 (by omega) (by omega)
  obtain ⟨z, l, hz, z1, z2⟩ := plc_head s ⟨4, d, s, t, b, x, sc, di, im⟩
  have e : encL ⟨4, d, s, t, b, x, sc, di, im⟩ = rexI s x b :: 137 :: z :: l := by rw [← hz]; rfl
  rw [e]
  show opAt (rexI s x b) 137 z = 4
  generalize rexI s x b = q at *
  unfold opAt
  try unfold rmI
  repeat (first | rw [if_pos (by omega)] | rw [if_neg (by omega)])

theorem op_5 (i : Ins) (hk : OkP i .dm) (ho : i.op = 5) (r : List Int) : opOf (encL i ++ r) = i.op := by
  obtain ⟨op, d, s, t, b, x, sc, di, im⟩ := i
  dsimp only at ho
  subst ho
  obtain ⟨⟨d1, d2⟩, s0, t0, pl, m0⟩ := hk
  dsimp only at *
  obtain ⟨⟨b1, b2⟩, ⟨i1, i2⟩, hx⟩ := pl
  dsimp only at *
  have x1 : -1 ≤ x ∧ x ≤ 15 := by unfold R16 at hx; omega
  have hr := rex_b (m := d) (x := x) (l := b) (by omega) (by omega) x1.1 x1.2 (by omega) (by omega)
  obtain ⟨z, l, hz, z1, z2⟩ := plc_head d ⟨5, d, s, t, b, x, sc, di, im⟩
  have e : encL ⟨5, d, s, t, b, x, sc, di, im⟩ = rexI d x b :: 141 :: z :: l := by rw [← hz]; rfl
  rw [e]
  show opAt (rexI d x b) 141 z = 5
  generalize rexI d x b = q at *
  unfold opAt
  try unfold rmI
  repeat (first | rw [if_pos (by omega)] | rw [if_neg (by omega)])

theorem op_6 (i : Ins) (hk : OkP i .ds) (ho : i.op = 6) (r : List Int) : opOf (encL i ++ r) = i.op := by
  obtain ⟨op, d, s, t, b, x, sc, di, im⟩ := i
  dsimp only at ho
  subst ho
  obtain ⟨⟨d1, d2⟩, ⟨s1, s2⟩, t0, ⟨b0, x0, c0, i0⟩, m0⟩ := hk
  dsimp only at *
  have hr := rex_b (m := s) (x := 0) (l := d) (by omega) (by omega) (by omega) (by omega) (by omega) (by omega)
  show opAt (rexI s 0 d) 1 (rmI s d) = 6
  generalize rexI s 0 d = q at *
  unfold opAt
  try unfold rmI
  repeat (first | rw [if_pos (by omega)] | rw [if_neg (by omega)])

theorem op_7 (i : Ins) (hk : OkP i .ds) (ho : i.op = 7) (r : List Int) : opOf (encL i ++ r) = i.op := by
  obtain ⟨op, d, s, t, b, x, sc, di, im⟩ := i
  dsimp only at ho
  subst ho
  obtain ⟨⟨d1, d2⟩, ⟨s1, s2⟩, t0, ⟨b0, x0, c0, i0⟩, m0⟩ := hk
  dsimp only at *
  have hr := rex_b (m := s) (x := 0) (l := d) (by omega) (by omega) (by omega) (by omega) (by omega) (by omega)
  show opAt (rexI s 0 d) 17 (rmI s d) = 7
  generalize rexI s 0 d = q at *
  unfold opAt
  try unfold rmI
  repeat (first | rw [if_pos (by omega)] | rw [if_neg (by omega)])

theorem op_8 (i : Ins) (hk : OkP i .ds) (ho : i.op = 8) (r : List Int) : opOf (encL i ++ r) = i.op := by
  obtain ⟨op, d, s, t, b, x, sc, di, im⟩ := i
  dsimp only at ho
  subst ho
  obtain ⟨⟨d1, d2⟩, ⟨s1, s2⟩, t0, ⟨b0, x0, c0, i0⟩, m0⟩ := hk
  dsimp only at *
  have hr := rex_b (m := s) (x := 0) (l := d) (by omega) (by omega) (by omega) (by omega) (by omega) (by omega)
  show opAt (rexI s 0 d) 41 (rmI s d) = 8
  generalize rexI s 0 d = q at *
  unfold opAt
  try unfold rmI
  repeat (first | rw [if_pos (by omega)] | rw [if_neg (by omega)])

theorem op_9 (i : Ins) (hk : OkP i .ds) (ho : i.op = 9) (r : List Int) : opOf (encL i ++ r) = i.op := by
  obtain ⟨op, d, s, t, b, x, sc, di, im⟩ := i
  dsimp only at ho
  subst ho
  obtain ⟨⟨d1, d2⟩, ⟨s1, s2⟩, t0, ⟨b0, x0, c0, i0⟩, m0⟩ := hk
  dsimp only at *
  have hr := rex_b (m := s) (x := 0) (l := d) (by omega) (by omega) (by omega) (by omega) (by omega) (by omega)
  show opAt (rexI s 0 d) 25 (rmI s d) = 9
  generalize rexI s 0 d = q at *
  unfold opAt
  try unfold rmI
  repeat (first | rw [if_pos (by omega)] | rw [if_neg (by omega)])

theorem op_10 (i : Ins) (hk : OkP i .ds) (ho : i.op = 10) (r : List Int) : opOf (encL i ++ r) = i.op := by
  obtain ⟨op, d, s, t, b, x, sc, di, im⟩ := i
  dsimp only at ho
  subst ho
  obtain ⟨⟨d1, d2⟩, ⟨s1, s2⟩, t0, ⟨b0, x0, c0, i0⟩, m0⟩ := hk
  dsimp only at *
  have hr := rex_b (m := s) (x := 0) (l := d) (by omega) (by omega) (by omega) (by omega) (by omega) (by omega)
  show opAt (rexI s 0 d) 33 (rmI s d) = 10
  generalize rexI s 0 d = q at *
  unfold opAt
  try unfold rmI
  repeat (first | rw [if_pos (by omega)] | rw [if_neg (by omega)])

theorem op_11 (i : Ins) (hk : OkP i .ds) (ho : i.op = 11) (r : List Int) : opOf (encL i ++ r) = i.op := by
  obtain ⟨op, d, s, t, b, x, sc, di, im⟩ := i
  dsimp only at ho
  subst ho
  obtain ⟨⟨d1, d2⟩, ⟨s1, s2⟩, t0, ⟨b0, x0, c0, i0⟩, m0⟩ := hk
  dsimp only at *
  have hr := rex_b (m := s) (x := 0) (l := d) (by omega) (by omega) (by omega) (by omega) (by omega) (by omega)
  show opAt (rexI s 0 d) 9 (rmI s d) = 11
  generalize rexI s 0 d = q at *
  unfold opAt
  try unfold rmI
  repeat (first | rw [if_pos (by omega)] | rw [if_neg (by omega)])

theorem op_12 (i : Ins) (hk : OkP i .ds) (ho : i.op = 12) (r : List Int) : opOf (encL i ++ r) = i.op := by
  obtain ⟨op, d, s, t, b, x, sc, di, im⟩ := i
  dsimp only at ho
  subst ho
  obtain ⟨⟨d1, d2⟩, ⟨s1, s2⟩, t0, ⟨b0, x0, c0, i0⟩, m0⟩ := hk
  dsimp only at *
  have hr := rex_b (m := s) (x := 0) (l := d) (by omega) (by omega) (by omega) (by omega) (by omega) (by omega)
  show opAt (rexI s 0 d) 49 (rmI s d) = 12
  generalize rexI s 0 d = q at *
  unfold opAt
  try unfold rmI
  repeat (first | rw [if_pos (by omega)] | rw [if_neg (by omega)])

theorem op_13 (i : Ins) (hk : OkP i .ds) (ho : i.op = 13) (r : List Int) : opOf (encL i ++ r) = i.op := by
  obtain ⟨op, d, s, t, b, x, sc, di, im⟩ := i
  dsimp only at ho
  subst ho
  obtain ⟨⟨d1, d2⟩, ⟨s1, s2⟩, t0, ⟨b0, x0, c0, i0⟩, m0⟩ := hk
  dsimp only at *
  have hr := rex_b (m := s) (x := 0) (l := d) (by omega) (by omega) (by omega) (by omega) (by omega) (by omega)
  show opAt (rexI s 0 d) 57 (rmI s d) = 13
  generalize rexI s 0 d = q at *
  unfold opAt
  try unfold rmI
  repeat (first | rw [if_pos (by omega)] | rw [if_neg (by omega)])

theorem op_14 (i : Ins) (hk : OkP i .ds) (ho : i.op = 14) (r : List Int) : opOf (encL i ++ r) = i.op := by
  obtain ⟨op, d, s, t, b, x, sc, di, im⟩ := i
  dsimp only at ho
  subst ho
  obtain ⟨⟨d1, d2⟩, ⟨s1, s2⟩, t0, ⟨b0, x0, c0, i0⟩, m0⟩ := hk
  dsimp only at *
  have hr := rex_b (m := s) (x := 0) (l := d) (by omega) (by omega) (by omega) (by omega) (by omega) (by omega)
  show opAt (rexI s 0 d) 133 (rmI s d) = 14
  generalize rexI s 0 d = q at *
  unfold opAt
  try unfold rmI
  repeat (first | rw [if_pos (by omega)] | rw [if_neg (by omega)])

theorem op_15 (i : Ins) (hk : OkP i .dj) (ho : i.op = 15) (r : List Int) : opOf (encL i ++ r) = i.op := by
  obtain ⟨op, d, s, t, b, x, sc, di, im⟩ := i
  dsimp only at ho
  subst ho
  obtain ⟨⟨d1, d2⟩, s0, t0, ⟨b0, x0, c0, i0⟩, m1, m2⟩ := hk
  dsimp only at *
  have hr := rex_b (m := 0) (x := 0) (l := d) (by omega) (by omega) (by omega) (by omega) (by omega) (by omega)
  show opAt (rexI 0 0 d) 129 (rmI 0 d) = 15
  generalize rexI 0 0 d = q at *
  unfold opAt
  try unfold rmI
  repeat (first | rw [if_pos (by omega)] | rw [if_neg (by omega)])

theorem op_16 (i : Ins) (hk : OkP i .dj) (ho : i.op = 16) (r : List Int) : opOf (encL i ++ r) = i.op := by
  obtain ⟨op, d, s, t, b, x, sc, di, im⟩ := i
  dsimp only at ho
  subst ho
  obtain ⟨⟨d1, d2⟩, s0, t0, ⟨b0, x0, c0, i0⟩, m1, m2⟩ := hk
  dsimp only at *
  have hr := rex_b (m := 0) (x := 0) (l := d) (by omega) (by omega) (by omega) (by omega) (by omega) (by omega)
  show opAt (rexI 0 0 d) 129 (rmI 4 d) = 16
  generalize rexI 0 0 d = q at *
  unfold opAt
  try unfold rmI
  repeat (first | rw [if_pos (by omega)] | rw [if_neg (by omega)])

theorem op_17 (i : Ins) (hk : OkP i .dj) (ho : i.op = 17) (r : List Int) : opOf (encL i ++ r) = i.op := by
  obtain ⟨op, d, s, t, b, x, sc, di, im⟩ := i
  dsimp only at ho
  subst ho
  obtain ⟨⟨d1, d2⟩, s0, t0, ⟨b0, x0, c0, i0⟩, m1, m2⟩ := hk
  dsimp only at *
  have hr := rex_b (m := 0) (x := 0) (l := d) (by omega) (by omega) (by omega) (by omega) (by omega) (by omega)
  show opAt (rexI 0 0 d) 129 (rmI 5 d) = 17
  generalize rexI 0 0 d = q at *
  unfold opAt
  try unfold rmI
  repeat (first | rw [if_pos (by omega)] | rw [if_neg (by omega)])

theorem op_18 (i : Ins) (hk : OkP i .dj) (ho : i.op = 18) (r : List Int) : opOf (encL i ++ r) = i.op := by
  obtain ⟨op, d, s, t, b, x, sc, di, im⟩ := i
  dsimp only at ho
  subst ho
  obtain ⟨⟨d1, d2⟩, s0, t0, ⟨b0, x0, c0, i0⟩, m1, m2⟩ := hk
  dsimp only at *
  have hr := rex_b (m := 0) (x := 0) (l := d) (by omega) (by omega) (by omega) (by omega) (by omega) (by omega)
  show opAt (rexI 0 0 d) 129 (rmI 7 d) = 18
  generalize rexI 0 0 d = q at *
  unfold opAt
  try unfold rmI
  repeat (first | rw [if_pos (by omega)] | rw [if_neg (by omega)])

theorem op_19 (i : Ins) (hk : OkP i .dst) (ho : i.op = 19) (r : List Int) : opOf (encL i ++ r) = i.op := by
  obtain ⟨op, d, s, t, b, x, sc, di, im⟩ := i
  dsimp only at ho
  subst ho
  obtain ⟨⟨d1, d2⟩, ⟨s1, s2⟩, ⟨t1, t2⟩, ⟨b0, x0, c0, i0⟩, m0⟩ := hk
  dsimp only at *
  show opAt 196 (66 + 128 * (1 - hiR d) + 32 * (1 - hiR t)) (131 + 8 * (15 - s)) = 19
  unfold opAt
  try unfold rmI
  repeat (first | rw [if_pos (by omega)] | rw [if_neg (by omega)])

theorem op_20 (i : Ins) (hk : OkP i .ds) (ho : i.op = 20) (r : List Int) : opOf (encL i ++ r) = i.op := by
  obtain ⟨op, d, s, t, b, x, sc, di, im⟩ := i
  dsimp only at ho
  subst ho
  obtain ⟨⟨d1, d2⟩, ⟨s1, s2⟩, t0, ⟨b0, x0, c0, i0⟩, m0⟩ := hk
  dsimp only at *
  have hr := rex_b (m := d) (x := 0) (l := s) (by omega) (by omega) (by omega) (by omega) (by omega) (by omega)
  show opAt 102 (rexI d 0 s) 15 = 20
  generalize rexI d 0 s = q at *
  unfold opAt
  try unfold rmI
  repeat (first | rw [if_pos (by omega)] | rw [if_neg (by omega)])

theorem op_21 (i : Ins) (hk : OkP i .ds) (ho : i.op = 21) (r : List Int) : opOf (encL i ++ r) = i.op := by
  obtain ⟨op, d, s, t, b, x, sc, di, im⟩ := i
  dsimp only at ho
  subst ho
  obtain ⟨⟨d1, d2⟩, ⟨s1, s2⟩, t0, ⟨b0, x0, c0, i0⟩, m0⟩ := hk
  dsimp only at *
  have hr := rex_b (m := d) (x := 0) (l := s) (by omega) (by omega) (by omega) (by omega) (by omega) (by omega)
  show opAt 243 (rexI d 0 s) 15 = 21
  generalize rexI d 0 s = q at *
  unfold opAt
  try unfold rmI
  repeat (first | rw [if_pos (by omega)] | rw [if_neg (by omega)])

theorem op_22 (i : Ins) (hk : OkP i .d) (ho : i.op = 22) (r : List Int) : opOf (encL i ++ r) = i.op := by
  obtain ⟨op, d, s, t, b, x, sc, di, im⟩ := i
  dsimp only at ho
  subst ho
  obtain ⟨⟨d1, d2⟩, s0, t0, ⟨b0, x0, c0, i0⟩, m0⟩ := hk
  dsimp only at *
  have hr := rex_b (m := 0) (x := 0) (l := d) (by omega) (by omega) (by omega) (by omega) (by omega) (by omega)
  show opAt (rexI 0 0 d) 247 (rmI 3 d) = 22
  generalize rexI 0 0 d = q at *
  unfold opAt
  try unfold rmI
  repeat (first | rw [if_pos (by omega)] | rw [if_neg (by omega)])

theorem op_23 (i : Ins) (hk : OkP i .d) (ho : i.op = 23) (r : List Int) : opOf (encL i ++ r) = i.op := by
  obtain ⟨op, d, s, t, b, x, sc, di, im⟩ := i
  dsimp only at ho
  subst ho
  obtain ⟨⟨d1, d2⟩, s0, t0, ⟨b0, x0, c0, i0⟩, m0⟩ := hk
  dsimp only at *
  have hr := rex_b (m := 0) (x := 0) (l := d) (by omega) (by omega) (by omega) (by omega) (by omega) (by omega)
  show opAt (rexI 0 0 d) 247 (rmI 2 d) = 23
  generalize rexI 0 0 d = q at *
  unfold opAt
  try unfold rmI
  repeat (first | rw [if_pos (by omega)] | rw [if_neg (by omega)])

theorem op_24 (i : Ins) (hk : OkP i .db) (ho : i.op = 24) (r : List Int) : opOf (encL i ++ r) = i.op := by
  obtain ⟨op, d, s, t, b, x, sc, di, im⟩ := i
  dsimp only at ho
  subst ho
  obtain ⟨⟨d1, d2⟩, s0, t0, ⟨b0, x0, c0, i0⟩, m1, m2⟩ := hk
  dsimp only at *
  have hr := rex_b (m := 0) (x := 0) (l := d) (by omega) (by omega) (by omega) (by omega) (by omega) (by omega)
  show opAt (rexI 0 0 d) 193 (rmI 4 d) = 24
  generalize rexI 0 0 d = q at *
  unfold opAt
  try unfold rmI
  repeat (first | rw [if_pos (by omega)] | rw [if_neg (by omega)])

theorem op_25 (i : Ins) (hk : OkP i .db) (ho : i.op = 25) (r : List Int) : opOf (encL i ++ r) = i.op := by
  obtain ⟨op, d, s, t, b, x, sc, di, im⟩ := i
  dsimp only at ho
  subst ho
  obtain ⟨⟨d1, d2⟩, s0, t0, ⟨b0, x0, c0, i0⟩, m1, m2⟩ := hk
  dsimp only at *
  have hr := rex_b (m := 0) (x := 0) (l := d) (by omega) (by omega) (by omega) (by omega) (by omega) (by omega)
  show opAt (rexI 0 0 d) 193 (rmI 5 d) = 25
  generalize rexI 0 0 d = q at *
  unfold opAt
  try unfold rmI
  repeat (first | rw [if_pos (by omega)] | rw [if_neg (by omega)])

theorem op_26 (i : Ins) (hk : OkP i .ds) (ho : i.op = 26) (r : List Int) : opOf (encL i ++ r) = i.op := by
  obtain ⟨op, d, s, t, b, x, sc, di, im⟩ := i
  dsimp only at ho
  subst ho
  obtain ⟨⟨d1, d2⟩, ⟨s1, s2⟩, t0, ⟨b0, x0, c0, i0⟩, m0⟩ := hk
  dsimp only at *
  have hr := rex_b (m := d) (x := 0) (l := s) (by omega) (by omega) (by omega) (by omega) (by omega) (by omega)
  show opAt (rexI d 0 s) 15 66 = 26
  generalize rexI d 0 s = q at *
  unfold opAt
  try unfold rmI
  repeat (first | rw [if_pos (by omega)] | rw [if_neg (by omega)])

theorem op_27 (i : Ins) (hk : OkP i .ds) (ho : i.op = 27) (r : List Int) : opOf (encL i ++ r) = i.op := by
  obtain ⟨op, d, s, t, b, x, sc, di, im⟩ := i
  dsimp only at ho
  subst ho
  obtain ⟨⟨d1, d2⟩, ⟨s1, s2⟩, t0, ⟨b0, x0, c0, i0⟩, m0⟩ := hk
  dsimp only at *
  have hr := rex_b (m := d) (x := 0) (l := s) (by omega) (by omega) (by omega) (by omega) (by omega) (by omega)
  show opAt (rexI d 0 s) 15 69 = 27
  generalize rexI d 0 s = q at *
  unfold opAt
  try unfold rmI
  repeat (first | rw [if_pos (by omega)] | rw [if_neg (by omega)])

theorem op_28 (i : Ins) (hk : OkP i .s) (ho : i.op = 28) (r : List Int) : opOf (encL i ++ r) = i.op := by
  obtain ⟨op, d, s, t, b, x, sc, di, im⟩ := i
  dsimp only at ho
  subst ho
  obtain ⟨d0, ⟨s1, s2⟩, t0, ⟨b0, x0, c0, i0⟩, m0⟩ := hk
  dsimp only at *
  by_cases h7 : s > 7
  · have e : encL ⟨28, d, s, t, b, x, sc, di, im⟩ = [65, 80 + s % 8] := by show (if s > 7 then _ else _) = _; rw [if_pos h7]
    rw [e]
    show opAt 65 (80 + s % 8) (r.getD 0 0) = 28
    unfold opAt
    repeat (first | rw [if_pos (by omega)] | rw [if_neg (by omega)])
  · have e : encL ⟨28, d, s, t, b, x, sc, di, im⟩ = [80 + s] := by show (if s > 7 then _ else _) = _; rw [if_neg h7]
    rw [e]
    show opAt (80 + s) (r.getD 0 0) (r.getD 1 0) = 28
    unfold opAt
    repeat (first | rw [if_pos (by omega)] | rw [if_neg (by omega)])

theorem op_29 (i : Ins) (hk : OkP i .d) (ho : i.op = 29) (r : List Int) : opOf (encL i ++ r) = i.op := by
  obtain ⟨op, d, s, t, b, x, sc, di, im⟩ := i
  dsimp only at ho
  subst ho
  obtain ⟨⟨d1, d2⟩, s0, t0, ⟨b0, x0, c0, i0⟩, m0⟩ := hk
  dsimp only at *
  by_cases h7 : d > 7
  · have e : encL ⟨29, d, s, t, b, x, sc, di, im⟩ = [65, 88 + d % 8] := by show (if d > 7 then _ else _) = _; rw [if_pos h7]
    rw [e]
    show opAt 65 (88 + d % 8) (r.getD 0 0) = 29
    unfold opAt
    repeat (first | rw [if_pos (by omega)] | rw [if_neg (by omega)])
  · have e : encL ⟨29, d, s, t, b, x, sc, di, im⟩ = [88 + d] := by show (if d > 7 then _ else _) = _; rw [if_neg h7]
    rw [e]
    show opAt (88 + d) (r.getD 0 0) (r.getD 1 0) = 29
    unfold opAt
    repeat (first | rw [if_pos (by omega)] | rw [if_neg (by omega)])

theorem op_30 (i : Ins) (hk : OkP i .j) (ho : i.op = 30) (r : List Int) : opOf (encL i ++ r) = i.op := by
  obtain ⟨op, d, s, t, b, x, sc, di, im⟩ := i
  dsimp only at ho
  subst ho
  obtain ⟨d0, s0, t0, ⟨b0, x0, c0, i0⟩, m1, m2⟩ := hk
  dsimp only at *
  show opAt 233 (im % 256) (im / 256 % 256) = 30
  unfold opAt
  try unfold rmI
  repeat (first | rw [if_pos (by omega)] | rw [if_neg (by omega)])

theorem op_31 (i : Ins) (hk : OkP i .j) (ho : i.op = 31) (r : List Int) : opOf (encL i ++ r) = i.op := by
  obtain ⟨op, d, s, t, b, x, sc, di, im⟩ := i
  dsimp only at ho
  subst ho
  obtain ⟨d0, s0, t0, ⟨b0, x0, c0, i0⟩, m1, m2⟩ := hk
  dsimp only at *
  show opAt 15 133 (im % 256) = 31
  unfold opAt
  try unfold rmI
  repeat (first | rw [if_pos (by omega)] | rw [if_neg (by omega)])

theorem op_32 (i : Ins) (hk : OkP i .j) (ho : i.op = 32) (r : List Int) : opOf (encL i ++ r) = i.op := by
  obtain ⟨op, d, s, t, b, x, sc, di, im⟩ := i
  dsimp only at ho
  subst ho
  obtain ⟨d0, s0, t0, ⟨b0, x0, c0, i0⟩, m1, m2⟩ := hk
  dsimp only at *
  show opAt 15 130 (im % 256) = 32
  unfold opAt
  try unfold rmI
  repeat (first | rw [if_pos (by omega)] | rw [if_neg (by omega)])

theorem op_33 (i : Ins) (hk : OkP i .r) (ho : i.op = 33) (r : List Int) : opOf (encL i ++ r) = i.op := by
  obtain ⟨op, d, s, t, b, x, sc, di, im⟩ := i
  dsimp only at ho
  subst ho
  obtain ⟨d0, s0, t0, ⟨b0, x0, c0, i0⟩, m0⟩ := hk
  dsimp only at *
  show opAt 195 (r.getD 0 0) (r.getD 1 0) = 33
  unfold opAt
  try unfold rmI
  repeat (first | rw [if_pos (by omega)] | rw [if_neg (by omega)])

theorem op_enc (i : Ins) (h : okI i = true) (r : List Int) : opOf (encL i ++ r) = i.op := by
  have hk := okI_iff h
  rcases op_cases i.op with e | e | e | e | e | e | e | e | e | e | e | e | e | e | e | e | e | e | e | e | e | e | e | e | e | e | e | e | e | e | e | e | e | e
  · rw [e] at hk; exact op_1 i hk e r
  · rw [e] at hk; exact op_2 i hk e r
  · rw [e] at hk; exact op_3 i hk e r
  · rw [e] at hk; exact op_4 i hk e r
  · rw [e] at hk; exact op_5 i hk e r
  · rw [e] at hk; exact op_6 i hk e r
  · rw [e] at hk; exact op_7 i hk e r
  · rw [e] at hk; exact op_8 i hk e r
  · rw [e] at hk; exact op_9 i hk e r
  · rw [e] at hk; exact op_10 i hk e r
  · rw [e] at hk; exact op_11 i hk e r
  · rw [e] at hk; exact op_12 i hk e r
  · rw [e] at hk; exact op_13 i hk e r
  · rw [e] at hk; exact op_14 i hk e r
  · rw [e] at hk; exact op_15 i hk e r
  · rw [e] at hk; exact op_16 i hk e r
  · rw [e] at hk; exact op_17 i hk e r
  · rw [e] at hk; exact op_18 i hk e r
  · rw [e] at hk; exact op_19 i hk e r
  · rw [e] at hk; exact op_20 i hk e r
  · rw [e] at hk; exact op_21 i hk e r
  · rw [e] at hk; exact op_22 i hk e r
  · rw [e] at hk; exact op_23 i hk e r
  · rw [e] at hk; exact op_24 i hk e r
  · rw [e] at hk; exact op_25 i hk e r
  · rw [e] at hk; exact op_26 i hk e r
  · rw [e] at hk; exact op_27 i hk e r
  · rw [e] at hk; exact op_28 i hk e r
  · rw [e] at hk; exact op_29 i hk e r
  · rw [e] at hk; exact op_30 i hk e r
  · rw [e] at hk; exact op_31 i hk e r
  · rw [e] at hk; exact op_32 i hk e r
  · rw [e] at hk; exact op_33 i hk e r
  · exfalso
    have e2 : formOf i.op = .no := by
      unfold formOf
      rw [if_neg (by omega), if_neg (by omega), if_neg (by omega), if_neg (by omega), if_neg (by omega), if_neg (by omega), if_neg (by omega), if_neg (by omega), if_neg (by omega), if_neg (by omega), if_neg (by omega)]
    rw [e2] at hk
    exact hk


end Is
end Go.Proofs.YthidjiidcelniaaDoor
