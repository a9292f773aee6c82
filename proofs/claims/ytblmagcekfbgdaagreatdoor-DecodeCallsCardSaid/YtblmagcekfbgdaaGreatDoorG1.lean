/- Plain reckoning of instructions' bytes: what they are; that none begin another's; no program in it. | What operation bytes begin with. -/
import Derived.Test.YtblmagcekfbgdaaGreatDoorB1
namespace Go.Proofs.YtblmagcekfbgdaaGreatDoor
open Go Go.RowKit
namespace Is
set_option linter.unusedVariables false
set_option linter.unusedSimpArgs false
def hiR (r : Int) : Int := if r < 0 then 0 else r / 8
def rexI (m x l : Int) : Int := 72 + 4 * hiR m + 2 * hiR x + hiR l
def rmI (m l : Int) : Int := 192 + 8 * (m % 8) + l % 8
/-- a number's bytes, the least one first -/
def ltl (n : Int) : Nat → List Int
  | 0 => []
  | k + 1 => n % 256 :: ltl (n / 256) k
def mdI (i : Ins) : Int := if i.di = 0 ∧ i.b % 8 ≠ 5 then 0 else if -128 ≤ i.di ∧ i.di < 128 then 1 else 2
def dnI (i : Ins) : Nat := if i.di = 0 ∧ i.b % 8 ≠ 5 then 0 else if -128 ≤ i.di ∧ i.di < 128 then 1 else 4
def scI (sc : Int) : Int := if sc = 2 then 1 else if sc = 4 then 2 else if sc = 8 then 3 else 0
def xiI (x : Int) : Int := if x = -1 then 4 else x % 8
def sibL (i : Ins) : List Int := if i.x = -1 ∧ i.b % 8 ≠ 4 then [] else [64 * scI i.sc + 8 * xiI i.x + i.b % 8]
def plcL (m : Int) (i : Ins) : List Int := (64 * mdI i + 8 * (m % 8) + (if i.x = -1 ∧ i.b % 8 ≠ 4 then i.b % 8 else 4)) :: (sibL i ++ ltl i.di (dnI i))
def codeI (op : Int) : Int := if op = 1 then 137 else if op = 6 then 1 else if op = 7 then 17 else if op = 8 then 41 else if op = 9 then 25 else if op = 10 then 33 else if op = 11 then 9 else if op = 12 then 49 else if op = 13 then 57 else 133
def encL (i : Ins) : List Int :=
  if i.op = 2 then rexI 0 0 i.d :: (184 + i.d % 8) :: ltl i.im 8
  else if i.op = 3 then rexI i.d i.x i.b :: 139 :: plcL i.d i
  else if i.op = 4 then rexI i.s i.x i.b :: 137 :: plcL i.s i
  else if i.op = 5 then rexI i.d i.x i.b :: 141 :: plcL i.d i
  else if i.op = 15 then rexI 0 0 i.d :: 129 :: rmI 0 i.d :: ltl i.im 4
  else if i.op = 16 then rexI 0 0 i.d :: 129 :: rmI 4 i.d :: ltl i.im 4
  else if i.op = 17 then rexI 0 0 i.d :: 129 :: rmI 5 i.d :: ltl i.im 4
  else if i.op = 18 then rexI 0 0 i.d :: 129 :: rmI 7 i.d :: ltl i.im 4
  else if i.op = 19 then [196, 66 + 128 * (1 - hiR i.d) + 32 * (1 - hiR i.t), 131 + 8 * (15 - i.s), 246, rmI i.d i.t]
  else if i.op = 20 then [102, rexI i.d 0 i.s, 15, 56, 246, rmI i.d i.s]
  else if i.op = 21 then [243, rexI i.d 0 i.s, 15, 56, 246, rmI i.d i.s]
  else if i.op = 22 then [rexI 0 0 i.d, 247, rmI 3 i.d]
  else if i.op = 23 then [rexI 0 0 i.d, 247, rmI 2 i.d]
  else if i.op = 24 then [rexI 0 0 i.d, 193, rmI 4 i.d, i.im]
  else if i.op = 25 then [rexI 0 0 i.d, 193, rmI 5 i.d, i.im]
  else if i.op = 26 then [rexI i.d 0 i.s, 15, 66, rmI i.d i.s]
  else if i.op = 27 then [rexI i.d 0 i.s, 15, 69, rmI i.d i.s]
  else if i.op = 28 then (if i.s > 7 then [65, 80 + i.s % 8] else [80 + i.s])
  else if i.op = 29 then (if i.d > 7 then [65, 88 + i.d % 8] else [88 + i.d])
  else if i.op = 30 then 233 :: ltl i.im 4
  else if i.op = 31 then 15 :: 133 :: ltl i.im 4
  else if i.op = 32 then 15 :: 130 :: ltl i.im 4
  else if i.op = 33 then [195]
  else [rexI i.s 0 i.d, codeI i.op, rmI i.s i.d]
/-- the operation that bytes begin with -/
def opAt (a b c : Int) : Int :=
  if a = 195 then 33 else if a = 233 then 30 else if a = 15 then (if b = 133 then 31 else 32) else if a = 102 then 20 else if a = 243 then 21 else if a = 196 then 19
  else if a = 65 then (if b < 88 then 28 else 29)
  else if a < 72 ∨ 79 < a then (if a < 88 then 28 else 29)
  else if b = 137 then (if c < 192 then 4 else 1)
  else if b = 139 then 3 else if b = 141 then 5
  else if b = 1 then 6 else if b = 17 then 7 else if b = 41 then 8 else if b = 25 then 9 else if b = 33 then 10 else if b = 9 then 11 else if b = 49 then 12 else if b = 57 then 13 else if b = 133 then 14
  else if b = 129 then (if c / 8 = 24 then 15 else if c / 8 = 28 then 16 else if c / 8 = 29 then 17 else 18)
  else if b = 247 then (if c / 8 = 27 then 22 else 23)
  else if b = 193 then (if c / 8 = 28 then 24 else 25)
  else if b = 15 then (if c = 66 then 26 else 27)
  else 2
def opOf (l : List Int) : Int := opAt (l.getD 0 0) (l.getD 1 0) (l.getD 2 0)
theorem ltl_len (n : Int) (k : Nat) : (ltl n k).length = k := by
  induction k generalizing n with
  | zero => rfl
  | succ k ih => simp [ltl, ih]
theorem ltl_inj (k : Nat) : ∀ n m : Int, ltl n k = ltl m k → n % 256 ^ k = m % 256 ^ k := by
  induction k with
  | zero => intro n m _; simp [Int.emod_one]
  | succ k ih =>
    intro n m h
    simp only [ltl, List.cons.injEq] at h
    have h1 := ih _ _ h.2
    have e : ∀ z : Int, z % 256 ^ (k + 1) = z % 256 + 256 * (z / 256 % 256 ^ k) := by
      intro z
      rw [Int.pow_succ]
      have hP : 0 < (256 : Int) ^ k := Int.pow_pos (by decide)
      generalize (256 : Int) ^ k = P at *
      have h1 := Int.mul_ediv_add_emod (z / 256) P
      have h2 := Int.mul_ediv_add_emod z 256
      have h3 := Int.emod_nonneg (z / 256) (show P ≠ 0 by omega)
      have h4 := Int.emod_lt_of_pos (z / 256) hP
      have h5 := Int.emod_nonneg z (show (256 : Int) ≠ 0 by decide)
      have h6 := Int.emod_lt_of_pos z (show (0 : Int) < 256 by decide)
      generalize z / 256 % P = r at *
      generalize z / 256 / P = q at *
      generalize z % 256 = s at *
      have h7 : z = s + 256 * r + (P * 256) * q := by rw [← h2, ← h1, Int.mul_add, Int.mul_comm P 256, Int.mul_assoc]; omega
      rw [h7, Int.add_mul_emod_self_left]
      exact Int.emod_eq_of_lt (by omega) (by omega)
    rw [e n, e m, h.1, h1]
theorem hi_reg {r : Int} (h : 0 ≤ r) : hiR r = r / 8 := by unfold hiR; rw [if_neg (by omega)]
theorem hi_none : hiR (-1) = 0 := rfl
theorem hi_b {r : Int} (h1 : -1 ≤ r) (h2 : r ≤ 15) : 0 ≤ hiR r ∧ hiR r ≤ 1 := by unfold hiR; split <;> omega
theorem rex_b {m x l : Int} (m1 : -1 ≤ m) (m2 : m ≤ 15) (x1 : -1 ≤ x) (x2 : x ≤ 15) (l1 : -1 ≤ l) (l2 : l ≤ 15) : 72 ≤ rexI m x l ∧ rexI m x l ≤ 79 := by
  have h1 := hi_b m1 m2; have h2 := hi_b x1 x2; have h3 := hi_b l1 l2
  unfold rexI; omega
/-- what a form asks, as plain sentences -/
def R16 (r : Int) : Prop := 0 ≤ r ∧ r ≤ 15
def Pl (i : Ins) : Prop := R16 i.b ∧ (-2147483648 ≤ i.di ∧ i.di < 2147483648) ∧ ((i.x = -1 ∧ i.sc = 1) ∨ (R16 i.x ∧ i.x ≠ 4 ∧ (i.sc = 1 ∨ i.sc = 2 ∨ i.sc = 4 ∨ i.sc = 8)))
def Pz (i : Ins) : Prop := i.b = 0 ∧ i.x = 0 ∧ i.sc = 0 ∧ i.di = 0
theorem regB_iff {r : Int} (h : regB r = true) : R16 r := by unfold regB at h; simp only [Bool.and_eq_true, decide_eq_true_eq] at h; exact h
theorem zB_iff {r : Int} (h : zB r = true) : r = 0 := by unfold zB at h; simpa using h
theorem plZ_iff {i : Ins} (h : plZ i = true) : Pz i := by unfold plZ at h; simp only [Bool.and_eq_true, decide_eq_true_eq] at h; exact ⟨h.1.1.1, h.1.1.2, h.1.2, h.2⟩
theorem smallB_iff {r : Int} (h : smallB r = true) : -2147483648 ≤ r ∧ r < 2147483648 := by unfold smallB at h; simpa only [Bool.and_eq_true, decide_eq_true_eq] using h
theorem plB_iff {i : Ins} (h : plB i = true) : Pl i := by
  unfold plB at h
  simp only [Bool.and_eq_true] at h
  obtain ⟨⟨h1, h2⟩, h3⟩ := h
  refine ⟨regB_iff h1, smallB_iff h2, ?_⟩
  split at h3
  · exact .inl ⟨by assumption, by simpa using h3⟩
  · simp only [Bool.and_eq_true, decide_eq_true_eq] at h3
    refine .inr ⟨regB_iff h3.1.1, h3.1.2, ?_⟩
    have h4 := h3.2
    unfold scB at h4
    simp only [Bool.or_eq_true, decide_eq_true_eq] at h4
    omega
def OkP (i : Ins) : Fm → Prop
  | .ds => R16 i.d ∧ R16 i.s ∧ i.t = 0 ∧ Pz i ∧ i.im = 0
  | .di => R16 i.d ∧ i.s = 0 ∧ i.t = 0 ∧ Pz i
  | .dm => R16 i.d ∧ i.s = 0 ∧ i.t = 0 ∧ Pl i ∧ i.im = 0
  | .sm => i.d = 0 ∧ R16 i.s ∧ i.t = 0 ∧ Pl i ∧ i.im = 0
  | .dj => R16 i.d ∧ i.s = 0 ∧ i.t = 0 ∧ Pz i ∧ (-2147483648 ≤ i.im ∧ i.im < 2147483648)
  | .dst => R16 i.d ∧ R16 i.s ∧ R16 i.t ∧ Pz i ∧ i.im = 0
  | .d => R16 i.d ∧ i.s = 0 ∧ i.t = 0 ∧ Pz i ∧ i.im = 0
  | .db => R16 i.d ∧ i.s = 0 ∧ i.t = 0 ∧ Pz i ∧ (1 ≤ i.im ∧ i.im ≤ 63)
  | .s => i.d = 0 ∧ R16 i.s ∧ i.t = 0 ∧ Pz i ∧ i.im = 0
  | .j => i.d = 0 ∧ i.s = 0 ∧ i.t = 0 ∧ Pz i ∧ (-2147483648 ≤ i.im ∧ i.im < 2147483648)
  | .r => i.d = 0 ∧ i.s = 0 ∧ i.t = 0 ∧ Pz i ∧ i.im = 0
  | .no => False
theorem okF_iff {i : Ins} {f : Fm} (h : okF i f = true) : OkP i f := by
  cases f <;> simp only [okF, Bool.and_eq_true, decide_eq_true_eq] at h <;> unfold OkP
  · exact ⟨regB_iff h.1.1.1.1, regB_iff h.1.1.1.2, zB_iff h.1.1.2, plZ_iff h.1.2, zB_iff h.2⟩
  · exact ⟨regB_iff h.1.1.1, zB_iff h.1.1.2, zB_iff h.1.2, plZ_iff h.2⟩
  · exact ⟨regB_iff h.1.1.1.1, zB_iff h.1.1.1.2, zB_iff h.1.1.2, plB_iff h.1.2, zB_iff h.2⟩
  · exact ⟨zB_iff h.1.1.1.1, regB_iff h.1.1.1.2, zB_iff h.1.1.2, plB_iff h.1.2, zB_iff h.2⟩
  · exact ⟨regB_iff h.1.1.1.1, zB_iff h.1.1.1.2, zB_iff h.1.1.2, plZ_iff h.1.2, smallB_iff h.2⟩
  · exact ⟨regB_iff h.1.1.1.1, regB_iff h.1.1.1.2, regB_iff h.1.1.2.1, plZ_iff h.1.2, zB_iff h.2⟩
  · exact ⟨regB_iff h.1.1.1.1, zB_iff h.1.1.1.2, zB_iff h.1.1.2, plZ_iff h.1.2, zB_iff h.2⟩
  · exact ⟨regB_iff h.1.1.1.1, zB_iff h.1.1.1.2, zB_iff h.1.1.2, plZ_iff h.1.2, h.2⟩
  · exact ⟨zB_iff h.1.1.1.1, regB_iff h.1.1.1.2, zB_iff h.1.1.2, plZ_iff h.1.2, zB_iff h.2⟩
  · exact ⟨zB_iff h.1.1.1.1, zB_iff h.1.1.1.2, zB_iff h.1.1.2, plZ_iff h.1.2, smallB_iff h.2⟩
  · exact ⟨zB_iff h.1.1.1.1, zB_iff h.1.1.1.2, zB_iff h.1.1.2, plZ_iff h.1.2, zB_iff h.2⟩
  · exact absurd h (by decide)
theorem okI_iff {i : Ins} (h : okI i = true) : OkP i (formOf i.op) := okF_iff h
/-- the head of a place's bytes -/
theorem plc_head (m : Int) (i : Ins) : ∃ z l, plcL m i = z :: l ∧ (0 ≤ z ∧ z < 192) := by
  refine ⟨_, _, rfl, ?_⟩
  unfold mdI
  split <;> split <;> (try split) <;> omega
theorem app_eq {xs ys r r' : List Int} (hl : xs.length = ys.length) (h : xs ++ r = ys ++ r') : xs = ys := (List.append_inj h hl).1
end Is
end Go.Proofs.YtblmagcekfbgdaaGreatDoor
namespace Go.Proofs.YtblmagcekfbgdaaGreatDoor
open Go Go.RowKit
namespace Is
set_option linter.unusedVariables false
set_option linter.unusedSimpArgs false
theorem op_1 (i : Ins) (hk : OkP i .ds) (ho : i.op = 1) (r : List Int) : opOf (encL i ++ r) = i.op := by
  obtain ⟨op, d, s, t, b, x, sc, di, im⟩ := i
  dsimp only at ho
  subst ho
  obtain ⟨⟨d1, d2⟩, ⟨s1, s2⟩, t0, ⟨b0, x0, c0, i0⟩, m0⟩ := hk
  dsimp only at *
  have hr := rex_b (m := s) (x := 0) (l := d) (by omega) (by omega) (by omega) (by omega) (by omega) (by omega)
  show opAt (rexI s 0 d) 137 (rmI s d) = 1
  generalize rexI s 0 d = q at *
  unfold opAt
  try unfold rmI
  repeat (first | rw [if_pos (by omega)] | rw [if_neg (by omega)])

theorem op_2 (i : Ins) (hk : OkP i .di) (ho : i.op = 2) (r : List Int) : opOf (encL i ++ r) = i.op := by
  obtain ⟨op, d, s, t, b, x, sc, di, im⟩ := i
  dsimp only at ho
  subst ho
  obtain ⟨⟨d1, d2⟩, s0, t0, ⟨b0, x0, c0, i0⟩⟩ := hk
  dsimp only at *
  have hr := rex_b (m := 0) (x := 0) (l := d) (by omega) (by omega) (by omega) (by omega) (by omega) (by omega)
  show opAt (rexI 0 0 d) (184 + d % 8) (im % 256) = 2
  generalize rexI 0 0 d = q at *
  unfold opAt
  try unfold rmI
  repeat (first | rw [if_pos (by omega)] | rw [if_neg (by omega)])

theorem op_3 (i : Ins) (hk : OkP i .dm) (ho : i.op = 3) (r : List Int) : opOf (encL i ++ r) = i.op := by
  obtain ⟨op, d, s, t, b, x, sc, di, im⟩ := i
  dsimp only at ho
  subst ho
  obtain ⟨⟨d1, d2⟩, s0, t0, pl, m0⟩ := hk
  dsimp only at *
  obtain ⟨⟨b1, b2⟩, ⟨i1, i2⟩, hx⟩ := pl
  dsimp only at *
  have x1 : -1 ≤ x ∧ x ≤ 15 := by unfold R16 at hx; omega
  have hr := rex_b (m := d) (x := x) (l := b) (by omega) (by omega) x1.1 x1.2 (by omega) (by omega)
  obtain ⟨z, l, hz, z1, z2⟩ := plc_head d ⟨3, d, s, t, b, x, sc, di, im⟩
  have e : encL ⟨3, d, s, t, b, x, sc, di, im⟩ = rexI d x b :: 139 :: z :: l := by rw [← hz]; rfl
  rw [e]
  show opAt (rexI d x b) 139 z = 3
  generalize rexI d x b = q at *
  unfold opAt
  try unfold rmI
  repeat (first | rw [if_pos (by omega)] | rw [if_neg (by omega)])

theorem op_4 (i : Ins) (hk : OkP i .sm) (ho : i.op = 4) (r : List Int) : opOf (encL i ++ r) = i.op := by
  obtain ⟨op, d, s, t, b, x, sc, di, im⟩ := i
  dsimp only at ho
  subst ho
  obtain ⟨d0, ⟨s1, s2⟩, t0, pl, m0⟩ := hk
  dsimp only at *
  obtain ⟨⟨b1, b2⟩, ⟨i1, i2⟩, hx⟩ := pl
  dsimp only at *
  have x1 : -1 ≤ x ∧ x ≤ 15 := by unfold R16 at hx; omega
  have hr := rex_b (m := s) (x := x) (l := b) (by omega) (by omega) x1.1 x1.2 (by omega) (by omega)
  obtain ⟨z, l, hz, z1, z2⟩ := plc_head s ⟨4, d, s, t, b, x, sc, di, im⟩
  have e : encL ⟨4, d, s, t, b, x, sc, di, im⟩ = rexI s x b :: 137 :: z :: l := by rw [← hz]; rfl
  rw [e]
  show opAt (rexI s x b) 137 z = 4
  generalize rexI s x b = q at *
  unfold opAt
  try unfold rmI
  repeat (first | rw [if_pos (by omega)] | rw [if_neg (by omega)])

theorem op_5 (i : Ins) (hk : OkP i .dm) (ho : i.op = 5) (r : List Int) : opOf (encL i ++ r) = i.op := by
  obtain ⟨op, d, s, t, b, x, sc, di, im⟩ := i
  dsimp only at ho
  subst ho
  obtain ⟨⟨d1, d2⟩, s0, t0, pl, m0⟩ := hk
  dsimp only at *
  obtain ⟨⟨b1, b2⟩, ⟨i1, i2⟩, hx⟩ := pl
  dsimp only at *
  have x1 : -1 ≤ x ∧ x ≤ 15 := by unfold R16 at hx; omega
  have hr := rex_b (m := d) (x := x) (l := b) (by omega) (by omega) x1.1 x1.2 (by omega) (by omega)
  obtain ⟨z, l, hz, z1, z2⟩ := plc_head d ⟨5, d, s, t, b, x, sc, di, im⟩
  have e : encL ⟨5, d, s, t, b, x, sc, di, im⟩ = rexI d x b :: 141 :: z :: l := by rw [← hz]; rfl
  rw [e]
  show opAt (rexI d x b) 141 z = 5
  generalize rexI d x b = q at *
  unfold opAt
  try unfold rmI
  repeat (first | rw [if_pos (by omega)] | rw [if_neg (by omega)])

theorem op_6 (i : Ins) (hk : OkP i .ds) (ho : i.op = 6) (r : List Int) : opOf (encL i ++ r) = i.op := by
  obtain ⟨op, d, s, t, b, x, sc, di, im⟩ := i
  dsimp only at ho
  subst ho
  obtain ⟨⟨d1, d2⟩, ⟨s1, s2⟩, t0, ⟨b0, x0, c0, i0⟩, m0⟩ := hk
  dsimp only at *
  have hr := rex_b (m := s) (x := 0) (l := d) (by omega) (by omega) (by omega) (by omega) (by omega) (by omega)
  show opAt (rexI s 0 d) 1 (rmI s d) = 6
  generalize rexI s 0 d = q at *
  unfold opAt
  try unfold rmI
  repeat (first | rw [if_pos (by omega)] | rw [if_neg (by omega)])

theorem op_7 (i : Ins) (hk : OkP i .ds) (ho : i.op = 7) (r : List Int) : opOf (encL i ++ r) = i.op := by
  obtain ⟨op, d, s, t, b, x, sc, di, im⟩ := i
  dsimp only at ho
  subst ho
  obtain ⟨⟨d1, d2⟩, ⟨s1, s2⟩, t0, ⟨b0, x0, c0, i0⟩, m0⟩ := hk
  dsimp only at *
  have hr := rex_b (m := s) (x := 0) (l := d) (by omega) (by omega) (by omega) (by omega) (by omega) (by omega)
  show opAt (rexI s 0 d) 17 (rmI s d) = 7
  generalize rexI s 0 d = q at *
  unfold opAt
  try unfold rmI
  repeat (first | rw [if_pos (by omega)] | rw [if_neg (by omega)])

theorem op_8 (i : Ins) (hk : OkP i .ds) (ho : i.op = 8) (r : List Int) : opOf (encL i ++ r) = i.op := by
  obtain ⟨op, d, s, t, b, x, sc, di, im⟩ := i
  dsimp only at ho
  subst ho
  obtain ⟨⟨d1, d2⟩, ⟨s1, s2⟩, t0, ⟨b0, x0, c0, i0⟩, m0⟩ := hk
  dsimp only at *
  have hr := rex_b (m := s) (x := 0) (l := d) (by omega) (by omega) (by omega) (by omega) (by omega) (by omega)
  show opAt (rexI s 0 d) 41 (rmI s d) = 8
  generalize rexI s 0 d = q at *
  unfold opAt
  try unfold rmI
  repeat (first | rw [if_pos (by omega)] | rw [if_neg (by omega)])

theorem op_9 (i : Ins) (hk : OkP i .ds) (ho : i.op = 9) (r : List Int) : opOf (encL i ++ r) = i.op := by
  obtain ⟨op, d, s, t, b, x, sc, di, im⟩ := i
  dsimp only at ho
  subst ho
  obtain ⟨⟨d1, d2⟩, ⟨s1, s2⟩, t0, ⟨b0, x0, c0, i0⟩, m0⟩ := hk
  dsimp only at *
  have hr := rex_b (m := s) (x := 0) (l := d) (by omega) (by omega) (by omega) (by omega) (by omega) (by omega)
  show opAt (rexI s 0 d) 25 (rmI s d) = 9
  generalize rexI s 0 d = q at *
  unfold opAt
  try unfold rmI
  repeat (first | rw [if_pos (by omega)] | rw [if_neg (by omega)])

theorem op_10 (i : Ins) (hk : OkP i .ds) (ho : i.op = 10) (r : List Int) : opOf (encL i ++ r) = i.op := by
  obtain ⟨op, d, s, t, b, x, sc, di, im⟩ := i
  dsimp only at ho
  subst ho
  obtain ⟨⟨d1, d2⟩, ⟨s1, s2⟩, t0, ⟨b0, x0, c0, i0⟩, m0⟩ := hk
  dsimp only at *
  have hr := rex_b (m := s) (x := 0) (l := d) (by omega) (by omega) (by omega) (by omega) (by omega) (by omega)
  show opAt (rexI s 0 d) 33 (rmI s d) = 10
  generalize rexI s 0 d = q at *
  unfold opAt
  try unfold rmI
  repeat (first | rw [if_pos (by omega)] | rw [if_neg (by omega)])

theorem op_11 (i : Ins) (hk : OkP i .ds) (ho : i.op = 11) (r : List Int) : opOf (encL i ++ r) = i.op := by
  obtain ⟨op, d, s, t, b, x, sc, di, im⟩ := i
  dsimp only at ho
  subst ho
  obtain ⟨⟨d1, d2⟩, ⟨s1, s2⟩, t0, ⟨b0, x0, c0, i0⟩, m0⟩ := hk
  dsimp only at *
  have hr := rex_b (m := s) (x := 0) (l := d) (by omega) (by omega) (by omega) (by omega) (by omega) (by omega)
  show opAt (rexI s 0 d) 9 (rmI s d) = 11
  generalize rexI s 0 d = q at *
  unfold opAt
  try unfold rmI
  repeat (first | rw [if_pos (by omega)] | rw [if_neg (by omega)])

theorem op_12 (i : Ins) (hk : OkP i .ds) (ho : i.op = 12) (r : List Int) : opOf (encL i ++ r) = i.op := by
  obtain ⟨op, d, s, t, b, x, sc, di, im⟩ := i
  dsimp only at ho
  subst ho
  obtain ⟨⟨d1, d2⟩, ⟨s1, s2⟩, t0, ⟨b0, x0, c0, i0⟩, m0⟩ := hk
  dsimp only at *
  have hr := rex_b (m := s) (x := 0) (l := d) (by omega) (by omega) (by omega) (by omega) (by omega) (by omega)
  show opAt (rexI s 0 d) 49 (rmI s d) = 12
  generalize rexI s 0 d = q at *
  unfold opAt
  try unfold rmI
  repeat (first | rw [if_pos (by omega)] | rw [if_neg (by omega)])

theorem op_13 (i : Ins) (hk : OkP i .ds) (ho : i.op = 13) (r : List Int) : opOf (encL i ++ r) = i.op := by
  obtain ⟨op, d, s, t, b, x, sc, di, im⟩ := i
  dsimp only at ho
  subst ho
  obtain ⟨⟨d1, d2⟩, ⟨s1, s2⟩, t0, ⟨b0, x0, c0, i0⟩, m0⟩ := hk
  dsimp only at *
  have hr := rex_b (m := s) (x := 0) (l := d) (by omega) (by omega) (by omega) (by omega) (by omega) (by omega)
  show opAt (rexI s 0 d) 57 (rmI s d) = 13
  generalize rexI s 0 d = q at *
  unfold opAt
  try unfold rmI
  repeat (first | rw [if_pos (by omega)] | rw [if_neg (by omega)])

theorem op_14 (i : Ins) (hk : OkP i .ds) (ho : i.op = 14) (r : List Int) : opOf (encL i ++ r) = i.op := by
  obtain ⟨op, d, s, t, b, x, sc, di, im⟩ := i
  dsimp only at ho
  subst ho
  obtain ⟨⟨d1, d2⟩, ⟨s1, s2⟩, t0, ⟨b0, x0, c0, i0⟩, m0⟩ := hk
  dsimp only at *
  have hr := rex_b (m := s) (x := 0) (l := d) (by omega) (by omega) (by omega) (by omega) (by omega) (by omega)
  show opAt (rexI s 0 d) 133 (rmI s d) = 14
  generalize rexI s 0 d = q at *
  unfold opAt
  try unfold rmI
  repeat (first | rw [if_pos (by omega)] | rw [if_neg (by omega)])

theorem op_15 (i : Ins) (hk : OkP i .dj) (ho : i.op = 15) (r : List Int) : opOf (encL i ++ r) = i.op := by
  obtain ⟨op, d, s, t, b, x, sc, di, im⟩ := i
  dsimp only at ho
  subst ho
  obtain ⟨⟨d1, d2⟩, s0, t0, ⟨b0, x0, c0, i0⟩, m1, m2⟩ := hk
  dsimp only at *
  have hr := rex_b (m := 0) (x := 0) (l := d) (by omega) (by omega) (by omega) (by omega) (by omega) (by omega)
  show opAt (rexI 0 0 d) 129 (rmI 0 d) = 15
  generalize rexI 0 0 d = q at *
  unfold opAt
  try unfold rmI
  repeat (first | rw [if_pos (by omega)] | rw [if_neg (by omega)])

theorem op_16 (i : Ins) (hk : OkP i .dj) (ho : i.op = 16) (r : List Int) : opOf (encL i ++ r) = i.op := by
  obtain ⟨op, d, s, t, b, x, sc, di, im⟩ := i
  dsimp only at ho
  subst ho
  obtain ⟨⟨d1, d2⟩, s0, t0, ⟨b0, x0, c0, i0⟩, m1, m2⟩ := hk
  dsimp only at *
  have hr := rex_b (m := 0) (x := 0) (l := d) (by omega) (by omega) (by omega) (by omega) (by omega) (by omega)
  show opAt (rexI 0 0 d) 129 (rmI 4 d) = 16
  generalize rexI 0 0 d = q at *
  unfold opAt
  try unfold rmI
  repeat (first | rw [if_pos (by omega)] | rw [if_neg (by omega)])

theorem op_17 (i : Ins) (hk : OkP i .dj) (ho : i.op = 17) (r : List Int) : opOf (encL i ++ r) = i.op := by
  obtain ⟨op, d, s, t, b, x, sc, di, im⟩ := i
  dsimp only at ho
  subst ho
  obtain ⟨⟨d1, d2⟩, s0, t0, ⟨b0, x0, c0, i0⟩, m1, m2⟩ := hk
  dsimp only at *
  have hr := rex_b (m := 0) (x := 0) (l := d) (by omega) (by omega) (by omega) (by omega) (by omega) (by omega)
  show opAt (rexI 0 0 d) 129 (rmI 5 d) = 17
  generalize rexI 0 0 d = q at *
  unfold opAt
  try unfold rmI
  repeat (first | rw [if_pos (by omega)] | rw [if_neg (by omega)])

theorem op_18 (i : Ins) (hk : OkP i .dj) (ho : i.op = 18) (r : List Int) : opOf (encL i ++ r) = i.op := by
  obtain ⟨op, d, s, t, b, x, sc, di, im⟩ := i
  dsimp only at ho
  subst ho
  obtain ⟨⟨d1, d2⟩, s0, t0, ⟨b0, x0, c0, i0⟩, m1, m2⟩ := hk
  dsimp only at *
  have hr := rex_b (m := 0) (x := 0) (l := d) (by omega) (by omega) (by omega) (by omega) (by omega) (by omega)
  show opAt (rexI 0 0 d) 129 (rmI 7 d) = 18
  generalize rexI 0 0 d = q at *
  unfold opAt
  try unfold rmI
  repeat (first | rw [if_pos (by omega)] | rw [if_neg (by omega)])

theorem op_19 (i : Ins) (hk : OkP i .dst) (ho : i.op = 19) (r : List Int) : opOf (encL i ++ r) = i.op := by
  obtain ⟨op, d, s, t, b, x, sc, di, im⟩ := i
  dsimp only at ho
  subst ho
  obtain ⟨⟨d1, d2⟩, ⟨s1, s2⟩, ⟨t1, t2⟩, ⟨b0, x0, c0, i0⟩, m0⟩ := hk
  dsimp only at *
  show opAt 196 (66 + 128 * (1 - hiR d) + 32 * (1 - hiR t)) (131 + 8 * (15 - s)) = 19
  unfold opAt
  try unfold rmI
  repeat (first | rw [if_pos (by omega)] | rw [if_neg (by omega)])

theorem op_20 (i : Ins) (hk : OkP i .ds) (ho : i.op = 20) (r : List Int) : opOf (encL i ++ r) = i.op := by
  obtain ⟨op, d, s, t, b, x, sc, di, im⟩ := i
  dsimp only at ho
  subst ho
  obtain ⟨⟨d1, d2⟩, ⟨s1, s2⟩, t0, ⟨b0, x0, c0, i0⟩, m0⟩ := hk
  dsimp only at *
  have hr := rex_b (m := d) (x := 0) (l := s) (by omega) (by omega) (by omega) (by omega) (by omega) (by omega)
  show opAt 102 (rexI d 0 s) 15 = 20
  generalize rexI d 0 s = q at *
  unfold opAt
  try unfold rmI
  repeat (first | rw [if_pos (by omega)] | rw [if_neg (by omega)])

theorem op_21 (i : Ins) (hk : OkP i .ds) (ho : i.op = 21) (r : List Int) : opOf (encL i ++ r) = i.op := by
  obtain ⟨op, d, s, t, b, x, sc, di, im⟩ := i
  dsimp only at ho
  subst ho
  obtain ⟨⟨d1, d2⟩, ⟨s1, s2⟩, t0, ⟨b0, x0, c0, i0⟩, m0⟩ := hk
  dsimp only at *
  have hr := rex_b (m := d) (x := 0) (l := s) (by omega) (by omega) (by omega) (by omega) (by omega) (by omega)
  show opAt 243 (rexI d 0 s) 15 = 21
  generalize rexI d 0 s = q at *
  unfold opAt
  try unfold rmI
  repeat (first | rw [if_pos (by omega)] | rw [if_neg (by omega)])

theorem op_22 (i : Ins) (hk : OkP i .d) (ho : i.op = 22) (r : List Int) : opOf (encL i ++ r) = i.op := by
  obtain ⟨op, d, s, t, b, x, sc, di, im⟩ := i
  dsimp only at ho
  subst ho
  obtain ⟨⟨d1, d2⟩, s0, t0, ⟨b0, x0, c0, i0⟩, m0⟩ := hk
  dsimp only at *
  have hr := rex_b (m := 0) (x := 0) (l := d) (by omega) (by omega) (by omega) (by omega) (by omega) (by omega)
  show opAt (rexI 0 0 d) 247 (rmI 3 d) = 22
  generalize rexI 0 0 d = q at *
  unfold opAt
  try unfold rmI
  repeat (first | rw [if_pos (by omega)] | rw [if_neg (by omega)])

theorem op_23 (i : Ins) (hk : OkP i .d) (ho : i.op = 23) (r : List Int) : opOf (encL i ++ r) = i.op := by
  obtain ⟨op, d, s, t, b, x, sc, di, im⟩ := i
  dsimp only at ho
  subst ho
  obtain ⟨⟨d1, d2⟩, s0, t0, ⟨b0, x0, c0, i0⟩, m0⟩ := hk
  dsimp only at *
  have hr := rex_b (m := 0) (x := 0) (l := d) (by omega) (by omega) (by omega) (by omega) (by omega) (by omega)
  show opAt (rexI 0 0 d) 247 (rmI 2 d) = 23
  generalize rexI 0 0 d = q at *
  unfold opAt
  try unfold rmI
  repeat (first | rw [if_pos (by omega)] | rw [if_neg (by omega)])

theorem op_24 (i : Ins) (hk : OkP i .db) (ho : i.op = 24) (r : List Int) : opOf (encL i ++ r) = i.op := by
  obtain ⟨op, d, s, t, b, x, sc, di, im⟩ := i
  dsimp only at ho
  subst ho
  obtain ⟨⟨d1, d2⟩, s0, t0, ⟨b0, x0, c0, i0⟩, m1, m2⟩ := hk
  dsimp only at *
  have hr := rex_b (m := 0) (x := 0) (l := d) (by omega) (by omega) (by omega) (by omega) (by omega) (by omega)
  show opAt (rexI 0 0 d) 193 (rmI 4 d) = 24
  generalize rexI 0 0 d = q at *
  unfold opAt
  try unfold rmI
  repeat (first | rw [if_pos (by omega)] | rw [if_neg (by omega)])

theorem op_25 (i : Ins) (hk : OkP i .db) (ho : i.op = 25) (r : List Int) : opOf (encL i ++ r) = i.op := by
  obtain ⟨op, d, s, t, b, x, sc, di, im⟩ := i
  dsimp only at ho
  subst ho
  obtain ⟨⟨d1, d2⟩, s0, t0, ⟨b0, x0, c0, i0⟩, m1, m2⟩ := hk
  dsimp only at *
  have hr := rex_b (m := 0) (x := 0) (l := d) (by omega) (by omega) (by omega) (by omega) (by omega) (by omega)
  show opAt (rexI 0 0 d) 193 (rmI 5 d) = 25
  generalize rexI 0 0 d = q at *
  unfold opAt
  try unfold rmI
  repeat (first | rw [if_pos (by omega)] | rw [if_neg (by omega)])

theorem op_26 (i : Ins) (hk : OkP i .ds) (ho : i.op = 26) (r : List Int) : opOf (encL i ++ r) = i.op := by
  obtain ⟨op, d, s, t, b, x, sc, di, im⟩ := i
  dsimp only at ho
  subst ho
  obtain ⟨⟨d1, d2⟩, ⟨s1, s2⟩, t0, ⟨b0, x0, c0, i0⟩, m0⟩ := hk
  dsimp only at *
  have hr := rex_b (m := d) (x := 0) (l := s) (by omega) (by omega) (by omega) (by omega) (by omega) (by omega)
  show opAt (rexI d 0 s) 15 66 = 26
  generalize rexI d 0 s = q at *
  unfold opAt
  try unfold rmI
  repeat (first | rw [if_pos (by omega)] | rw [if_neg (by omega)])

theorem op_27 (i : Ins) (hk : OkP i .ds) (ho : i.op = 27) (r : List Int) : opOf (encL i ++ r) = i.op := by
  obtain ⟨op, d, s, t, b, x, sc, di, im⟩ := i
  dsimp only at ho
  subst ho
  obtain ⟨⟨d1, d2⟩, ⟨s1, s2⟩, t0, ⟨b0, x0, c0, i0⟩, m0⟩ := hk
  dsimp only at *
  have hr := rex_b (m := d) (x := 0) (l := s) (by omega) (by omega) (by omega) (by omega) (by omega) (by omega)
  show opAt (rexI d 0 s) 15 69 = 27
  generalize rexI d 0 s = q at *
  unfold opAt
  try unfold rmI
  repeat (first | rw [if_pos (by omega)] | rw [if_neg (by omega)])

theorem op_28 (i : Ins) (hk : OkP i .s) (ho : i.op = 28) (r : List Int) : opOf (encL i ++ r) = i.op := by
  obtain ⟨op, d, s, t, b, x, sc, di, im⟩ := i
  dsimp only at ho
  subst ho
  obtain ⟨d0, ⟨s1, s2⟩, t0, ⟨b0, x0, c0, i0⟩, m0⟩ := hk
  dsimp only at *
  by_cases h7 : s > 7
  · have e : encL ⟨28, d, s, t, b, x, sc, di, im⟩ = [65, 80 + s % 8] := by show (if s > 7 then _ else _) = _; rw [if_pos h7]
    rw [e]
    show opAt 65 (80 + s % 8) (r.getD 0 0) = 28
    unfold opAt
    repeat (first | rw [if_pos (by omega)] | rw [if_neg (by omega)])
  · have e : encL ⟨28, d, s, t, b, x, sc, di, im⟩ = [80 + s] := by show (if s > 7 then _ else _) = _; rw [if_neg h7]
    rw [e]
    show opAt (80 + s) (r.getD 0 0) (r.getD 1 0) = 28
    unfold opAt
    repeat (first | rw [if_pos (by omega)] | rw [if_neg (by omega)])

theorem op_29 (i : Ins) (hk : OkP i .d) (ho : i.op = 29) (r : List Int) : opOf (encL i ++ r) = i.op := by
  obtain ⟨op, d, s, t, b, x, sc, di, im⟩ := i
  dsimp only at ho
  subst ho
  obtain ⟨⟨d1, d2⟩, s0, t0, ⟨b0, x0, c0, i0⟩, m0⟩ := hk
  dsimp only at *
  by_cases h7 : d > 7
  · have e : encL ⟨29, d, s, t, b, x, sc, di, im⟩ = [65, 88 + d % 8] := by show (if d > 7 then _ else _) = _; rw [if_pos h7]
    rw [e]
    show opAt 65 (88 + d % 8) (r.getD 0 0) = 29
    unfold opAt
    repeat (first | rw [if_pos (by omega)] | rw [if_neg (by omega)])
  · have e : encL ⟨29, d, s, t, b, x, sc, di, im⟩ = [88 + d] := by show (if d > 7 then _ else _) = _; rw [if_neg h7]
    rw [e]
    show opAt (88 + d) (r.getD 0 0) (r.getD 1 0) = 29
    unfold opAt
    repeat (first | rw [if_pos (by omega)] | rw [if_neg (by omega)])

theorem op_30 (i : Ins) (hk : OkP i .j) (ho : i.op = 30) (r : List Int) : opOf (encL i ++ r) = i.op := by
  obtain ⟨op, d, s, t, b, x, sc, di, im⟩ := i
  dsimp only at ho
  subst ho
  obtain ⟨d0, s0, t0, ⟨b0, x0, c0, i0⟩, m1, m2⟩ := hk
  dsimp only at *
  show opAt 233 (im % 256) (im / 256 % 256) = 30
  unfold opAt
  try unfold rmI
  repeat (first | rw [if_pos (by omega)] | rw [if_neg (by omega)])

theorem op_31 (i : Ins) (hk : OkP i .j) (ho : i.op = 31) (r : List Int) : opOf (encL i ++ r) = i.op := by
  obtain ⟨op, d, s, t, b, x, sc, di, im⟩ := i
  dsimp only at ho
  subst ho
  obtain ⟨d0, s0, t0, ⟨b0, x0, c0, i0⟩, m1, m2⟩ := hk
  dsimp only at *
  show opAt 15 133 (im % 256) = 31
  unfold opAt
  try unfold rmI
  repeat (first | rw [if_pos (by omega)] | rw [if_neg (by omega)])

theorem op_32 (i : Ins) (hk : OkP i .j) (ho : i.op = 32) (r : List Int) : opOf (encL i ++ r) = i.op := by
  obtain ⟨op, d, s, t, b, x, sc, di, im⟩ := i
  dsimp only at ho
  subst ho
  obtain ⟨d0, s0, t0, ⟨b0, x0, c0, i0⟩, m1, m2⟩ := hk
  dsimp only at *
  show opAt 15 130 (im % 256) = 32
  unfold opAt
  try unfold rmI
  repeat (first | rw [if_pos (by omega)] | rw [if_neg (by omega)])

theorem op_33 (i : Ins) (hk : OkP i .r) (ho : i.op = 33) (r : List Int) : opOf (encL i ++ r) = i.op := by
  obtain ⟨op, d, s, t, b, x, sc, di, im⟩ := i
  dsimp only at ho
  subst ho
  obtain ⟨d0, s0, t0, ⟨b0, x0, c0, i0⟩, m0⟩ := hk
  dsimp only at *
  show opAt 195 (r.getD 0 0) (r.getD 1 0) = 33
  unfold opAt
  try unfold rmI
  repeat (first | rw [if_pos (by omega)] | rw [if_neg (by omega)])

theorem op_enc (i : Ins) (h : okI i = true) (r : List Int) : opOf (encL i ++ r) = i.op := by
  have hk := okI_iff h
  rcases op_cases i.op with e | e | e | e | e | e | e | e | e | e | e | e | e | e | e | e | e | e | e | e | e | e | e | e | e | e | e | e | e | e | e | e | e | e
  · rw [e] at hk; exact op_1 i hk e r
  · rw [e] at hk; exact op_2 i hk e r
  · rw [e] at hk; exact op_3 i hk e r
  · rw [e] at hk; exact op_4 i hk e r
  · rw [e] at hk; exact op_5 i hk e r
  · rw [e] at hk; exact op_6 i hk e r
  · rw [e] at hk; exact op_7 i hk e r
  · rw [e] at hk; exact op_8 i hk e r
  · rw [e] at hk; exact op_9 i hk e r
  · rw [e] at hk; exact op_10 i hk e r
  · rw [e] at hk; exact op_11 i hk e r
  · rw [e] at hk; exact op_12 i hk e r
  · rw [e] at hk; exact op_13 i hk e r
  · rw [e] at hk; exact op_14 i hk e r
  · rw [e] at hk; exact op_15 i hk e r
  · rw [e] at hk; exact op_16 i hk e r
  · rw [e] at hk; exact op_17 i hk e r
  · rw [e] at hk; exact op_18 i hk e r
  · rw [e] at hk; exact op_19 i hk e r
  · rw [e] at hk; exact op_20 i hk e r
  · rw [e] at hk; exact op_21 i hk e r
  · rw [e] at hk; exact op_22 i hk e r
  · rw [e] at hk; exact op_23 i hk e r
  · rw [e] at hk; exact op_24 i hk e r
  · rw [e] at hk; exact op_25 i hk e r
  · rw [e] at hk; exact op_26 i hk e r
  · rw [e] at hk; exact op_27 i hk e r
  · rw [e] at hk; exact op_28 i hk e r
  · rw [e] at hk; exact op_29 i hk e r
  · rw [e] at hk; exact op_30 i hk e r
  · rw [e] at hk; exact op_31 i hk e r
  · rw [e] at hk; exact op_32 i hk e r
  · rw [e] at hk; exact op_33 i hk e r
  · exfalso
    have e2 : formOf i.op = .no := by
      unfold formOf
      rw [if_neg (by omega), if_neg (by omega), if_neg (by omega), if_neg (by omega), if_neg (by omega), if_neg (by omega), if_neg (by omega), if_neg (by omega), if_neg (by omega), if_neg (by omega), if_neg (by omega)]
    rw [e2] at hk
    exact hk


end Is
end Go.Proofs.YtblmagcekfbgdaaGreatDoor
