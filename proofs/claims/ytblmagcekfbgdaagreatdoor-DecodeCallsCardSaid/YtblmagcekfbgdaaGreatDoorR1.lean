/- Plain reckoning: what a first look makes of bytes; numbers and places read as they were put; no program in it. | Each operation: what was put is read as it was, by both first looks; no program in it. -/
import Derived.Test.YtblmagcekfbgdaaGreatDoorG3
namespace Go.Proofs.YtblmagcekfbgdaaGreatDoor
open Go Go.RowKit
namespace Is
set_option linter.unusedVariables false
set_option linter.unusedSimpArgs false
/-- so many bytes as a number, the least one first -/
def lowB (B : Nat → Int) (k : Nat) : Nat → Int
  | 0 => 0
  | n + 1 => lowB B k n + B (k + n) * 256 ^ n
/-- with its sign -/
def sgnB (v : Int) (n : Nat) : Int := if 2 * v < 256 ^ n then v else v - 256 ^ n
def numB (B : Nat → Int) (k n : Nat) : Int := sgnB (lowB B k n) n
def rxM (r : Int) : Int := r / 4 % 2 * 8
def rxX (r : Int) : Int := r / 2 % 2 * 8
def rxL (r : Int) : Int := r % 2 * 8
def sibN (b : Int) : Nat := if b % 8 = 4 then 1 else 0
def dspN (b : Int) : Nat := if b / 64 = 2 then 4 else (b / 64).toNat
def plEnd (B : Nat → Int) (k : Nat) : Nat := k + 1 + sibN (B k) + dspN (B k)
def opEnd (B : Nat → Int) (k : Nat) : Nat := if 192 ≤ B k then k + 1 else plEnd B k
def plBase (B : Nat → Int) (k : Nat) : Int := if B k % 8 = 4 then B (k + 1) % 8 else B k % 8
def plIdx (B : Nat → Int) (k : Nat) : Int := if B k % 8 = 4 then B (k + 1) / 8 % 8 else 4
def plSc (B : Nat → Int) (k : Nat) : Int := if B k % 8 = 4 then 2 ^ (B (k + 1) / 64).toNat else 1
def plDi (B : Nat → Int) (k : Nat) : Int := numB B (k + 1 + sibN (B k)) (dspN (B k))
def wdX (x r : Int) : Int := if x + rxX r = 4 then -1 else x + rxX r
def zI : Ins := ⟨0, 0, 0, 0, 0, 0, 0, 0, 0⟩
def midR (b r : Int) : Int := b / 8 % 8 + rxM r
def lstR (b r : Int) : Int := b % 8 + rxL r
/-- two registers, the one in the middle made -/
def twoM (B : Nat → Int) (k : Nat) (r op : Int) : Ins := if 192 ≤ B k then ⟨op, midR (B k) r, lstR (B k) r, 0, 0, 0, 0, 0, 0⟩ else zI
def ofDig (b d : Int) : Int :=
  if b = 129 then (if d = 0 then 15 else if d = 4 then 16 else if d = 5 then 17 else if d = 7 then 18 else 0)
  else if b = 193 then (if d = 4 then 24 else if d = 5 then 25 else 0) else if b = 247 then (if d = 2 then 23 else if d = 3 then 22 else 0) else 0
def ofReg (b : Int) : Int :=
  if b = 1 then 6 else if b = 9 then 11 else if b = 17 then 7 else if b = 25 then 9 else if b = 33 then 10 else if b = 41 then 8 else if b = 49 then 12 else if b = 57 then 13 else if b = 133 then 14 else if b = 137 then 1 else 0
def plI (op d s : Int) (B : Nat → Int) (k : Nat) (r : Int) : Ins := ⟨op, d, s, 0, plBase B k + rxL r, wdX (plIdx B k) r, plSc B k, plDi B k, 0⟩
def ofPl (b m : Int) (B : Nat → Int) (k : Nat) (r : Int) : Ins := if b = 137 then plI 4 0 m B k r else if b = 139 then plI 3 m 0 B k r else if b = 141 then plI 5 m 0 B k r else zI
def digI (B : Nat → Int) (k : Nat) (r b : Int) (n : Nat) : Ins := if 192 ≤ B k then ⟨ofDig b (midR (B k) r), lstR (B k) r, 0, 0, 0, 0, 0, 0, numB B (opEnd B k) n⟩ else zI
def twoI (B : Nat → Int) (k : Nat) (r b : Int) : Ins := if 192 ≤ B k then ⟨ofReg b, lstR (B k) r, midR (B k) r, 0, 0, 0, 0, 0, 0⟩ else ofPl b (midR (B k) r) B k r
def chI (B : Nat → Int) (k : Nat) (r : Int) : Ins := if B k = 66 then twoM B (k + 1) r 26 else if B k = 69 then twoM B (k + 1) r 27 else zI
/-- behind the rex r; the next byte stands at k -/
def wI (B : Nat → Int) (k : Nat) (r : Int) : Ins :=
  if B k / 8 = 23 then ⟨2, B k % 8 + rxL r, 0, 0, 0, 0, 0, 0, numB B (k + 1) 8⟩
  else if B k = 15 then chI B (k + 1) r
  else if B k = 129 then digI B (k + 1) r 129 4
  else if B k = 193 then digI B (k + 1) r 193 1
  else if B k = 247 then digI B (k + 1) r 247 0
  else twoI B (k + 1) r (B k)
def wE (B : Nat → Int) (k : Nat) : Nat :=
  if B k / 8 = 23 then k + 9
  else if B k = 15 then opEnd B (k + 2)
  else if B k = 129 then opEnd B (k + 1) + 4
  else if B k = 193 then opEnd B (k + 1) + 1
  else if B k = 247 then opEnd B (k + 1)
  else opEnd B (k + 1)
def shI (b a : Int) : Ins := if b / 8 % 2 = 0 then ⟨28, 0, b % 8 + a, 0, 0, 0, 0, 0, 0⟩ else ⟨29, b % 8 + a, 0, 0, 0, 0, 0, 0, 0⟩
def juI (op n : Int) : Ins := ⟨op, 0, 0, 0, 0, 0, 0, 0, n⟩
def jifI (B : Nat → Int) (k : Nat) : Ins := if B k = 130 then juI 32 (numB B (k + 1) 4) else if B k = 133 then juI 31 (numB B (k + 1) 4) else zI
def jifE (B : Nat → Int) (k : Nat) : Nat := if B k = 130 then k + 5 else if B k = 133 then k + 5 else k + 1
/-- the product: its first two bytes stand at k -/
def prI (B : Nat → Int) (k : Nat) : Ins :=
  ⟨(twoM B (k + 3) ((255 - B k) / 32) 19).op, (twoM B (k + 3) ((255 - B k) / 32) 19).d, 15 - B (k + 1) / 8 % 16, (twoM B (k + 3) ((255 - B k) / 32) 19).s, 0, 0, 0, 0, 0⟩
/-- the landed package's first look -/
def gI (B : Nat → Int) (k : Nat) : Ins :=
  if B k / 8 = 9 then wI B (k + 1) (B k)
  else if B k / 16 = 5 then shI (B k) 0
  else if B k = 15 then jifI B (k + 1)
  else if B k = 65 then shI (B (k + 1)) 8
  else if B k = 102 then twoM B (k + 5) (B (k + 1)) 20
  else if B k = 195 then ⟨33, 0, 0, 0, 0, 0, 0, 0, 0⟩
  else if B k = 196 then prI B (k + 1)
  else if B k = 233 then juI 30 (numB B (k + 1) 4)
  else if B k = 243 then twoM B (k + 5) (B (k + 1)) 21
  else zI
def gE (B : Nat → Int) (k : Nat) : Nat :=
  if B k / 8 = 9 then wE B (k + 1)
  else if B k / 16 = 5 then k + 1
  else if B k = 15 then jifE B (k + 1)
  else if B k = 65 then k + 2
  else if B k = 102 then opEnd B (k + 5)
  else if B k = 195 then k + 1
  else if B k = 196 then opEnd B (k + 4)
  else if B k = 233 then k + 5
  else if B k = 243 then opEnd B (k + 5)
  else k + 1
/-- the document's own first look -/
def rrO (b : Int) : Int := if b = 137 then 1 else if b = 1 then 6 else if b = 17 then 7 else if b = 41 then 8 else if b = 25 then 9 else if b = 33 then 10 else if b = 9 then 11 else if b = 49 then 12 else if b = 57 then 13 else if b = 133 then 14 else 0
def rpX (B : Nat → Int) (k : Nat) (r : Int) : Int := if B k % 8 = 4 then (if B (k + 1) / 8 % 8 ≠ 4 ∨ r / 2 % 2 = 1 then B (k + 1) / 8 % 8 + rxX r else -1) else -1
def rpS (B : Nat → Int) (k : Nat) (r : Int) : Int := if B k % 8 = 4 then (if B (k + 1) / 8 % 8 ≠ 4 ∨ r / 2 % 2 = 1 then 2 ^ (B (k + 1) / 64).toNat else 1) else 1
def rdN (b : Int) : Nat := if b / 64 = 1 then 1 else if b / 64 = 2 then 4 else 0
def rpD (B : Nat → Int) (k : Nat) : Int := numB B (k + 1 + sibN (B k)) (rdN (B k))
def rpE (B : Nat → Int) (k : Nat) : Nat := k + 1 + sibN (B k) + rdN (B k)
def rpI (op d s : Int) (B : Nat → Int) (k : Nat) (r : Int) : Ins := ⟨op, d, s, 0, plBase B k + rxL r, rpX B k r, rpS B k r, rpD B k, 0⟩
def riO (m : Int) : Int := if m = 0 then 15 else if m = 4 then 16 else if m = 5 then 17 else if m = 7 then 18 else 0
/-- behind the rex r; the next byte stands at k -/
def rwI (B : Nat → Int) (k : Nat) (r : Int) : Ins :=
  if 184 ≤ B k ∧ B k < 192 then ⟨2, B k % 8 + rxL r, 0, 0, 0, 0, 0, 0, numB B (k + 1) 8⟩
  else if B k = 15 then ⟨if B (k + 1) = 66 then 26 else if B (k + 1) = 69 then 27 else 0, midR (B (k + 2)) r, lstR (B (k + 2)) r, 0, 0, 0, 0, 0, 0⟩
  else if B k = 139 then rpI 3 (midR (B (k + 1)) r) 0 B (k + 1) r
  else if B k = 137 ∧ B (k + 1) < 192 then rpI 4 0 (midR (B (k + 1)) r) B (k + 1) r
  else if B k = 141 then rpI 5 (midR (B (k + 1)) r) 0 B (k + 1) r
  else if B k = 129 then ⟨riO (midR (B (k + 1)) r), lstR (B (k + 1)) r, 0, 0, 0, 0, 0, 0, numB B (k + 2) 4⟩
  else if B k = 247 ∧ midR (B (k + 1)) r = 3 then ⟨22, lstR (B (k + 1)) r, 0, 0, 0, 0, 0, 0, 0⟩
  else if B k = 247 ∧ midR (B (k + 1)) r = 2 then ⟨23, lstR (B (k + 1)) r, 0, 0, 0, 0, 0, 0, 0⟩
  else if B k = 193 ∧ midR (B (k + 1)) r = 4 then ⟨24, lstR (B (k + 1)) r, 0, 0, 0, 0, 0, 0, numB B (k + 2) 1⟩
  else if B k = 193 ∧ midR (B (k + 1)) r = 5 then ⟨25, lstR (B (k + 1)) r, 0, 0, 0, 0, 0, 0, numB B (k + 2) 1⟩
  else ⟨rrO (B k), lstR (B (k + 1)) r, midR (B (k + 1)) r, 0, 0, 0, 0, 0, 0⟩
def rwE (B : Nat → Int) (k : Nat) (r : Int) : Nat :=
  if 184 ≤ B k ∧ B k < 192 then k + 9
  else if B k = 15 then k + 3
  else if B k = 139 then rpE B (k + 1)
  else if B k = 137 ∧ B (k + 1) < 192 then rpE B (k + 1)
  else if B k = 141 then rpE B (k + 1)
  else if B k = 129 then k + 6
  else if B k = 247 ∧ midR (B (k + 1)) r = 3 then k + 2
  else if B k = 247 ∧ midR (B (k + 1)) r = 2 then k + 2
  else if B k = 193 ∧ midR (B (k + 1)) r = 4 then k + 3
  else if B k = 193 ∧ midR (B (k + 1)) r = 5 then k + 3
  else k + 2
def rI (B : Nat → Int) (k : Nat) : Ins :=
  if B k = 195 then ⟨33, 0, 0, 0, 0, 0, 0, 0, 0⟩
  else if 80 ≤ B k ∧ B k < 88 then ⟨28, 0, B k % 8, 0, 0, 0, 0, 0, 0⟩
  else if 88 ≤ B k ∧ B k < 96 then ⟨29, B k % 8, 0, 0, 0, 0, 0, 0, 0⟩
  else if B k = 65 then (if B (k + 1) < 88 then ⟨28, 0, B (k + 1) % 8 + 8, 0, 0, 0, 0, 0, 0⟩ else ⟨29, B (k + 1) % 8 + 8, 0, 0, 0, 0, 0, 0, 0⟩)
  else if B k = 233 then juI 30 (numB B (k + 1) 4)
  else if B k = 15 then (if B (k + 1) = 133 then juI 31 (numB B (k + 2) 4) else juI 32 (numB B (k + 2) 4))
  else if B k = 196 then ⟨19, B (k + 4) / 8 % 8 + 8 - B (k + 1) / 128 * 8, 15 - B (k + 2) / 8 % 16, B (k + 4) % 8 + 8 - B (k + 1) / 32 % 2 * 8, 0, 0, 0, 0, 0⟩
  else if B k = 102 then ⟨20, midR (B (k + 5)) (B (k + 1)), lstR (B (k + 5)) (B (k + 1)), 0, 0, 0, 0, 0, 0⟩
  else if B k = 243 then ⟨21, midR (B (k + 5)) (B (k + 1)), lstR (B (k + 5)) (B (k + 1)), 0, 0, 0, 0, 0, 0⟩
  else rwI B (k + 1) (B k)
def rE (B : Nat → Int) (k : Nat) : Nat :=
  if B k = 195 then k + 1
  else if 80 ≤ B k ∧ B k < 88 then k + 1
  else if 88 ≤ B k ∧ B k < 96 then k + 1
  else if B k = 65 then k + 2
  else if B k = 233 then k + 5
  else if B k = 15 then k + 6
  else if B k = 196 then k + 5
  else if B k = 102 then k + 6
  else if B k = 243 then k + 6
  else rwE B (k + 1) (B k)

theorem ltl_get (z : Int) : ∀ (n j : Nat), j < n → (ltl z n)[j]? = some (z / 256 ^ j % 256) := by
  intro n
  induction n generalizing z with
  | zero => intro j h; omega
  | succ n ih =>
    intro j h
    cases j with
    | zero => simp [ltl]
    | succ j =>
      simp only [ltl, List.getElem?_cons_succ]
      rw [ih (z / 256) j (by omega), Int.pow_succ, Int.mul_comm, ← Int.ediv_ediv_of_nonneg (by decide)]
theorem mod_step (z : Int) (m : Nat) : z % 256 ^ (m + 1) = z % 256 ^ m + z / 256 ^ m % 256 * 256 ^ m := by
  have hP : (0 : Int) < 256 ^ m := Int.pow_pos (by decide)
  rw [Int.pow_succ]
  generalize (256 : Int) ^ m = P at *
  have h1 := Int.mul_ediv_add_emod z P
  have h2 := Int.mul_ediv_add_emod (z / P) 256
  have h3 := Int.emod_nonneg z (show P ≠ 0 by omega)
  have h4 := Int.emod_lt_of_pos z hP
  have h5 := Int.emod_nonneg (z / P) (show (256 : Int) ≠ 0 by decide)
  have h6 := Int.emod_lt_of_pos (z / P) (show (0 : Int) < 256 by decide)
  generalize z / P % 256 = r at *
  generalize z / P / 256 = q at *
  generalize z % P = s at *
  have h7 : z = (s + r * P) + (P * 256) * q := by
    rw [← h1, ← h2, Int.mul_add, Int.mul_comm P r, ← Int.mul_assoc]; omega
  rw [h7, Int.add_mul_emod_self_left]
  have h8 : r * P ≤ 255 * P := Int.mul_le_mul_of_nonneg_right (by omega) (by omega)
  have h9 : 0 ≤ r * P := Int.mul_nonneg h5 (by omega)
  exact Int.emod_eq_of_lt (by omega) (by omega)
theorem low_of {B : Nat → Int} {k : Nat} {z : Int} {n : Nat} (H : ∀ j c, (ltl z n)[j]? = some c → B (k + j) = c) : lowB B k n = z % 256 ^ n := by
  have key : ∀ m, m ≤ n → lowB B k m = z % 256 ^ m := by
    intro m
    induction m with
    | zero => intro _; simp [lowB, Int.emod_one]
    | succ m ih =>
      intro h
      unfold lowB
      rw [ih (by omega), H m _ (ltl_get z n m (by omega)), mod_step]
  exact key n (Nat.le_refl n)
theorem sgn_of {z : Int} {n : Nat} (h1 : -(256 ^ n : Int) ≤ 2 * z) (h2 : 2 * z < 256 ^ n) : sgnB (z % 256 ^ n) n = z := by
  have hP : (0 : Int) < 256 ^ n := Int.pow_pos (by decide)
  unfold sgnB
  generalize (256 : Int) ^ n = P at *
  rcases (show z < 0 ∨ 0 ≤ z by omega) with h | h
  · have e : z % P = z + P := by
      rw [← Int.add_emod_right]
      exact Int.emod_eq_of_lt (by omega) (by omega)
    rw [e, if_neg (by omega)]
    omega
  · have e : z % P = z := Int.emod_eq_of_lt h (by omega)
    rw [e, if_pos h2]
theorem num_of {B : Nat → Int} {k : Nat} {z : Int} {n : Nat} (H : ∀ j c, (ltl z n)[j]? = some c → B (k + j) = c) (h1 : -(256 ^ n : Int) ≤ 2 * z) (h2 : 2 * z < 256 ^ n) : numB B k n = z := by
  unfold numB
  rw [low_of H, sgn_of h1 h2]
theorem p4 : (256 : Int) ^ 4 = 4294967296 := by decide
theorem p8 : (256 : Int) ^ 8 = 18446744073709551616 := by decide
theorem p1 : (256 : Int) ^ 1 = 256 := by decide
theorem num4_of {B : Nat → Int} {k : Nat} {z : Int} (H : ∀ j c, (ltl z 4)[j]? = some c → B (k + j) = c) (h : -2147483648 ≤ z ∧ z < 2147483648) : numB B k 4 = z := num_of H (by rw [p4]; omega) (by rw [p4]; omega)
theorem num8_of {B : Nat → Int} {k : Nat} {z : Int} (H : ∀ j c, (ltl z 8)[j]? = some c → B (k + j) = c) (h : I64 z) : numB B k 8 = z := num_of H (by rw [p8]; have := h.1; omega) (by rw [p8]; have := h.2; omega)
theorem num1_of {B : Nat → Int} {k : Nat} {z : Int} (h0 : B k = z) (h : 0 ≤ z ∧ z < 128) : numB B k 1 = z := by
  unfold numB sgnB
  have e : lowB B k 1 = z := by unfold lowB lowB; rw [Nat.add_zero, h0]; omega
  rw [e, p1, if_pos (by omega)]
theorem rex_rx {m x l : Int} (hm : 0 ≤ hiR m ∧ hiR m ≤ 1) (hx : 0 ≤ hiR x ∧ hiR x ≤ 1) (hl : 0 ≤ hiR l ∧ hiR l ≤ 1) :
    72 ≤ rexI m x l ∧ rexI m x l ≤ 79 ∧ rxM (rexI m x l) = hiR m * 8 ∧ rxX (rexI m x l) = hiR x * 8 ∧ rxL (rexI m x l) = hiR l * 8 ∧ rexI m x l / 2 % 2 = hiR x := by
  unfold rexI rxM rxX rxL
  omega
theorem hi_low {r : Int} (h : R16 r) : r % 8 + hiR r * 8 = r := by
  unfold R16 at h
  unfold hiR
  rw [if_neg (by omega)]
  omega
/-- a place is read as it was put -/
theorem place_of {B : Nat → Int} {k : Nat} {m r : Int} {i : Ins} (hm : R16 m) (p : Pl i) (rm : rxM r = hiR m * 8) (rx : rxX r = hiR i.x * 8) (rl : rxL r = hiR i.b * 8) (rx2 : r / 2 % 2 = hiR i.x)
    (H : ∀ j c, (plcL m i)[j]? = some c → B (k + j) = c) :
    B k < 192 ∧ midR (B k) r = m ∧ plBase B k + rxL r = i.b ∧ wdX (plIdx B k) r = i.x ∧ plSc B k = i.sc ∧ plDi B k = i.di ∧ plEnd B k = k + (plcL m i).length ∧
      rpX B k r = i.x ∧ rpS B k r = i.sc ∧ rpD B k = i.di ∧ rpE B k = k + (plcL m i).length := by
  have hb := p.1
  have hdi := p.2.1
  obtain ⟨hx1, hx2, hx4, hsc, hx0⟩ := p.hx
  have hmd := md_b i
  have hdn := dn_md i
  have hml := hi_low hm
  have hbl := hi_low hb
  have hmu := R16.hb hm
  have hbu := R16.hb hb
  have hxu := hi_b hx1 hx2
  have h0 := H 0 _ rfl
  rw [Nat.add_zero] at h0
  have hlen : (plcL m i).length = 1 + (sibL i).length + dnI i := by unfold plcL; simp [ltl_len]; omega
  -- the number's bytes, wherever they stand
  have hnum : ∀ s, (sibL i).length = s → ∀ j c, (ltl i.di (dnI i))[j]? = some c → B (k + 1 + s + j) = c := by
    intro s hs j c hj
    rw [show k + 1 + s + j = k + (1 + s + j) by omega]
    refine H (1 + s + j) c ?_
    unfold plcL
    rw [show 1 + s + j = (s + j) + 1 by omega, List.getElem?_cons_succ, List.getElem?_append_right (by omega), hs, Nat.add_sub_cancel_left]
    exact hj
  have hnv : ∀ k', (∀ j c, (ltl i.di (dnI i))[j]? = some c → B (k' + j) = c) → numB B k' (dnI i) = i.di := by
    intro k' hk
    refine num_of hk ?_ ?_
    · unfold dnI
      split
      · omega
      · split
        · rw [p1]; omega
        · rw [p4]; omega
    · unfold dnI
      split
      · omega
      · split
        · rw [p1]; omega
        · rw [p4]; omega
  by_cases hs : i.x = -1 ∧ i.b % 8 ≠ 4
  · -- no byte with a scale
    rw [if_pos hs] at h0
    have hsl : (sibL i).length = 0 := by unfold sibL; rw [if_pos hs]; rfl
    have e8 : B k % 8 = i.b % 8 := by rw [h0]; omega
    have e64 : B k / 64 = mdI i := by rw [h0]; omega
    have n4 : ¬ (B k % 8 = 4) := by omega
    have hx0' := hx0 hs.1
    have hh : hiR i.x = 0 := by rw [hs.1]; rfl
    have es : sibN (B k) = 0 := by unfold sibN; rw [if_neg n4]
    have ed : dspN (B k) = dnI i := by unfold dspN; rw [e64, hdn]; rcases (show mdI i = 0 ∨ mdI i = 1 ∨ mdI i = 2 by omega) with h | h | h <;> rw [h] <;> rfl
    have er : rdN (B k) = dnI i := by unfold rdN; rw [e64, hdn]; rcases (show mdI i = 0 ∨ mdI i = 1 ∨ mdI i = 2 by omega) with h | h | h <;> rw [h] <;> rfl
    have ev := hnv (k + 1 + 0) (hnum 0 hsl)
    refine ⟨by omega, ?_, ?_, ?_, ?_, ?_, ?_, ?_, ?_, ?_, ?_⟩
    · unfold midR; rw [rm]; omega
    · unfold plBase; rw [if_neg n4, rl]; omega
    · unfold wdX plIdx; rw [if_neg n4, rx, hh]; simp [hs.1]
    · unfold plSc; rw [if_neg n4]; omega
    · unfold plDi; rw [es, ed]; exact ev
    · unfold plEnd; rw [es, ed, hlen, hsl]; omega
    · unfold rpX; rw [if_neg n4, hs.1]
    · unfold rpS; rw [if_neg n4]; omega
    · unfold rpD; rw [es, er]; exact ev
    · unfold rpE; rw [es, er, hlen, hsl]; omega
  · rw [if_neg hs] at h0
    have hsv : sibL i = [64 * scI i.sc + 8 * xiI i.x + i.b % 8] := by unfold sibL; rw [if_neg hs]
    have hsl : (sibL i).length = 1 := by rw [hsv]; rfl
    have h1 : B (k + 1) = 64 * scI i.sc + 8 * xiI i.x + i.b % 8 := H 1 _ (by unfold plcL; rw [hsv]; rfl)
    have hsb := sc_b i.sc
    have hxb := xi_b hx1
    have e8 : B k % 8 = 4 := by rw [h0]; omega
    have e64 : B k / 64 = mdI i := by rw [h0]; omega
    have f8 : B (k + 1) % 8 = i.b % 8 := by rw [h1]; omega
    have f88 : B (k + 1) / 8 % 8 = xiI i.x := by rw [h1]; omega
    have f64 : B (k + 1) / 64 = scI i.sc := by rw [h1]; omega
    have es : sibN (B k) = 1 := by unfold sibN; rw [if_pos e8]
    have ed : dspN (B k) = dnI i := by unfold dspN; rw [e64, hdn]; rcases (show mdI i = 0 ∨ mdI i = 1 ∨ mdI i = 2 by omega) with h | h | h <;> rw [h] <;> rfl
    have er : rdN (B k) = dnI i := by unfold rdN; rw [e64, hdn]; rcases (show mdI i = 0 ∨ mdI i = 1 ∨ mdI i = 2 by omega) with h | h | h <;> rw [h] <;> rfl
    have ev := hnv (k + 1 + 1) (hnum 1 hsl)
    have esc : (2 : Int) ^ (scI i.sc).toNat = i.sc := by rcases hsc with h | h | h | h <;> rw [h] <;> rfl
    -- the index
    have exi : (i.x = -1 ∧ xiI i.x = 4 ∧ hiR i.x = 0 ∧ i.sc = 1) ∨ (i.x ≠ -1 ∧ xiI i.x + hiR i.x * 8 = i.x ∧ (xiI i.x ≠ 4 ∨ hiR i.x = 1)) := by
      by_cases hxx : i.x = -1
      · exact .inl ⟨hxx, by rw [hxx]; rfl, by rw [hxx]; rfl, hx0 hxx⟩
      · refine .inr ⟨hxx, ?_, ?_⟩
        · have h3 := hi_low (r := i.x) ⟨by omega, hx2⟩
          unfold xiI; rw [if_neg hxx]; exact h3
        · have h3 := hi_low (r := i.x) ⟨by omega, hx2⟩
          unfold xiI; rw [if_neg hxx]; omega
    refine ⟨by omega, ?_, ?_, ?_, ?_, ?_, ?_, ?_, ?_, ?_, ?_⟩
    · unfold midR; rw [rm]; omega
    · unfold plBase; rw [if_pos e8, rl, f8]; omega
    · unfold wdX plIdx; rw [if_pos e8, rx, f88]
      rcases exi with ⟨h2, h3, h4, _⟩ | ⟨h2, h3, h4⟩
      · rw [h3, h4, h2]; rfl
      · rw [h3, if_neg hx4]
    · unfold plSc; rw [if_pos e8, f64, esc]
    · unfold plDi; rw [es, ed]; exact ev
    · unfold plEnd; rw [es, ed, hlen, hsl]; omega
    · unfold rpX; rw [if_pos e8, f88, rx2]
      rcases exi with ⟨h2, h3, h4, _⟩ | ⟨h2, h3, h4⟩
      · rw [if_neg (by omega)]; omega
      · rw [if_pos h4, rx]; exact h3
    · unfold rpS; rw [if_pos e8, f88, rx2, f64]
      rcases exi with ⟨h2, h3, h4, h5⟩ | ⟨h2, h3, h4⟩
      · rw [if_neg (by omega)]; omega
      · rw [if_pos h4]; exact esc
    · unfold rpD; rw [es, er]; exact ev
    · unfold rpE; rw [es, er, hlen, hsl]; omega
end Is
end Go.Proofs.YtblmagcekfbgdaaGreatDoor
namespace Go.Proofs.YtblmagcekfbgdaaGreatDoor
open Go Go.RowKit
namespace Is
set_option linter.unusedVariables false
set_option linter.unusedSimpArgs false
/-- bytes stand at a place -/
def At (B : Nat → Int) (k : Nat) (l : List Int) : Prop := ∀ j c, l[j]? = some c → B (k + j) = c
theorem At.tail {B : Nat → Int} {k : Nat} {x : Int} {l : List Int} (h : At B k (x :: l)) : At B (k + 1) l := fun j c hj => by
  rw [show k + 1 + j = k + (j + 1) by omega]; exact h (j + 1) c hj
theorem At.head {B : Nat → Int} {k : Nat} {x : Int} {l : List Int} (h : At B k (x :: l)) : B k = x := h 0 x rfl
/-- read as it was, to its end -/
def Rd (B : Nat → Int) (k : Nat) (i : Ins) : Prop := gI B k = i ∧ gE B k = k + (encL i).length ∧ rI B k = i ∧ rE B k = k + (encL i).length
theorem ins_eq {a b : Ins} (h1 : a.op = b.op) (h2 : a.d = b.d) (h3 : a.s = b.s) (h4 : a.t = b.t) (h5 : a.b = b.b) (h6 : a.x = b.x) (h7 : a.sc = b.sc) (h8 : a.di = b.di) (h9 : a.im = b.im) : a = b := by
  cases a; cases b; simp only at *; subst h1; subst h2; subst h3; subst h4; subst h5; subst h6; subst h7; subst h8; subst h9; rfl
theorem num0 (B : Nat → Int) (k : Nat) : numB B k 0 = 0 := by simp [numB, lowB, sgnB]
theorem rm_b {m l : Int} : 192 ≤ rmI m l ∧ rmI m l ≤ 255 ∧ rmI m l / 8 % 8 = m % 8 ∧ rmI m l % 8 = l % 8 := by unfold rmI; omega
theorem rd_1 (i : Ins) (hk : OkP i .ds) (ho : i.op = 1) (hw : i.wf) (B : Nat → Int) (k : Nat) (H : At B k (encL i)) : Rd B k i := by
  have hwm := hw.im
  clear hw
  obtain ⟨op, d, s, t, b, x, sc, di, im⟩ := i
  dsimp only at ho hwm
  subst ho
  obtain ⟨hd, hs, t0, ⟨b0, x0, c0, i0⟩, m0⟩ := hk
  dsimp only at *
  obtain ⟨q1, q2, qM, qX, qL, qx⟩ := rex_rx (m := s) (x := 0) (l := d) (R16.hb hs) (h0b) (R16.hb hd)
  have lo_hd := hi_low hd
  have lo_hs := hi_low hs
  obtain ⟨r1, r2, r3, r4⟩ := rm_b (m := s) (l := d)
  have e : encL ⟨1, d, s, t, b, x, sc, di, im⟩ = (rexI s 0 d) :: 137 :: (rmI s d) :: [] := rfl
  rw [e] at H
  have h0 := H.head
  have h1 := H.tail.head
  have h2 := H.tail.tail.head
  unfold Rd
  rw [e]
  try simp only [List.length_cons, List.length_nil]
  clear H e
  have hz0 : hiR 0 = 0 := rfl
  simp only [hz0] at qM qX qL qx
  generalize rexI s 0 d = q at *
  generalize rmI s d = rm at *
  try simp only [Nat.add_assoc, Nat.reduceAdd] at h2
  refine ⟨?_, ?_, ?_, ?_⟩
  · simp only [gI, wI, chI, digI, twoI, twoM, shI, juI, jifI, prI, opEnd, midR, lstR, ofDig, ofReg, Nat.add_assoc, Nat.reduceAdd, h0, h1, h2, qM, qX, qL]
    repeat (first | rw [if_pos (by first | trivial | exact ⟨trivial, by omega⟩ | omega)] | rw [if_neg (by first | (intro h; exact h) | omega)])
    refine ins_eq ?_ ?_ ?_ ?_ ?_ ?_ ?_ ?_ ?_ <;> (first | rfl | (dsimp only; omega))
  · simp only [gE, wE, jifE, opEnd, Nat.add_assoc, Nat.reduceAdd, h0, h1, h2]
    repeat (first | rw [if_pos (by first | trivial | exact ⟨trivial, by omega⟩ | omega)] | rw [if_neg (by first | (intro h; exact h) | omega)])
  · simp only [rI, rwI, juI, riO, rrO, midR, lstR, Nat.add_assoc, Nat.reduceAdd, h0, h1, h2, qM, qX, qL]
    repeat (first | rw [if_pos (by first | trivial | exact ⟨trivial, by omega⟩ | omega)] | rw [if_neg (by first | (intro h; exact h) | omega)])
    refine ins_eq ?_ ?_ ?_ ?_ ?_ ?_ ?_ ?_ ?_ <;> (first | rfl | (dsimp only; omega))
  · simp only [rE, rwE, midR, Nat.add_assoc, Nat.reduceAdd, h0, h1, h2, qM]
    repeat (first | rw [if_pos (by first | trivial | exact ⟨trivial, by omega⟩ | omega)] | rw [if_neg (by first | (intro h; exact h) | omega)])
theorem rd_2 (i : Ins) (hk : OkP i .di) (ho : i.op = 2) (hw : i.wf) (B : Nat → Int) (k : Nat) (H : At B k (encL i)) : Rd B k i := by
  have hwm := hw.im
  clear hw
  obtain ⟨op, d, s, t, b, x, sc, di, im⟩ := i
  dsimp only at ho hwm
  subst ho
  obtain ⟨hd, s0, t0, ⟨b0, x0, c0, i0⟩⟩ := hk
  dsimp only at *
  obtain ⟨q1, q2, qM, qX, qL, qx⟩ := rex_rx (m := 0) (x := 0) (l := d) (h0b) (h0b) (R16.hb hd)
  have lo_hd := hi_low hd
  have e : encL ⟨2, d, s, t, b, x, sc, di, im⟩ = (rexI 0 0 d) :: (184 + d % 8) :: ltl im 8 := rfl
  rw [e] at H
  have h0 := H.head
  have h1 := H.tail.head
  have HN : At B (k + 1 + 1) (ltl im 8) := H.tail.tail
  have hn : numB B (k + 1 + 1) 8 = im := num8_of HN (by first | exact hm | exact hwm)
  unfold Rd
  rw [e]
  try simp only [List.length_cons, List.length_nil, ltl_len]
  clear H e
  clear HN
  have hz0 : hiR 0 = 0 := rfl
  simp only [hz0] at qM qX qL qx
  generalize rexI 0 0 d = q at *
  try simp only [Nat.add_assoc, Nat.reduceAdd] at hn
  refine ⟨?_, ?_, ?_, ?_⟩
  · simp only [gI, wI, chI, digI, twoI, twoM, shI, juI, jifI, prI, opEnd, midR, lstR, ofDig, ofReg, Nat.add_assoc, Nat.reduceAdd, h0, h1, hn, qM, qX, qL]
    repeat (first | rw [if_pos (by first | trivial | exact ⟨trivial, by omega⟩ | omega)] | rw [if_neg (by first | (intro h; exact h) | omega)])
    try rw [hn]
    refine ins_eq ?_ ?_ ?_ ?_ ?_ ?_ ?_ ?_ ?_ <;> (first | rfl | (dsimp only; omega))
  · simp only [gE, wE, jifE, opEnd, Nat.add_assoc, Nat.reduceAdd, h0, h1, hn]
    repeat (first | rw [if_pos (by first | trivial | exact ⟨trivial, by omega⟩ | omega)] | rw [if_neg (by first | (intro h; exact h) | omega)])
  · simp only [rI, rwI, juI, riO, rrO, midR, lstR, Nat.add_assoc, Nat.reduceAdd, h0, h1, hn, qM, qX, qL]
    repeat (first | rw [if_pos (by first | trivial | exact ⟨trivial, by omega⟩ | omega)] | rw [if_neg (by first | (intro h; exact h) | omega)])
    refine ins_eq ?_ ?_ ?_ ?_ ?_ ?_ ?_ ?_ ?_ <;> (first | rfl | (dsimp only; omega))
  · simp only [rE, rwE, midR, Nat.add_assoc, Nat.reduceAdd, h0, h1, hn, qM]
    repeat (first | rw [if_pos (by first | trivial | exact ⟨trivial, by omega⟩ | omega)] | rw [if_neg (by first | (intro h; exact h) | omega)])
theorem rd_3 (i : Ins) (hk : OkP i .dm) (ho : i.op = 3) (hw : i.wf) (B : Nat → Int) (k : Nat) (H : At B k (encL i)) : Rd B k i := by
  have hwm := hw.im
  clear hw
  obtain ⟨op, d, s, t, b, x, sc, di, im⟩ := i
  dsimp only at ho hwm
  subst ho
  obtain ⟨hd, s0, t0, hp, m0⟩ := hk
  dsimp only at *
  have hb := hp.1
  have hx := hp.hx
  dsimp only at hb hx
  obtain ⟨q1, q2, qM, qX, qL, qx⟩ := rex_rx (m := d) (x := x) (l := b) (R16.hb hd) (hi_b hx.1 hx.2.1) (R16.hb hb)
  have e : encL ⟨3, d, s, t, b, x, sc, di, im⟩ = rexI d x b :: 139 :: plcL d ⟨3, d, s, t, b, x, sc, di, im⟩ := rfl
  rw [e] at H
  have h0 := H.head
  have h1 := H.tail.head
  have H2 := H.tail.tail
  obtain ⟨z0, z1, z2, z3, z4, z5, z6, z7, z8, z9, z10⟩ := place_of (r := rexI d x b) hd hp qM qX qL qx H2
  unfold Rd
  rw [e]
  simp only [List.length_cons]
  clear H e
  dsimp only at *
  generalize rexI d x b = q at *
  generalize hln : (plcL d ⟨3, d, s, t, b, x, sc, di, im⟩).length = ln at *
  have n1 : ¬ (192 ≤ B (k + 1 + 1)) := by omega
  refine ⟨?_, ?_, ?_, ?_⟩
  · unfold gI wI twoI ofPl plI
    rw [h0, h1]
    simp only [z1, z2, z3, z4, z5]
    repeat (first | rw [if_pos (by first | trivial | exact ⟨trivial, by omega⟩ | omega)] | rw [if_neg (by first | (intro h; exact h) | omega)])
    refine ins_eq ?_ ?_ ?_ ?_ ?_ ?_ ?_ ?_ ?_ <;> (first | rfl | (dsimp only; omega))
  · unfold gE wE opEnd
    rw [h0, h1]
    repeat (first | rw [if_pos (by first | trivial | exact ⟨trivial, by omega⟩ | omega)] | rw [if_neg (by first | (intro h; exact h) | omega)])
    omega
  · unfold rI rwI rpI
    rw [h0, h1]
    simp only [z1, z2, z7, z8, z9]
    repeat (first | rw [if_pos (by first | trivial | exact ⟨trivial, by omega⟩ | omega)] | rw [if_neg (by first | (intro h; exact h) | omega)])
    refine ins_eq ?_ ?_ ?_ ?_ ?_ ?_ ?_ ?_ ?_ <;> (first | rfl | (dsimp only; omega))
  · unfold rE rwE
    rw [h0, h1]
    repeat (first | rw [if_pos (by first | trivial | exact ⟨trivial, by omega⟩ | omega)] | rw [if_neg (by first | (intro h; exact h) | omega)])
    omega
theorem rd_4 (i : Ins) (hk : OkP i .sm) (ho : i.op = 4) (hw : i.wf) (B : Nat → Int) (k : Nat) (H : At B k (encL i)) : Rd B k i := by
  have hwm := hw.im
  clear hw
  obtain ⟨op, d, s, t, b, x, sc, di, im⟩ := i
  dsimp only at ho hwm
  subst ho
  obtain ⟨d0, hs, t0, hp, m0⟩ := hk
  dsimp only at *
  have hb := hp.1
  have hx := hp.hx
  dsimp only at hb hx
  obtain ⟨q1, q2, qM, qX, qL, qx⟩ := rex_rx (m := s) (x := x) (l := b) (R16.hb hs) (hi_b hx.1 hx.2.1) (R16.hb hb)
  have e : encL ⟨4, d, s, t, b, x, sc, di, im⟩ = rexI s x b :: 137 :: plcL s ⟨4, d, s, t, b, x, sc, di, im⟩ := rfl
  rw [e] at H
  have h0 := H.head
  have h1 := H.tail.head
  have H2 := H.tail.tail
  obtain ⟨z0, z1, z2, z3, z4, z5, z6, z7, z8, z9, z10⟩ := place_of (r := rexI s x b) hs hp qM qX qL qx H2
  unfold Rd
  rw [e]
  simp only [List.length_cons]
  clear H e
  dsimp only at *
  generalize rexI s x b = q at *
  generalize hln : (plcL s ⟨4, d, s, t, b, x, sc, di, im⟩).length = ln at *
  have n1 : ¬ (192 ≤ B (k + 1 + 1)) := by omega
  refine ⟨?_, ?_, ?_, ?_⟩
  · unfold gI wI twoI ofPl plI
    rw [h0, h1]
    simp only [z1, z2, z3, z4, z5]
    repeat (first | rw [if_pos (by first | trivial | exact ⟨trivial, by omega⟩ | omega)] | rw [if_neg (by first | (intro h; exact h) | omega)])
    refine ins_eq ?_ ?_ ?_ ?_ ?_ ?_ ?_ ?_ ?_ <;> (first | rfl | (dsimp only; omega))
  · unfold gE wE opEnd
    rw [h0, h1]
    repeat (first | rw [if_pos (by first | trivial | exact ⟨trivial, by omega⟩ | omega)] | rw [if_neg (by first | (intro h; exact h) | omega)])
    omega
  · unfold rI rwI rpI
    rw [h0, h1]
    simp only [z1, z2, z7, z8, z9]
    repeat (first | rw [if_pos (by first | trivial | exact ⟨trivial, by omega⟩ | omega)] | rw [if_neg (by first | (intro h; exact h) | omega)])
    refine ins_eq ?_ ?_ ?_ ?_ ?_ ?_ ?_ ?_ ?_ <;> (first | rfl | (dsimp only; omega))
  · unfold rE rwE
    rw [h0, h1]
    repeat (first | rw [if_pos (by first | trivial | exact ⟨trivial, by omega⟩ | omega)] | rw [if_neg (by first | (intro h; exact h) | omega)])
    omega
theorem rd_5 (i : Ins) (hk : OkP i .dm) (ho : i.op = 5) (hw : i.wf) (B : Nat → Int) (k : Nat) (H : At B k (encL i)) : Rd B k i := by
  have hwm := hw.im
  clear hw
  obtain ⟨op, d, s, t, b, x, sc, di, im⟩ := i
  dsimp only at ho hwm
  subst ho
  obtain ⟨hd, s0, t0, hp, m0⟩ := hk
  dsimp only at *
  have hb := hp.1
  have hx := hp.hx
  dsimp only at hb hx
  obtain ⟨q1, q2, qM, qX, qL, qx⟩ := rex_rx (m := d) (x := x) (l := b) (R16.hb hd) (hi_b hx.1 hx.2.1) (R16.hb hb)
  have e : encL ⟨5, d, s, t, b, x, sc, di, im⟩ = rexI d x b :: 141 :: plcL d ⟨5, d, s, t, b, x, sc, di, im⟩ := rfl
  rw [e] at H
  have h0 := H.head
  have h1 := H.tail.head
  have H2 := H.tail.tail
  obtain ⟨z0, z1, z2, z3, z4, z5, z6, z7, z8, z9, z10⟩ := place_of (r := rexI d x b) hd hp qM qX qL qx H2
  unfold Rd
  rw [e]
  simp only [List.length_cons]
  clear H e
  dsimp only at *
  generalize rexI d x b = q at *
  generalize hln : (plcL d ⟨5, d, s, t, b, x, sc, di, im⟩).length = ln at *
  have n1 : ¬ (192 ≤ B (k + 1 + 1)) := by omega
  refine ⟨?_, ?_, ?_, ?_⟩
  · unfold gI wI twoI ofPl plI
    rw [h0, h1]
    simp only [z1, z2, z3, z4, z5]
    repeat (first | rw [if_pos (by first | trivial | exact ⟨trivial, by omega⟩ | omega)] | rw [if_neg (by first | (intro h; exact h) | omega)])
    refine ins_eq ?_ ?_ ?_ ?_ ?_ ?_ ?_ ?_ ?_ <;> (first | rfl | (dsimp only; omega))
  · unfold gE wE opEnd
    rw [h0, h1]
    repeat (first | rw [if_pos (by first | trivial | exact ⟨trivial, by omega⟩ | omega)] | rw [if_neg (by first | (intro h; exact h) | omega)])
    omega
  · unfold rI rwI rpI
    rw [h0, h1]
    simp only [z1, z2, z7, z8, z9]
    repeat (first | rw [if_pos (by first | trivial | exact ⟨trivial, by omega⟩ | omega)] | rw [if_neg (by first | (intro h; exact h) | omega)])
    refine ins_eq ?_ ?_ ?_ ?_ ?_ ?_ ?_ ?_ ?_ <;> (first | rfl | (dsimp only; omega))
  · unfold rE rwE
    rw [h0, h1]
    repeat (first | rw [if_pos (by first | trivial | exact ⟨trivial, by omega⟩ | omega)] | rw [if_neg (by first | (intro h; exact h) | omega)])
    omega
theorem rd_6 (i : Ins) (hk : OkP i .ds) (ho : i.op = 6) (hw : i.wf) (B : Nat → Int) (k : Nat) (H : At B k (encL i)) : Rd B k i := by
  have hwm := hw.im
  clear hw
  obtain ⟨op, d, s, t, b, x, sc, di, im⟩ := i
  dsimp only at ho hwm
  subst ho
  obtain ⟨hd, hs, t0, ⟨b0, x0, c0, i0⟩, m0⟩ := hk
  dsimp only at *
  obtain ⟨q1, q2, qM, qX, qL, qx⟩ := rex_rx (m := s) (x := 0) (l := d) (R16.hb hs) (h0b) (R16.hb hd)
  have lo_hd := hi_low hd
  have lo_hs := hi_low hs
  obtain ⟨r1, r2, r3, r4⟩ := rm_b (m := s) (l := d)
  have e : encL ⟨6, d, s, t, b, x, sc, di, im⟩ = (rexI s 0 d) :: 1 :: (rmI s d) :: [] := rfl
  rw [e] at H
  have h0 := H.head
  have h1 := H.tail.head
  have h2 := H.tail.tail.head
  unfold Rd
  rw [e]
  try simp only [List.length_cons, List.length_nil]
  clear H e
  have hz0 : hiR 0 = 0 := rfl
  simp only [hz0] at qM qX qL qx
  generalize rexI s 0 d = q at *
  generalize rmI s d = rm at *
  try simp only [Nat.add_assoc, Nat.reduceAdd] at h2
  refine ⟨?_, ?_, ?_, ?_⟩
  · simp only [gI, wI, chI, digI, twoI, twoM, shI, juI, jifI, prI, opEnd, midR, lstR, ofDig, ofReg, Nat.add_assoc, Nat.reduceAdd, h0, h1, h2, qM, qX, qL]
    repeat (first | rw [if_pos (by first | trivial | exact ⟨trivial, by omega⟩ | omega)] | rw [if_neg (by first | (intro h; exact h) | omega)])
    refine ins_eq ?_ ?_ ?_ ?_ ?_ ?_ ?_ ?_ ?_ <;> (first | rfl | (dsimp only; omega))
  · simp only [gE, wE, jifE, opEnd, Nat.add_assoc, Nat.reduceAdd, h0, h1, h2]
    repeat (first | rw [if_pos (by first | trivial | exact ⟨trivial, by omega⟩ | omega)] | rw [if_neg (by first | (intro h; exact h) | omega)])
  · simp only [rI, rwI, juI, riO, rrO, midR, lstR, Nat.add_assoc, Nat.reduceAdd, h0, h1, h2, qM, qX, qL]
    repeat (first | rw [if_pos (by first | trivial | exact ⟨trivial, by omega⟩ | omega)] | rw [if_neg (by first | (intro h; exact h) | omega)])
    refine ins_eq ?_ ?_ ?_ ?_ ?_ ?_ ?_ ?_ ?_ <;> (first | rfl | (dsimp only; omega))
  · simp only [rE, rwE, midR, Nat.add_assoc, Nat.reduceAdd, h0, h1, h2, qM]
    repeat (first | rw [if_pos (by first | trivial | exact ⟨trivial, by omega⟩ | omega)] | rw [if_neg (by first | (intro h; exact h) | omega)])
theorem rd_7 (i : Ins) (hk : OkP i .ds) (ho : i.op = 7) (hw : i.wf) (B : Nat → Int) (k : Nat) (H : At B k (encL i)) : Rd B k i := by
  have hwm := hw.im
  clear hw
  obtain ⟨op, d, s, t, b, x, sc, di, im⟩ := i
  dsimp only at ho hwm
  subst ho
  obtain ⟨hd, hs, t0, ⟨b0, x0, c0, i0⟩, m0⟩ := hk
  dsimp only at *
  obtain ⟨q1, q2, qM, qX, qL, qx⟩ := rex_rx (m := s) (x := 0) (l := d) (R16.hb hs) (h0b) (R16.hb hd)
  have lo_hd := hi_low hd
  have lo_hs := hi_low hs
  obtain ⟨r1, r2, r3, r4⟩ := rm_b (m := s) (l := d)
  have e : encL ⟨7, d, s, t, b, x, sc, di, im⟩ = (rexI s 0 d) :: 17 :: (rmI s d) :: [] := rfl
  rw [e] at H
  have h0 := H.head
  have h1 := H.tail.head
  have h2 := H.tail.tail.head
  unfold Rd
  rw [e]
  try simp only [List.length_cons, List.length_nil]
  clear H e
  have hz0 : hiR 0 = 0 := rfl
  simp only [hz0] at qM qX qL qx
  generalize rexI s 0 d = q at *
  generalize rmI s d = rm at *
  try simp only [Nat.add_assoc, Nat.reduceAdd] at h2
  refine ⟨?_, ?_, ?_, ?_⟩
  · simp only [gI, wI, chI, digI, twoI, twoM, shI, juI, jifI, prI, opEnd, midR, lstR, ofDig, ofReg, Nat.add_assoc, Nat.reduceAdd, h0, h1, h2, qM, qX, qL]
    repeat (first | rw [if_pos (by first | trivial | exact ⟨trivial, by omega⟩ | omega)] | rw [if_neg (by first | (intro h; exact h) | omega)])
    refine ins_eq ?_ ?_ ?_ ?_ ?_ ?_ ?_ ?_ ?_ <;> (first | rfl | (dsimp only; omega))
  · simp only [gE, wE, jifE, opEnd, Nat.add_assoc, Nat.reduceAdd, h0, h1, h2]
    repeat (first | rw [if_pos (by first | trivial | exact ⟨trivial, by omega⟩ | omega)] | rw [if_neg (by first | (intro h; exact h) | omega)])
  · simp only [rI, rwI, juI, riO, rrO, midR, lstR, Nat.add_assoc, Nat.reduceAdd, h0, h1, h2, qM, qX, qL]
    repeat (first | rw [if_pos (by first | trivial | exact ⟨trivial, by omega⟩ | omega)] | rw [if_neg (by first | (intro h; exact h) | omega)])
    refine ins_eq ?_ ?_ ?_ ?_ ?_ ?_ ?_ ?_ ?_ <;> (first | rfl | (dsimp only; omega))
  · simp only [rE, rwE, midR, Nat.add_assoc, Nat.reduceAdd, h0, h1, h2, qM]
    repeat (first | rw [if_pos (by first | trivial | exact ⟨trivial, by omega⟩ | omega)] | rw [if_neg (by first | (intro h; exact h) | omega)])
theorem rd_8 (i : Ins) (hk : OkP i .ds) (ho : i.op = 8) (hw : i.wf) (B : Nat → Int) (k : Nat) (H : At B k (encL i)) : Rd B k i := by
  have hwm := hw.im
  clear hw
  obtain ⟨op, d, s, t, b, x, sc, di, im⟩ := i
  dsimp only at ho hwm
  subst ho
  obtain ⟨hd, hs, t0, ⟨b0, x0, c0, i0⟩, m0⟩ := hk
  dsimp only at *
  obtain ⟨q1, q2, qM, qX, qL, qx⟩ := rex_rx (m := s) (x := 0) (l := d) (R16.hb hs) (h0b) (R16.hb hd)
  have lo_hd := hi_low hd
  have lo_hs := hi_low hs
  obtain ⟨r1, r2, r3, r4⟩ := rm_b (m := s) (l := d)
  have e : encL ⟨8, d, s, t, b, x, sc, di, im⟩ = (rexI s 0 d) :: 41 :: (rmI s d) :: [] := rfl
  rw [e] at H
  have h0 := H.head
  have h1 := H.tail.head
  have h2 := H.tail.tail.head
  unfold Rd
  rw [e]
  try simp only [List.length_cons, List.length_nil]
  clear H e
  have hz0 : hiR 0 = 0 := rfl
  simp only [hz0] at qM qX qL qx
  generalize rexI s 0 d = q at *
  generalize rmI s d = rm at *
  try simp only [Nat.add_assoc, Nat.reduceAdd] at h2
  refine ⟨?_, ?_, ?_, ?_⟩
  · simp only [gI, wI, chI, digI, twoI, twoM, shI, juI, jifI, prI, opEnd, midR, lstR, ofDig, ofReg, Nat.add_assoc, Nat.reduceAdd, h0, h1, h2, qM, qX, qL]
    repeat (first | rw [if_pos (by first | trivial | exact ⟨trivial, by omega⟩ | omega)] | rw [if_neg (by first | (intro h; exact h) | omega)])
    refine ins_eq ?_ ?_ ?_ ?_ ?_ ?_ ?_ ?_ ?_ <;> (first | rfl | (dsimp only; omega))
  · simp only [gE, wE, jifE, opEnd, Nat.add_assoc, Nat.reduceAdd, h0, h1, h2]
    repeat (first | rw [if_pos (by first | trivial | exact ⟨trivial, by omega⟩ | omega)] | rw [if_neg (by first | (intro h; exact h) | omega)])
  · simp only [rI, rwI, juI, riO, rrO, midR, lstR, Nat.add_assoc, Nat.reduceAdd, h0, h1, h2, qM, qX, qL]
    repeat (first | rw [if_pos (by first | trivial | exact ⟨trivial, by omega⟩ | omega)] | rw [if_neg (by first | (intro h; exact h) | omega)])
    refine ins_eq ?_ ?_ ?_ ?_ ?_ ?_ ?_ ?_ ?_ <;> (first | rfl | (dsimp only; omega))
  · simp only [rE, rwE, midR, Nat.add_assoc, Nat.reduceAdd, h0, h1, h2, qM]
    repeat (first | rw [if_pos (by first | trivial | exact ⟨trivial, by omega⟩ | omega)] | rw [if_neg (by first | (intro h; exact h) | omega)])
theorem rd_9 (i : Ins) (hk : OkP i .ds) (ho : i.op = 9) (hw : i.wf) (B : Nat → Int) (k : Nat) (H : At B k (encL i)) : Rd B k i := by
  have hwm := hw.im
  clear hw
  obtain ⟨op, d, s, t, b, x, sc, di, im⟩ := i
  dsimp only at ho hwm
  subst ho
  obtain ⟨hd, hs, t0, ⟨b0, x0, c0, i0⟩, m0⟩ := hk
  dsimp only at *
  obtain ⟨q1, q2, qM, qX, qL, qx⟩ := rex_rx (m := s) (x := 0) (l := d) (R16.hb hs) (h0b) (R16.hb hd)
  have lo_hd := hi_low hd
  have lo_hs := hi_low hs
  obtain ⟨r1, r2, r3, r4⟩ := rm_b (m := s) (l := d)
  have e : encL ⟨9, d, s, t, b, x, sc, di, im⟩ = (rexI s 0 d) :: 25 :: (rmI s d) :: [] := rfl
  rw [e] at H
  have h0 := H.head
  have h1 := H.tail.head
  have h2 := H.tail.tail.head
  unfold Rd
  rw [e]
  try simp only [List.length_cons, List.length_nil]
  clear H e
  have hz0 : hiR 0 = 0 := rfl
  simp only [hz0] at qM qX qL qx
  generalize rexI s 0 d = q at *
  generalize rmI s d = rm at *
  try simp only [Nat.add_assoc, Nat.reduceAdd] at h2
  refine ⟨?_, ?_, ?_, ?_⟩
  · simp only [gI, wI, chI, digI, twoI, twoM, shI, juI, jifI, prI, opEnd, midR, lstR, ofDig, ofReg, Nat.add_assoc, Nat.reduceAdd, h0, h1, h2, qM, qX, qL]
    repeat (first | rw [if_pos (by first | trivial | exact ⟨trivial, by omega⟩ | omega)] | rw [if_neg (by first | (intro h; exact h) | omega)])
    refine ins_eq ?_ ?_ ?_ ?_ ?_ ?_ ?_ ?_ ?_ <;> (first | rfl | (dsimp only; omega))
  · simp only [gE, wE, jifE, opEnd, Nat.add_assoc, Nat.reduceAdd, h0, h1, h2]
    repeat (first | rw [if_pos (by first | trivial | exact ⟨trivial, by omega⟩ | omega)] | rw [if_neg (by first | (intro h; exact h) | omega)])
  · simp only [rI, rwI, juI, riO, rrO, midR, lstR, Nat.add_assoc, Nat.reduceAdd, h0, h1, h2, qM, qX, qL]
    repeat (first | rw [if_pos (by first | trivial | exact ⟨trivial, by omega⟩ | omega)] | rw [if_neg (by first | (intro h; exact h) | omega)])
    refine ins_eq ?_ ?_ ?_ ?_ ?_ ?_ ?_ ?_ ?_ <;> (first | rfl | (dsimp only; omega))
  · simp only [rE, rwE, midR, Nat.add_assoc, Nat.reduceAdd, h0, h1, h2, qM]
    repeat (first | rw [if_pos (by first | trivial | exact ⟨trivial, by omega⟩ | omega)] | rw [if_neg (by first | (intro h; exact h) | omega)])
theorem rd_10 (i : Ins) (hk : OkP i .ds) (ho : i.op = 10) (hw : i.wf) (B : Nat → Int) (k : Nat) (H : At B k (encL i)) : Rd B k i := by
  have hwm := hw.im
  clear hw
  obtain ⟨op, d, s, t, b, x, sc, di, im⟩ := i
  dsimp only at ho hwm
  subst ho
  obtain ⟨hd, hs, t0, ⟨b0, x0, c0, i0⟩, m0⟩ := hk
  dsimp only at *
  obtain ⟨q1, q2, qM, qX, qL, qx⟩ := rex_rx (m := s) (x := 0) (l := d) (R16.hb hs) (h0b) (R16.hb hd)
  have lo_hd := hi_low hd
  have lo_hs := hi_low hs
  obtain ⟨r1, r2, r3, r4⟩ := rm_b (m := s) (l := d)
  have e : encL ⟨10, d, s, t, b, x, sc, di, im⟩ = (rexI s 0 d) :: 33 :: (rmI s d) :: [] := rfl
  rw [e] at H
  have h0 := H.head
  have h1 := H.tail.head
  have h2 := H.tail.tail.head
  unfold Rd
  rw [e]
  try simp only [List.length_cons, List.length_nil]
  clear H e
  have hz0 : hiR 0 = 0 := rfl
  simp only [hz0] at qM qX qL qx
  generalize rexI s 0 d = q at *
  generalize rmI s d = rm at *
  try simp only [Nat.add_assoc, Nat.reduceAdd] at h2
  refine ⟨?_, ?_, ?_, ?_⟩
  · simp only [gI, wI, chI, digI, twoI, twoM, shI, juI, jifI, prI, opEnd, midR, lstR, ofDig, ofReg, Nat.add_assoc, Nat.reduceAdd, h0, h1, h2, qM, qX, qL]
    repeat (first | rw [if_pos (by first | trivial | exact ⟨trivial, by omega⟩ | omega)] | rw [if_neg (by first | (intro h; exact h) | omega)])
    refine ins_eq ?_ ?_ ?_ ?_ ?_ ?_ ?_ ?_ ?_ <;> (first | rfl | (dsimp only; omega))
  · simp only [gE, wE, jifE, opEnd, Nat.add_assoc, Nat.reduceAdd, h0, h1, h2]
    repeat (first | rw [if_pos (by first | trivial | exact ⟨trivial, by omega⟩ | omega)] | rw [if_neg (by first | (intro h; exact h) | omega)])
  · simp only [rI, rwI, juI, riO, rrO, midR, lstR, Nat.add_assoc, Nat.reduceAdd, h0, h1, h2, qM, qX, qL]
    repeat (first | rw [if_pos (by first | trivial | exact ⟨trivial, by omega⟩ | omega)] | rw [if_neg (by first | (intro h; exact h) | omega)])
    refine ins_eq ?_ ?_ ?_ ?_ ?_ ?_ ?_ ?_ ?_ <;> (first | rfl | (dsimp only; omega))
  · simp only [rE, rwE, midR, Nat.add_assoc, Nat.reduceAdd, h0, h1, h2, qM]
    repeat (first | rw [if_pos (by first | trivial | exact ⟨trivial, by omega⟩ | omega)] | rw [if_neg (by first | (intro h; exact h) | omega)])
theorem rd_11 (i : Ins) (hk : OkP i .ds) (ho : i.op = 11) (hw : i.wf) (B : Nat → Int) (k : Nat) (H : At B k (encL i)) : Rd B k i := by
  have hwm := hw.im
  clear hw
  obtain ⟨op, d, s, t, b, x, sc, di, im⟩ := i
  dsimp only at ho hwm
  subst ho
  obtain ⟨hd, hs, t0, ⟨b0, x0, c0, i0⟩, m0⟩ := hk
  dsimp only at *
  obtain ⟨q1, q2, qM, qX, qL, qx⟩ := rex_rx (m := s) (x := 0) (l := d) (R16.hb hs) (h0b) (R16.hb hd)
  have lo_hd := hi_low hd
  have lo_hs := hi_low hs
  obtain ⟨r1, r2, r3, r4⟩ := rm_b (m := s) (l := d)
  have e : encL ⟨11, d, s, t, b, x, sc, di, im⟩ = (rexI s 0 d) :: 9 :: (rmI s d) :: [] := rfl
  rw [e] at H
  have h0 := H.head
  have h1 := H.tail.head
  have h2 := H.tail.tail.head
  unfold Rd
  rw [e]
  try simp only [List.length_cons, List.length_nil]
  clear H e
  have hz0 : hiR 0 = 0 := rfl
  simp only [hz0] at qM qX qL qx
  generalize rexI s 0 d = q at *
  generalize rmI s d = rm at *
  try simp only [Nat.add_assoc, Nat.reduceAdd] at h2
  refine ⟨?_, ?_, ?_, ?_⟩
  · simp only [gI, wI, chI, digI, twoI, twoM, shI, juI, jifI, prI, opEnd, midR, lstR, ofDig, ofReg, Nat.add_assoc, Nat.reduceAdd, h0, h1, h2, qM, qX, qL]
    repeat (first | rw [if_pos (by first | trivial | exact ⟨trivial, by omega⟩ | omega)] | rw [if_neg (by first | (intro h; exact h) | omega)])
    refine ins_eq ?_ ?_ ?_ ?_ ?_ ?_ ?_ ?_ ?_ <;> (first | rfl | (dsimp only; omega))
  · simp only [gE, wE, jifE, opEnd, Nat.add_assoc, Nat.reduceAdd, h0, h1, h2]
    repeat (first | rw [if_pos (by first | trivial | exact ⟨trivial, by omega⟩ | omega)] | rw [if_neg (by first | (intro h; exact h) | omega)])
  · simp only [rI, rwI, juI, riO, rrO, midR, lstR, Nat.add_assoc, Nat.reduceAdd, h0, h1, h2, qM, qX, qL]
    repeat (first | rw [if_pos (by first | trivial | exact ⟨trivial, by omega⟩ | omega)] | rw [if_neg (by first | (intro h; exact h) | omega)])
    refine ins_eq ?_ ?_ ?_ ?_ ?_ ?_ ?_ ?_ ?_ <;> (first | rfl | (dsimp only; omega))
  · simp only [rE, rwE, midR, Nat.add_assoc, Nat.reduceAdd, h0, h1, h2, qM]
    repeat (first | rw [if_pos (by first | trivial | exact ⟨trivial, by omega⟩ | omega)] | rw [if_neg (by first | (intro h; exact h) | omega)])
theorem rd_12 (i : Ins) (hk : OkP i .ds) (ho : i.op = 12) (hw : i.wf) (B : Nat → Int) (k : Nat) (H : At B k (encL i)) : Rd B k i := by
  have hwm := hw.im
  clear hw
  obtain ⟨op, d, s, t, b, x, sc, di, im⟩ := i
  dsimp only at ho hwm
  subst ho
  obtain ⟨hd, hs, t0, ⟨b0, x0, c0, i0⟩, m0⟩ := hk
  dsimp only at *
  obtain ⟨q1, q2, qM, qX, qL, qx⟩ := rex_rx (m := s) (x := 0) (l := d) (R16.hb hs) (h0b) (R16.hb hd)
  have lo_hd := hi_low hd
  have lo_hs := hi_low hs
  obtain ⟨r1, r2, r3, r4⟩ := rm_b (m := s) (l := d)
  have e : encL ⟨12, d, s, t, b, x, sc, di, im⟩ = (rexI s 0 d) :: 49 :: (rmI s d) :: [] := rfl
  rw [e] at H
  have h0 := H.head
  have h1 := H.tail.head
  have h2 := H.tail.tail.head
  unfold Rd
  rw [e]
  try simp only [List.length_cons, List.length_nil]
  clear H e
  have hz0 : hiR 0 = 0 := rfl
  simp only [hz0] at qM qX qL qx
  generalize rexI s 0 d = q at *
  generalize rmI s d = rm at *
  try simp only [Nat.add_assoc, Nat.reduceAdd] at h2
  refine ⟨?_, ?_, ?_, ?_⟩
  · simp only [gI, wI, chI, digI, twoI, twoM, shI, juI, jifI, prI, opEnd, midR, lstR, ofDig, ofReg, Nat.add_assoc, Nat.reduceAdd, h0, h1, h2, qM, qX, qL]
    repeat (first | rw [if_pos (by first | trivial | exact ⟨trivial, by omega⟩ | omega)] | rw [if_neg (by first | (intro h; exact h) | omega)])
    refine ins_eq ?_ ?_ ?_ ?_ ?_ ?_ ?_ ?_ ?_ <;> (first | rfl | (dsimp only; omega))
  · simp only [gE, wE, jifE, opEnd, Nat.add_assoc, Nat.reduceAdd, h0, h1, h2]
    repeat (first | rw [if_pos (by first | trivial | exact ⟨trivial, by omega⟩ | omega)] | rw [if_neg (by first | (intro h; exact h) | omega)])
  · simp only [rI, rwI, juI, riO, rrO, midR, lstR, Nat.add_assoc, Nat.reduceAdd, h0, h1, h2, qM, qX, qL]
    repeat (first | rw [if_pos (by first | trivial | exact ⟨trivial, by omega⟩ | omega)] | rw [if_neg (by first | (intro h; exact h) | omega)])
    refine ins_eq ?_ ?_ ?_ ?_ ?_ ?_ ?_ ?_ ?_ <;> (first | rfl | (dsimp only; omega))
  · simp only [rE, rwE, midR, Nat.add_assoc, Nat.reduceAdd, h0, h1, h2, qM]
    repeat (first | rw [if_pos (by first | trivial | exact ⟨trivial, by omega⟩ | omega)] | rw [if_neg (by first | (intro h; exact h) | omega)])
theorem rd_13 (i : Ins) (hk : OkP i .ds) (ho : i.op = 13) (hw : i.wf) (B : Nat → Int) (k : Nat) (H : At B k (encL i)) : Rd B k i := by
  have hwm := hw.im
  clear hw
  obtain ⟨op, d, s, t, b, x, sc, di, im⟩ := i
  dsimp only at ho hwm
  subst ho
  obtain ⟨hd, hs, t0, ⟨b0, x0, c0, i0⟩, m0⟩ := hk
  dsimp only at *
  obtain ⟨q1, q2, qM, qX, qL, qx⟩ := rex_rx (m := s) (x := 0) (l := d) (R16.hb hs) (h0b) (R16.hb hd)
  have lo_hd := hi_low hd
  have lo_hs := hi_low hs
  obtain ⟨r1, r2, r3, r4⟩ := rm_b (m := s) (l := d)
  have e : encL ⟨13, d, s, t, b, x, sc, di, im⟩ = (rexI s 0 d) :: 57 :: (rmI s d) :: [] := rfl
  rw [e] at H
  have h0 := H.head
  have h1 := H.tail.head
  have h2 := H.tail.tail.head
  unfold Rd
  rw [e]
  try simp only [List.length_cons, List.length_nil]
  clear H e
  have hz0 : hiR 0 = 0 := rfl
  simp only [hz0] at qM qX qL qx
  generalize rexI s 0 d = q at *
  generalize rmI s d = rm at *
  try simp only [Nat.add_assoc, Nat.reduceAdd] at h2
  refine ⟨?_, ?_, ?_, ?_⟩
  · simp only [gI, wI, chI, digI, twoI, twoM, shI, juI, jifI, prI, opEnd, midR, lstR, ofDig, ofReg, Nat.add_assoc, Nat.reduceAdd, h0, h1, h2, qM, qX, qL]
    repeat (first | rw [if_pos (by first | trivial | exact ⟨trivial, by omega⟩ | omega)] | rw [if_neg (by first | (intro h; exact h) | omega)])
    refine ins_eq ?_ ?_ ?_ ?_ ?_ ?_ ?_ ?_ ?_ <;> (first | rfl | (dsimp only; omega))
  · simp only [gE, wE, jifE, opEnd, Nat.add_assoc, Nat.reduceAdd, h0, h1, h2]
    repeat (first | rw [if_pos (by first | trivial | exact ⟨trivial, by omega⟩ | omega)] | rw [if_neg (by first | (intro h; exact h) | omega)])
  · simp only [rI, rwI, juI, riO, rrO, midR, lstR, Nat.add_assoc, Nat.reduceAdd, h0, h1, h2, qM, qX, qL]
    repeat (first | rw [if_pos (by first | trivial | exact ⟨trivial, by omega⟩ | omega)] | rw [if_neg (by first | (intro h; exact h) | omega)])
    refine ins_eq ?_ ?_ ?_ ?_ ?_ ?_ ?_ ?_ ?_ <;> (first | rfl | (dsimp only; omega))
  · simp only [rE, rwE, midR, Nat.add_assoc, Nat.reduceAdd, h0, h1, h2, qM]
    repeat (first | rw [if_pos (by first | trivial | exact ⟨trivial, by omega⟩ | omega)] | rw [if_neg (by first | (intro h; exact h) | omega)])
theorem rd_14 (i : Ins) (hk : OkP i .ds) (ho : i.op = 14) (hw : i.wf) (B : Nat → Int) (k : Nat) (H : At B k (encL i)) : Rd B k i := by
  have hwm := hw.im
  clear hw
  obtain ⟨op, d, s, t, b, x, sc, di, im⟩ := i
  dsimp only at ho hwm
  subst ho
  obtain ⟨hd, hs, t0, ⟨b0, x0, c0, i0⟩, m0⟩ := hk
  dsimp only at *
  obtain ⟨q1, q2, qM, qX, qL, qx⟩ := rex_rx (m := s) (x := 0) (l := d) (R16.hb hs) (h0b) (R16.hb hd)
  have lo_hd := hi_low hd
  have lo_hs := hi_low hs
  obtain ⟨r1, r2, r3, r4⟩ := rm_b (m := s) (l := d)
  have e : encL ⟨14, d, s, t, b, x, sc, di, im⟩ = (rexI s 0 d) :: 133 :: (rmI s d) :: [] := rfl
  rw [e] at H
  have h0 := H.head
  have h1 := H.tail.head
  have h2 := H.tail.tail.head
  unfold Rd
  rw [e]
  try simp only [List.length_cons, List.length_nil]
  clear H e
  have hz0 : hiR 0 = 0 := rfl
  simp only [hz0] at qM qX qL qx
  generalize rexI s 0 d = q at *
  generalize rmI s d = rm at *
  try simp only [Nat.add_assoc, Nat.reduceAdd] at h2
  refine ⟨?_, ?_, ?_, ?_⟩
  · simp only [gI, wI, chI, digI, twoI, twoM, shI, juI, jifI, prI, opEnd, midR, lstR, ofDig, ofReg, Nat.add_assoc, Nat.reduceAdd, h0, h1, h2, qM, qX, qL]
    repeat (first | rw [if_pos (by first | trivial | exact ⟨trivial, by omega⟩ | omega)] | rw [if_neg (by first | (intro h; exact h) | omega)])
    refine ins_eq ?_ ?_ ?_ ?_ ?_ ?_ ?_ ?_ ?_ <;> (first | rfl | (dsimp only; omega))
  · simp only [gE, wE, jifE, opEnd, Nat.add_assoc, Nat.reduceAdd, h0, h1, h2]
    repeat (first | rw [if_pos (by first | trivial | exact ⟨trivial, by omega⟩ | omega)] | rw [if_neg (by first | (intro h; exact h) | omega)])
  · simp only [rI, rwI, juI, riO, rrO, midR, lstR, Nat.add_assoc, Nat.reduceAdd, h0, h1, h2, qM, qX, qL]
    repeat (first | rw [if_pos (by first | trivial | exact ⟨trivial, by omega⟩ | omega)] | rw [if_neg (by first | (intro h; exact h) | omega)])
    refine ins_eq ?_ ?_ ?_ ?_ ?_ ?_ ?_ ?_ ?_ <;> (first | rfl | (dsimp only; omega))
  · simp only [rE, rwE, midR, Nat.add_assoc, Nat.reduceAdd, h0, h1, h2, qM]
    repeat (first | rw [if_pos (by first | trivial | exact ⟨trivial, by omega⟩ | omega)] | rw [if_neg (by first | (intro h; exact h) | omega)])
theorem rd_15 (i : Ins) (hk : OkP i .dj) (ho : i.op = 15) (hw : i.wf) (B : Nat → Int) (k : Nat) (H : At B k (encL i)) : Rd B k i := by
  have hwm := hw.im
  clear hw
  obtain ⟨op, d, s, t, b, x, sc, di, im⟩ := i
  dsimp only at ho hwm
  subst ho
  obtain ⟨hd, s0, t0, ⟨b0, x0, c0, i0⟩, hm⟩ := hk
  dsimp only at *
  obtain ⟨q1, q2, qM, qX, qL, qx⟩ := rex_rx (m := 0) (x := 0) (l := d) (h0b) (h0b) (R16.hb hd)
  have lo_hd := hi_low hd
  obtain ⟨r1, r2, r3, r4⟩ := rm_b (m := 0) (l := d)
  have e : encL ⟨15, d, s, t, b, x, sc, di, im⟩ = (rexI 0 0 d) :: 129 :: (rmI 0 d) :: ltl im 4 := rfl
  rw [e] at H
  have h0 := H.head
  have h1 := H.tail.head
  have h2 := H.tail.tail.head
  have HN : At B (k + 1 + 1 + 1) (ltl im 4) := H.tail.tail.tail
  have hn : numB B (k + 1 + 1 + 1) 4 = im := num4_of HN (by first | exact hm | exact hwm)
  unfold Rd
  rw [e]
  try simp only [List.length_cons, List.length_nil, ltl_len]
  clear H e
  clear HN
  have hz0 : hiR 0 = 0 := rfl
  simp only [hz0] at qM qX qL qx
  generalize rexI 0 0 d = q at *
  generalize rmI 0 d = rm at *
  try simp only [Nat.add_assoc, Nat.reduceAdd] at h2 hn
  refine ⟨?_, ?_, ?_, ?_⟩
  · simp only [gI, wI, chI, digI, twoI, twoM, shI, juI, jifI, prI, opEnd, midR, lstR, ofDig, ofReg, Nat.add_assoc, Nat.reduceAdd, h0, h1, h2, hn, qM, qX, qL]
    repeat (first | rw [if_pos (by first | trivial | exact ⟨trivial, by omega⟩ | omega)] | rw [if_neg (by first | (intro h; exact h) | omega)])
    try rw [hn]
    refine ins_eq ?_ ?_ ?_ ?_ ?_ ?_ ?_ ?_ ?_ <;> (first | rfl | (dsimp only; omega))
  · simp only [gE, wE, jifE, opEnd, Nat.add_assoc, Nat.reduceAdd, h0, h1, h2, hn]
    repeat (first | rw [if_pos (by first | trivial | exact ⟨trivial, by omega⟩ | omega)] | rw [if_neg (by first | (intro h; exact h) | omega)])
  · simp only [rI, rwI, juI, riO, rrO, midR, lstR, Nat.add_assoc, Nat.reduceAdd, h0, h1, h2, hn, qM, qX, qL]
    repeat (first | rw [if_pos (by first | trivial | exact ⟨trivial, by omega⟩ | omega)] | rw [if_neg (by first | (intro h; exact h) | omega)])
    refine ins_eq ?_ ?_ ?_ ?_ ?_ ?_ ?_ ?_ ?_ <;> (first | rfl | (dsimp only; omega))
  · simp only [rE, rwE, midR, Nat.add_assoc, Nat.reduceAdd, h0, h1, h2, hn, qM]
    repeat (first | rw [if_pos (by first | trivial | exact ⟨trivial, by omega⟩ | omega)] | rw [if_neg (by first | (intro h; exact h) | omega)])
theorem rd_16 (i : Ins) (hk : OkP i .dj) (ho : i.op = 16) (hw : i.wf) (B : Nat → Int) (k : Nat) (H : At B k (encL i)) : Rd B k i := by
  have hwm := hw.im
  clear hw
  obtain ⟨op, d, s, t, b, x, sc, di, im⟩ := i
  dsimp only at ho hwm
  subst ho
  obtain ⟨hd, s0, t0, ⟨b0, x0, c0, i0⟩, hm⟩ := hk
  dsimp only at *
  obtain ⟨q1, q2, qM, qX, qL, qx⟩ := rex_rx (m := 0) (x := 0) (l := d) (h0b) (h0b) (R16.hb hd)
  have lo_hd := hi_low hd
  obtain ⟨r1, r2, r3, r4⟩ := rm_b (m := 4) (l := d)
  have e : encL ⟨16, d, s, t, b, x, sc, di, im⟩ = (rexI 0 0 d) :: 129 :: (rmI 4 d) :: ltl im 4 := rfl
  rw [e] at H
  have h0 := H.head
  have h1 := H.tail.head
  have h2 := H.tail.tail.head
  have HN : At B (k + 1 + 1 + 1) (ltl im 4) := H.tail.tail.tail
  have hn : numB B (k + 1 + 1 + 1) 4 = im := num4_of HN (by first | exact hm | exact hwm)
  unfold Rd
  rw [e]
  try simp only [List.length_cons, List.length_nil, ltl_len]
  clear H e
  clear HN
  have hz0 : hiR 0 = 0 := rfl
  simp only [hz0] at qM qX qL qx
  generalize rexI 0 0 d = q at *
  generalize rmI 4 d = rm at *
  try simp only [Nat.add_assoc, Nat.reduceAdd] at h2 hn
  refine ⟨?_, ?_, ?_, ?_⟩
  · simp only [gI, wI, chI, digI, twoI, twoM, shI, juI, jifI, prI, opEnd, midR, lstR, ofDig, ofReg, Nat.add_assoc, Nat.reduceAdd, h0, h1, h2, hn, qM, qX, qL]
    repeat (first | rw [if_pos (by first | trivial | exact ⟨trivial, by omega⟩ | omega)] | rw [if_neg (by first | (intro h; exact h) | omega)])
    try rw [hn]
    refine ins_eq ?_ ?_ ?_ ?_ ?_ ?_ ?_ ?_ ?_ <;> (first | rfl | (dsimp only; omega))
  · simp only [gE, wE, jifE, opEnd, Nat.add_assoc, Nat.reduceAdd, h0, h1, h2, hn]
    repeat (first | rw [if_pos (by first | trivial | exact ⟨trivial, by omega⟩ | omega)] | rw [if_neg (by first | (intro h; exact h) | omega)])
  · simp only [rI, rwI, juI, riO, rrO, midR, lstR, Nat.add_assoc, Nat.reduceAdd, h0, h1, h2, hn, qM, qX, qL]
    repeat (first | rw [if_pos (by first | trivial | exact ⟨trivial, by omega⟩ | omega)] | rw [if_neg (by first | (intro h; exact h) | omega)])
    refine ins_eq ?_ ?_ ?_ ?_ ?_ ?_ ?_ ?_ ?_ <;> (first | rfl | (dsimp only; omega))
  · simp only [rE, rwE, midR, Nat.add_assoc, Nat.reduceAdd, h0, h1, h2, hn, qM]
    repeat (first | rw [if_pos (by first | trivial | exact ⟨trivial, by omega⟩ | omega)] | rw [if_neg (by first | (intro h; exact h) | omega)])
theorem rd_17 (i : Ins) (hk : OkP i .dj) (ho : i.op = 17) (hw : i.wf) (B : Nat → Int) (k : Nat) (H : At B k (encL i)) : Rd B k i := by
  have hwm := hw.im
  clear hw
  obtain ⟨op, d, s, t, b, x, sc, di, im⟩ := i
  dsimp only at ho hwm
  subst ho
  obtain ⟨hd, s0, t0, ⟨b0, x0, c0, i0⟩, hm⟩ := hk
  dsimp only at *
  obtain ⟨q1, q2, qM, qX, qL, qx⟩ := rex_rx (m := 0) (x := 0) (l := d) (h0b) (h0b) (R16.hb hd)
  have lo_hd := hi_low hd
  obtain ⟨r1, r2, r3, r4⟩ := rm_b (m := 5) (l := d)
  have e : encL ⟨17, d, s, t, b, x, sc, di, im⟩ = (rexI 0 0 d) :: 129 :: (rmI 5 d) :: ltl im 4 := rfl
  rw [e] at H
  have h0 := H.head
  have h1 := H.tail.head
  have h2 := H.tail.tail.head
  have HN : At B (k + 1 + 1 + 1) (ltl im 4) := H.tail.tail.tail
  have hn : numB B (k + 1 + 1 + 1) 4 = im := num4_of HN (by first | exact hm | exact hwm)
  unfold Rd
  rw [e]
  try simp only [List.length_cons, List.length_nil, ltl_len]
  clear H e
  clear HN
  have hz0 : hiR 0 = 0 := rfl
  simp only [hz0] at qM qX qL qx
  generalize rexI 0 0 d = q at *
  generalize rmI 5 d = rm at *
  try simp only [Nat.add_assoc, Nat.reduceAdd] at h2 hn
  refine ⟨?_, ?_, ?_, ?_⟩
  · simp only [gI, wI, chI, digI, twoI, twoM, shI, juI, jifI, prI, opEnd, midR, lstR, ofDig, ofReg, Nat.add_assoc, Nat.reduceAdd, h0, h1, h2, hn, qM, qX, qL]
    repeat (first | rw [if_pos (by first | trivial | exact ⟨trivial, by omega⟩ | omega)] | rw [if_neg (by first | (intro h; exact h) | omega)])
    try rw [hn]
    refine ins_eq ?_ ?_ ?_ ?_ ?_ ?_ ?_ ?_ ?_ <;> (first | rfl | (dsimp only; omega))
  · simp only [gE, wE, jifE, opEnd, Nat.add_assoc, Nat.reduceAdd, h0, h1, h2, hn]
    repeat (first | rw [if_pos (by first | trivial | exact ⟨trivial, by omega⟩ | omega)] | rw [if_neg (by first | (intro h; exact h) | omega)])
  · simp only [rI, rwI, juI, riO, rrO, midR, lstR, Nat.add_assoc, Nat.reduceAdd, h0, h1, h2, hn, qM, qX, qL]
    repeat (first | rw [if_pos (by first | trivial | exact ⟨trivial, by omega⟩ | omega)] | rw [if_neg (by first | (intro h; exact h) | omega)])
    refine ins_eq ?_ ?_ ?_ ?_ ?_ ?_ ?_ ?_ ?_ <;> (first | rfl | (dsimp only; omega))
  · simp only [rE, rwE, midR, Nat.add_assoc, Nat.reduceAdd, h0, h1, h2, hn, qM]
    repeat (first | rw [if_pos (by first | trivial | exact ⟨trivial, by omega⟩ | omega)] | rw [if_neg (by first | (intro h; exact h) | omega)])
theorem rd_18 (i : Ins) (hk : OkP i .dj) (ho : i.op = 18) (hw : i.wf) (B : Nat → Int) (k : Nat) (H : At B k (encL i)) : Rd B k i := by
  have hwm := hw.im
  clear hw
  obtain ⟨op, d, s, t, b, x, sc, di, im⟩ := i
  dsimp only at ho hwm
  subst ho
  obtain ⟨hd, s0, t0, ⟨b0, x0, c0, i0⟩, hm⟩ := hk
  dsimp only at *
  obtain ⟨q1, q2, qM, qX, qL, qx⟩ := rex_rx (m := 0) (x := 0) (l := d) (h0b) (h0b) (R16.hb hd)
  have lo_hd := hi_low hd
  obtain ⟨r1, r2, r3, r4⟩ := rm_b (m := 7) (l := d)
  have e : encL ⟨18, d, s, t, b, x, sc, di, im⟩ = (rexI 0 0 d) :: 129 :: (rmI 7 d) :: ltl im 4 := rfl
  rw [e] at H
  have h0 := H.head
  have h1 := H.tail.head
  have h2 := H.tail.tail.head
  have HN : At B (k + 1 + 1 + 1) (ltl im 4) := H.tail.tail.tail
  have hn : numB B (k + 1 + 1 + 1) 4 = im := num4_of HN (by first | exact hm | exact hwm)
  unfold Rd
  rw [e]
  try simp only [List.length_cons, List.length_nil, ltl_len]
  clear H e
  clear HN
  have hz0 : hiR 0 = 0 := rfl
  simp only [hz0] at qM qX qL qx
  generalize rexI 0 0 d = q at *
  generalize rmI 7 d = rm at *
  try simp only [Nat.add_assoc, Nat.reduceAdd] at h2 hn
  refine ⟨?_, ?_, ?_, ?_⟩
  · simp only [gI, wI, chI, digI, twoI, twoM, shI, juI, jifI, prI, opEnd, midR, lstR, ofDig, ofReg, Nat.add_assoc, Nat.reduceAdd, h0, h1, h2, hn, qM, qX, qL]
    repeat (first | rw [if_pos (by first | trivial | exact ⟨trivial, by omega⟩ | omega)] | rw [if_neg (by first | (intro h; exact h) | omega)])
    try rw [hn]
    refine ins_eq ?_ ?_ ?_ ?_ ?_ ?_ ?_ ?_ ?_ <;> (first | rfl | (dsimp only; omega))
  · simp only [gE, wE, jifE, opEnd, Nat.add_assoc, Nat.reduceAdd, h0, h1, h2, hn]
    repeat (first | rw [if_pos (by first | trivial | exact ⟨trivial, by omega⟩ | omega)] | rw [if_neg (by first | (intro h; exact h) | omega)])
  · simp only [rI, rwI, juI, riO, rrO, midR, lstR, Nat.add_assoc, Nat.reduceAdd, h0, h1, h2, hn, qM, qX, qL]
    repeat (first | rw [if_pos (by first | trivial | exact ⟨trivial, by omega⟩ | omega)] | rw [if_neg (by first | (intro h; exact h) | omega)])
    refine ins_eq ?_ ?_ ?_ ?_ ?_ ?_ ?_ ?_ ?_ <;> (first | rfl | (dsimp only; omega))
  · simp only [rE, rwE, midR, Nat.add_assoc, Nat.reduceAdd, h0, h1, h2, hn, qM]
    repeat (first | rw [if_pos (by first | trivial | exact ⟨trivial, by omega⟩ | omega)] | rw [if_neg (by first | (intro h; exact h) | omega)])
theorem rd_19 (i : Ins) (hk : OkP i .dst) (ho : i.op = 19) (hw : i.wf) (B : Nat → Int) (k : Nat) (H : At B k (encL i)) : Rd B k i := by
  have hwm := hw.im
  clear hw
  obtain ⟨op, d, s, t, b, x, sc, di, im⟩ := i
  dsimp only at ho hwm
  subst ho
  obtain ⟨hd, hs, ht, ⟨b0, x0, c0, i0⟩, m0⟩ := hk
  dsimp only at *
  have hdu := R16.hb hd
  have htu := R16.hb ht
  have hs16 := hs
  unfold R16 at hs16
  have lo_hd := hi_low hd
  have lo_ht := hi_low ht
  obtain ⟨r1, r2, r3, r4⟩ := rm_b (m := d) (l := t)
  have e : encL ⟨19, d, s, t, b, x, sc, di, im⟩ = 196 :: (66 + 128 * (1 - hiR d) + 32 * (1 - hiR t)) :: (131 + 8 * (15 - s)) :: 246 :: (rmI d t) :: [] := rfl
  rw [e] at H
  have h0 := H.head
  have h1 := H.tail.head
  have h2 := H.tail.tail.head
  have h3 := H.tail.tail.tail.head
  have h4 := H.tail.tail.tail.tail.head
  unfold Rd
  rw [e]
  try simp only [List.length_cons, List.length_nil]
  clear H e
  generalize rmI d t = rm at *
  try simp only [Nat.add_assoc, Nat.reduceAdd] at h2 h3 h4
  refine ⟨?_, ?_, ?_, ?_⟩
  · simp only [gI, prI, twoM, Nat.add_assoc, Nat.reduceAdd, h0, h1, h2, h3, h4]
    repeat (first | rw [if_pos (by first | trivial | exact ⟨trivial, by omega⟩ | omega)] | rw [if_neg (by first | (intro h; exact h) | omega)])
    refine ins_eq ?_ ?_ ?_ ?_ ?_ ?_ ?_ ?_ ?_ <;> (first | rfl | ((try dsimp only); (try simp only [midR, lstR, rxM, rxL]); omega))
  · simp only [gE, wE, jifE, opEnd, Nat.add_assoc, Nat.reduceAdd, h0, h1, h2, h3, h4]
    repeat (first | rw [if_pos (by first | trivial | exact ⟨trivial, by omega⟩ | omega)] | rw [if_neg (by first | (intro h; exact h) | omega)])
  · simp only [rI, Nat.add_assoc, Nat.reduceAdd, h0, h1, h2, h3, h4]
    repeat (first | rw [if_pos (by first | trivial | exact ⟨trivial, by omega⟩ | omega)] | rw [if_neg (by first | (intro h; exact h) | omega)])
    refine ins_eq ?_ ?_ ?_ ?_ ?_ ?_ ?_ ?_ ?_ <;> (first | rfl | ((try dsimp only); (try simp only [midR, lstR, rxM, rxL]); omega))
  · simp only [rE, rwE, midR, Nat.add_assoc, Nat.reduceAdd, h0, h1, h2, h3, h4]
    repeat (first | rw [if_pos (by first | trivial | exact ⟨trivial, by omega⟩ | omega)] | rw [if_neg (by first | (intro h; exact h) | omega)])
theorem rd_20 (i : Ins) (hk : OkP i .ds) (ho : i.op = 20) (hw : i.wf) (B : Nat → Int) (k : Nat) (H : At B k (encL i)) : Rd B k i := by
  have hwm := hw.im
  clear hw
  obtain ⟨op, d, s, t, b, x, sc, di, im⟩ := i
  dsimp only at ho hwm
  subst ho
  obtain ⟨hd, hs, t0, ⟨b0, x0, c0, i0⟩, m0⟩ := hk
  dsimp only at *
  obtain ⟨q1, q2, qM, qX, qL, qx⟩ := rex_rx (m := d) (x := 0) (l := s) (R16.hb hd) (h0b) (R16.hb hs)
  have lo_hd := hi_low hd
  have lo_hs := hi_low hs
  obtain ⟨r1, r2, r3, r4⟩ := rm_b (m := d) (l := s)
  have e : encL ⟨20, d, s, t, b, x, sc, di, im⟩ = 102 :: (rexI d 0 s) :: 15 :: 56 :: 246 :: (rmI d s) :: [] := rfl
  rw [e] at H
  have h0 := H.head
  have h1 := H.tail.head
  have h2 := H.tail.tail.head
  have h3 := H.tail.tail.tail.head
  have h4 := H.tail.tail.tail.tail.head
  have h5 := H.tail.tail.tail.tail.tail.head
  unfold Rd
  rw [e]
  try simp only [List.length_cons, List.length_nil]
  clear H e
  have hz0 : hiR 0 = 0 := rfl
  simp only [hz0] at qM qX qL qx
  generalize rexI d 0 s = q at *
  generalize rmI d s = rm at *
  try simp only [Nat.add_assoc, Nat.reduceAdd] at h2 h3 h4 h5
  refine ⟨?_, ?_, ?_, ?_⟩
  · simp only [gI, wI, chI, digI, twoI, twoM, shI, juI, jifI, prI, opEnd, midR, lstR, ofDig, ofReg, Nat.add_assoc, Nat.reduceAdd, h0, h1, h2, h3, h4, h5, qM, qX, qL]
    repeat (first | rw [if_pos (by first | trivial | exact ⟨trivial, by omega⟩ | omega)] | rw [if_neg (by first | (intro h; exact h) | omega)])
    refine ins_eq ?_ ?_ ?_ ?_ ?_ ?_ ?_ ?_ ?_ <;> (first | rfl | (dsimp only; omega))
  · simp only [gE, wE, jifE, opEnd, Nat.add_assoc, Nat.reduceAdd, h0, h1, h2, h3, h4, h5]
    repeat (first | rw [if_pos (by first | trivial | exact ⟨trivial, by omega⟩ | omega)] | rw [if_neg (by first | (intro h; exact h) | omega)])
  · simp only [rI, rwI, juI, riO, rrO, midR, lstR, Nat.add_assoc, Nat.reduceAdd, h0, h1, h2, h3, h4, h5, qM, qX, qL]
    repeat (first | rw [if_pos (by first | trivial | exact ⟨trivial, by omega⟩ | omega)] | rw [if_neg (by first | (intro h; exact h) | omega)])
    refine ins_eq ?_ ?_ ?_ ?_ ?_ ?_ ?_ ?_ ?_ <;> (first | rfl | (dsimp only; omega))
  · simp only [rE, rwE, midR, Nat.add_assoc, Nat.reduceAdd, h0, h1, h2, h3, h4, h5, qM]
    repeat (first | rw [if_pos (by first | trivial | exact ⟨trivial, by omega⟩ | omega)] | rw [if_neg (by first | (intro h; exact h) | omega)])
theorem rd_21 (i : Ins) (hk : OkP i .ds) (ho : i.op = 21) (hw : i.wf) (B : Nat → Int) (k : Nat) (H : At B k (encL i)) : Rd B k i := by
  have hwm := hw.im
  clear hw
  obtain ⟨op, d, s, t, b, x, sc, di, im⟩ := i
  dsimp only at ho hwm
  subst ho
  obtain ⟨hd, hs, t0, ⟨b0, x0, c0, i0⟩, m0⟩ := hk
  dsimp only at *
  obtain ⟨q1, q2, qM, qX, qL, qx⟩ := rex_rx (m := d) (x := 0) (l := s) (R16.hb hd) (h0b) (R16.hb hs)
  have lo_hd := hi_low hd
  have lo_hs := hi_low hs
  obtain ⟨r1, r2, r3, r4⟩ := rm_b (m := d) (l := s)
  have e : encL ⟨21, d, s, t, b, x, sc, di, im⟩ = 243 :: (rexI d 0 s) :: 15 :: 56 :: 246 :: (rmI d s) :: [] := rfl
  rw [e] at H
  have h0 := H.head
  have h1 := H.tail.head
  have h2 := H.tail.tail.head
  have h3 := H.tail.tail.tail.head
  have h4 := H.tail.tail.tail.tail.head
  have h5 := H.tail.tail.tail.tail.tail.head
  unfold Rd
  rw [e]
  try simp only [List.length_cons, List.length_nil]
  clear H e
  have hz0 : hiR 0 = 0 := rfl
  simp only [hz0] at qM qX qL qx
  generalize rexI d 0 s = q at *
  generalize rmI d s = rm at *
  try simp only [Nat.add_assoc, Nat.reduceAdd] at h2 h3 h4 h5
  refine ⟨?_, ?_, ?_, ?_⟩
  · simp only [gI, wI, chI, digI, twoI, twoM, shI, juI, jifI, prI, opEnd, midR, lstR, ofDig, ofReg, Nat.add_assoc, Nat.reduceAdd, h0, h1, h2, h3, h4, h5, qM, qX, qL]
    repeat (first | rw [if_pos (by first | trivial | exact ⟨trivial, by omega⟩ | omega)] | rw [if_neg (by first | (intro h; exact h) | omega)])
    refine ins_eq ?_ ?_ ?_ ?_ ?_ ?_ ?_ ?_ ?_ <;> (first | rfl | (dsimp only; omega))
  · simp only [gE, wE, jifE, opEnd, Nat.add_assoc, Nat.reduceAdd, h0, h1, h2, h3, h4, h5]
    repeat (first | rw [if_pos (by first | trivial | exact ⟨trivial, by omega⟩ | omega)] | rw [if_neg (by first | (intro h; exact h) | omega)])
  · simp only [rI, rwI, juI, riO, rrO, midR, lstR, Nat.add_assoc, Nat.reduceAdd, h0, h1, h2, h3, h4, h5, qM, qX, qL]
    repeat (first | rw [if_pos (by first | trivial | exact ⟨trivial, by omega⟩ | omega)] | rw [if_neg (by first | (intro h; exact h) | omega)])
    refine ins_eq ?_ ?_ ?_ ?_ ?_ ?_ ?_ ?_ ?_ <;> (first | rfl | (dsimp only; omega))
  · simp only [rE, rwE, midR, Nat.add_assoc, Nat.reduceAdd, h0, h1, h2, h3, h4, h5, qM]
    repeat (first | rw [if_pos (by first | trivial | exact ⟨trivial, by omega⟩ | omega)] | rw [if_neg (by first | (intro h; exact h) | omega)])
theorem rd_22 (i : Ins) (hk : OkP i .d) (ho : i.op = 22) (hw : i.wf) (B : Nat → Int) (k : Nat) (H : At B k (encL i)) : Rd B k i := by
  have hwm := hw.im
  clear hw
  obtain ⟨op, d, s, t, b, x, sc, di, im⟩ := i
  dsimp only at ho hwm
  subst ho
  obtain ⟨hd, s0, t0, ⟨b0, x0, c0, i0⟩, m0⟩ := hk
  dsimp only at *
  obtain ⟨q1, q2, qM, qX, qL, qx⟩ := rex_rx (m := 0) (x := 0) (l := d) (h0b) (h0b) (R16.hb hd)
  have lo_hd := hi_low hd
  obtain ⟨r1, r2, r3, r4⟩ := rm_b (m := 3) (l := d)
  have e : encL ⟨22, d, s, t, b, x, sc, di, im⟩ = (rexI 0 0 d) :: 247 :: (rmI 3 d) :: [] := rfl
  rw [e] at H
  have h0 := H.head
  have h1 := H.tail.head
  have h2 := H.tail.tail.head
  unfold Rd
  rw [e]
  try simp only [List.length_cons, List.length_nil]
  clear H e
  have hz0 : hiR 0 = 0 := rfl
  simp only [hz0] at qM qX qL qx
  generalize rexI 0 0 d = q at *
  generalize rmI 3 d = rm at *
  try simp only [Nat.add_assoc, Nat.reduceAdd] at h2
  refine ⟨?_, ?_, ?_, ?_⟩
  · simp only [gI, wI, chI, digI, twoI, twoM, shI, juI, jifI, prI, opEnd, midR, lstR, ofDig, ofReg, Nat.add_assoc, Nat.reduceAdd, h0, h1, h2, qM, qX, qL]
    repeat (first | rw [if_pos (by first | trivial | exact ⟨trivial, by omega⟩ | omega)] | rw [if_neg (by first | (intro h; exact h) | omega)])
    simp only [num0]
    refine ins_eq ?_ ?_ ?_ ?_ ?_ ?_ ?_ ?_ ?_ <;> (first | rfl | (dsimp only; omega))
  · simp only [gE, wE, jifE, opEnd, Nat.add_assoc, Nat.reduceAdd, h0, h1, h2]
    repeat (first | rw [if_pos (by first | trivial | exact ⟨trivial, by omega⟩ | omega)] | rw [if_neg (by first | (intro h; exact h) | omega)])
  · simp only [rI, rwI, juI, riO, rrO, midR, lstR, Nat.add_assoc, Nat.reduceAdd, h0, h1, h2, qM, qX, qL]
    repeat (first | rw [if_pos (by first | trivial | exact ⟨trivial, by omega⟩ | omega)] | rw [if_neg (by first | (intro h; exact h) | omega)])
    refine ins_eq ?_ ?_ ?_ ?_ ?_ ?_ ?_ ?_ ?_ <;> (first | rfl | (dsimp only; omega))
  · simp only [rE, rwE, midR, Nat.add_assoc, Nat.reduceAdd, h0, h1, h2, qM]
    repeat (first | rw [if_pos (by first | trivial | exact ⟨trivial, by omega⟩ | omega)] | rw [if_neg (by first | (intro h; exact h) | omega)])
theorem rd_23 (i : Ins) (hk : OkP i .d) (ho : i.op = 23) (hw : i.wf) (B : Nat → Int) (k : Nat) (H : At B k (encL i)) : Rd B k i := by
  have hwm := hw.im
  clear hw
  obtain ⟨op, d, s, t, b, x, sc, di, im⟩ := i
  dsimp only at ho hwm
  subst ho
  obtain ⟨hd, s0, t0, ⟨b0, x0, c0, i0⟩, m0⟩ := hk
  dsimp only at *
  obtain ⟨q1, q2, qM, qX, qL, qx⟩ := rex_rx (m := 0) (x := 0) (l := d) (h0b) (h0b) (R16.hb hd)
  have lo_hd := hi_low hd
  obtain ⟨r1, r2, r3, r4⟩ := rm_b (m := 2) (l := d)
  have e : encL ⟨23, d, s, t, b, x, sc, di, im⟩ = (rexI 0 0 d) :: 247 :: (rmI 2 d) :: [] := rfl
  rw [e] at H
  have h0 := H.head
  have h1 := H.tail.head
  have h2 := H.tail.tail.head
  unfold Rd
  rw [e]
  try simp only [List.length_cons, List.length_nil]
  clear H e
  have hz0 : hiR 0 = 0 := rfl
  simp only [hz0] at qM qX qL qx
  generalize rexI 0 0 d = q at *
  generalize rmI 2 d = rm at *
  try simp only [Nat.add_assoc, Nat.reduceAdd] at h2
  refine ⟨?_, ?_, ?_, ?_⟩
  · simp only [gI, wI, chI, digI, twoI, twoM, shI, juI, jifI, prI, opEnd, midR, lstR, ofDig, ofReg, Nat.add_assoc, Nat.reduceAdd, h0, h1, h2, qM, qX, qL]
    repeat (first | rw [if_pos (by first | trivial | exact ⟨trivial, by omega⟩ | omega)] | rw [if_neg (by first | (intro h; exact h) | omega)])
    simp only [num0]
    refine ins_eq ?_ ?_ ?_ ?_ ?_ ?_ ?_ ?_ ?_ <;> (first | rfl | (dsimp only; omega))
  · simp only [gE, wE, jifE, opEnd, Nat.add_assoc, Nat.reduceAdd, h0, h1, h2]
    repeat (first | rw [if_pos (by first | trivial | exact ⟨trivial, by omega⟩ | omega)] | rw [if_neg (by first | (intro h; exact h) | omega)])
  · simp only [rI, rwI, juI, riO, rrO, midR, lstR, Nat.add_assoc, Nat.reduceAdd, h0, h1, h2, qM, qX, qL]
    repeat (first | rw [if_pos (by first | trivial | exact ⟨trivial, by omega⟩ | omega)] | rw [if_neg (by first | (intro h; exact h) | omega)])
    refine ins_eq ?_ ?_ ?_ ?_ ?_ ?_ ?_ ?_ ?_ <;> (first | rfl | (dsimp only; omega))
  · simp only [rE, rwE, midR, Nat.add_assoc, Nat.reduceAdd, h0, h1, h2, qM]
    repeat (first | rw [if_pos (by first | trivial | exact ⟨trivial, by omega⟩ | omega)] | rw [if_neg (by first | (intro h; exact h) | omega)])
theorem rd_24 (i : Ins) (hk : OkP i .db) (ho : i.op = 24) (hw : i.wf) (B : Nat → Int) (k : Nat) (H : At B k (encL i)) : Rd B k i := by
  have hwm := hw.im
  clear hw
  obtain ⟨op, d, s, t, b, x, sc, di, im⟩ := i
  dsimp only at ho hwm
  subst ho
  obtain ⟨hd, s0, t0, ⟨b0, x0, c0, i0⟩, hm⟩ := hk
  dsimp only at *
  obtain ⟨q1, q2, qM, qX, qL, qx⟩ := rex_rx (m := 0) (x := 0) (l := d) (h0b) (h0b) (R16.hb hd)
  have lo_hd := hi_low hd
  obtain ⟨r1, r2, r3, r4⟩ := rm_b (m := 4) (l := d)
  have e : encL ⟨24, d, s, t, b, x, sc, di, im⟩ = (rexI 0 0 d) :: 193 :: (rmI 4 d) :: im :: [] := rfl
  rw [e] at H
  have h0 := H.head
  have h1 := H.tail.head
  have h2 := H.tail.tail.head
  have h3 := H.tail.tail.tail.head
  have hn : numB B (k + 1 + 1 + 1) 1 = im := num1_of h3 (by omega)
  unfold Rd
  rw [e]
  try simp only [List.length_cons, List.length_nil]
  clear H e
  have hz0 : hiR 0 = 0 := rfl
  simp only [hz0] at qM qX qL qx
  generalize rexI 0 0 d = q at *
  generalize rmI 4 d = rm at *
  try simp only [Nat.add_assoc, Nat.reduceAdd] at h2 h3 hn
  refine ⟨?_, ?_, ?_, ?_⟩
  · simp only [gI, wI, chI, digI, twoI, twoM, shI, juI, jifI, prI, opEnd, midR, lstR, ofDig, ofReg, Nat.add_assoc, Nat.reduceAdd, h0, h1, h2, h3, hn, qM, qX, qL]
    repeat (first | rw [if_pos (by first | trivial | exact ⟨trivial, by omega⟩ | omega)] | rw [if_neg (by first | (intro h; exact h) | omega)])
    try rw [hn]
    refine ins_eq ?_ ?_ ?_ ?_ ?_ ?_ ?_ ?_ ?_ <;> (first | rfl | (dsimp only; omega))
  · simp only [gE, wE, jifE, opEnd, Nat.add_assoc, Nat.reduceAdd, h0, h1, h2, h3, hn]
    repeat (first | rw [if_pos (by first | trivial | exact ⟨trivial, by omega⟩ | omega)] | rw [if_neg (by first | (intro h; exact h) | omega)])
  · simp only [rI, rwI, juI, riO, rrO, midR, lstR, Nat.add_assoc, Nat.reduceAdd, h0, h1, h2, h3, hn, qM, qX, qL]
    repeat (first | rw [if_pos (by first | trivial | exact ⟨trivial, by omega⟩ | omega)] | rw [if_neg (by first | (intro h; exact h) | omega)])
    refine ins_eq ?_ ?_ ?_ ?_ ?_ ?_ ?_ ?_ ?_ <;> (first | rfl | (dsimp only; omega))
  · simp only [rE, rwE, midR, Nat.add_assoc, Nat.reduceAdd, h0, h1, h2, h3, hn, qM]
    repeat (first | rw [if_pos (by first | trivial | exact ⟨trivial, by omega⟩ | omega)] | rw [if_neg (by first | (intro h; exact h) | omega)])
theorem rd_25 (i : Ins) (hk : OkP i .db) (ho : i.op = 25) (hw : i.wf) (B : Nat → Int) (k : Nat) (H : At B k (encL i)) : Rd B k i := by
  have hwm := hw.im
  clear hw
  obtain ⟨op, d, s, t, b, x, sc, di, im⟩ := i
  dsimp only at ho hwm
  subst ho
  obtain ⟨hd, s0, t0, ⟨b0, x0, c0, i0⟩, hm⟩ := hk
  dsimp only at *
  obtain ⟨q1, q2, qM, qX, qL, qx⟩ := rex_rx (m := 0) (x := 0) (l := d) (h0b) (h0b) (R16.hb hd)
  have lo_hd := hi_low hd
  obtain ⟨r1, r2, r3, r4⟩ := rm_b (m := 5) (l := d)
  have e : encL ⟨25, d, s, t, b, x, sc, di, im⟩ = (rexI 0 0 d) :: 193 :: (rmI 5 d) :: im :: [] := rfl
  rw [e] at H
  have h0 := H.head
  have h1 := H.tail.head
  have h2 := H.tail.tail.head
  have h3 := H.tail.tail.tail.head
  have hn : numB B (k + 1 + 1 + 1) 1 = im := num1_of h3 (by omega)
  unfold Rd
  rw [e]
  try simp only [List.length_cons, List.length_nil]
  clear H e
  have hz0 : hiR 0 = 0 := rfl
  simp only [hz0] at qM qX qL qx
  generalize rexI 0 0 d = q at *
  generalize rmI 5 d = rm at *
  try simp only [Nat.add_assoc, Nat.reduceAdd] at h2 h3 hn
  refine ⟨?_, ?_, ?_, ?_⟩
  · simp only [gI, wI, chI, digI, twoI, twoM, shI, juI, jifI, prI, opEnd, midR, lstR, ofDig, ofReg, Nat.add_assoc, Nat.reduceAdd, h0, h1, h2, h3, hn, qM, qX, qL]
    repeat (first | rw [if_pos (by first | trivial | exact ⟨trivial, by omega⟩ | omega)] | rw [if_neg (by first | (intro h; exact h) | omega)])
    try rw [hn]
    refine ins_eq ?_ ?_ ?_ ?_ ?_ ?_ ?_ ?_ ?_ <;> (first | rfl | (dsimp only; omega))
  · simp only [gE, wE, jifE, opEnd, Nat.add_assoc, Nat.reduceAdd, h0, h1, h2, h3, hn]
    repeat (first | rw [if_pos (by first | trivial | exact ⟨trivial, by omega⟩ | omega)] | rw [if_neg (by first | (intro h; exact h) | omega)])
  · simp only [rI, rwI, juI, riO, rrO, midR, lstR, Nat.add_assoc, Nat.reduceAdd, h0, h1, h2, h3, hn, qM, qX, qL]
    repeat (first | rw [if_pos (by first | trivial | exact ⟨trivial, by omega⟩ | omega)] | rw [if_neg (by first | (intro h; exact h) | omega)])
    refine ins_eq ?_ ?_ ?_ ?_ ?_ ?_ ?_ ?_ ?_ <;> (first | rfl | (dsimp only; omega))
  · simp only [rE, rwE, midR, Nat.add_assoc, Nat.reduceAdd, h0, h1, h2, h3, hn, qM]
    repeat (first | rw [if_pos (by first | trivial | exact ⟨trivial, by omega⟩ | omega)] | rw [if_neg (by first | (intro h; exact h) | omega)])
theorem rd_26 (i : Ins) (hk : OkP i .ds) (ho : i.op = 26) (hw : i.wf) (B : Nat → Int) (k : Nat) (H : At B k (encL i)) : Rd B k i := by
  have hwm := hw.im
  clear hw
  obtain ⟨op, d, s, t, b, x, sc, di, im⟩ := i
  dsimp only at ho hwm
  subst ho
  obtain ⟨hd, hs, t0, ⟨b0, x0, c0, i0⟩, m0⟩ := hk
  dsimp only at *
  obtain ⟨q1, q2, qM, qX, qL, qx⟩ := rex_rx (m := d) (x := 0) (l := s) (R16.hb hd) (h0b) (R16.hb hs)
  have lo_hd := hi_low hd
  have lo_hs := hi_low hs
  obtain ⟨r1, r2, r3, r4⟩ := rm_b (m := d) (l := s)
  have e : encL ⟨26, d, s, t, b, x, sc, di, im⟩ = (rexI d 0 s) :: 15 :: 66 :: (rmI d s) :: [] := rfl
  rw [e] at H
  have h0 := H.head
  have h1 := H.tail.head
  have h2 := H.tail.tail.head
  have h3 := H.tail.tail.tail.head
  unfold Rd
  rw [e]
  try simp only [List.length_cons, List.length_nil]
  clear H e
  have hz0 : hiR 0 = 0 := rfl
  simp only [hz0] at qM qX qL qx
  generalize rexI d 0 s = q at *
  generalize rmI d s = rm at *
  try simp only [Nat.add_assoc, Nat.reduceAdd] at h2 h3
  refine ⟨?_, ?_, ?_, ?_⟩
  · simp only [gI, wI, chI, digI, twoI, twoM, shI, juI, jifI, prI, opEnd, midR, lstR, ofDig, ofReg, Nat.add_assoc, Nat.reduceAdd, h0, h1, h2, h3, qM, qX, qL]
    repeat (first | rw [if_pos (by first | trivial | exact ⟨trivial, by omega⟩ | omega)] | rw [if_neg (by first | (intro h; exact h) | omega)])
    refine ins_eq ?_ ?_ ?_ ?_ ?_ ?_ ?_ ?_ ?_ <;> (first | rfl | (dsimp only; omega))
  · simp only [gE, wE, jifE, opEnd, Nat.add_assoc, Nat.reduceAdd, h0, h1, h2, h3]
    repeat (first | rw [if_pos (by first | trivial | exact ⟨trivial, by omega⟩ | omega)] | rw [if_neg (by first | (intro h; exact h) | omega)])
  · simp only [rI, rwI, juI, riO, rrO, midR, lstR, Nat.add_assoc, Nat.reduceAdd, h0, h1, h2, h3, qM, qX, qL]
    repeat (first | rw [if_pos (by first | trivial | exact ⟨trivial, by omega⟩ | omega)] | rw [if_neg (by first | (intro h; exact h) | omega)])
    refine ins_eq ?_ ?_ ?_ ?_ ?_ ?_ ?_ ?_ ?_ <;> (first | rfl | (dsimp only; omega))
  · simp only [rE, rwE, midR, Nat.add_assoc, Nat.reduceAdd, h0, h1, h2, h3, qM]
    repeat (first | rw [if_pos (by first | trivial | exact ⟨trivial, by omega⟩ | omega)] | rw [if_neg (by first | (intro h; exact h) | omega)])
theorem rd_27 (i : Ins) (hk : OkP i .ds) (ho : i.op = 27) (hw : i.wf) (B : Nat → Int) (k : Nat) (H : At B k (encL i)) : Rd B k i := by
  have hwm := hw.im
  clear hw
  obtain ⟨op, d, s, t, b, x, sc, di, im⟩ := i
  dsimp only at ho hwm
  subst ho
  obtain ⟨hd, hs, t0, ⟨b0, x0, c0, i0⟩, m0⟩ := hk
  dsimp only at *
  obtain ⟨q1, q2, qM, qX, qL, qx⟩ := rex_rx (m := d) (x := 0) (l := s) (R16.hb hd) (h0b) (R16.hb hs)
  have lo_hd := hi_low hd
  have lo_hs := hi_low hs
  obtain ⟨r1, r2, r3, r4⟩ := rm_b (m := d) (l := s)
  have e : encL ⟨27, d, s, t, b, x, sc, di, im⟩ = (rexI d 0 s) :: 15 :: 69 :: (rmI d s) :: [] := rfl
  rw [e] at H
  have h0 := H.head
  have h1 := H.tail.head
  have h2 := H.tail.tail.head
  have h3 := H.tail.tail.tail.head
  unfold Rd
  rw [e]
  try simp only [List.length_cons, List.length_nil]
  clear H e
  have hz0 : hiR 0 = 0 := rfl
  simp only [hz0] at qM qX qL qx
  generalize rexI d 0 s = q at *
  generalize rmI d s = rm at *
  try simp only [Nat.add_assoc, Nat.reduceAdd] at h2 h3
  refine ⟨?_, ?_, ?_, ?_⟩
  · simp only [gI, wI, chI, digI, twoI, twoM, shI, juI, jifI, prI, opEnd, midR, lstR, ofDig, ofReg, Nat.add_assoc, Nat.reduceAdd, h0, h1, h2, h3, qM, qX, qL]
    repeat (first | rw [if_pos (by first | trivial | exact ⟨trivial, by omega⟩ | omega)] | rw [if_neg (by first | (intro h; exact h) | omega)])
    refine ins_eq ?_ ?_ ?_ ?_ ?_ ?_ ?_ ?_ ?_ <;> (first | rfl | (dsimp only; omega))
  · simp only [gE, wE, jifE, opEnd, Nat.add_assoc, Nat.reduceAdd, h0, h1, h2, h3]
    repeat (first | rw [if_pos (by first | trivial | exact ⟨trivial, by omega⟩ | omega)] | rw [if_neg (by first | (intro h; exact h) | omega)])
  · simp only [rI, rwI, juI, riO, rrO, midR, lstR, Nat.add_assoc, Nat.reduceAdd, h0, h1, h2, h3, qM, qX, qL]
    repeat (first | rw [if_pos (by first | trivial | exact ⟨trivial, by omega⟩ | omega)] | rw [if_neg (by first | (intro h; exact h) | omega)])
    refine ins_eq ?_ ?_ ?_ ?_ ?_ ?_ ?_ ?_ ?_ <;> (first | rfl | (dsimp only; omega))
  · simp only [rE, rwE, midR, Nat.add_assoc, Nat.reduceAdd, h0, h1, h2, h3, qM]
    repeat (first | rw [if_pos (by first | trivial | exact ⟨trivial, by omega⟩ | omega)] | rw [if_neg (by first | (intro h; exact h) | omega)])
theorem rd_28 (i : Ins) (hk : OkP i .s) (ho : i.op = 28) (hw : i.wf) (B : Nat → Int) (k : Nat) (H : At B k (encL i)) : Rd B k i := by
  have hwm := hw.im
  clear hw
  obtain ⟨op, d, s, t, b, x, sc, di, im⟩ := i
  dsimp only at ho hwm
  subst ho
  obtain ⟨d0, hs, t0, ⟨b0, x0, c0, i0⟩, m0⟩ := hk
  dsimp only at *
  have hr := hs
  unfold R16 at hr
  have e : encL ⟨28, d, s, t, b, x, sc, di, im⟩ = if s > 7 then [65, 80 + s % 8] else [80 + s] := rfl
  unfold Rd
  rw [e] at H ⊢
  by_cases h7 : s > 7
  · rw [if_pos h7] at H ⊢
    have h0 := H.head
    have h1 := H.tail.head
    clear H e
    simp only [List.length_cons, List.length_nil]
    refine ⟨?_, ?_, ?_, ?_⟩
    · unfold gI shI
      rw [h0, h1]
      repeat (first | rw [if_pos (by first | trivial | exact ⟨trivial, by omega⟩ | omega)] | rw [if_neg (by first | (intro h; exact h) | omega)])
      refine ins_eq ?_ ?_ ?_ ?_ ?_ ?_ ?_ ?_ ?_ <;> (first | rfl | (dsimp only; omega))
    · unfold gE
      rw [h0]
      repeat (first | rw [if_pos (by first | trivial | exact ⟨trivial, by omega⟩ | omega)] | rw [if_neg (by first | (intro h; exact h) | omega)])
    · unfold rI
      rw [h0, h1]
      repeat (first | rw [if_pos (by first | trivial | exact ⟨trivial, by omega⟩ | omega)] | rw [if_neg (by first | (intro h; exact h) | omega)])
      refine ins_eq ?_ ?_ ?_ ?_ ?_ ?_ ?_ ?_ ?_ <;> (first | rfl | (dsimp only; omega))
    · unfold rE
      rw [h0]
      repeat (first | rw [if_pos (by first | trivial | exact ⟨trivial, by omega⟩ | omega)] | rw [if_neg (by first | (intro h; exact h) | omega)])
  · rw [if_neg h7] at H ⊢
    have h0 := H.head
    clear H e
    simp only [List.length_cons, List.length_nil]
    refine ⟨?_, ?_, ?_, ?_⟩
    · unfold gI shI
      rw [h0]
      repeat (first | rw [if_pos (by first | trivial | exact ⟨trivial, by omega⟩ | omega)] | rw [if_neg (by first | (intro h; exact h) | omega)])
      refine ins_eq ?_ ?_ ?_ ?_ ?_ ?_ ?_ ?_ ?_ <;> (first | rfl | (dsimp only; omega))
    · unfold gE
      rw [h0]
      repeat (first | rw [if_pos (by first | trivial | exact ⟨trivial, by omega⟩ | omega)] | rw [if_neg (by first | (intro h; exact h) | omega)])
    · unfold rI
      rw [h0]
      repeat (first | rw [if_pos (by first | trivial | exact ⟨trivial, by omega⟩ | omega)] | rw [if_neg (by first | (intro h; exact h) | omega)])
      refine ins_eq ?_ ?_ ?_ ?_ ?_ ?_ ?_ ?_ ?_ <;> (first | rfl | (dsimp only; omega))
    · unfold rE
      rw [h0]
      repeat (first | rw [if_pos (by first | trivial | exact ⟨trivial, by omega⟩ | omega)] | rw [if_neg (by first | (intro h; exact h) | omega)])
theorem rd_29 (i : Ins) (hk : OkP i .d) (ho : i.op = 29) (hw : i.wf) (B : Nat → Int) (k : Nat) (H : At B k (encL i)) : Rd B k i := by
  have hwm := hw.im
  clear hw
  obtain ⟨op, d, s, t, b, x, sc, di, im⟩ := i
  dsimp only at ho hwm
  subst ho
  obtain ⟨hd, s0, t0, ⟨b0, x0, c0, i0⟩, m0⟩ := hk
  dsimp only at *
  have hr := hd
  unfold R16 at hr
  have e : encL ⟨29, d, s, t, b, x, sc, di, im⟩ = if d > 7 then [65, 88 + d % 8] else [88 + d] := rfl
  unfold Rd
  rw [e] at H ⊢
  by_cases h7 : d > 7
  · rw [if_pos h7] at H ⊢
    have h0 := H.head
    have h1 := H.tail.head
    clear H e
    simp only [List.length_cons, List.length_nil]
    refine ⟨?_, ?_, ?_, ?_⟩
    · unfold gI shI
      rw [h0, h1]
      repeat (first | rw [if_pos (by first | trivial | exact ⟨trivial, by omega⟩ | omega)] | rw [if_neg (by first | (intro h; exact h) | omega)])
      refine ins_eq ?_ ?_ ?_ ?_ ?_ ?_ ?_ ?_ ?_ <;> (first | rfl | (dsimp only; omega))
    · unfold gE
      rw [h0]
      repeat (first | rw [if_pos (by first | trivial | exact ⟨trivial, by omega⟩ | omega)] | rw [if_neg (by first | (intro h; exact h) | omega)])
    · unfold rI
      rw [h0, h1]
      repeat (first | rw [if_pos (by first | trivial | exact ⟨trivial, by omega⟩ | omega)] | rw [if_neg (by first | (intro h; exact h) | omega)])
      refine ins_eq ?_ ?_ ?_ ?_ ?_ ?_ ?_ ?_ ?_ <;> (first | rfl | (dsimp only; omega))
    · unfold rE
      rw [h0]
      repeat (first | rw [if_pos (by first | trivial | exact ⟨trivial, by omega⟩ | omega)] | rw [if_neg (by first | (intro h; exact h) | omega)])
  · rw [if_neg h7] at H ⊢
    have h0 := H.head
    clear H e
    simp only [List.length_cons, List.length_nil]
    refine ⟨?_, ?_, ?_, ?_⟩
    · unfold gI shI
      rw [h0]
      repeat (first | rw [if_pos (by first | trivial | exact ⟨trivial, by omega⟩ | omega)] | rw [if_neg (by first | (intro h; exact h) | omega)])
      refine ins_eq ?_ ?_ ?_ ?_ ?_ ?_ ?_ ?_ ?_ <;> (first | rfl | (dsimp only; omega))
    · unfold gE
      rw [h0]
      repeat (first | rw [if_pos (by first | trivial | exact ⟨trivial, by omega⟩ | omega)] | rw [if_neg (by first | (intro h; exact h) | omega)])
    · unfold rI
      rw [h0]
      repeat (first | rw [if_pos (by first | trivial | exact ⟨trivial, by omega⟩ | omega)] | rw [if_neg (by first | (intro h; exact h) | omega)])
      refine ins_eq ?_ ?_ ?_ ?_ ?_ ?_ ?_ ?_ ?_ <;> (first | rfl | (dsimp only; omega))
    · unfold rE
      rw [h0]
      repeat (first | rw [if_pos (by first | trivial | exact ⟨trivial, by omega⟩ | omega)] | rw [if_neg (by first | (intro h; exact h) | omega)])
theorem rd_30 (i : Ins) (hk : OkP i .j) (ho : i.op = 30) (hw : i.wf) (B : Nat → Int) (k : Nat) (H : At B k (encL i)) : Rd B k i := by
  have hwm := hw.im
  clear hw
  obtain ⟨op, d, s, t, b, x, sc, di, im⟩ := i
  dsimp only at ho hwm
  subst ho
  obtain ⟨d0, s0, t0, ⟨b0, x0, c0, i0⟩, hm⟩ := hk
  dsimp only at *
  have e : encL ⟨30, d, s, t, b, x, sc, di, im⟩ = 233 :: ltl im 4 := rfl
  rw [e] at H
  have h0 := H.head
  have HN : At B (k + 1) (ltl im 4) := H.tail
  have hn : numB B (k + 1) 4 = im := num4_of HN (by first | exact hm | exact hwm)
  unfold Rd
  rw [e]
  try simp only [List.length_cons, List.length_nil, ltl_len]
  clear H e
  clear HN
  try simp only [Nat.add_assoc, Nat.reduceAdd] at hn
  refine ⟨?_, ?_, ?_, ?_⟩
  · simp only [gI, wI, chI, digI, twoI, twoM, shI, juI, jifI, prI, opEnd, midR, lstR, ofDig, ofReg, Nat.add_assoc, Nat.reduceAdd, h0, hn]
    repeat (first | rw [if_pos (by first | trivial | exact ⟨trivial, by omega⟩ | omega)] | rw [if_neg (by first | (intro h; exact h) | omega)])
    try rw [hn]
    refine ins_eq ?_ ?_ ?_ ?_ ?_ ?_ ?_ ?_ ?_ <;> (first | rfl | (dsimp only; omega))
  · simp only [gE, wE, jifE, opEnd, Nat.add_assoc, Nat.reduceAdd, h0, hn]
    repeat (first | rw [if_pos (by first | trivial | exact ⟨trivial, by omega⟩ | omega)] | rw [if_neg (by first | (intro h; exact h) | omega)])
  · simp only [rI, rwI, juI, riO, rrO, midR, lstR, Nat.add_assoc, Nat.reduceAdd, h0, hn]
    repeat (first | rw [if_pos (by first | trivial | exact ⟨trivial, by omega⟩ | omega)] | rw [if_neg (by first | (intro h; exact h) | omega)])
    refine ins_eq ?_ ?_ ?_ ?_ ?_ ?_ ?_ ?_ ?_ <;> (first | rfl | (dsimp only; omega))
  · simp only [rE, rwE, midR, Nat.add_assoc, Nat.reduceAdd, h0, hn]
    repeat (first | rw [if_pos (by first | trivial | exact ⟨trivial, by omega⟩ | omega)] | rw [if_neg (by first | (intro h; exact h) | omega)])
theorem rd_31 (i : Ins) (hk : OkP i .j) (ho : i.op = 31) (hw : i.wf) (B : Nat → Int) (k : Nat) (H : At B k (encL i)) : Rd B k i := by
  have hwm := hw.im
  clear hw
  obtain ⟨op, d, s, t, b, x, sc, di, im⟩ := i
  dsimp only at ho hwm
  subst ho
  obtain ⟨d0, s0, t0, ⟨b0, x0, c0, i0⟩, hm⟩ := hk
  dsimp only at *
  have e : encL ⟨31, d, s, t, b, x, sc, di, im⟩ = 15 :: 133 :: ltl im 4 := rfl
  rw [e] at H
  have h0 := H.head
  have h1 := H.tail.head
  have HN : At B (k + 1 + 1) (ltl im 4) := H.tail.tail
  have hn : numB B (k + 1 + 1) 4 = im := num4_of HN (by first | exact hm | exact hwm)
  unfold Rd
  rw [e]
  try simp only [List.length_cons, List.length_nil, ltl_len]
  clear H e
  clear HN
  try simp only [Nat.add_assoc, Nat.reduceAdd] at hn
  refine ⟨?_, ?_, ?_, ?_⟩
  · simp only [gI, wI, chI, digI, twoI, twoM, shI, juI, jifI, prI, opEnd, midR, lstR, ofDig, ofReg, Nat.add_assoc, Nat.reduceAdd, h0, h1, hn]
    repeat (first | rw [if_pos (by first | trivial | exact ⟨trivial, by omega⟩ | omega)] | rw [if_neg (by first | (intro h; exact h) | omega)])
    try rw [hn]
    refine ins_eq ?_ ?_ ?_ ?_ ?_ ?_ ?_ ?_ ?_ <;> (first | rfl | (dsimp only; omega))
  · simp only [gE, wE, jifE, opEnd, Nat.add_assoc, Nat.reduceAdd, h0, h1, hn]
    repeat (first | rw [if_pos (by first | trivial | exact ⟨trivial, by omega⟩ | omega)] | rw [if_neg (by first | (intro h; exact h) | omega)])
  · simp only [rI, rwI, juI, riO, rrO, midR, lstR, Nat.add_assoc, Nat.reduceAdd, h0, h1, hn]
    repeat (first | rw [if_pos (by first | trivial | exact ⟨trivial, by omega⟩ | omega)] | rw [if_neg (by first | (intro h; exact h) | omega)])
    refine ins_eq ?_ ?_ ?_ ?_ ?_ ?_ ?_ ?_ ?_ <;> (first | rfl | (dsimp only; omega))
  · simp only [rE, rwE, midR, Nat.add_assoc, Nat.reduceAdd, h0, h1, hn]
    repeat (first | rw [if_pos (by first | trivial | exact ⟨trivial, by omega⟩ | omega)] | rw [if_neg (by first | (intro h; exact h) | omega)])
theorem rd_32 (i : Ins) (hk : OkP i .j) (ho : i.op = 32) (hw : i.wf) (B : Nat → Int) (k : Nat) (H : At B k (encL i)) : Rd B k i := by
  have hwm := hw.im
  clear hw
  obtain ⟨op, d, s, t, b, x, sc, di, im⟩ := i
  dsimp only at ho hwm
  subst ho
  obtain ⟨d0, s0, t0, ⟨b0, x0, c0, i0⟩, hm⟩ := hk
  dsimp only at *
  have e : encL ⟨32, d, s, t, b, x, sc, di, im⟩ = 15 :: 130 :: ltl im 4 := rfl
  rw [e] at H
  have h0 := H.head
  have h1 := H.tail.head
  have HN : At B (k + 1 + 1) (ltl im 4) := H.tail.tail
  have hn : numB B (k + 1 + 1) 4 = im := num4_of HN (by first | exact hm | exact hwm)
  unfold Rd
  rw [e]
  try simp only [List.length_cons, List.length_nil, ltl_len]
  clear H e
  clear HN
  try simp only [Nat.add_assoc, Nat.reduceAdd] at hn
  refine ⟨?_, ?_, ?_, ?_⟩
  · simp only [gI, wI, chI, digI, twoI, twoM, shI, juI, jifI, prI, opEnd, midR, lstR, ofDig, ofReg, Nat.add_assoc, Nat.reduceAdd, h0, h1, hn]
    repeat (first | rw [if_pos (by first | trivial | exact ⟨trivial, by omega⟩ | omega)] | rw [if_neg (by first | (intro h; exact h) | omega)])
    try rw [hn]
    refine ins_eq ?_ ?_ ?_ ?_ ?_ ?_ ?_ ?_ ?_ <;> (first | rfl | (dsimp only; omega))
  · simp only [gE, wE, jifE, opEnd, Nat.add_assoc, Nat.reduceAdd, h0, h1, hn]
    repeat (first | rw [if_pos (by first | trivial | exact ⟨trivial, by omega⟩ | omega)] | rw [if_neg (by first | (intro h; exact h) | omega)])
  · simp only [rI, rwI, juI, riO, rrO, midR, lstR, Nat.add_assoc, Nat.reduceAdd, h0, h1, hn]
    repeat (first | rw [if_pos (by first | trivial | exact ⟨trivial, by omega⟩ | omega)] | rw [if_neg (by first | (intro h; exact h) | omega)])
    refine ins_eq ?_ ?_ ?_ ?_ ?_ ?_ ?_ ?_ ?_ <;> (first | rfl | (dsimp only; omega))
  · simp only [rE, rwE, midR, Nat.add_assoc, Nat.reduceAdd, h0, h1, hn]
    repeat (first | rw [if_pos (by first | trivial | exact ⟨trivial, by omega⟩ | omega)] | rw [if_neg (by first | (intro h; exact h) | omega)])
theorem rd_33 (i : Ins) (hk : OkP i .r) (ho : i.op = 33) (hw : i.wf) (B : Nat → Int) (k : Nat) (H : At B k (encL i)) : Rd B k i := by
  have hwm := hw.im
  clear hw
  obtain ⟨op, d, s, t, b, x, sc, di, im⟩ := i
  dsimp only at ho hwm
  subst ho
  obtain ⟨d0, s0, t0, ⟨b0, x0, c0, i0⟩, m0⟩ := hk
  dsimp only at *
  have e : encL ⟨33, d, s, t, b, x, sc, di, im⟩ = 195 :: [] := rfl
  rw [e] at H
  have h0 := H.head
  unfold Rd
  rw [e]
  try simp only [List.length_cons, List.length_nil]
  clear H e
  refine ⟨?_, ?_, ?_, ?_⟩
  · simp only [gI, wI, chI, digI, twoI, twoM, shI, juI, jifI, prI, opEnd, midR, lstR, ofDig, ofReg, Nat.add_assoc, Nat.reduceAdd, h0]
    repeat (first | rw [if_pos (by first | trivial | exact ⟨trivial, by omega⟩ | omega)] | rw [if_neg (by first | (intro h; exact h) | omega)])
    refine ins_eq ?_ ?_ ?_ ?_ ?_ ?_ ?_ ?_ ?_ <;> (first | rfl | (dsimp only; omega))
  · simp only [gE, wE, jifE, opEnd, Nat.add_assoc, Nat.reduceAdd, h0]
    repeat (first | rw [if_pos (by first | trivial | exact ⟨trivial, by omega⟩ | omega)] | rw [if_neg (by first | (intro h; exact h) | omega)])
  · simp only [rI, rwI, juI, riO, rrO, midR, lstR, Nat.add_assoc, Nat.reduceAdd, h0]
    repeat (first | rw [if_pos (by first | trivial | exact ⟨trivial, by omega⟩ | omega)] | rw [if_neg (by first | (intro h; exact h) | omega)])
    refine ins_eq ?_ ?_ ?_ ?_ ?_ ?_ ?_ ?_ ?_ <;> (first | rfl | (dsimp only; omega))
  · simp only [rE, rwE, midR, Nat.add_assoc, Nat.reduceAdd, h0]
    repeat (first | rw [if_pos (by first | trivial | exact ⟨trivial, by omega⟩ | omega)] | rw [if_neg (by first | (intro h; exact h) | omega)])
theorem rd_ok (i : Ins) (h : okI i = true) (hw : i.wf) (B : Nat → Int) (k : Nat) (H : At B k (encL i)) : Rd B k i := by
  have hk := okI_iff h
  rcases op_cases i.op with q | q | q | q | q | q | q | q | q | q | q | q | q | q | q | q | q | q | q | q | q | q | q | q | q | q | q | q | q | q | q | q | q | q
  · rw [q] at hk; exact rd_1 i hk q hw B k H
  · rw [q] at hk; exact rd_2 i hk q hw B k H
  · rw [q] at hk; exact rd_3 i hk q hw B k H
  · rw [q] at hk; exact rd_4 i hk q hw B k H
  · rw [q] at hk; exact rd_5 i hk q hw B k H
  · rw [q] at hk; exact rd_6 i hk q hw B k H
  · rw [q] at hk; exact rd_7 i hk q hw B k H
  · rw [q] at hk; exact rd_8 i hk q hw B k H
  · rw [q] at hk; exact rd_9 i hk q hw B k H
  · rw [q] at hk; exact rd_10 i hk q hw B k H
  · rw [q] at hk; exact rd_11 i hk q hw B k H
  · rw [q] at hk; exact rd_12 i hk q hw B k H
  · rw [q] at hk; exact rd_13 i hk q hw B k H
  · rw [q] at hk; exact rd_14 i hk q hw B k H
  · rw [q] at hk; exact rd_15 i hk q hw B k H
  · rw [q] at hk; exact rd_16 i hk q hw B k H
  · rw [q] at hk; exact rd_17 i hk q hw B k H
  · rw [q] at hk; exact rd_18 i hk q hw B k H
  · rw [q] at hk; exact rd_19 i hk q hw B k H
  · rw [q] at hk; exact rd_20 i hk q hw B k H
  · rw [q] at hk; exact rd_21 i hk q hw B k H
  · rw [q] at hk; exact rd_22 i hk q hw B k H
  · rw [q] at hk; exact rd_23 i hk q hw B k H
  · rw [q] at hk; exact rd_24 i hk q hw B k H
  · rw [q] at hk; exact rd_25 i hk q hw B k H
  · rw [q] at hk; exact rd_26 i hk q hw B k H
  · rw [q] at hk; exact rd_27 i hk q hw B k H
  · rw [q] at hk; exact rd_28 i hk q hw B k H
  · rw [q] at hk; exact rd_29 i hk q hw B k H
  · rw [q] at hk; exact rd_30 i hk q hw B k H
  · rw [q] at hk; exact rd_31 i hk q hw B k H
  · rw [q] at hk; exact rd_32 i hk q hw B k H
  · rw [q] at hk; exact rd_33 i hk q hw B k H
  · exfalso
    have e2 : formOf i.op = .no := by
      unfold formOf
      rw [if_neg (by omega), if_neg (by omega), if_neg (by omega), if_neg (by omega), if_neg (by omega), if_neg (by omega), if_neg (by omega), if_neg (by omega), if_neg (by omega), if_neg (by omega), if_neg (by omega)]
    rw [e2] at hk
    exact hk
end Is
end Go.Proofs.YtblmagcekfbgdaaGreatDoor
