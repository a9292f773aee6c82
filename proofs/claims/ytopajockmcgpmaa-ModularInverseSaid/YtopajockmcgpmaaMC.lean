/- The landed code of package modular: Pow and its closure. -/
import Derived.Test.YtopajockmcgpmaaMB
namespace Go.Proofs.Ytopajockmcgpmaa
open Go Go.RowKit
namespace Nt
open Wd Sti
set_option linter.unusedVariables false
theorem noInts_1 (A : Option Addr) (n c : Nat) : noInts #[.slice A n c] := by
  intro i x h
  rcases i with _ | i
  · simp at h
  · simp at h
/-- the power at hand has been turned -/
def Turned (D : Nat) (w w' : World) (N : Int) (L : Nat) : Prop := ∃ A1 n1 c1 o1, Bk w' D 24 #[.slice A1 n1 c1] ∧ Hid (Is o1 N) ∧ Hid (Gd w' A1 n1 c1 o1 L) ∧ Asd D w w'
section
variable {w : World} {A B C : Option Addr} {na ca nb cb nc cc K L : Nat} {xs ys zs : List Int}
theorem times_m (D E : Nat) (hD : Bk w D 24 #[.slice A na ca]) (hE : Bk w E 24 #[.slice C nc cc]) (hne : E ≠ D)
    (ha : Hid (Gd w A na ca xs K)) (hb : Hid (Gd w B nb cb ys K)) (hc : Hid (Gd w C nc cc zs L)) (hK : K ≤ 65536) (hL : L ≤ 65536) (h0 : V zs ≠ 0) :
    Calls Try.prog 48 #[.slice B nb cb, .pointer (some ⟨D, 0, none⟩), .pointer (some ⟨E, 0, none⟩)] w fun e w' => (∃ v, e = .returned v) ∧ Turned D w w' (V xs * V ys % V zs) L := by
  have H1 := Lib.hid (mul3_m ha hb hc hK hL h0)
  have cD : w.cell? ⟨D, 0, none⟩ = some (.slice A na ca) := hD.cell 0
  have cE : w.cell? ⟨E, 0, none⟩ = some (.slice C nc cc) := hE.cell 0
  clear ha hb hc h0
  go_enter Try.func48, Try.ntmps48
  go_wp2_with fail
  go_at_call 17
  refine H1.out.mono ?_
  rintro e w1 ⟨v, rfl, A1, n1, c1, z1, rfl, i1, g1, hb1⟩
  have hD1 : Bk w1 D 24 #[.slice A na ca] := hD.below hb1 hD.lt
  have HB := Lib.hid hb1
  have cD1 : w1.cell? ⟨D, 0, none⟩ = some (.slice A na ca) := hD1.cell 0
  have fD1 : w1.frozen? ⟨D, 0, none⟩ = false := hD1.frozen 0
  clear H1 hb1 cD cE
  go_wp2_with fail
  go_end0
  have hA := Asd.set w1 D 0 (.slice A1 n1 c1)
  have hD2 := hD1.set_ 0 (.slice A1 n1 c1)
  exact ⟨⟨_, rfl⟩, A1, n1, c1, z1, hD2, i1, Gd.aside g1 hA hD1 (noInts_1 _ _ _), (Asd.of HB.out (Nat.le_of_lt hD.lt)).trans hA⟩
set_option maxRecDepth 100000 in
set_option maxHeartbeats 2000000 in
theorem pow_m (ha : Hid (Gd w A na ca xs K)) (hb : Hid (Gd w B nb cb ys K)) (hc : Hid (Gd w C nc cc zs L)) (hK : K ≤ 65536) (hL : L ≤ 65536) (h0 : V zs ≠ 0) (X : Nat) (hX : V ys = X) :
    Calls Try.prog 18 #[.slice A na ca, .slice B nb cb, .slice C nc cc] w fun e w' => ∃ v, e = .returned (.tuple #[v, .int .i64 0]) ∧ Res w w' v (V xs ^ X % V zs) L := by
  have H0 := Lib.hid h0
  have hbE : Below w.heap.size w (w.alloc (.cells #[.slice C nc cc] 24)) := below_alloc _
  have hb0 : Below w.heap.size w ((w.alloc (.cells #[.slice C nc cc] 24)).alloc (.cells #[.int .u64 1] 29)) := hbE.alloc (by simp) _
  have hone := one_lit (w.alloc (.cells #[.slice C nc cc] 24))
  have esz : (w.alloc (.cells #[.slice C nc cc] 24)).heap.size = w.heap.size + 1 := by simp
  rw [esz] at hone
  have H1 : Hid (Calls Try.prog 38 #[.slice (some ⟨w.heap.size + 1, 0, none⟩) 1 1, .slice C nc cc] ((w.alloc (.cells #[.slice C nc cc] 24)).alloc (.cells #[.int .u64 1] 29)) fun e w' => ∃ v, e = .returned (.tuple #[v, .int .i64 0]) ∧ Res ((w.alloc (.cells #[.slice C nc cc] 24)).alloc (.cells #[.int .u64 1] 29)) w' v (V [1] % V zs) L) := Lib.hid (rest_m hone (Gd.step hc hb0) (by omega) (by omega) h0)
  have hE0 : Bk ((w.alloc (.cells #[.slice C nc cc] 24)).alloc (.cells #[.int .u64 1] 29)) w.heap.size 24 #[.slice C nc cc] := (Bk.new _ _ _).alloc _
  clear h0 hbE hone esz
  go_enter Try.func18, Try.ntmps18
  try simp only [List.append]
  go_wp2_with fail
  go_at_call 38
  refine H1.out.mono ?_
  rintro e w1 ⟨v, rfl, A1, n1, c1, z1, rfl, i1, g1, hb1⟩
  have hE1 : Bk w1 w.heap.size 24 #[.slice C nc cc] := hE0.below hb1 hE0.lt
  replace hb1 := below_trans hb0 hb1
  have HB := Lib.hid hb1
  replace ha := Gd.step ha hb1
  replace hb := Gd.step hb hb1
  replace hc := Gd.step hc hb1
  clear H1 hb1 hb0 hE0
  have hba := nbits_R hb.out.at_.ws.trim (trim_trim ys)
  rw [V_trim, hX] at hba
  have hbal := nbits_le hb.out.at_.ws.trim
  have hla := trim_le ys
  rw [hb.out.at_.len] at hla
  have hKn := hb.out.le
  have hbD : Below w1.heap.size w1 (w1.alloc (.cells #[.slice A1 n1 c1] 24)) := below_alloc _
  have hE2 : Bk (w1.alloc (.cells #[.slice A1 n1 c1] 24)) w.heap.size 24 #[.slice C nc cc] := hE1.alloc _
  have hD2 : Bk (w1.alloc (.cells #[.slice A1 n1 c1] 24)) w1.heap.size 24 #[.slice A1 n1 c1] := Bk.new _ _ _
  have hDE := Lib.hid (show w.heap.size ≠ w1.heap.size from Nat.ne_of_lt hE1.lt)
  have hDL := Lib.hid (show w.heap.size ≤ w1.heap.size from Nat.le_of_lt hE1.lt)
  replace HB := Lib.hid (below_trans HB.out hbD)
  replace ha := Gd.step ha hbD
  replace hb := Gd.step hb hbD
  replace hc := Gd.step hc hbD
  replace g1 := Gd.step g1 hbD
  have cE2 : (w1.alloc (.cells #[.slice A1 n1 c1] 24)).cell? ⟨w.heap.size, 0, none⟩ = some (.slice C nc cc) := hE2.cell 0
  have H2 := Lib.hid (rest_m ha hc (by omega) (by omega) H0.out)
  clear hbD hE1
  go_wp2_with fail
  go_at_call 38
  refine H2.out.mono ?_
  rintro e w2 ⟨v, rfl, A2, n2, c2, z2, rfl, i2, g2, hb2⟩
  have hE3 := hE2.below hb2 hE2.lt
  have hD3 := hD2.below hb2 hD2.lt
  replace HB := Lib.hid (below_trans HB.out hb2)
  replace hb := Gd.step hb hb2
  replace hc := Gd.step hc hb2
  replace g1 := Gd.step g1 hb2
  have KB := Lib.hid (bits_u (Lib.hid hb.out.at_) (by omega) hb.out.cap hb.out.max)
  generalize nbits (trim ys) = be at *
  have HBA := Lib.hid hba
  have hbe : be ≤ 4194304 := by omega
  clear H2 hb2 hE2 hD2 cE2 hba hbal hla hKn
  go_wp2_with fail
  go_at_call 40
  refine KB.out.mono ?_
  rintro e w3 ⟨rfl, hb3⟩
  have hE4 := Lib.hid (hE3.below hb3 hE3.lt)
  have hD4 := Lib.hid (hD3.below hb3 hD3.lt)
  replace HB := Lib.hid (below_trans HB.out hb3)
  replace hb := Gd.step hb hb3
  replace hc := Gd.step hc hb3
  replace g1 := Gd.step g1 hb3
  replace g2 := Gd.step g2 hb3
  have HE := Lib.hid hX
  clear KB hb3 hE3 hD3 hX
  obtain ⟨D, hDd⟩ : ∃ D, D = w1.heap.size := ⟨_, rfl⟩
  rw [← hDd] at hD4 hDE hDL
  go_wp2_with fail
  rw [← hDd]
  clear hDd
  go_loopw [11] (fun i W => ∃ (j : Nat) (A1 : Option Addr) (n1 c1 : Nat) (o : List Int), j ≤ be ∧ i = .int .i64 ((j : Int) - 1) ∧ Hid (Bk W D 24 #[.slice A1 n1 c1]) ∧ Hid (Is o (V xs ^ (X / 2 ^ j) % V zs)) ∧ Hid (Gd W A1 n1 c1 o L) ∧ Hid (Asd D w3 W)) (fun i _ => (intOf i + 1).toNat)
  case atStart =>
    refine ⟨be, A1, n1, c1, z1, Nat.le_refl _, rfl, hD4, ?_, g1, Lib.hid (Asd.refl _ _)⟩
    have h1 : X / 2 ^ be = 0 := Nat.div_eq_of_lt (by have := HBA.out.up; have h2 : ((2 ^ be : Nat) : Int) = 2 ^ be := by simp
                                                     omega)
    rw [h1, Int.pow_zero]
    exact i1
  case round =>
    obtain ⟨j, A3, n3, c3, o, hj, rfl, hDr, io, go, HW⟩ := hrel
    have cD := hDr.out.cell 0
    have cD' : wr.cell? ⟨D, 0, none⟩ = some (.slice A3 n3 c3) := cD
    clear cD
    rcases Nat.eq_zero_or_pos j with rfl | hj0
    · have HR : Hid (Res w wr (.slice A3 n3 c3) (V xs ^ X % V zs) L) := Lib.hid ⟨A3, n3, c3, o, rfl, Lib.hid (by have := io.out; rwa [Nat.pow_zero, Nat.div_one] at this), go, HB.out.trans (HW.out.low.mono hDL.out)⟩
      clear io go hb hc g1 i1 g2 i2
      go_wp2_with fail
      go_ret2
      exact ⟨_, rfl, HR.out⟩
    · obtain ⟨i, rfl⟩ : ∃ i, j = i + 1 := ⟨j - 1, by omega⟩
      have hi : ((i + 1 : Nat) : Int) - 1 = (i : Int) := by omega
      rw [hi]
      clear hi
      have hii : (i : Int) ≤ 4194304 := by omega
      have hEr := HW.out.bk hE4.out hDE.out
      have hcr := Gd.aside hc HW.out hD4.out (noInts_1 _ _ _)
      have hbr := Gd.aside hb HW.out hD4.out (noInts_1 _ _ _)
      have hgr := Gd.aside g2 HW.out hD4.out (noInts_1 _ _ _)
      have K1 := Lib.hid (times_m D w.heap.size hDr.out hEr hDE.out go go hcr (by omega) (by omega) H0.out)
      have KBit := fun W (h : Hid (Gd W B nb cb ys K)) => Lib.hid (bit_n B nb cb W.heap.size i ys W h.out.at_ (WalkArith.wf_i64 (by omega)))
      rw [HE.out, bit_nat] at KBit
      have hhalf := half_nat X i
      have e1 := io.out.v
      go_wp2_with fail
      go_at_call 48
      refine K1.out.mono ?_
      rintro e w4 ⟨⟨v0, rfl⟩, A4, n4, c4, o4, hD5, i4, g4, hA4⟩
      have hE5 := hA4.bk hEr hDE.out
      have hc4 := Gd.aside hcr hA4 hDr.out (noInts_1 _ _ _)
      have hb4 := Gd.aside hbr hA4 hDr.out (noInts_1 _ _ _)
      have hg4 := Gd.aside hgr hA4 hDr.out (noInts_1 _ _ _)
      replace HW := Lib.hid (HW.out.trans hA4)
      replace hD5 := Lib.hid hD5
      rw [e1, pow_bit0] at i4
      clear K1 io go hEr hcr hbr hgr hA4
      by_cases hbit : X / 2 ^ i % 2 = 1
      · rw [decide_eq_true hbit] at KBit
        have K2 := Lib.hid (times_m D w.heap.size hD5.out hE5 hDE.out g4 hg4 hc4 (by omega) (by omega) H0.out)
        have HX : Hid (V xs ^ (2 * (X / 2 ^ (i + 1))) % V zs * V z2 % V zs = V xs ^ (X / 2 ^ i) % V zs) := Lib.hid (by rw [i2.out.v, mod_mul_r, pow_bit1]; congr 2; omega)
        have HV4 := Lib.hid i4.out.v
        clear hhalf hbit i4 e1
        go_wp2_with fail
        go_at_call 43
        refine (KBit _ hb4).out.mono ?_
        rintro e w4 ⟨rfl, he4⟩
        have HE4 := Lib.hid he4
        clear he4
        go_wp2_with fail
        go_at_call 48
        rw [HE4.out]
        refine K2.out.mono ?_
        rintro e w5 ⟨⟨v1, rfl⟩, A5, n5, c5, o5, hD6, i5, g5, hA5⟩
        replace HW := Lib.hid (HW.out.trans hA5)
        replace hD6 := Lib.hid hD6
        rw [HV4.out, HX.out] at i5
        clear K2 hA5 g4 HV4 HX KBit hc4 hb4 hg4 hE5
        go_wp2_with fail
        go_roundw
        case rel => exact ⟨i, _, _, _, _, by omega, rfl, hD6, i5, g5, HW⟩
        case measure => (simp [intOf] <;> omega)
      · rw [decide_eq_false hbit] at KBit
        rw [show 2 * (X / 2 ^ (i + 1)) = X / 2 ^ i by omega] at i4
        clear hhalf hbit e1
        go_wp2_with fail
        go_at_call 43
        refine (KBit _ hb4).out.mono ?_
        rintro e w4 ⟨rfl, he4⟩
        have HE4 := Lib.hid he4
        clear he4 KBit hc4 hb4 hg4 hE5
        go_wp2_with fail
        rw [HE4.out]
        go_roundw
        case rel => exact ⟨i, _, _, _, _, by omega, rfl, hD5, i4, g4, HW⟩
        case measure => (simp [intOf] <;> omega)
end
end Nt
end Go.Proofs.Ytopajockmcgpmaa
