/- The landed package encode: a place's bytes. | The landed package encode: a place's bytes, whole. | The landed package encode: what its operations share. -/
import Derived.Test.YtblmagcekfbgdaaGreatDoorP1
import Derived.Test.YtblmagcekfbgdaaGreatDoorK4
import Derived.Test.YtblmagcekfbgdaaGreatDoorG3
import Derived.Test.YtblmagcekfbgdaaGreatDoorL0
import Derived.Deep.RegionHeld3
import Derived.BigQuiet
import Derived.Deep.QuietTactic
namespace Go.Proofs.YtblmagcekfbgdaaGreatDoor
open Go Go.RowKit Go.Sort
namespace Is
open Nt
set_option linter.unusedVariables false
set_option linter.unusedSimpArgs false
theorem c4 {w : World} {I : Nat} {b x sc di : Int} (h : Bk w I 24 #[.int .i64 b, .int .i64 x, .int .i64 sc, .int .i64 di]) : w.cell? ⟨I, 0, none⟩ = some (.int .i64 b) ∧ w.cell? ⟨I, 1, none⟩ = some (.int .i64 x) ∧ w.cell? ⟨I, 2, none⟩ = some (.int .i64 sc) ∧ w.cell? ⟨I, 3, none⟩ = some (.int .i64 di) := ⟨h.cell 0, h.cell 1, h.cell 2, h.cell 3⟩
def dnZ (b di : Int) : Int := if di = 0 ∧ b % 8 ≠ 5 then 0 else if -128 ≤ di ∧ di < 128 then 1 else 4
def mdZ (b di : Int) : Int := if di = 0 ∧ b % 8 ≠ 5 then 0 else if -128 ≤ di ∧ di < 128 then 1 else 2
set_option maxRecDepth 100000 in
set_option maxHeartbeats 2000000 in
theorem size_l (b x sc di : Int) (hb : R16 b) (hd : -2147483648 ≤ di ∧ di < 2147483648) (w : World) : Calls Tryz.prog 97 #[.agg #[.int .i64 b, .int .i64 x, .int .i64 sc, .int .i64 di]] w fun e w' => e = .returned (.int .i64 (dnZ b di)) ∧ Below w.heap.size w w' := by
  have HL := Lib.hid (fun W => low_l b hb W)
  have HL5 := Lib.hid (fun W => low_l 5 (by unfold R16; decide) W)
  have HB0 := Lib.hid ((Below.refl w.heap.size w).alloc (Nat.le_refl _) (.cells #[.int .i64 b, .int .i64 x, .int .i64 sc, .int .i64 di] 24))
  have HD : Hid (dnZ b di = if di = 0 ∧ b % 8 ≠ 5 then 0 else if -128 ≤ di ∧ di < 128 then 1 else 4) := Lib.hid rfl
  rw [show (5 : Int) % 8 = 5 from rfl] at HL5
  clear hb
  generalize dnZ b di = z at *
  generalize b % 8 = q at *
  by_cases c0 : di = 0
  · subst c0
    by_cases c5 : q = 5
    · subst c5
      rw [if_neg (by omega), if_pos (by omega)] at HD
      obtain rfl := HD.out
      clear hd
      go_enter Tryz.func97, Tryz.ntmps97
      go_wp2_with (first | (go_at_call 85; first | (refine (HL5.out _).mono ?_; rintro e w' ⟨rfl, rfl⟩) | (refine (HL.out _).mono ?_; rintro e w' ⟨rfl, rfl⟩)))
      go_ret
      exact ⟨rfl, HB0.out⟩
    · rw [if_pos ⟨rfl, c5⟩] at HD
      obtain rfl := HD.out
      clear hd
      have n5 : (q == 5) = false := by rw [beq_eq_false_iff_ne]; exact c5
      go_enter Tryz.func97, Tryz.ntmps97
      go_wp2_with (first | (go_at_call 85; first | (refine (HL5.out _).mono ?_; rintro e w' ⟨rfl, rfl⟩) | (refine (HL.out _).mono ?_; rintro e w' ⟨rfl, rfl⟩)))
      go_ret
      exact ⟨rfl, HB0.out⟩
  · have n0 : (di == 0) = false := by rw [beq_eq_false_iff_ne]; exact c0
    rw [if_neg (fun h => c0 h.1)] at HD
    by_cases c1 : -128 ≤ di ∧ di < 128
    · rw [if_pos c1] at HD
      obtain rfl := HD.out
      have E : IntKind.i8.wrap di = di := by
        have : IntKind.i8.wrap di = (di + 128) % 256 - 128 := by unfold IntKind.wrap; simp [IntKind.signed, IntKind.bits]; omega
        omega
      have E2 : wrap64 di = di := IntWalk.wrap64_in _ (by omega)
      clear c1 hd
      go_enter Tryz.func97, Tryz.ntmps97
      go_wp2_with fail
      go_ret
      exact ⟨rfl, HB0.out⟩
    · rw [if_neg c1] at HD
      obtain rfl := HD.out
      have E : (di == wrap64 (IntKind.i8.wrap di)) = false := by
        have : IntKind.i8.wrap di = (di + 128) % 256 - 128 := by unfold IntKind.wrap; simp [IntKind.signed, IntKind.bits]; omega
        rw [IntWalk.wrap64_in _ (by omega), beq_eq_false_iff_ne]; omega
      clear c1 hd
      go_enter Tryz.func97, Tryz.ntmps97
      go_wp2_with fail
      go_ret
      exact ⟨rfl, HB0.out⟩
theorem mode_l (b di : Int) (w : World) : Calls Tryz.prog 98 #[.int .i64 (dnZ b di)] w fun e w' => e = .returned (.int .u8 (mdZ b di)) ∧ w' = w := by
  have h : (dnZ b di = 0 ∧ mdZ b di = 0) ∨ (dnZ b di = 1 ∧ mdZ b di = 1) ∨ (dnZ b di = 4 ∧ mdZ b di = 2) := by
    unfold dnZ mdZ
    by_cases c0 : di = 0 ∧ b % 8 ≠ 5
    · rw [if_pos c0, if_pos c0]; simp
    · rw [if_neg c0, if_neg c0]
      by_cases c1 : -128 ≤ di ∧ di < 128
      · rw [if_pos c1, if_pos c1]; simp
      · rw [if_neg c1, if_neg c1]; simp
  generalize dnZ b di = p at *
  generalize mdZ b di = q at *
  rcases h with ⟨rfl, rfl⟩ | ⟨rfl, rfl⟩ | ⟨rfl, rfl⟩
  all_goals
    go_enter Tryz.func98, Tryz.ntmps98
    go_wp2_with fail
    go_ret
    exact ⟨rfl, rfl⟩
def ndB (b x : Int) : Bool := decide (¬ (x = -1 ∧ b % 8 ≠ 4))
set_option maxRecDepth 100000 in
set_option maxHeartbeats 1000000 in
theorem needs_l (b x sc di : Int) (hb : R16 b) (w : World) : Calls Tryz.prog 99 #[.agg #[.int .i64 b, .int .i64 x, .int .i64 sc, .int .i64 di]] w fun e w' => e = .returned (.bool (ndB b x)) ∧ Below w.heap.size w w' := by
  have HL := Lib.hid (fun W => low_l b hb W)
  have HB0 := Lib.hid ((Below.refl w.heap.size w).alloc (Nat.le_refl _) (.cells #[.int .i64 b, .int .i64 x, .int .i64 sc, .int .i64 di] 24))
  have HD : Hid (ndB b x = decide (¬ (x = -1 ∧ b % 8 ≠ 4))) := Lib.hid rfl
  clear hb
  generalize ndB b x = z at *
  generalize b % 8 = q at *
  by_cases c0 : x = -1
  · subst c0
    go_enter Tryz.func99, Tryz.ntmps99
    go_wp2_with (go_at_call 85; (refine (HL.out _).mono ?_; rintro e w' ⟨rfl, rfl⟩))
    all_goals
      go_ret
      exact ⟨by rw [HD.out]; by_cases h4 : q = 4 <;> simp [h4], HB0.out⟩
  · have n0 : (x == -1) = false := by rw [beq_eq_false_iff_ne]; exact c0
    go_enter Tryz.func99, Tryz.ntmps99
    go_wp2_with fail
    go_ret
    exact ⟨by rw [HD.out]; simp [c0], HB0.out⟩
theorem or_sib {p q r : Int} (p1 : 0 ≤ p) (p2 : p ≤ 3) (q1 : 0 ≤ q) (q2 : q ≤ 7) (r1 : 0 ≤ r) (r2 : r ≤ 7) : bits BinOp.or IntKind.u8 (bits BinOp.or IntKind.u8 (p * 64) (q * 8)) r = 64 * p + 8 * q + r := by
  rcases (show p = 0 ∨ p = 1 ∨ p = 2 ∨ p = 3 by omega) with rfl | rfl | rfl | rfl <;>
  rcases (show q = 0 ∨ q = 1 ∨ q = 2 ∨ q = 3 ∨ q = 4 ∨ q = 5 ∨ q = 6 ∨ q = 7 by omega) with rfl | rfl | rfl | rfl | rfl | rfl | rfl | rfl <;>
  rcases (show r = 0 ∨ r = 1 ∨ r = 2 ∨ r = 3 ∨ r = 4 ∨ r = 5 ∨ r = 6 ∨ r = 7 by omega) with rfl | rfl | rfl | rfl | rfl | rfl | rfl | rfl <;> rfl
end Is
end Go.Proofs.YtblmagcekfbgdaaGreatDoor
namespace Go.Proofs.YtblmagcekfbgdaaGreatDoor
open Go Go.RowKit Go.Sort
namespace Is
open Nt
set_option linter.unusedVariables false
set_option linter.unusedSimpArgs false
theorem TabE.drewN {w : World} (h : TabE w) (n : Nat) : TabE (w.drewN n) := ⟨⟨h.inst.lt, h.inst.nm, h.inst.pt, h.inst.nu, h.inst.ft, h.inst.fm⟩, h.lt, h.own, h.tlt, h.tz⟩
theorem sc_bb (sc : Int) : 0 ≤ scI sc ∧ scI sc ≤ 3 := by unfold scI; split <;> (try split) <;> (try split) <;> omega
set_option maxRecDepth 100000 in
set_option maxHeartbeats 2000000 in
theorem scaled_l (b x sc di : Int) (hb : R16 b) (hx : x = -1 ∨ R16 x) (hs : ScOk sc) (w : World) (hT : TabE w) : Calls Tryz.prog 100 #[.agg #[.int .i64 b, .int .i64 x, .int .i64 sc, .int .i64 di]] w fun e w' => e = .returned (.int .u8 (64 * scI sc + 8 * xiI x + b % 8)) ∧ Below w.heap.size w w' := by
  have HL := Lib.hid (fun W => low_l b hb W)
  have HZ := Lib.hid (fun W hT => tz_l sc hs W hT)
  have HB0 := Lib.hid ((Below.refl w.heap.size w).alloc (Nat.le_refl _) (.cells #[.int .i64 b, .int .i64 x, .int .i64 sc, .int .i64 di] 24))
  have HI0 := Lib.hid (Bk.new w 24 #[.int .i64 b, .int .i64 x, .int .i64 sc, .int .i64 di])
  have HT0 := Lib.hid (hT.keep HB0.out)
  have p12 := sc_bb sc
  have p1 := p12.1
  have p2 := p12.2
  have r1 : 0 ≤ b % 8 := by omega
  have r2 : b % 8 ≤ 7 := by omega
  have esc : IntKind.u64.wrap sc = sc := by rcases hs with rfl | rfl | rfl | rfl <;> rfl
  have q1 : 0 ≤ xiI x := by unfold xiI; split <;> omega
  have q2 : xiI x ≤ 7 := by unfold xiI; split <;> omega
  have HE := Lib.hid (or_sib p1 p2 q1 q2 r1 r2)
  have HQ : Hid (xiI x = if x = -1 then 4 else x % 8) := Lib.hid rfl
  have HX := Lib.hid (fun (h : R16 x) W => low_l x h W)
  obtain ⟨a0, a1, a2, a3⟩ := c4 HI0.out
  clear hb hs p12 hT
  generalize 64 * scI sc + 8 * xiI x + b % 8 = z at *
  generalize b % 8 = r at *
  generalize x % 8 = x8 at *
  generalize scI sc = p at *
  generalize xiI x = q at *
  by_cases c0 : x = -1
  · subst c0
    rw [if_pos rfl] at HQ
    obtain rfl := HQ.out
    clear hx HX
    go_enter Tryz.func100, Tryz.ntmps100
    go_wp2_with fail
    go_quiet (first | exact Calls.quiet_of_same (HL.out _) | exact Calls.quiet_of_same (HZ.out _ (HT0.out.drewN _)))
    go_wp2_with fail
    go_ret
    exact ⟨by rw [← HE.out]; rfl, below_drewN HB0.out _⟩
  · have n0 : (x == -1) = false := by rw [beq_eq_false_iff_ne]; exact c0
    rw [if_neg c0] at HQ
    obtain rfl := HQ.out
    have hR : R16 x := by rcases hx with h | h; exact absurd h c0; exact h
    have HLX := Lib.hid (HX.out hR)
    clear hx HX hR
    go_enter Tryz.func100, Tryz.ntmps100
    go_wp2_with fail
    go_at_call 85
    refine (HLX.out _).mono ?_
    rintro e w' ⟨rfl, rfl⟩
    go_wp2_with fail
    go_quiet (first | exact Calls.quiet_of_same (HL.out _) | exact Calls.quiet_of_same (HZ.out _ (HT0.out.drewN _)))
    go_wp2_with fail
    go_ret
    exact ⟨by rw [← HE.out]; rfl, below_drewN HB0.out _⟩
theorem Kp.of_below {w w' : World} {v : Value} (h : Below w.heap.size w w') : Kp w v w' v := ⟨⟨h.os, h.tape, h.output, h.size, fun k hk _ => h.block k hk⟩, .inl rfl⟩
set_option maxRecDepth 100000 in
set_option maxHeartbeats 4000000 in
theorem place_l {w : World} {B : Nat} {v : Value} {xs : List Int} (i : Ins) (m : Int) (hm : R16 m) (hp : Pl i) (hT : TabE w) (ho : Rw B v xs w) (hk : xs.length ≤ 900000) (hB : B ≤ w.heap.size) :
    Calls Tryz.prog 87 #[v, .int .i64 m, .agg #[.int .i64 i.b, .int .i64 i.x, .int .i64 i.sc, .int .i64 i.di]] w (OutF B v (xs ++ plcL m i) w) := by
  obtain ⟨A, c, rfl⟩ := slice_of ho
  have HPL : Hid (plcL m i = (64 * mdI i + 8 * (m % 8) + (if i.x = -1 ∧ i.b % 8 ≠ 4 then i.b % 8 else 4)) :: (sibL i ++ ltl i.di (dnI i))) := Lib.hid rfl
  have HSB : Hid (sibL i = if i.x = -1 ∧ i.b % 8 ≠ 4 then [] else [64 * scI i.sc + 8 * xiI i.x + i.b % 8]) := Lib.hid rfl
  have HMD : Hid (mdI i = mdZ i.b i.di) := Lib.hid rfl
  have HDN : Hid (dnZ i.b i.di = (dnI i : Int) ∧ dnI i ≤ 4) := Lib.hid (by
    unfold dnZ dnI
    by_cases c0 : i.di = 0 ∧ i.b % 8 ≠ 5
    · rw [if_pos c0, if_pos c0]; simp
    · rw [if_neg c0, if_neg c0]
      by_cases c1 : -128 ≤ i.di ∧ i.di < 128
      · rw [if_pos c1, if_pos c1]; simp
      · rw [if_neg c1, if_neg c1]; simp)
  obtain ⟨hb, hd, hx⟩ := hp
  obtain ⟨op, d, s, t, b, x, sc, di, im⟩ := i
  dsimp only at *
  generalize plcL m ⟨op, d, s, t, b, x, sc, di, im⟩ = L at *
  generalize sibL ⟨op, d, s, t, b, x, sc, di, im⟩ = SB at *
  generalize mdI ⟨op, d, s, t, b, x, sc, di, im⟩ = md at *
  generalize dnI ⟨op, d, s, t, b, x, sc, di, im⟩ = dn at *
  have hx2 : x = -1 ∨ R16 x := by rcases hx with h | h; exact .inl h.1; exact .inr h.1
  have hs2 : ScOk sc := by rcases hx with h | h; exact .inl h.2; exact h.2.2
  have HSZ := Lib.hid (fun W => size_l b x sc di hb hd W)
  have HMO := Lib.hid (fun W => mode_l b di W)
  have HND := Lib.hid (fun W => needs_l b x sc di hb W)
  have HSC := Lib.hid (fun W hT => scaled_l b x sc di hb hx2 hs2 W hT)
  have HLM := Lib.hid (fun W => low_l m hm W)
  have HLB := Lib.hid (fun W => low_l b hb W)
  have HNB : Hid (ndB b x = decide (¬ (x = -1 ∧ b % 8 ≠ 4))) := Lib.hid rfl
  have md1 : 0 ≤ mdZ b di := by unfold mdZ; split <;> (try split) <;> omega
  have md2 : mdZ b di ≤ 3 := by unfold mdZ; split <;> (try split) <;> omega
  have m1 : 0 ≤ m % 8 := by omega
  have m2 : m % 8 ≤ 7 := by omega
  have b1 : 0 ≤ b % 8 := by omega
  have b2 : b % 8 ≤ 7 := by omega
  have HE1 := Lib.hid (or_sib md1 md2 m1 m2 b1 b2)
  have HE2 := Lib.hid (or_sib md1 md2 m1 m2 (show (0 : Int) ≤ 4 by decide) (by decide))
  have HB0 := Lib.hid ((Below.refl w.heap.size w).alloc (Nat.le_refl _) (.cells #[.int .i64 b, .int .i64 x, .int .i64 sc, .int .i64 di] 24))
  have HI0 := Lib.hid (Bk.new w 24 #[.int .i64 b, .int .i64 x, .int .i64 sc, .int .i64 di])
  have HO0 := Lib.hid (own_keep ho HB0.out)
  have HT0 := Lib.hid (hT.keep HB0.out)
  have HKB := Lib.hid (And.intro hk hB)
  have HVL := Lib.hid (own_lt ho)
  clear hx hx2 hs2 hd hb hm ho hT hk hB
  generalize 64 * scI sc + 8 * xiI x + b % 8 = sib at *
  rw [HMD.out] at HPL
  clear HMD
  generalize ndB b x = nd at *
  generalize dnZ b di = dz at *
  generalize mdZ b di = mz at *
  generalize m % 8 = m8 at *
  generalize hb8 : b % 8 = b8 at *
  clear hb8
  obtain ⟨a0, a1, a2, a3⟩ := c4 HI0.out
  go_enter Tryz.func87, Tryz.ntmps87
  go_wp2_with fail
  go_at_call 97
  refine (HSZ.out _).mono ?_
  rintro e w1 ⟨rfl, hb1⟩
  have HB1 : Hid (Below w.heap.size w w1) := Lib.hid (HB0.out.trans (hb1.mono HB0.out.size))
  have HI1 := Lib.hid (HI0.out.below hb1 HI0.out.lt)
  have HO1 := Lib.hid (own_keep HO0.out hb1)
  have HT1 := Lib.hid (HT0.out.keep hb1)
  clear a0 a1 a2 a3 hb1 HB0 HI0 HO0 HT0 HSZ
  obtain ⟨a0, a1, a2, a3⟩ := c4 HI1.out
  go_wp2_with fail
  go_at_call 98
  refine (HMO.out _).mono ?_
  rintro e w' ⟨rfl, rfl⟩
  go_wp2_with fail
  go_at_call 85
  refine (HLM.out _).mono ?_
  rintro e w' ⟨rfl, rfl⟩
  go_wp2_with fail
  go_at_call 99
  refine (HND.out _).mono ?_
  rintro e w2 ⟨rfl, hb2⟩
  have HB2 := Lib.hid (HB1.out.trans (hb2.mono HB1.out.size))
  have HI2 := Lib.hid (HI1.out.below hb2 HI1.out.lt)
  have HO2 := Lib.hid (own_keep HO1.out hb2)
  have HT2 := Lib.hid (HT1.out.keep hb2)
  clear a0 a1 a2 a3 hb2 HB1 HI1 HO1 HT1
  obtain ⟨a0, a1, a2, a3⟩ := c4 HI2.out
  have hNE : some w.heap.size ≠ (Value.slice A xs.length c).ownBlock := fun e => by have := (HVL.out _ e.symm).2; omega
  have HNE := Lib.hid hNE
  clear hNE
  by_cases hn : x = -1 ∧ b8 ≠ 4
  · have hnd := HNB.out
    rw [decide_eq_false (fun h => h hn)] at hnd
    subst hnd
    rw [if_pos hn] at HPL HSB
    obtain rfl := HSB.out
    rw [← HE1.out, List.nil_append] at HPL
    clear hn HNB HSB HND HSC
    go_wp2_with fail
    go_at_call 85
    refine (HLB.out _).mono ?_
    rintro e w' ⟨rfl, rfl⟩
    go_wp2_with fail
    go_at_call 82
    refine (put_new [_] 1 rfl HO2.out (by have := HKB.out.1; omega) (Nat.le_trans HKB.out.2 HB2.out.size)).mono ?_
    rintro e w3 ⟨v3, rfl, o3, k3⟩
    have HI3 := Lib.hid (k3.bk HI2.out HNE.out)
    have HK3 := Lib.hid ((Kp.of_below HB2.out).trans k3)
    have HO3 := Lib.hid o3
    clear a0 a1 a2 a3 o3 k3
    obtain ⟨a0, a1, a2, a3⟩ := c4 HI3.out
    obtain ⟨rfl, hdn4⟩ := HDN.out
    have HD4 := Lib.hid hdn4
    clear hdn4
    go_wp2_with fail
    go_at_call 86
    refine (number_l di dn (by have := HD4.out; omega) HO3.out (by have := HKB.out.1; simp; omega) (Nat.le_trans HKB.out.2 HK3.out.grown.size)).mono ?_
    rintro e w4 ⟨v4, rfl, o4, k4⟩
    have HK4 := Lib.hid (HK3.out.trans k4)
    have HO4 := Lib.hid o4
    clear o4 k4 a0 a1 a2 a3
    go_wp2_with fail
    go_ret
    refine ⟨_, rfl, ?_, HK4.out⟩
    rw [HPL.out]
    have h := HO4.out
    rw [List.append_assoc] at h
    exact h
  · have hnd := HNB.out
    rw [decide_eq_true hn] at hnd
    subst hnd
    rw [if_neg hn] at HPL HSB
    obtain rfl := HSB.out
    rw [← HE2.out] at HPL
    clear hn HNB HSB HND HLB
    go_wp2_with fail
    go_at_call 100
    refine (HSC.out _ HT2.out).mono ?_
    rintro e w3 ⟨rfl, hb3⟩
    have HB3 := Lib.hid (HB2.out.trans (hb3.mono HB2.out.size))
    have HI3 := Lib.hid (HI2.out.below hb3 HI2.out.lt)
    have HO3 := Lib.hid (own_keep HO2.out hb3)
    clear a0 a1 a2 a3 hb3 HB2 HI2 HO2 HT2
    obtain ⟨a0, a1, a2, a3⟩ := c4 HI3.out
    go_wp2_with fail
    go_at_call 82
    refine (put_new [_, _] 2 rfl HO3.out (by have := HKB.out.1; omega) (Nat.le_trans HKB.out.2 HB3.out.size)).mono ?_
    rintro e w4 ⟨v4, rfl, o4, k4⟩
    have HI4 := Lib.hid (k4.bk HI3.out HNE.out)
    have HK4 := Lib.hid ((Kp.of_below HB3.out).trans k4)
    have HO4 := Lib.hid o4
    clear a0 a1 a2 a3 o4 k4
    obtain ⟨a0, a1, a2, a3⟩ := c4 HI4.out
    obtain ⟨rfl, hdn4⟩ := HDN.out
    have HD4 := Lib.hid hdn4
    clear hdn4
    go_wp2_with fail
    go_at_call 86
    refine (number_l di dn (by have := HD4.out; omega) HO4.out (by have := HKB.out.1; simp; omega) (Nat.le_trans HKB.out.2 HK4.out.grown.size)).mono ?_
    rintro e w5 ⟨v5, rfl, o5, k5⟩
    have HK5 := Lib.hid (HK4.out.trans k5)
    have HO5 := Lib.hid o5
    clear o5 k5 a0 a1 a2 a3
    go_wp2_with fail
    go_ret
    refine ⟨_, rfl, ?_, HK5.out⟩
    rw [HPL.out]
    have h := HO5.out
    rw [List.append_assoc] at h
    exact h
end Is
end Go.Proofs.YtblmagcekfbgdaaGreatDoor
namespace Go.Proofs.YtblmagcekfbgdaaGreatDoor
open Go Go.RowKit Go.Sort
namespace Is
open Nt
set_option linter.unusedVariables false
set_option linter.unusedSimpArgs false
/-- the tables lie below B -/
structure G3 (B : Nat) : Prop where
  forms : 0 < B
  own : 1 < B
  tz : 3 < B
theorem Tab.keepB {B : Nat} {w w' : World} (h : Tab w) (hg : 0 < B) (hb : Below B w w') : Tab w' := by
  have hc : ∀ i, w'.cell? ⟨0, i, none⟩ = w.cell? ⟨0, i, none⟩ := fun i => hb.cell (p := ⟨0, i, none⟩) hg
  exact ⟨Nat.lt_of_lt_of_le h.lt hb.size, fun k hk => (hc _).trans (h.nm k hk), fun k hk => (hc _).trans (h.pt k hk), fun k hk => (hc _).trans (h.nu k hk), fun k hk => (hc _).trans (h.ft k hk), fun k hk => (hc _).trans (h.fm k hk)⟩
theorem TabE.keepB {B : Nat} {w w' : World} (h : TabE w) (hg : G3 B) (hb : Below B w w') : TabE w' :=
  ⟨h.inst.keepB hg.forms hb, Nat.lt_of_lt_of_le h.lt hb.size, fun k hk => (hb.cell (p := ⟨1, k, none⟩) hg.own).trans (h.own k hk),
   Nat.lt_of_lt_of_le h.tlt hb.size, fun k hk => (hb.cell (p := ⟨3, k, none⟩) hg.tz).trans (h.tz k hk)⟩
/-- all that a walk through an operation needs of the world at hand: the instruction's block I, the tables, v's block from B on -/
structure St (B I : Nat) (cs : Array Value) (v : Value) (W : World) : Prop where
  bk : Bk W I 26 cs
  tab : TabE W
  g3 : G3 B
  hB : B ≤ W.heap.size
  hv : ∀ g, v.ownBlock = some g → B ≤ g
  ne : some I ≠ v.ownBlock
theorem St.kp {B I : Nat} {cs : Array Value} {v v' : Value} {W W' : World} (h : St B I cs v W) (k : Kp W v W' v') : St B I cs v' W' := by
  refine ⟨k.bk h.bk h.ne, h.tab.keepB h.g3 (k.below h.hB h.hv), h.g3, Nat.le_trans h.hB k.grown.size, fun g hg => ?_, ?_⟩
  · rcases k.own with e | ⟨g2, e, h2⟩
    · exact h.hv g (e ▸ hg)
    · rw [e] at hg; cases hg; exact Nat.le_trans h.hB h2
  · rcases k.own with e | ⟨g2, e, h2⟩
    · rw [e]; exact h.ne
    · rw [e]; intro e3; cases e3; have := h.bk.lt; omega
theorem St.drew {B I : Nat} {cs : Array Value} {v : Value} {W : World} (h : St B I cs v W) : St B I cs v W.drew := h.kp ((Kp.refl W v).drew)
theorem St.alloc {B I : Nat} {cs : Array Value} {v : Value} {W : World} (h : St B I cs v W) (o : Obj) : St B I cs v (W.alloc o) := h.kp ((Kp.refl W v).alloc o)
theorem St.ten {B I k : Nat} {op d s t b x sc di im : Int} {v : Value} {W : World} (h : St B I #[.int .i64 op, .int .i64 d, .int .i64 s, .int .i64 t, .int .i64 b, .int .i64 x, .int .i64 sc, .int .i64 di, .int .i64 im] v W) (hk : k < 34) :
    W.cell? ⟨I, 0, none⟩ = some (.int .i64 op) ∧ W.cell? ⟨I, 1, none⟩ = some (.int .i64 d) ∧ W.cell? ⟨I, 2, none⟩ = some (.int .i64 s) ∧ W.cell? ⟨I, 3, none⟩ = some (.int .i64 t) ∧ W.cell? ⟨I, 4, none⟩ = some (.int .i64 b) ∧ W.cell? ⟨I, 5, none⟩ = some (.int .i64 x) ∧ W.cell? ⟨I, 6, none⟩ = some (.int .i64 sc) ∧ W.cell? ⟨I, 7, none⟩ = some (.int .i64 di) ∧ W.cell? ⟨I, 8, none⟩ = some (.int .i64 im) ∧ W.cell? ⟨1, k, none⟩ = some (.int .u8 (ownAt k)) :=
  ⟨h.bk.cell 0, h.bk.cell 1, h.bk.cell 2, h.bk.cell 3, h.bk.cell 4, h.bk.cell 5, h.bk.cell 6, h.bk.cell 7, h.bk.cell 8, h.tab.own k hk⟩
theorem St.new {B : Nat} {cs : Array Value} {v : Value} {xs : List Int} {w : World} (hT : TabE w) (hG : G3 B) (ho : Rw B v xs w) (hB : B ≤ w.heap.size) : St B w.heap.size cs v (w.alloc (.cells cs 26)) :=
  ⟨Bk.new w 26 cs, hT.keep ((Below.refl w.heap.size w).alloc (Nat.le_refl _) _), hG, Nat.le_trans hB (by simp), fun g hg => (own_lt ho g hg).1, fun e => by have := (own_lt ho _ e.symm).2; omega⟩
theorem rx_m1 : Rx (-1) := by unfold Rx; decide
theorem r16_0' : R16 0 := by unfold R16; decide
end Is
end Go.Proofs.YtblmagcekfbgdaaGreatDoor
