/- Div: quotient and rest, bit by bit. -/
import Derived.Test.YtdklchejnpaenaaDoorNatDv
import Derived.Test.YtdklchejnpaenaaDoorUni2
namespace Go.Proofs.YtdklchejnpaenaaDoor
open Go Go.RowKit
namespace Nt
open Wd Sti
set_option linter.unusedVariables false

theorem Bk.other {w w' : World} {g g' : Nat} {t : TypeId} {cs : Array Value} (h : Bk w g t cs) (hg : w.grownBy w' (some g')) (hne : g ≠ g') : Bk w' g t cs :=
  (hg.block g h.lt (fun e => hne (by injection e))).trans h
theorem half_bit (V0 : Int) (i : Nat) : V0 / 2 ^ i = 2 * (V0 / 2 ^ (i + 1)) + V0 / 2 ^ i % 2 := by
  have h := pow_pos2 i
  rw [Int.pow_succ, ← Int.ediv_ediv_of_nonneg (by omega)]
  omega
theorem div_up {D' D b y : Int} (hy : 0 < y) (hD : D = 2 * D' + b) (hb : 0 ≤ b) (hb' : b ≤ 1) (h : y ≤ 2 * (D' % y) + b) : D % y = 2 * (D' % y) + b - y ∧ D / y = 2 * (D' / y) + 1 := by
  have h1 := Int.emod_add_mul_ediv D' y
  have h2 := Int.emod_nonneg D' (show y ≠ 0 by omega)
  have h3 := Int.emod_lt_of_pos D' hy
  have e : D = (2 * (D' % y) + b - y) + y * (2 * (D' / y) + 1) := by
    rw [Int.mul_add, Int.mul_one, Int.mul_left_comm]; omega
  rw [e]
  exact ⟨by rw [Int.add_mul_emod_self_left, Int.emod_eq_of_lt (a := 2 * (D' % y) + b - y) (by omega) (by omega)], by rw [Int.add_mul_ediv_left _ _ (by omega), Int.ediv_eq_zero_of_lt (a := 2 * (D' % y) + b - y) (by omega) (by omega)]; omega⟩
theorem div_dn {D' D b y : Int} (hy : 0 < y) (hD : D = 2 * D' + b) (hb : 0 ≤ b) (h : 2 * (D' % y) + b < y) : D % y = 2 * (D' % y) + b ∧ D / y = 2 * (D' / y) := by
  have h1 := Int.emod_add_mul_ediv D' y
  have h2 := Int.emod_nonneg D' (show y ≠ 0 by omega)
  have e : D = (2 * (D' % y) + b) + y * (2 * (D' / y)) := by rw [Int.mul_left_comm]; omega
  rw [e]
  exact ⟨by rw [Int.add_mul_emod_self_left, Int.emod_eq_of_lt (a := 2 * (D' % y) + b) (by omega) (by omega)], by rw [Int.add_mul_ediv_left _ _ (by omega), Int.ediv_eq_zero_of_lt (a := 2 * (D' % y) + b) (by omega) (by omega)]; omega⟩
theorem bitAt_nat (v : Int) (i : Nat) (h : 0 ≤ v) : b1 (bitAt v (i : Int)) = v / 2 ^ i % 2 := by
  unfold bitAt
  rw [decide_eq_true (by omega), Bool.true_and, Int.toNat_natCast]
  have h1 : 0 ≤ v / 2 ^ i := Int.ediv_nonneg h (by have := pow_pos2 i; omega)
  generalize v / 2 ^ i = d at *
  by_cases h2 : d % 2 = 1
  · rw [decide_eq_true h2, h2]; rfl
  · rw [decide_eq_false h2, b1_f]; omega
theorem below_grown {B : Nat} {a w w' : World} {r : Nat} (h : Below B a w) (hg : w.grownBy w' (some r)) (hB : B ≤ a.heap.size) (hr : B ≤ r) : Below B a w' := h.grown hg (Nat.le_trans hB h.size) (fun j e => by cases e; exact hr)

theorem div_zero (A B : Option Addr) (na ca nb cb : Nat) (xs ys : List Int) (w : World) (hb : Rd w w.heap.size B nb ys) (lb : nb ≤ cb ∧ nb ≤ 1048576) (lb' : cb ≤ 9223372036854775807) (h0 : V ys = 0) :
    Calls Tryd.prog 12 #[.slice A na ca, .slice B nb cb] w fun e w' => e = .returned (.tuple #[.slice none 0 0, .slice none 0 0, .int .i64 2]) ∧ Below w.heap.size w w' := by
  have HB := Lib.hid (bitsv_u (Lib.hid (show At w B nb ys from hb)) lb.2 lb.1 lb' 0 (by
    obtain ⟨m, hm, _⟩ := bits_ex hb
    have := hm.zero h0
    rw [← this]; exact hm))
  clear hb lb
  go_enter Tryd.func12, Tryd.ntmps12
  go_wp2_with fail
  go_at_call 23
  refine HB.out.mono ?_
  rintro e w' ⟨rfl, hb⟩
  have HBB := Lib.hid hb
  clear hb HB
  go_wp2_with fail
  go_ret3
  exact ⟨rfl, HBB.out⟩

set_option maxRecDepth 100000 in
set_option maxHeartbeats 8000000 in
theorem div_n (A B : Option Addr) (na ca nb cb : Nat) (xs ys : List Int) (w : World) (ha : Rd w w.heap.size A na xs) (hb : Rd w w.heap.size B nb ys) (la : na ≤ ca ∧ na ≤ 1048576) (la' : ca ≤ 9223372036854775807) (lb : nb ≤ cb ∧ nb ≤ 1048576) (lb' : cb ≤ 9223372036854775807) (h0 : V ys ≠ 0) :
    Calls Tryd.prog 12 #[.slice A na ca, .slice B nb cb] w fun e w' => ∃ v1 v2, e = .returned (.tuple #[v1, v2, .int .i64 0]) ∧ Ans w w' v1 (V xs / V ys) (na + 2) ∧ Ans w w' v2 (V xs % V ys) (nb + 2) := by
  obtain ⟨la, lan⟩ := la
  obtain ⟨lb, lbn⟩ := lb
  have hx0 := V_nonneg ha.ws
  have hy0 := V_nonneg hb.ws
  have hHY : 0 < V ys := by omega
  have hwd0 := nbits_R hb.ws.trim (trim_trim ys)
  have hba0 := nbits_R ha.ws.trim (trim_trim xs)
  rw [V_trim] at hwd0 hba0
  have hlb := trim_le ys
  have hla := trim_le xs
  rw [hb.len] at hlb
  rw [ha.len] at hla
  have hwdl := nbits_le hb.ws.trim
  have hbal := nbits_le ha.ws.trim
  have hyl : (trim ys).length ≤ (nbits (trim ys) + 63) / 64 := by
    have htop := trim_last (trim_trim ys)
    unfold nbits
    split
    · omega
    · rename_i hne
      have hw := hb.ws.trim.at_ ((trim ys).length - 1)
      have h1 := htop (fun e => hne (by rw [e]; rfl))
      have h2 := (bl_spec (Nt.at_ (trim ys) ((trim ys).length - 1)).toNat (by unfold Wd.W at hw; omega)).2.1 (by unfold Wd.W at hw; omega)
      omega
  have HB1 := fun w (h : Rd w w.heap.size B nb ys) => Lib.hid (bits_n B nb cb w.heap.size ys w h ⟨lb, by omega⟩ lb')
  have HB2 := fun w (h : Rd w w.heap.size A na xs) => Lib.hid (bits_n A na ca w.heap.size xs w h ⟨la, by omega⟩ la')
  have K1 := HB1 w hb
  have K2 := HB2 w ha
  have hty := hb.trim
  have HTY := fun w (h : Rd w w.heap.size B nb ys) => Lib.hid (trimmed_c B nb cb w.heap.size ys w h lb lb')
  have hVt := V_trim ys
  generalize nbits (trim ys) = wd at *
  generalize nbits (trim xs) = ba at *
  obtain ⟨l1, l2⟩ := hwd0.lo h0
  obtain ⟨st, hst⟩ : ∃ st : Nat, st = ba + 1 - wd := ⟨_, rfl⟩
  have hmx : max 0 ((ba : Int) - (wd : Int) + 1) = (st : Int) := by omega
  obtain ⟨m, hm⟩ : ∃ m, m = (wd + 1 + 63) / 64 := ⟨_, rfl⟩
  obtain ⟨mq, hmq⟩ : ∃ mq, mq = (st + 63) / 64 := ⟨_, rfl⟩
  have hsmall : V xs / 2 ^ st < V ys := by
    have h1 : V xs < 2 ^ st * 2 ^ (wd - 1) := by
      rw [← Int.pow_add]
      have h2 := hba0.up
      have h3 := pow_le (show ba ≤ st + (wd - 1) by omega)
      omega
    have h2 : V xs / 2 ^ st < 2 ^ (wd - 1) := Int.ediv_lt_of_lt_mul (by have := pow_pos2 st; omega) (by rw [Int.mul_comm]; exact h1)
    omega
  have hPm : 2 ^ (wd + 1) ≤ P m := by rw [← two_P]; exact pow_le (by omega)
  have hyP : 2 * V ys ≤ P m := by have := hwd0.up; rw [Int.pow_succ] at hPm; omega
  have hQ0 : 0 ≤ V xs / 2 ^ st := Int.ediv_nonneg hx0 (by have := pow_pos2 st; omega)
  have L1 := fun w => Lib.hid (limbsOf_c (wd + 1) w (by omega))
  have L2 := fun w => Lib.hid (limbsOf_c st w (by omega))
  rw [show wd + 1 + 63 = wd + 1 + 63 from rfl, ← hm] at L1
  rw [← hmq] at L2
  have hmk1 := make_row m (by omega)
  have hmk2 := make_row mq (by omega)
  have hwe : ((wd : Int) == 0) = false := by simp; omega
  have HST := Lib.hid hst
  have HM := Lib.hid hm
  have HMQ := Lib.hid hmq
  have HSM := Lib.hid hsmall
  have HYP := Lib.hid hyP
  have HVT := Lib.hid hVt
  have hm1 : m ≤ nb + 2 := by omega
  have hmq1 : mq ≤ na + 2 := by omega
  have hyl' : (trim ys).length ≤ m := by omega
  have hstb : st ≤ 68719476736 := by omega
  have HTY0 := Lib.hid hty
  clear hst hm hmq hsmall hyP hVt hwd0 hba0 HB1 HB2 hPm hyl hty
  generalize trim ys = zy at *
  go_enter Tryd.func12, Tryd.ntmps12
  go_wp2_with fail
  go_at_call 23
  refine K1.out.mono ?_; rintro e w' ⟨rfl, rfl⟩
  go_wp2_with fail
  go_at_call 23
  refine K2.out.mono ?_; rintro e w' ⟨rfl, rfl⟩
  clear K1 K2
  go_wp2_with fail
  go_at_call 45
  refine (L1 _).out.mono ?_; rintro e w' ⟨rfl, rfl⟩
  clear L1
  go_wp2_with fail
  obtain ⟨w, rfl⟩ : ∃ w, w = w' := ⟨_, rfl⟩
  go_at_call 46
  have hd := down_n A na ca w.heap.size m m st w.heap.size xs (List.replicate m 0) (w.alloc (.cells (us (List.replicate m 0)) 28)) (ha.below (below_alloc _)) (Nat.le_refl _) (Bk.new _ _ _) (Ws.zeros _) (by simp) (by omega) hstb
  refine hd.mono ?_
  rintro e w2 ⟨⟨v, rfl⟩, rs, g1, g2, g3, g4, g5⟩
  clear hd hmk1 hmx
  have hb2 : Below w.heap.size w w2 := below_of_own g5
  have HB2 := Lib.hid hb2
  rw [Int.emod_eq_of_lt hQ0 (by have := HSM.out; have := HYP.out; omega)] at g4
  have G4 := Lib.hid g4
  have G1 := Lib.hid g1
  clear g1 g4 g5 hb2
  go_wp2_with fail
  go_at_call 45
  refine (L2 _).out.mono ?_; rintro e w' ⟨rfl, rfl⟩
  clear L2
  go_wp2_with fail
  obtain ⟨w2, rfl⟩ : ∃ w2, w2 = w' := ⟨_, rfl⟩
  have AB3 : At (w2.alloc (.cells (us (List.replicate mq 0)) 28)) B nb ys := (At.step (At.step (Lib.hid (show At w B nb ys from hb)) HB2.out) (below_alloc _)).out
  have K3 := HTY _ AB3
  obtain ⟨nz, hnz⟩ : ∃ nz, nz = zy.length := ⟨_, rfl⟩
  rw [← hnz] at K3 hyl' hlb HTY0
  clear hnz
  have hB3 : Below w.heap.size w (w2.alloc (.cells (us (List.replicate mq 0)) 28)) := HB2.out.alloc HB2.out.size _
  have gr0 : Bk (w2.alloc (.cells (us (List.replicate mq 0)) 28)) w.heap.size 28 (us rs) := G1.out.alloc _
  have gq0 : Bk (w2.alloc (.cells (us (List.replicate mq 0)) 28)) w2.heap.size 28 (us (List.replicate mq 0)) := Bk.new _ _ _
  have hgg : w.heap.size < w2.heap.size := G1.out.lt
  have HHB := Lib.hid hb
  have HHA := Lib.hid ha
  have HB3 := Lib.hid hB3
  have HGR := Lib.hid gr0
  have HGQ := Lib.hid gq0
  have HLY := Lib.hid HTY0.out
  clear AB3 hmk2 HTY hB3 gr0 gq0 hb ha G1
  go_at_call 44
  refine K3.out.mono ?_; rintro e w3 ⟨rfl, he3⟩
  have HE3 := Lib.hid he3
  clear he3 K3
  go_wp2_with fail
  rw [HE3.out]
  generalize hgq : w2.heap.size = gq at *
  go_loopw [11] (fun i W => ∃ (j : Nat) (rs qs : List Int), j ≤ st ∧ i = .int .i64 ((j : Int) - 1) ∧ Bk W w.heap.size 28 (us rs) ∧ rs.length = m ∧ Ws rs ∧ V rs = V xs / 2 ^ j % V ys ∧ Bk W gq 28 (us qs) ∧ qs.length = mq ∧ Ws qs ∧ V qs = V xs / 2 ^ j / V ys * 2 ^ j ∧ Below w.heap.size w W) (fun i _ => (intOf i + 1).toNat)
  case atStart =>
    refine ⟨st, rs, List.replicate mq 0, Nat.le_refl _, by go_num, HGR.out, g2, g3, ?_, HGQ.out, by simp, Ws.zeros _, ?_, HB3.out⟩
    · rw [G4.out, Int.emod_eq_of_lt hQ0 HSM.out]
    · rw [V_zeros, Int.ediv_eq_zero_of_lt hQ0 HSM.out, Int.zero_mul]
  case round =>
    obtain ⟨j, rs, qs, hj, rfl, p1, p2, p3, p4, p5, p6, p7, p8, p9⟩ := hrel
    rcases Nat.eq_zero_or_pos j with rfl | hj0
    · have HT1 := Lib.hid (trimmed_c (some ⟨gq, 0, none⟩) mq mq wr.heap.size qs wr (p5.rd0 p5.lt p7 p6) (Nat.le_refl _) (by omega))
      have HT2 := Lib.hid (trimmed_c (some ⟨w.heap.size, 0, none⟩) m m wr.heap.size rs wr (p1.rd0 p1.lt p3 p2) (Nat.le_refl _) (by omega))
      rw [Int.pow_zero, Int.ediv_one] at p4 p8
      rw [Int.mul_one] at p8
      have hA1 := ans_trim (w := w) (m := na + 2) p5 p7 p8 (by omega) p9
      have hA2 := ans_trim (w := w) (m := nb + 2) p1 p3 p4 (by omega) p9
      rw [p6] at hA1
      rw [p2] at hA2
      have HA1 := Lib.hid hA1
      have HA2 := Lib.hid hA2
      clear hA1 hA2 p1 p2 p3 p4 p5 p6 p7 p8 p9
      go_wp2_with fail
      go_at_call 44
      refine HT1.out.mono ?_; rintro e w4 ⟨rfl, he4⟩
      have HE4 := Lib.hid he4
      clear he4 HT1
      go_wp2_with fail
      go_at_call 44
      rw [HE4.out]
      refine HT2.out.mono ?_; rintro e w5 ⟨rfl, he5⟩
      have HE5 := Lib.hid he5
      clear he5 HT2
      go_wp2_with fail
      go_ret3
      refine ⟨_, _, rfl, ?_, ?_⟩
      · rw [HE5.out]; exact HA1.out
      · rw [HE5.out]; exact HA2.out
    · obtain ⟨i, rfl⟩ : ∃ i, j = i + 1 := ⟨j - 1, by omega⟩
      have hi : ((i + 1 : Nat) : Int) - 1 = (i : Int) := by omega
      rw [hi]
      clear hi
      have KB := Lib.hid (bit_n A na ca w.heap.size i xs wr (HHA.out.below p9) (WalkArith.wf_i64 (by omega)))
      have hbit := bitAt_nat (V xs) i hx0
      have hbb := b1_01 (bitAt (V xs) (i : Int))
      have hhalf := half_bit (V xs) i
      rw [← hbit] at hhalf
      generalize bitAt (V xs) (i : Int) = b at *
      have hrlt : V rs < V ys := by rw [p4]; exact Int.emod_lt_of_pos _ hHY
      have KD := Lib.hid (double_n w.heap.size m m b rs wr p1 p3 p2 (by omega) (by have := HYP.out; omega))
      have HHALF := Lib.hid hhalf
      have P4 := Lib.hid p4
      have P8 := Lib.hid p8
      have P5 := Lib.hid p5
      have P9 := Lib.hid p9
      clear hbit hhalf p4 p8 p1 p5 p9 hrlt
      go_wp2_with fail
      go_at_call 24
      refine KB.out.mono ?_; rintro e w4 ⟨rfl, he4⟩
      have HE4 := Lib.hid he4
      clear he4 KB
      go_wp2_with fail
      go_at_call 47
      rw [HE4.out]
      refine KD.out.mono ?_; rintro e w5 ⟨⟨v, rfl⟩, rs1, k1, k2, k3, k4, k5⟩
      have q9 := below_grown P9.out k5 (Nat.le_refl _) (Nat.le_refl _)
      have q5 := P5.out.other k5 (by omega)
      have hby : Rd w5 w.heap.size B nz zy := HLY.out.below q9
      have KC := Lib.hid (compare_n (some ⟨w.heap.size, 0, none⟩) B m m nz cb w5.heap.size w.heap.size rs1 zy w5 (k1.rd0 k1.lt k3 k2) (Nat.le_refl _) hby q9.size (by omega) (by omega))
      rw [HVT.out] at KC
      have K1 := Lib.hid k1
      have K4 := Lib.hid k4
      have Q5 := Lib.hid q5
      have Q9 := Lib.hid q9
      clear k1 k4 k5 q5 q9 hby KD
      rcases Int.lt_or_le (V rs1) (V ys) with hcm | hcm
      · have hlt0 : cmpN (V rs1) (V ys) < 0 := by unfold cmpN; rw [if_pos hcm]; omega
        have hres := div_dn (D' := V xs / 2 ^ (i + 1)) hHY HHALF.out hbb.1 (by rw [← P4.out, ← K4.out]; exact hcm)
        have HRES := Lib.hid hres
        clear hres
        generalize cmpN (V rs1) (V ys) = cv at *
        go_wp2_with fail
        go_at_call 21
        refine KC.out.mono ?_; rintro e w6 ⟨rfl, h6⟩
        have r1 := Lib.hid (K1.out.below h6 K1.out.lt)
        have r5 := Lib.hid (Q5.out.below h6 Q5.out.lt)
        have r9 := Lib.hid (Q9.out.trans (h6.mono Q9.out.size))
        clear h6 KC
        go_wp2_with fail
        go_roundw
        case rel =>
          refine ⟨i, rs1, qs, by omega, by go_num, r1.out, k2, k3, ?_, r5.out, p6, p7, ?_, r9.out⟩
          · rw [K4.out, P4.out, HRES.out.1]
          · rw [P8.out, HRES.out.2, Int.pow_succ, Int.mul_comm (2 ^ i) 2, ← Int.mul_assoc, Int.mul_comm _ 2]
        case measure => (simp [intOf] <;> omega)
      · have hge0 : 0 ≤ cmpN (V rs1) (V ys) := by unfold cmpN; rw [if_neg (by omega)]; split <;> omega
        have hres := div_up (D' := V xs / 2 ^ (i + 1)) hHY HHALF.out hbb.1 hbb.2 (by rw [← P4.out, ← K4.out]; exact hcm)
        have HRES := Lib.hid hres
        clear hres
        generalize cmpN (V rs1) (V ys) = cv at *
        go_wp2_with fail
        go_at_call 21
        refine KC.out.mono ?_; rintro e w6 ⟨rfl, h6⟩
        have r1 := K1.out.below h6 K1.out.lt
        have r5 := Q5.out.below h6 Q5.out.lt
        have r9 := Q9.out.trans (h6.mono Q9.out.size)
        have KT := Lib.hid (take_n w.heap.size m m B nz cb w.heap.size rs1 zy w6 r1 k3 k2 (HLY.out.below r9) (Nat.le_refl _) (by omega) (by omega))
        have R5 := Lib.hid r5
        have R9 := Lib.hid r9
        clear h6 KC r1 r5 r9
        go_wp2_with fail
        go_at_call 43
        refine KT.out.mono ?_; rintro e w7 ⟨os, bt, rfl, t1, t2, t3, t4, t5⟩
        have htb := take_below k3 t3 HLY.out.ws k2 t2 t4
        rw [HVT.out] at htb t4
        rw [decide_eq_false (by omega)] at htb
        rw [htb, b1_f, Int.mul_zero, Int.add_zero] at t4
        have s9 := below_grown R9.out t5 (Nat.le_refl _) (Nat.le_refl _)
        have s5 := R5.out.other t5 (by omega)
        have hdiv : V qs % 2 ^ (i + 1) = 0 := by rw [P8.out, Int.mul_emod_left]
        have KS := Lib.hid (set_n gq mq mq i qs w7 s5 p7 p6 (by have := HMQ.out; omega) (by omega) hdiv)
        have T1 := Lib.hid t1
        have T4 := Lib.hid t4
        have S9 := Lib.hid s9
        clear t1 t4 t5 s9 s5 hdiv KT htb
        go_wp2_with fail
        go_at_call 48
        refine KS.out.mono ?_; rintro e w8 ⟨⟨v, rfl⟩, qs', y1, y2, y3, y4, y5⟩
        have z9 := Lib.hid (below_grown S9.out y5 (Nat.le_refl _) (by omega))
        have z1 := Lib.hid (T1.out.other y5 (by omega))
        have Y1 := Lib.hid y1
        have Y4 := Lib.hid y4
        clear y1 y4 y5 KS
        go_wp2_with fail
        go_roundw
        case rel =>
          refine ⟨i, os, qs', by omega, by go_num, z1.out, t2, t3, ?_, Y1.out, y2, y3, ?_, z9.out⟩
          · rw [T4.out, K4.out, P4.out, HRES.out.1]
          · rw [Y4.out, P8.out, HRES.out.2, Int.pow_succ, Int.mul_comm (2 ^ i) 2, ← Int.mul_assoc, Int.mul_comm _ 2, Int.add_mul, Int.one_mul]
        case measure => (simp [intOf] <;> omega)
end Nt
end Go.Proofs.YtdklchejnpaenaaDoor
