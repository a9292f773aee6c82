/- Contracts of the document's own answers for words. -/
import Derived.Test.YtpbdbmfmganhfaaInvM
namespace Go.Proofs.Ytpbdbmfmganhfaa
open Go.RowKit
namespace Wd
set_option linter.unusedVariables false

theorem radd_c (a b : Int) (c : Bool) (w : World) (ha : W a) (hb : W b) :
    Calls Try.prog 18 #[.int .u64 a, .int .u64 b, .bool c] w fun e w' => e = .returned (.tuple #[.int .u64 (add a b c), .bool (addO a b c)]) ∧ w = w' := by
  obtain ⟨ha, ha'⟩ := ha
  obtain ⟨hb, hb'⟩ := hb
  cases c <;> go_enter Try.func18, Try.ntmps18 <;> go_wp2 <;> go_ret2 <;> refine ⟨ret_ib ?_ ?_, rfl⟩
  all_goals (try unfold add); (try unfold addO); simp only [b1, IntKind.wrap_u64, if_true, if_false, Bool.false_eq_true] at *
  all_goals first | omega | (rw [Bool.eq_iff_iff]; simp; omega)
theorem rsub_c (a b : Int) (c : Bool) (w : World) (ha : W a) (hb : W b) :
    Calls Try.prog 19 #[.int .u64 a, .int .u64 b, .bool c] w fun e w' => e = .returned (.tuple #[.int .u64 (sub a b c), .bool (subO a b c)]) ∧ w = w' := by
  obtain ⟨ha, ha'⟩ := ha
  obtain ⟨hb, hb'⟩ := hb
  cases c <;> go_enter Try.func19, Try.ntmps19 <;> go_wp2 <;> go_ret2 <;> refine ⟨ret_ib ?_ ?_, rfl⟩
  all_goals (try unfold sub); (try unfold subO); simp only [b1, IntKind.wrap_u64, if_true, if_false, Bool.false_eq_true] at *
  all_goals first | omega | (rw [Bool.eq_iff_iff]; simp; omega)
theorem rmask_c (c : Bool) (w : World) :
    Calls Try.prog 23 #[.bool c] w fun e w' => e = .returned (.int .u64 (if c then 18446744073709551615 else 0)) ∧ w = w' := by
  cases c <;> go_enter Try.func23, Try.ntmps23 <;> go_wp2 <;> go_ret <;> exact ⟨rfl, rfl⟩
theorem rchoose_c (m a b : Int) (w : World) :
    Calls Try.prog 24 #[.int .u64 m, .int .u64 a, .int .u64 b] w fun e w' => e = .returned (.int .u64 (choose m a b)) ∧ w = w' := by
  go_enter Try.func24, Try.ntmps24
  go_wp2
  go_ret
  exact ⟨rfl, rfl⟩
theorem rmul_c (a b : Int) (w : World) (ha : W a) (hb : W b) :
    Calls Try.prog 20 #[.int .u64 a, .int .u64 b] w fun e w' => e = .returned (.tuple #[.int .u64 (mulH a b), .int .u64 (mulL a b)]) ∧ w = w' := by
  have hfin := mul_halves (a / 4294967296) (a % 4294967296) (b / 4294967296) (b % 4294967296)
  obtain ⟨ha, ha'⟩ := ha
  obtain ⟨hb, hb'⟩ := hb
  replace hfin := hfin (by omega) (by omega) (by omega) (by omega) (by omega) (by omega) (by omega) (by omega)
  rw [show a / 4294967296 * 4294967296 + a % 4294967296 = a from by omega, show b / 4294967296 * 4294967296 + b % 4294967296 = b from by omega] at hfin
  have p1 := half_mul (x := a / 4294967296) (y := b / 4294967296) (by omega) (by omega) (by omega) (by omega)
  have p2 := half_mul (x := a / 4294967296) (y := b % 4294967296) (by omega) (by omega) (by omega) (by omega)
  have p3 := half_mul (x := a % 4294967296) (y := b / 4294967296) (by omega) (by omega) (by omega) (by omega)
  have p4 := half_mul (x := a % 4294967296) (y := b % 4294967296) (by omega) (by omega) (by omega) (by omega)
  have l1 := and_low a ha ha'
  have l2 := and_low b hb hb'
  have l3 := and_low (a / 4294967296 * (b % 4294967296) + a % 4294967296 * (b % 4294967296) / 4294967296) (by omega) (by omega)
  have H := Lib.hid hfin
  clear hfin
  go_enter Try.func20, Try.ntmps20
  go_wp2_with fail
  go_ret2
  refine ⟨ret_ii ?_ ?_, rfl⟩
  · exact H.out.1.symm
  · rw [IntKind.wrap_u64]; rfl
theorem rbits_c (a : Int) (w : World) (ha : W a) :
    Calls Try.prog 25 #[.int .u64 a] w fun e w' => e = .returned (.int .i64 (Lib.bitLen a.toNat)) ∧ w = w' := by
  obtain ⟨ha, ha'⟩ := ha
  obtain ⟨n, rfl⟩ := Int.eq_ofNat_of_zero_le ha
  have b0 := (bl_spec n (by omega)).2.2
  go_enter Try.func25, Try.ntmps25
  go_wp2_with fail
  go_loop [0, 3] (fun a c => ∃ m k : Nat, a = .int .u64 m ∧ c = .int .i64 k ∧ m ≤ n ∧ k ≤ 64 ∧ Hid (k + Lib.bitLen m = Lib.bitLen n)) (fun a _ => (intOf a).toNat)
  case atStart => exact ⟨n, 0, rfl, rfl, Nat.le_refl _, by omega, Nat.zero_add _⟩
  case round =>
    obtain ⟨m, k, rfl, rfl, hm, hk, H⟩ := hrel
    by_cases h0 : m = 0
    · have e : k = Lib.bitLen n := by have := H.out; rw [h0, bl_zero] at this; omega
      have E := Lib.hid e
      have H0 : (m : Int) ≤ 0 := by omega
      clear e h0
      go_wp2_with fail
      go_ret
      exact ⟨by rw [E.out]; rfl, rfl⟩
    · have e : k + 1 + Lib.bitLen (m / 2) = Lib.bitLen n := by have := H.out; rw [Lib.bitLen_half m h0 (by omega)] at this; omega
      have E := Lib.hid e
      have H0 : 0 < (m : Int) := by omega
      have k1 : k + 1 ≤ 64 := by omega
      clear e h0
      go_wp2_with fail
      go_round
      case rel => exact ⟨m / 2, k + 1, by go_num, by go_num, by omega, k1, E⟩
      case measure => (simp [intOf] <;> omega)
theorem rinv_c (n : Int) (w : World) (hn : W n) :
    Calls Try.prog 22 #[.int .u64 n] w fun e w' => e = .returned (invV n) ∧ w = w' := by
  have W6 := newt_W n 6
  obtain ⟨ha, ha'⟩ := hn
  have h2 : n.tmod 2 = n % 2 := Int.tmod_eq_emod_of_nonneg ha
  by_cases he : n % 2 = 0
  · have e : invV n = .tuple #[.int .u64 0, .bool false] := if_pos he
    rw [e]
    have he' : (n % 2 == 0) = true := by rw [beq_iff_eq]; exact he
    clear e he
    go_enter Try.func22, Try.ntmps22
    go_wp2_with fail
    go_ret2
    exact ⟨rfl, rfl⟩
  · have e : invV n = .tuple #[.int .u64 (newt n 6), .bool true] := if_neg he
    rw [e]
    have he' : (n % 2 == 0) = false := by rw [beq_eq_false_iff_ne]; exact he
    have ho : n % 2 = 1 := by omega
    have NR := Lib.hid (newt_right n ho)
    have HO := Lib.hid ho
    clear e he ho
    go_enter Try.func22, Try.ntmps22
    go_wp2_with fail
    go_loop [4, 5] (fun x i => ∃ (k : Nat) (x0 : Int), x = .int .u64 x0 ∧ i = .int .i64 k ∧ k ≤ 64 ∧ 0 ≤ x0 ∧ Hid (x0 < 2 ^ k) ∧ Hid (n * x0 % 2 ^ k = 1 % 2 ^ k)) (fun _ i => 64 - (intOf i).toNat)
    case atStart => exact ⟨0, 0, rfl, rfl, by omega, by omega, (by show (0 : Int) < 2 ^ 0; decide), (by show n * 0 % 2 ^ 0 = 1 % 2 ^ 0; simp)⟩
    case round =>
      obtain ⟨k, x0, rfl, rfl, hk, hx0, HX, HM⟩ := hrel
      by_cases hlt : k < 64
      · obtain ⟨z, c, z1, z2, z3, z4, hc⟩ := rinv_round n x0 k HO.out hx0 HX.out (by omega) HM.out
        have hp := pow_pos' k
        have hu := pow_up k
        have hX := HX.out
        have o1 : (1 : Int) % 2 ^ (k + 1) = 1 := Int.emod_eq_of_lt (by omega) (by omega)
        have hP : x0 + 2 ^ k < 2 ^ (k + 1) := by omega
        have hQ : x0 < 2 ^ (k + 1) := by omega
        have O1 := Lib.hid o1
        have HP := Lib.hid hP
        have HQ := Lib.hid hQ
        clear hp hu hX o1 hP hQ
        rcases hc with ⟨rfl, c1, H1⟩ | ⟨rfl, H1⟩
        · go_wp2_with fail
          go_round
          case rel => exact ⟨k + 1, _, rfl, by go_num, by omega, by have := pow_pos' k; omega, HP, (by show _ = _; rw [O1.out]; exact H1.out)⟩
          case measure => (simp [intOf] <;> omega)
        · go_wp2_with fail
          go_round
          case rel => exact ⟨k + 1, _, rfl, by go_num, by omega, hx0, HQ, (by show _ = _; rw [O1.out]; exact H1.out)⟩
          case measure => (simp [intOf] <;> omega)
      · obtain rfl : k = 64 := by omega
        have e : x0 = newt n 6 := by
          refine inv_one n x0 (newt n 6) ⟨hx0, ?_⟩ W6 ?_ NR.out
          · have := HX.out; rw [pow64] at this; omega
          · have := HM.out; rw [pow64] at this; omega
        subst e
        clear HX HM
        go_wp2_with fail
        go_ret2
        exact ⟨rfl, rfl⟩
theorem rdiv_c (h l y : Int) (w : World) (hh : W h) (hl : W l) (hy : W y) :
    Calls Try.prog 21 #[.int .u64 h, .int .u64 l, .int .u64 y] w fun e w' => e = .returned (divV h l y) ∧ w = w' := by
  by_cases hlt : h < y
  · have e : divV h l y = .tuple #[.int .u64 (divQ h l y), .int .u64 (divR h l y), .bool true] := if_pos hlt
    rw [e]
    have ST := fun k q r hk hq hr => rdiv_round h l y k q r hh hl hy (by omega) hk hq hr
    have H := Lib.hid ST
    clear ST
    have t := dv_top h l hl.1 hl.2
    have t0 : 0 = (2 : Int) ^ 64 * (dv h l 64 / y) := by rw [t, Int.ediv_eq_zero_of_lt hh.1 hlt]; rfl
    have t1 : h = dv h l 64 % y := by rw [t, Int.emod_eq_of_lt hh.1 hlt]
    have T0 := Lib.hid t0
    have T1 := Lib.hid t1
    clear t t0 t1 e
    obtain ⟨hh, hh'⟩ := hh
    obtain ⟨hl, hl'⟩ := hl
    obtain ⟨hy, hy'⟩ := hy
    go_enter Try.func21, Try.ntmps21
    go_wp2_with fail
    go_loop [9, 10, 11] (fun q r i => ∃ (k : Nat) (q0 r0 : Int), q = .int .u64 q0 ∧ r = .int .u64 r0 ∧ i = .int .i64 ((k : Int) - 1) ∧ k ≤ 64 ∧ Hid (q0 = 2 ^ k * (dv h l k / y)) ∧ Hid (r0 = dv h l k % y)) (fun _ _ i => (intOf i + 1).toNat)
    case atStart => exact ⟨64, 0, h, rfl, rfl, rfl, by omega, T0, T1⟩
    case round =>
      obtain ⟨k, q0, r0, rfl, rfl, rfl, hk, HQ, HR⟩ := hrel
      cases k with
      | zero =>
        have e1 : q0 = divQ h l y := by have := HQ.out; rw [dv_zero] at this; unfold divQ; omega
        have e2 : r0 = divR h l y := by have := HR.out; rw [dv_zero] at this; exact this
        subst e1 e2
        clear HQ HR
        go_wp2_with fail
        go_ret3
        exact ⟨rfl, rfl⟩
      | succ k =>
        obtain ⟨g1, g2, g3, g4, c, q1, r1, hc, c0, c1, HQ1, HR1, hcase⟩ := H.out k q0 r0 (by omega) HQ.out HR.out
        clear HQ HR
        rcases hcase with ⟨z, a1, a2, a3, a4⟩ | ⟨z, a1, a2, a3, a3', a4, a5⟩ | ⟨z, a1, a2, a3, a4, a5⟩
        · go_wp2_with fail
          go_round
          case rel => exact ⟨k, q1, r1, rfl, rfl, by go_num, by omega, HQ1, HR1⟩
          case measure => (simp [intOf] <;> omega)
        · go_wp2_with fail
          go_round
          case rel => exact ⟨k, q1, r1, rfl, rfl, by go_num, by omega, HQ1, HR1⟩
          case measure => (simp [intOf] <;> omega)
        · subst a4 a5
          go_wp2_with fail
          go_round
          case rel => exact ⟨k, q0, z, rfl, rfl, by go_num, by omega, HQ1, HR1⟩
          case measure => (simp [intOf] <;> omega)
  · have e : divV h l y = .tuple #[.int .u64 0, .int .u64 0, .bool false] := if_neg hlt
    rw [e]
    clear e
    go_enter Try.func21, Try.ntmps21
    go_wp2_with fail
    go_ret3
    exact ⟨rfl, rfl⟩
end Wd
end Go.Proofs.Ytpbdbmfmganhfaa
