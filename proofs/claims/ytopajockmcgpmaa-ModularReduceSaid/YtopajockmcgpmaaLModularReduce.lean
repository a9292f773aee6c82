/- The walk of ModularReduce. -/
import Derived.Test.YtopajockmcgpmaaM0
namespace Go.Proofs.Ytopajockmcgpmaa
open Go Go.RowKit
namespace modularReduce
open Wd Sti Nt
set_option linter.unusedVariables false
set_option maxRecDepth 100000 in
set_option maxHeartbeats 16000000 in
theorem walk_h1 (w : World) (A0 : Option Addr) (n0 c0 : Nat) (xs0 : List Int) (A1 : Option Addr) (n1 c1 : Nat) (xs1 : List Int) (a2 : Int)
    (hr0 : Rd w w.heap.size A0 n0 xs0) (hn0 : n0 ≤ c0) (hm0 : c0 ≤ 9223372036854775807) (hr1 : Rd w w.heap.size A1 n1 xs1) (hn1 : n1 ≤ c1) (hm1 : c1 ≤ 9223372036854775807) (wf2 : (Lit.int .i64 a2).wf = true) (hl : 5 < n0 ∨ 5 < n1) :
    Calls Try.prog 7 #[.slice A0 n0 c0, .slice A1 n1 c1, .int .i64 a2] w fun e w' => e = .returned (.bool true) ∧ Below w.heap.size w w' := by
  have hB : Hid (Below w.heap.size w w) := Lib.hid (Below.refl _ w)
  clear hr0
  clear hr1
  go_enter Try.func7, Try.ntmps7
  try simp only [List.append]
  go_wp2_with fail
  go_at_call 9
  refine (lives3_c _).mono ?_
  rintro e w1 ⟨rfl, hb⟩
  replace hB := bel_step hB hb
  clear hb
  go_wp2_with fail
  go_at_call 21
  refine (light3_c A0 A0 A1 n0 c0 n0 c0 n1 c1 (by omega) (by omega) (by omega) _ false (by simp only [Bool.and_eq_false_iff, decide_eq_false_iff_not]; omega)).mono ?_
  rintro e w2 ⟨rfl, hb⟩
  replace hB := bel_step hB hb
  clear hb
  go_wp2_with fail
  go_ret
  exact ⟨rfl, hB.out⟩

set_option maxRecDepth 100000 in
set_option maxHeartbeats 16000000 in
theorem walk_h2 (w : World) (A0 : Option Addr) (n0 c0 : Nat) (xs0 : List Int) (A1 : Option Addr) (n1 c1 : Nat) (xs1 : List Int) (a2 : Int)
    (hr0 : Rd w w.heap.size A0 n0 xs0) (hn0 : n0 ≤ c0) (hm0 : c0 ≤ 9223372036854775807) (hr1 : Rd w w.heap.size A1 n1 xs1) (hn1 : n1 ≤ c1) (hm1 : c1 ≤ 9223372036854775807) (wf2 : (Lit.int .i64 a2).wf = true) (h0 : n0 ≤ 5) (h1 : n1 ≤ 5) (h2 : n1 = 0) :
    Calls Try.prog 7 #[.slice A0 n0 c0, .slice A1 n1 c1, .int .i64 a2] w fun e w' => e = .returned (.bool true) ∧ Below w.heap.size w w' := by
  have hne : ((n1 : Int) == 0) = true := by simp; omega
  have h2i : (n1 : Int) ≤ 5 := by omega
  clear h2
  have hB : Hid (Below w.heap.size w w) := Lib.hid (Below.refl _ w)
  clear hr0
  clear hr1
  go_enter Try.func7, Try.ntmps7
  try simp only [List.append]
  go_wp2_with fail
  go_at_call 9
  refine (lives3_c _).mono ?_
  rintro e w1 ⟨rfl, hb⟩
  replace hB := bel_step hB hb
  clear hb
  go_wp2_with fail
  go_at_call 21
  refine (light3_c A0 A0 A1 n0 c0 n0 c0 n1 c1 (by omega) (by omega) (by omega) _ true (by simp <;> omega)).mono ?_
  rintro e w2 ⟨rfl, hb⟩
  replace hB := bel_step hB hb
  clear hb
  go_wp2_with fail
  go_ret
  exact ⟨rfl, hB.out⟩

set_option maxRecDepth 100000 in
set_option maxHeartbeats 16000000 in
theorem walk_h3 (w : World) (A0 : Option Addr) (n0 c0 : Nat) (xs0 : List Int) (A1 : Option Addr) (n1 c1 : Nat) (xs1 : List Int) (a2 : Int)
    (hr0 : Rd w w.heap.size A0 n0 xs0) (hn0 : n0 ≤ c0) (hm0 : c0 ≤ 9223372036854775807) (hr1 : Rd w w.heap.size A1 n1 xs1) (hn1 : n1 ≤ c1) (hm1 : c1 ≤ 9223372036854775807) (wf2 : (Lit.int .i64 a2).wf = true) (h0 : n0 ≤ 5) (h1 : n1 ≤ 5) (h2 : 0 < n1) (ho : Nt.at_ xs1 0 % 2 = 0) :
    Calls Try.prog 7 #[.slice A0 n0 c0, .slice A1 n1 c1, .int .i64 a2] w fun e w' => e = .returned (.bool true) ∧ Below w.heap.size w w' := by
  have h2i : (0 : Int) < (n1 : Int) := by omega
  have hne : ((n1 : Int) == 0) = false := by simp; omega
  have hw1 := hr1.ws.at_ 0
  unfold Wd.W at hw1
  obtain ⟨hw1, hw1b⟩ := hw1
  have ht1 : (Nt.at_ xs1 0).tmod 2 = Nt.at_ xs1 0 % 2 := Int.tmod_eq_emod_of_nonneg hw1
  obtain ⟨ad1, rfl, _, -⟩ := Rd.at_ hr1 h2
  have g_a0 : Hid (Gd w A0 n0 c0 xs0 5) := Lib.hid ⟨hr0, hn0, hm0, by omega⟩
  have g_a1 : Hid (Gd w (some ad1) n1 c1 xs1 5) := Lib.hid ⟨hr1, hn1, hm1, by omega⟩
  have hB : Hid (Below w.heap.size w w) := Lib.hid (Below.refl _ w)
  clear hr0
  clear hr1
  go_enter Try.func7, Try.ntmps7
  try simp only [List.append]
  go_wp2_with fail
  go_at_call 9
  refine (lives3_c _).mono ?_
  rintro e w1 ⟨rfl, hb⟩
  replace hB := bel_step hB hb
  replace g_a0 := Gd.step g_a0 hb
  replace g_a1 := Gd.step g_a1 hb
  clear hb
  go_wp2_with fail
  go_at_call 21
  refine (light3_c A0 A0 (some ad1) n0 c0 n0 c0 n1 c1 (by omega) (by omega) (by omega) _ true (by simp <;> omega)).mono ?_
  rintro e w2 ⟨rfl, hb⟩
  replace hB := bel_step hB hb
  replace g_a0 := Gd.step g_a0 hb
  replace g_a1 := Gd.step g_a1 hb
  clear hb
  have hc1 : w2.cell? ad1 = some (.int .u64 (Nt.at_ xs1 0)) := by
    obtain ⟨ad9, e9, _, h9⟩ := Rd.at_ g_a1.out.at_ h2
    cases e9
    have e : ad1.add 0 = ad1 := by unfold Addr.add; simp
    rw [e] at h9; exact h9
  have hd1 : w2.cell? (ad1.add 0) = some (.int .u64 (Nt.at_ xs1 0)) := by
    have e : ad1.add 0 = ad1 := by unfold Addr.add; simp
    rw [e]; exact hc1
  have hev : (Nt.at_ xs1 0 % 2 == 0) = true := by rw [ho]; rfl
  go_wp2_with fail
  go_ret
  exact ⟨rfl, hB.out⟩

set_option maxRecDepth 100000 in
set_option maxHeartbeats 16000000 in
theorem walk_m0 (w : World) (A0 : Option Addr) (n0 c0 : Nat) (xs0 : List Int) (A1 : Option Addr) (n1 c1 : Nat) (xs1 : List Int) (a2 : Int)
    (hr0 : Rd w w.heap.size A0 n0 xs0) (hn0 : n0 ≤ c0) (hm0 : c0 ≤ 9223372036854775807) (hr1 : Rd w w.heap.size A1 n1 xs1) (hn1 : n1 ≤ c1) (hm1 : c1 ≤ 9223372036854775807) (wf2 : (Lit.int .i64 a2).wf = true) (h0 : n0 ≤ 5) (h1 : n1 ≤ 5) (h2 : 0 < n1) (ho : Nt.at_ xs1 0 % 2 = 1) (hz : n0 = 0) :
    Calls Try.prog 7 #[.slice A0 n0 c0, .slice A1 n1 c1, .int .i64 a2] w fun e w' => e = .returned (.bool true) ∧ Below w.heap.size w w' := by
  have h2i : (0 : Int) < (n1 : Int) := by omega
  have hne : ((n1 : Int) == 0) = false := by simp; omega
  have hw1 := hr1.ws.at_ 0
  unfold Wd.W at hw1
  obtain ⟨hw1, hw1b⟩ := hw1
  have ht1 : (Nt.at_ xs1 0).tmod 2 = Nt.at_ xs1 0 % 2 := Int.tmod_eq_emod_of_nonneg hw1
  obtain ⟨ad1, rfl, _, -⟩ := Rd.at_ hr1 h2
  have hov : V xs1 % 2 = 1 := by rw [V_par]; exact ho
  have HO := Lib.hid hov
  have hv0 := V_nonneg hr1.ws
  have hp : Hid (0 < V xs1) := Lib.hid (by rcases Int.lt_trichotomy (V xs1) 0 with h | h | h; omega; rw [h] at hov; exact absurd hov (by decide); exact h)
  have hz1 : Hid (V xs1 ≠ 0) := Lib.hid (by have := hp.out; omega)
  have p0 := Lib.hid (V_nonneg hr0.ws)
  clear hov hv0
  obtain ⟨k, hk, hk9⟩ := pick_ex a2 9 (by omega)
  have HK := Lib.hid hk
  clear hk
  have hkt : Hid (((k : Int)).toNat = k) := Lib.hid (Int.toNat_natCast k)
  have hva0 : Hid (Nt.at_ xs0 0 = V xs0 % 18446744073709551616) := Lib.hid (by have h := V_at xs0 hr0.ws 0; rwa [P_zero, Int.ediv_one] at h)
  have hva1 : Hid (Nt.at_ xs1 0 = V xs1 % 18446744073709551616) := Lib.hid (by have h := V_at xs1 hr1.ws 0; rwa [P_zero, Int.ediv_one] at h)
  have hx00 : Hid (Nt.at_ xs0 0 = 0) := Lib.hid (at_ge (by rw [hr0.len]; omega))
  have hzi : (n0 : Int) ≤ 0 := by omega
  clear hz
  have g_a0 : Hid (Gd w A0 n0 c0 xs0 5) := Lib.hid ⟨hr0, hn0, hm0, by omega⟩
  have g_a1 : Hid (Gd w (some ad1) n1 c1 xs1 5) := Lib.hid ⟨hr1, hn1, hm1, by omega⟩
  have hB : Hid (Below w.heap.size w w) := Lib.hid (Below.refl _ w)
  clear hr0
  clear hr1
  go_enter Try.func7, Try.ntmps7
  try simp only [List.append]
  go_wp2_with fail
  go_at_call 9
  refine (lives3_c _).mono ?_
  rintro e w1 ⟨rfl, hb⟩
  replace hB := bel_step hB hb
  replace g_a0 := Gd.step g_a0 hb
  replace g_a1 := Gd.step g_a1 hb
  clear hb
  go_wp2_with fail
  go_at_call 21
  refine (light3_c A0 A0 (some ad1) n0 c0 n0 c0 n1 c1 (by omega) (by omega) (by omega) _ true (by simp <;> omega)).mono ?_
  rintro e w2 ⟨rfl, hb⟩
  replace hB := bel_step hB hb
  replace g_a0 := Gd.step g_a0 hb
  replace g_a1 := Gd.step g_a1 hb
  clear hb
  have hc1 : w2.cell? ad1 = some (.int .u64 (Nt.at_ xs1 0)) := by
    obtain ⟨ad9, e9, _, h9⟩ := Rd.at_ g_a1.out.at_ h2
    cases e9
    have e : ad1.add 0 = ad1 := by unfold Addr.add; simp
    rw [e] at h9; exact h9
  have hd1 : w2.cell? (ad1.add 0) = some (.int .u64 (Nt.at_ xs1 0)) := by
    have e : ad1.add 0 = ad1 := by unfold Addr.add; simp
    rw [e]; exact hc1
  have hod : (Nt.at_ xs1 0 % 2 == 0) = false := by rw [ho]; rfl
  go_wp2_with fail
  go_at_call 36
  refine (pick_3 a2 9 wf2 (by decide) k HK.out).mono ?_
  rintro e w3 ⟨rfl, hb⟩
  replace hB := bel_step hB hb
  replace g_a0 := Gd.step g_a0 hb
  replace g_a1 := Gd.step g_a1 hb
  clear hb
  clear hod hc1 hd1 hw1 hw1b ht1 hne
  go_wp2_with fail
  go_at_call 14
  refine (mrad_o (k : Int) g_a1 (by omega)).mono ?_
  rintro e w4 ⟨Qk1, nk1, ck1, zk1, evk1, rfl, o_k1, g_k1, hb⟩
  replace hB := bel_step hB hb
  replace g_a0 := Gd.step g_a0 hb
  replace g_a1 := Gd.step g_a1 hb
  clear hb
  obtain ⟨i_k1, e0⟩ := rad_is o_k1 hz1.out (by omega) (by omega)
  subst e0
  clear o_k1
  go_wp2_with fail
  go_at_call 37
  refine (mul_2 g_a0 g_k1 (by omega) (by omega) 10 (by omega)).mono ?_
  rintro e w5 ⟨v, rfl, Qk2, nk2, ck2, zk2, rfl, i_k2, g_k2, hb⟩
  replace hB := bel_step hB hb
  replace g_a0 := Gd.step g_a0 hb
  replace g_a1 := Gd.step g_a1 hb
  replace g_k1 := Gd.step g_k1 hb
  clear hb
  go_wp2_with fail
  go_at_call 15
  refine (mred_o (k : Int) g_k2 g_a1 (by omega) (by omega)).mono ?_
  rintro e w6 ⟨Qk3, nk3, ck3, zk3, evk3, rfl, o_k3, g_k3, hb⟩
  replace hB := bel_step hB hb
  replace g_a0 := Gd.step g_a0 hb
  replace g_a1 := Gd.step g_a1 hb
  replace g_k1 := Gd.step g_k1 hb
  replace g_k2 := Gd.step g_k2 hb
  clear hb
  obtain ⟨i_k3, e0⟩ := red_is (N := V xs0 % V xs1) o_k3 hp.out HO.out (by omega) (by omega) (Int.emod_nonneg _ hz1.out) (Int.emod_lt_of_pos _ hp.out) (by rw [i_k2.out.v, i_k1.out.v, mod_mul_l, mod_mul_r])
  subst e0
  clear o_k3
  clear g_k2
  clear g_k1
  clear i_k2 i_k1
  go_wp2_with fail
  go_at_call 32
  refine (div_2 g_a0 g_a1 (by omega) (by omega) hz1.out).mono ?_
  rintro e w7 ⟨v1, v2, rfl, ⟨Qqk4, nqk4, cqk4, zqk4, rfl, -, -, -⟩, ⟨Qk4, nk4, ck4, zk4, rfl, i_k4, g_k4, hb⟩⟩
  replace hB := bel_step hB hb
  replace g_a0 := Gd.step g_a0 hb
  replace g_a1 := Gd.step g_a1 hb
  replace g_k3 := Gd.step g_k3 hb
  clear hb
  go_wp2_with fail
  go_at_call 13
  refine (mcon_o g_a1 (by omega)).mono ?_
  rintro e w8 ⟨xk5, evk5, rfl, o_k5, hb⟩
  replace hB := bel_step hB hb
  replace g_a0 := Gd.step g_a0 hb
  replace g_a1 := Gd.step g_a1 hb
  replace g_k3 := Gd.step g_k3 hb
  replace g_k4 := Gd.step g_k4 hb
  clear hb
  obtain ⟨hcw, hcv, e0⟩ : Wd.W xk5 ∧ Hid ((Nt.at_ xs1 0 * xk5 + 1) % 18446744073709551616 = 0) ∧ evk5 = 0 := by
    rcases o_k5.out with ⟨h, _⟩ | ⟨_, h1, h2, h3⟩
    · exact absurd HO.out h
    · exact ⟨h1, Lib.hid h2, h3⟩
  subst e0
  clear o_k5
  obtain ⟨lc, hlc⟩ : ∃ lc, lc = (Nt.at_ xs0 0 * xk5) % 18446744073709551616 := ⟨_, rfl⟩
  have hlw : Wd.W lc := by rw [hlc]; exact W_mod _
  have HLC := Lib.hid hlc
  have hwm : IntKind.u64.wrap (0 * xk5) = lc := by rw [show (0 : Int) = Nt.at_ xs0 0 from hx00.out.symm]; rw [IntKind.wrap_u64]; exact HLC.out.symm
  clear hlc
  have hl0 : lc = 0 := by rw [HLC.out, hx00.out, Int.zero_mul]; rfl
  have HL0 := Lib.hid hl0
  clear hl0 hwm
  go_wp2_with fail
  go_at_call 11
  refine (one_r 0 (W_zero) _).mono ?_
  rintro e w9 ⟨v, rfl, Qk6, nk6, ck6, zk6, rfl, i_k6, g_k6, hb⟩
  replace hB := bel_step hB hb
  replace g_a0 := Gd.step g_a0 hb
  replace g_a1 := Gd.step g_a1 hb
  replace g_k3 := Gd.step g_k3 hb
  replace g_k4 := Gd.step g_k4 hb
  clear hb
  rw [← HL0.out] at i_k6
  go_wp2_with fail
  go_at_call 37
  refine (mul_2 g_a1 g_k6 (by omega) (by omega) 6 (by omega)).mono ?_
  rintro e w10 ⟨v, rfl, Qk7, nk7, ck7, zk7, rfl, i_k7, g_k7, hb⟩
  replace hB := bel_step hB hb
  replace g_a0 := Gd.step g_a0 hb
  replace g_a1 := Gd.step g_a1 hb
  replace g_k3 := Gd.step g_k3 hb
  replace g_k4 := Gd.step g_k4 hb
  replace g_k6 := Gd.step g_k6 hb
  clear hb
  go_wp2_with fail
  go_at_call 33
  refine (add_2 (Gd.up g_a0 (show 5 ≤ 6 by omega)) g_k7 (by omega) (by omega) 7 (by omega)).mono ?_
  rintro e w11 ⟨v, rfl, Qk8, nk8, ck8, zk8, rfl, i_k8, g_k8, hb⟩
  replace hB := bel_step hB hb
  replace g_a0 := Gd.step g_a0 hb
  replace g_a1 := Gd.step g_a1 hb
  replace g_k3 := Gd.step g_k3 hb
  replace g_k4 := Gd.step g_k4 hb
  replace g_k6 := Gd.step g_k6 hb
  replace g_k7 := Gd.step g_k7 hb
  clear hb
  have hx0 : Nt.at_ zk8 0 = 0 := by
    have h := V_at zk8 i_k8.out.ws 0
    rw [h, P_zero, Int.ediv_one, i_k8.out.v, i_k7.out.v, i_k6.out.v, HLC.out]
    exact const_nought hva0.out hva1.out hcv.out
  clear g_k7
  clear g_k6
  clear i_k7 i_k6
  go_wp2_with fail
  go_at_call 19
  refine (sameM g_k3 g_k4 (by omega) (by omega) true (decide_eq_true (is_eq i_k3 i_k4 rfl))).mono ?_
  rintro e w12 ⟨rfl, hb⟩
  replace hB := bel_step hB hb
  replace g_a0 := Gd.step g_a0 hb
  replace g_a1 := Gd.step g_a1 hb
  replace g_k3 := Gd.step g_k3 hb
  replace g_k4 := Gd.step g_k4 hb
  replace g_k8 := Gd.step g_k8 hb
  clear hb
  clear g_k3
  clear g_k4
  rcases Nat.eq_zero_or_pos nk8 with hx9 | hx9
  · subst hx9
    go_wp2_with fail
    go_ret
    exact ⟨rfl, hB.out⟩
  · have hx9i : (0 : Int) < (nk8 : Int) := by omega
    have hx9e : ((nk8 : Int) == 0) = false := by simp; omega
    have hcx : ∃ adx, Qk8 = some adx ∧ w12.cell? adx = some (.int .u64 0) := by
      obtain ⟨ad9, e9, _, h9⟩ := Rd.at_ g_k8.out.at_ hx9
      have e : ad9.add 0 = ad9 := by unfold Addr.add; simp
      rw [e, hx0] at h9
      exact ⟨ad9, e9, h9⟩
    obtain ⟨adx, e9, hcx⟩ := hcx
    subst e9
    clear g_k8 hx0
    go_wp2_with fail
    go_ret
    exact ⟨rfl, hB.out⟩

set_option maxRecDepth 100000 in
set_option maxHeartbeats 16000000 in
theorem walk_m1 (w : World) (A0 : Option Addr) (n0 c0 : Nat) (xs0 : List Int) (A1 : Option Addr) (n1 c1 : Nat) (xs1 : List Int) (a2 : Int)
    (hr0 : Rd w w.heap.size A0 n0 xs0) (hn0 : n0 ≤ c0) (hm0 : c0 ≤ 9223372036854775807) (hr1 : Rd w w.heap.size A1 n1 xs1) (hn1 : n1 ≤ c1) (hm1 : c1 ≤ 9223372036854775807) (wf2 : (Lit.int .i64 a2).wf = true) (h0 : n0 ≤ 5) (h1 : n1 ≤ 5) (h2 : 0 < n1) (ho : Nt.at_ xs1 0 % 2 = 1) (hz : 0 < n0) :
    Calls Try.prog 7 #[.slice A0 n0 c0, .slice A1 n1 c1, .int .i64 a2] w fun e w' => e = .returned (.bool true) ∧ Below w.heap.size w w' := by
  have h2i : (0 : Int) < (n1 : Int) := by omega
  have hne : ((n1 : Int) == 0) = false := by simp; omega
  have hw1 := hr1.ws.at_ 0
  unfold Wd.W at hw1
  obtain ⟨hw1, hw1b⟩ := hw1
  have ht1 : (Nt.at_ xs1 0).tmod 2 = Nt.at_ xs1 0 % 2 := Int.tmod_eq_emod_of_nonneg hw1
  obtain ⟨ad1, rfl, _, -⟩ := Rd.at_ hr1 h2
  have hov : V xs1 % 2 = 1 := by rw [V_par]; exact ho
  have HO := Lib.hid hov
  have hv0 := V_nonneg hr1.ws
  have hp : Hid (0 < V xs1) := Lib.hid (by rcases Int.lt_trichotomy (V xs1) 0 with h | h | h; omega; rw [h] at hov; exact absurd hov (by decide); exact h)
  have hz1 : Hid (V xs1 ≠ 0) := Lib.hid (by have := hp.out; omega)
  have p0 := Lib.hid (V_nonneg hr0.ws)
  clear hov hv0
  obtain ⟨k, hk, hk9⟩ := pick_ex a2 9 (by omega)
  have HK := Lib.hid hk
  clear hk
  have hkt : Hid (((k : Int)).toNat = k) := Lib.hid (Int.toNat_natCast k)
  have hva0 : Hid (Nt.at_ xs0 0 = V xs0 % 18446744073709551616) := Lib.hid (by have h := V_at xs0 hr0.ws 0; rwa [P_zero, Int.ediv_one] at h)
  have hva1 : Hid (Nt.at_ xs1 0 = V xs1 % 18446744073709551616) := Lib.hid (by have h := V_at xs1 hr1.ws 0; rwa [P_zero, Int.ediv_one] at h)
  have hzi : (0 : Int) < (n0 : Int) := by omega
  obtain ⟨ad0, rfl, _, -⟩ := Rd.at_ hr0 hz
  have g_a0 : Hid (Gd w (some ad0) n0 c0 xs0 5) := Lib.hid ⟨hr0, hn0, hm0, by omega⟩
  have g_a1 : Hid (Gd w (some ad1) n1 c1 xs1 5) := Lib.hid ⟨hr1, hn1, hm1, by omega⟩
  have hB : Hid (Below w.heap.size w w) := Lib.hid (Below.refl _ w)
  clear hr0
  clear hr1
  go_enter Try.func7, Try.ntmps7
  try simp only [List.append]
  go_wp2_with fail
  go_at_call 9
  refine (lives3_c _).mono ?_
  rintro e w1 ⟨rfl, hb⟩
  replace hB := bel_step hB hb
  replace g_a0 := Gd.step g_a0 hb
  replace g_a1 := Gd.step g_a1 hb
  clear hb
  go_wp2_with fail
  go_at_call 21
  refine (light3_c (some ad0) (some ad0) (some ad1) n0 c0 n0 c0 n1 c1 (by omega) (by omega) (by omega) _ true (by simp <;> omega)).mono ?_
  rintro e w2 ⟨rfl, hb⟩
  replace hB := bel_step hB hb
  replace g_a0 := Gd.step g_a0 hb
  replace g_a1 := Gd.step g_a1 hb
  clear hb
  have hc1 : w2.cell? ad1 = some (.int .u64 (Nt.at_ xs1 0)) := by
    obtain ⟨ad9, e9, _, h9⟩ := Rd.at_ g_a1.out.at_ h2
    cases e9
    have e : ad1.add 0 = ad1 := by unfold Addr.add; simp
    rw [e] at h9; exact h9
  have hd1 : w2.cell? (ad1.add 0) = some (.int .u64 (Nt.at_ xs1 0)) := by
    have e : ad1.add 0 = ad1 := by unfold Addr.add; simp
    rw [e]; exact hc1
  have hod : (Nt.at_ xs1 0 % 2 == 0) = false := by rw [ho]; rfl
  go_wp2_with fail
  go_at_call 36
  refine (pick_3 a2 9 wf2 (by decide) k HK.out).mono ?_
  rintro e w3 ⟨rfl, hb⟩
  replace hB := bel_step hB hb
  replace g_a0 := Gd.step g_a0 hb
  replace g_a1 := Gd.step g_a1 hb
  clear hb
  clear hod hc1 hd1 hw1 hw1b ht1 hne
  go_wp2_with fail
  go_at_call 14
  refine (mrad_o (k : Int) g_a1 (by omega)).mono ?_
  rintro e w4 ⟨Qk1, nk1, ck1, zk1, evk1, rfl, o_k1, g_k1, hb⟩
  replace hB := bel_step hB hb
  replace g_a0 := Gd.step g_a0 hb
  replace g_a1 := Gd.step g_a1 hb
  clear hb
  obtain ⟨i_k1, e0⟩ := rad_is o_k1 hz1.out (by omega) (by omega)
  subst e0
  clear o_k1
  go_wp2_with fail
  go_at_call 37
  refine (mul_2 g_a0 g_k1 (by omega) (by omega) 10 (by omega)).mono ?_
  rintro e w5 ⟨v, rfl, Qk2, nk2, ck2, zk2, rfl, i_k2, g_k2, hb⟩
  replace hB := bel_step hB hb
  replace g_a0 := Gd.step g_a0 hb
  replace g_a1 := Gd.step g_a1 hb
  replace g_k1 := Gd.step g_k1 hb
  clear hb
  go_wp2_with fail
  go_at_call 15
  refine (mred_o (k : Int) g_k2 g_a1 (by omega) (by omega)).mono ?_
  rintro e w6 ⟨Qk3, nk3, ck3, zk3, evk3, rfl, o_k3, g_k3, hb⟩
  replace hB := bel_step hB hb
  replace g_a0 := Gd.step g_a0 hb
  replace g_a1 := Gd.step g_a1 hb
  replace g_k1 := Gd.step g_k1 hb
  replace g_k2 := Gd.step g_k2 hb
  clear hb
  obtain ⟨i_k3, e0⟩ := red_is (N := V xs0 % V xs1) o_k3 hp.out HO.out (by omega) (by omega) (Int.emod_nonneg _ hz1.out) (Int.emod_lt_of_pos _ hp.out) (by rw [i_k2.out.v, i_k1.out.v, mod_mul_l, mod_mul_r])
  subst e0
  clear o_k3
  clear g_k2
  clear g_k1
  clear i_k2 i_k1
  go_wp2_with fail
  go_at_call 32
  refine (div_2 g_a0 g_a1 (by omega) (by omega) hz1.out).mono ?_
  rintro e w7 ⟨v1, v2, rfl, ⟨Qqk4, nqk4, cqk4, zqk4, rfl, -, -, -⟩, ⟨Qk4, nk4, ck4, zk4, rfl, i_k4, g_k4, hb⟩⟩
  replace hB := bel_step hB hb
  replace g_a0 := Gd.step g_a0 hb
  replace g_a1 := Gd.step g_a1 hb
  replace g_k3 := Gd.step g_k3 hb
  clear hb
  go_wp2_with fail
  go_at_call 13
  refine (mcon_o g_a1 (by omega)).mono ?_
  rintro e w8 ⟨xk5, evk5, rfl, o_k5, hb⟩
  replace hB := bel_step hB hb
  replace g_a0 := Gd.step g_a0 hb
  replace g_a1 := Gd.step g_a1 hb
  replace g_k3 := Gd.step g_k3 hb
  replace g_k4 := Gd.step g_k4 hb
  clear hb
  obtain ⟨hcw, hcv, e0⟩ : Wd.W xk5 ∧ Hid ((Nt.at_ xs1 0 * xk5 + 1) % 18446744073709551616 = 0) ∧ evk5 = 0 := by
    rcases o_k5.out with ⟨h, _⟩ | ⟨_, h1, h2, h3⟩
    · exact absurd HO.out h
    · exact ⟨h1, Lib.hid h2, h3⟩
  subst e0
  clear o_k5
  have hc0 : w8.cell? ad0 = some (.int .u64 (Nt.at_ xs0 0)) := by
    obtain ⟨ad9, e9, _, h9⟩ := Rd.at_ g_a0.out.at_ hz
    cases e9
    have e : ad0.add 0 = ad0 := by unfold Addr.add; simp
    rw [e] at h9; exact h9
  have hd0 : w8.cell? (ad0.add 0) = some (.int .u64 (Nt.at_ xs0 0)) := by
    have e : ad0.add 0 = ad0 := by unfold Addr.add; simp
    rw [e]; exact hc0
  obtain ⟨lc, hlc⟩ : ∃ lc, lc = (Nt.at_ xs0 0 * xk5) % 18446744073709551616 := ⟨_, rfl⟩
  have hlw : Wd.W lc := by rw [hlc]; exact W_mod _
  have HLC := Lib.hid hlc
  have hwm : IntKind.u64.wrap (Nt.at_ xs0 0 * xk5) = lc := by rw [IntKind.wrap_u64]; exact HLC.out.symm
  clear hlc
  go_wp2_with fail
  go_at_call 11
  refine (one_r lc (hlw) _).mono ?_
  rintro e w9 ⟨v, rfl, Qk6, nk6, ck6, zk6, rfl, i_k6, g_k6, hb⟩
  replace hB := bel_step hB hb
  replace g_a0 := Gd.step g_a0 hb
  replace g_a1 := Gd.step g_a1 hb
  replace g_k3 := Gd.step g_k3 hb
  replace g_k4 := Gd.step g_k4 hb
  clear hb
  clear hwm hc0 hd0
  go_wp2_with fail
  go_at_call 37
  refine (mul_2 g_a1 g_k6 (by omega) (by omega) 6 (by omega)).mono ?_
  rintro e w10 ⟨v, rfl, Qk7, nk7, ck7, zk7, rfl, i_k7, g_k7, hb⟩
  replace hB := bel_step hB hb
  replace g_a0 := Gd.step g_a0 hb
  replace g_a1 := Gd.step g_a1 hb
  replace g_k3 := Gd.step g_k3 hb
  replace g_k4 := Gd.step g_k4 hb
  replace g_k6 := Gd.step g_k6 hb
  clear hb
  go_wp2_with fail
  go_at_call 33
  refine (add_2 (Gd.up g_a0 (show 5 ≤ 6 by omega)) g_k7 (by omega) (by omega) 7 (by omega)).mono ?_
  rintro e w11 ⟨v, rfl, Qk8, nk8, ck8, zk8, rfl, i_k8, g_k8, hb⟩
  replace hB := bel_step hB hb
  replace g_a0 := Gd.step g_a0 hb
  replace g_a1 := Gd.step g_a1 hb
  replace g_k3 := Gd.step g_k3 hb
  replace g_k4 := Gd.step g_k4 hb
  replace g_k6 := Gd.step g_k6 hb
  replace g_k7 := Gd.step g_k7 hb
  clear hb
  have hx0 : Nt.at_ zk8 0 = 0 := by
    have h := V_at zk8 i_k8.out.ws 0
    rw [h, P_zero, Int.ediv_one, i_k8.out.v, i_k7.out.v, i_k6.out.v, HLC.out]
    exact const_nought hva0.out hva1.out hcv.out
  clear g_k7
  clear g_k6
  clear i_k7 i_k6
  go_wp2_with fail
  go_at_call 19
  refine (sameM g_k3 g_k4 (by omega) (by omega) true (decide_eq_true (is_eq i_k3 i_k4 rfl))).mono ?_
  rintro e w12 ⟨rfl, hb⟩
  replace hB := bel_step hB hb
  replace g_a0 := Gd.step g_a0 hb
  replace g_a1 := Gd.step g_a1 hb
  replace g_k3 := Gd.step g_k3 hb
  replace g_k4 := Gd.step g_k4 hb
  replace g_k8 := Gd.step g_k8 hb
  clear hb
  clear g_k3
  clear g_k4
  rcases Nat.eq_zero_or_pos nk8 with hx9 | hx9
  · subst hx9
    go_wp2_with fail
    go_ret
    exact ⟨rfl, hB.out⟩
  · have hx9i : (0 : Int) < (nk8 : Int) := by omega
    have hx9e : ((nk8 : Int) == 0) = false := by simp; omega
    have hcx : ∃ adx, Qk8 = some adx ∧ w12.cell? adx = some (.int .u64 0) := by
      obtain ⟨ad9, e9, _, h9⟩ := Rd.at_ g_k8.out.at_ hx9
      have e : ad9.add 0 = ad9 := by unfold Addr.add; simp
      rw [e, hx0] at h9
      exact ⟨ad9, e9, h9⟩
    obtain ⟨adx, e9, hcx⟩ := hcx
    subst e9
    clear g_k8 hx0
    go_wp2_with fail
    go_ret
    exact ⟨rfl, hB.out⟩

theorem walk (w : World) (A0 : Option Addr) (n0 c0 : Nat) (xs0 : List Int) (A1 : Option Addr) (n1 c1 : Nat) (xs1 : List Int) (a2 : Int)
    (hr0 : Rd w w.heap.size A0 n0 xs0) (hn0 : n0 ≤ c0) (hm0 : c0 ≤ 9223372036854775807) (hr1 : Rd w w.heap.size A1 n1 xs1) (hn1 : n1 ≤ c1) (hm1 : c1 ≤ 9223372036854775807) (wf2 : (Lit.int .i64 a2).wf = true) :
    Calls Try.prog 7 #[.slice A0 n0 c0, .slice A1 n1 c1, .int .i64 a2] w fun e w' => e = .returned (.bool true) ∧ Below w.heap.size w w' := by
  by_cases h0 : n0 ≤ 5
  · by_cases h1 : n1 ≤ 5
    · rcases Nat.eq_zero_or_pos n1 with h2 | h2
      · exact walk_h2 w A0 n0 c0 xs0 A1 n1 c1 xs1 a2 hr0 hn0 hm0 hr1 hn1 hm1 wf2 h0 h1 h2
      · rcases (show Nt.at_ xs1 0 % 2 = 0 ∨ Nt.at_ xs1 0 % 2 = 1 by omega) with ho | ho
        · exact walk_h3 w A0 n0 c0 xs0 A1 n1 c1 xs1 a2 hr0 hn0 hm0 hr1 hn1 hm1 wf2 h0 h1 h2 ho
        · rcases Nat.eq_zero_or_pos n0 with hz | hz
          · exact walk_m0 w A0 n0 c0 xs0 A1 n1 c1 xs1 a2 hr0 hn0 hm0 hr1 hn1 hm1 wf2 h0 h1 h2 ho hz
          · exact walk_m1 w A0 n0 c0 xs0 A1 n1 c1 xs1 a2 hr0 hn0 hm0 hr1 hn1 hm1 wf2 h0 h1 h2 ho hz
    · exact walk_h1 w A0 n0 c0 xs0 A1 n1 c1 xs1 a2 hr0 hn0 hm0 hr1 hn1 hm1 wf2 (by omega)
  · exact walk_h1 w A0 n0 c0 xs0 A1 n1 c1 xs1 a2 hr0 hn0 hm0 hr1 hn1 hm1 wf2 (by omega)
end modularReduce
end Go.Proofs.Ytopajockmcgpmaa
