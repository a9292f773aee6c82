/- The walk of ModularPowers. -/
import Derived.Test.YtopajockmcgpmaaM0
namespace Go.Proofs.Ytopajockmcgpmaa
open Go Go.RowKit
namespace modularPowers
open Wd Sti Nt
set_option linter.unusedVariables false
set_option maxRecDepth 100000 in
set_option maxHeartbeats 16000000 in
theorem walk_h1 (w : World) (A0 : Option Addr) (n0 c0 : Nat) (xs0 : List Int) (A1 : Option Addr) (n1 c1 : Nat) (xs1 : List Int) (A2 : Option Addr) (n2 c2 : Nat) (xs2 : List Int) (a3 : Int) (a4 : Int) (a5 : Int)
    (hr0 : Rd w w.heap.size A0 n0 xs0) (hn0 : n0 ≤ c0) (hm0 : c0 ≤ 9223372036854775807) (hr1 : Rd w w.heap.size A1 n1 xs1) (hn1 : n1 ≤ c1) (hm1 : c1 ≤ 9223372036854775807) (hr2 : Rd w w.heap.size A2 n2 xs2) (hn2 : n2 ≤ c2) (hm2 : c2 ≤ 9223372036854775807) (wf3 : (Lit.int .u64 a3).wf = true) (wf4 : (Lit.int .u64 a4).wf = true) (wf5 : (Lit.int .i64 a5).wf = true) (hl : 5 < n0 ∨ 5 < n1 ∨ 5 < n2) :
    Calls Try.prog 8 #[.slice A0 n0 c0, .slice A1 n1 c1, .slice A2 n2 c2, .int .u64 a3, .int .u64 a4, .int .i64 a5] w fun e w' => e = .returned (.bool true) ∧ Below w.heap.size w w' := by
  have hB : Hid (Below w.heap.size w w) := Lib.hid (Below.refl _ w)
  clear hr0
  clear hr1
  clear hr2
  go_enter Try.func8, Try.ntmps8
  try simp only [List.append]
  go_wp2_with fail
  go_at_call 9
  refine (lives3_c _).mono ?_
  rintro e w1 ⟨rfl, hb⟩
  replace hB := bel_step hB hb
  clear hb
  go_wp2_with fail
  go_at_call 21
  refine (light3_c A0 A1 A2 n0 c0 n1 c1 n2 c2 (by omega) (by omega) (by omega) _ false (by simp only [Bool.and_eq_false_iff, decide_eq_false_iff_not]; omega)).mono ?_
  rintro e w2 ⟨rfl, hb⟩
  replace hB := bel_step hB hb
  clear hb
  go_wp2_with fail
  go_ret
  exact ⟨rfl, hB.out⟩

set_option maxRecDepth 100000 in
set_option maxHeartbeats 16000000 in
theorem walk_z (w : World) (A0 : Option Addr) (n0 c0 : Nat) (xs0 : List Int) (A1 : Option Addr) (n1 c1 : Nat) (xs1 : List Int) (A2 : Option Addr) (n2 c2 : Nat) (xs2 : List Int) (a3 : Int) (a4 : Int) (a5 : Int)
    (hr0 : Rd w w.heap.size A0 n0 xs0) (hn0 : n0 ≤ c0) (hm0 : c0 ≤ 9223372036854775807) (hr1 : Rd w w.heap.size A1 n1 xs1) (hn1 : n1 ≤ c1) (hm1 : c1 ≤ 9223372036854775807) (hr2 : Rd w w.heap.size A2 n2 xs2) (hn2 : n2 ≤ c2) (hm2 : c2 ≤ 9223372036854775807) (wf3 : (Lit.int .u64 a3).wf = true) (wf4 : (Lit.int .u64 a4).wf = true) (wf5 : (Lit.int .i64 a5).wf = true) (h0 : n0 ≤ 5) (h1 : n1 ≤ 5) (h2 : n2 ≤ 5) (hv : V xs2 = 0) :
    Calls Try.prog 8 #[.slice A0 n0 c0, .slice A1 n1 c1, .slice A2 n2 c2, .int .u64 a3, .int .u64 a4, .int .i64 a5] w fun e w' => e = .returned (.bool true) ∧ Below w.heap.size w w' := by
  have hz := Lib.hid hv
  clear hv
  have g_a2 : Hid (Gd w A2 n2 c2 xs2 5) := Lib.hid ⟨hr2, hn2, hm2, by omega⟩
  have hB : Hid (Below w.heap.size w w) := Lib.hid (Below.refl _ w)
  clear hr0
  clear hr1
  clear hr2
  go_enter Try.func8, Try.ntmps8
  try simp only [List.append]
  go_wp2_with fail
  go_at_call 9
  refine (lives3_c _).mono ?_
  rintro e w1 ⟨rfl, hb⟩
  replace hB := bel_step hB hb
  replace g_a2 := Gd.step g_a2 hb
  clear hb
  go_wp2_with fail
  go_at_call 21
  refine (light3_c A0 A1 A2 n0 c0 n1 c1 n2 c2 (by omega) (by omega) (by omega) _ true (by simp <;> omega)).mono ?_
  rintro e w2 ⟨rfl, hb⟩
  replace hB := bel_step hB hb
  replace g_a2 := Gd.step g_a2 hb
  clear hb
  go_wp2_with fail
  go_at_call 31
  refine (trim_2 g_a2 (by omega)).mono ?_
  rintro e w3 ⟨v, rfl, Qk1, nk1, ck1, zk1, rfl, i_k1, g_k1, hb⟩
  replace hB := bel_step hB hb
  replace g_a2 := Gd.step g_a2 hb
  clear hb
  obtain rfl : nk1 = 0 := by have h9 := g_k1.out.at_.len; rw [i_k1.out.uniq (show Is [] _ by rw [hz.out]; exact Is.nil)] at h9; exact h9.symm
  clear g_k1 i_k1
  go_wp2_with fail
  go_ret
  exact ⟨rfl, hB.out⟩

set_option maxRecDepth 100000 in
set_option maxHeartbeats 16000000 in
theorem walk_m (w : World) (A0 : Option Addr) (n0 c0 : Nat) (xs0 : List Int) (A1 : Option Addr) (n1 c1 : Nat) (xs1 : List Int) (A2 : Option Addr) (n2 c2 : Nat) (xs2 : List Int) (a3 : Int) (a4 : Int) (a5 : Int)
    (hr0 : Rd w w.heap.size A0 n0 xs0) (hn0 : n0 ≤ c0) (hm0 : c0 ≤ 9223372036854775807) (hr1 : Rd w w.heap.size A1 n1 xs1) (hn1 : n1 ≤ c1) (hm1 : c1 ≤ 9223372036854775807) (hr2 : Rd w w.heap.size A2 n2 xs2) (hn2 : n2 ≤ c2) (hm2 : c2 ≤ 9223372036854775807) (wf3 : (Lit.int .u64 a3).wf = true) (wf4 : (Lit.int .u64 a4).wf = true) (wf5 : (Lit.int .i64 a5).wf = true) (h0 : n0 ≤ 5) (h1 : n1 ≤ 5) (h2 : n2 ≤ 5) (hv : V xs2 ≠ 0) :
    Calls Try.prog 8 #[.slice A0 n0 c0, .slice A1 n1 c1, .slice A2 n2 c2, .int .u64 a3, .int .u64 a4, .int .i64 a5] w fun e w' => e = .returned (.bool true) ∧ Below w.heap.size w w' := by
  have hz := Lib.hid hv
  clear hv
  have hw3 := W_wf wf3
  have hw4 := W_wf wf4
  unfold Wd.W at hw3 hw4
  have t3 : a3.tmod 1024 = a3 % 1024 := Int.tmod_eq_emod_of_nonneg hw3.1
  have t4 : a4.tmod 1024 = a4 % 1024 := Int.tmod_eq_emod_of_nonneg hw4.1
  have p0 := Lib.hid (V_nonneg hr0.ws)
  obtain ⟨X, hX⟩ : ∃ X : Nat, a3 % 1024 = X := ⟨(a3 % 1024).toNat, by omega⟩
  obtain ⟨Y, hY⟩ : ∃ Y : Nat, a4 % 1024 = Y := ⟨(a4 % 1024).toNat, by omega⟩
  have hXl : (X : Int) ≤ 1023 := by omega
  have hYl : (Y : Int) ≤ 1023 := by omega
  obtain ⟨hw31, hw32⟩ := hw3
  obtain ⟨hw41, hw42⟩ := hw4
  obtain ⟨Z, hZ⟩ : ∃ Z : Nat, Z = X * Y := ⟨_, rfl⟩
  have hZi : (X : Int) * (Y : Int) = (Z : Int) := by rw [hZ]; simp
  have hZl : (Z : Int) ≤ 1046529 := by rw [← hZi]; have h1 := Int.mul_le_mul hXl hYl (by omega) (by omega); omega
  have HZ := Lib.hid hZ
  clear hZ
  obtain ⟨i, hi, hi7⟩ := pick_ex a5 7 (by omega)
  have HI : Hid (Kit.pick a5 7 = (i : Int)) := Lib.hid hi
  clear hi
  obtain ⟨pr, hpr, hprim, hprl⟩ := prime_at i hi7
  have HPR := Lib.hid hprim
  clear hprim
  have g_a0 : Hid (Gd w A0 n0 c0 xs0 5) := Lib.hid ⟨hr0, hn0, hm0, by omega⟩
  have g_a1 : Hid (Gd w A1 n1 c1 xs1 5) := Lib.hid ⟨hr1, hn1, hm1, by omega⟩
  have g_a2 : Hid (Gd w A2 n2 c2 xs2 5) := Lib.hid ⟨hr2, hn2, hm2, by omega⟩
  have hB : Hid (Below w.heap.size w w) := Lib.hid (Below.refl _ w)
  clear hr0
  clear hr1
  clear hr2
  go_enter Try.func8, Try.ntmps8
  try simp only [List.append]
  go_wp2_with fail
  go_at_call 9
  refine (lives3_c _).mono ?_
  rintro e w1 ⟨rfl, hb⟩
  replace hB := bel_step hB hb
  replace g_a0 := Gd.step g_a0 hb
  replace g_a1 := Gd.step g_a1 hb
  replace g_a2 := Gd.step g_a2 hb
  clear hb
  go_wp2_with fail
  go_at_call 21
  refine (light3_c A0 A1 A2 n0 c0 n1 c1 n2 c2 (by omega) (by omega) (by omega) _ true (by simp <;> omega)).mono ?_
  rintro e w2 ⟨rfl, hb⟩
  replace hB := bel_step hB hb
  replace g_a0 := Gd.step g_a0 hb
  replace g_a1 := Gd.step g_a1 hb
  replace g_a2 := Gd.step g_a2 hb
  clear hb
  go_wp2_with fail
  go_at_call 31
  refine (trim_2 g_a2 (by omega)).mono ?_
  rintro e w3 ⟨v, rfl, Qk1, nk1, ck1, zk1, rfl, i_k1, g_k1, hb⟩
  replace hB := bel_step hB hb
  replace g_a0 := Gd.step g_a0 hb
  replace g_a1 := Gd.step g_a1 hb
  replace g_a2 := Gd.step g_a2 hb
  clear hb
  have hlf : ((nk1 : Int) == 0) = false := by
    have h8 : nk1 ≠ 0 := fun e9 => hz.out (by have h9 := g_k1.out.at_.len; rw [e9] at h9; rw [← i_k1.out.v, List.eq_nil_of_length_eq_zero h9]; rfl)
    simp; omega
  clear g_k1 i_k1
  go_wp2_with fail
  go_at_call 11
  refine (one_r (X : Int) (Wx _ (by omega)) _).mono ?_
  rintro e w4 ⟨v, rfl, Qk2, nk2, ck2, zk2, rfl, i_k2, g_k2, hb⟩
  replace hB := bel_step hB hb
  replace g_a0 := Gd.step g_a0 hb
  replace g_a1 := Gd.step g_a1 hb
  replace g_a2 := Gd.step g_a2 hb
  clear hb
  go_wp2_with fail
  go_at_call 18
  refine (mpow_o g_a0 (Gd.up g_k2 (show 1 ≤ 5 by omega)) g_a2 (by omega) (by omega) X (by rw [i_k2.out.v])).mono ?_
  rintro e w5 ⟨Qk3, nk3, ck3, zk3, evk3, rfl, o_k3, g_k3, hb⟩
  replace hB := bel_step hB hb
  replace g_a0 := Gd.step g_a0 hb
  replace g_a1 := Gd.step g_a1 hb
  replace g_a2 := Gd.step g_a2 hb
  replace g_k2 := Gd.step g_k2 hb
  clear hb
  obtain ⟨i_k3, e0⟩ := ModO.ok o_k3 (hz.out)
  subst e0
  clear o_k3
  clear g_k2
  go_wp2_with fail
  go_at_call 11
  refine (one_r (Y : Int) (Wx _ (by omega)) _).mono ?_
  rintro e w6 ⟨v, rfl, Qk4, nk4, ck4, zk4, rfl, i_k4, g_k4, hb⟩
  replace hB := bel_step hB hb
  replace g_a0 := Gd.step g_a0 hb
  replace g_a1 := Gd.step g_a1 hb
  replace g_a2 := Gd.step g_a2 hb
  replace g_k3 := Gd.step g_k3 hb
  clear hb
  go_wp2_with fail
  go_at_call 18
  refine (mpow_o g_k3 (Gd.up g_k4 (show 1 ≤ 5 by omega)) g_a2 (by omega) (by omega) Y (by rw [i_k4.out.v])).mono ?_
  rintro e w7 ⟨Qk5, nk5, ck5, zk5, evk5, rfl, o_k5, g_k5, hb⟩
  replace hB := bel_step hB hb
  replace g_a0 := Gd.step g_a0 hb
  replace g_a1 := Gd.step g_a1 hb
  replace g_a2 := Gd.step g_a2 hb
  replace g_k3 := Gd.step g_k3 hb
  replace g_k4 := Gd.step g_k4 hb
  clear hb
  obtain ⟨i_k5, e0⟩ := ModO.ok o_k5 (hz.out)
  subst e0
  clear o_k5
  clear g_k4
  go_wp2_with fail
  go_at_call 11
  refine (one_r (Z : Int) (Wx _ (by omega)) _).mono ?_
  rintro e w8 ⟨v, rfl, Qk6, nk6, ck6, zk6, rfl, i_k6, g_k6, hb⟩
  replace hB := bel_step hB hb
  replace g_a0 := Gd.step g_a0 hb
  replace g_a1 := Gd.step g_a1 hb
  replace g_a2 := Gd.step g_a2 hb
  replace g_k3 := Gd.step g_k3 hb
  replace g_k5 := Gd.step g_k5 hb
  clear hb
  go_wp2_with fail
  go_at_call 18
  refine (mpow_o g_a0 (Gd.up g_k6 (show 1 ≤ 5 by omega)) g_a2 (by omega) (by omega) Z (by rw [i_k6.out.v])).mono ?_
  rintro e w9 ⟨Qk7, nk7, ck7, zk7, evk7, rfl, o_k7, g_k7, hb⟩
  replace hB := bel_step hB hb
  replace g_a0 := Gd.step g_a0 hb
  replace g_a1 := Gd.step g_a1 hb
  replace g_a2 := Gd.step g_a2 hb
  replace g_k3 := Gd.step g_k3 hb
  replace g_k5 := Gd.step g_k5 hb
  replace g_k6 := Gd.step g_k6 hb
  clear hb
  obtain ⟨i_k7, e0⟩ := ModO.ok o_k7 (hz.out)
  subst e0
  clear o_k7
  clear g_k6
  go_wp2_with fail
  go_at_call 11
  refine (one_r (X : Int) (Wx _ (by omega)) _).mono ?_
  rintro e w10 ⟨v, rfl, Qk8, nk8, ck8, zk8, rfl, i_k8, g_k8, hb⟩
  replace hB := bel_step hB hb
  replace g_a0 := Gd.step g_a0 hb
  replace g_a1 := Gd.step g_a1 hb
  replace g_a2 := Gd.step g_a2 hb
  replace g_k3 := Gd.step g_k3 hb
  replace g_k5 := Gd.step g_k5 hb
  replace g_k7 := Gd.step g_k7 hb
  clear hb
  go_wp2_with fail
  go_at_call 18
  refine (mpow_o g_a1 (Gd.up g_k8 (show 1 ≤ 5 by omega)) g_a2 (by omega) (by omega) X (by rw [i_k8.out.v])).mono ?_
  rintro e w11 ⟨Qk9, nk9, ck9, zk9, evk9, rfl, o_k9, g_k9, hb⟩
  replace hB := bel_step hB hb
  replace g_a0 := Gd.step g_a0 hb
  replace g_a1 := Gd.step g_a1 hb
  replace g_a2 := Gd.step g_a2 hb
  replace g_k3 := Gd.step g_k3 hb
  replace g_k5 := Gd.step g_k5 hb
  replace g_k7 := Gd.step g_k7 hb
  replace g_k8 := Gd.step g_k8 hb
  clear hb
  obtain ⟨i_k9, e0⟩ := ModO.ok o_k9 (hz.out)
  subst e0
  clear o_k9
  clear g_k8
  go_wp2_with fail
  go_at_call 17
  refine (mmul_o g_k3 g_k9 g_a2 (by omega) (by omega)).mono ?_
  rintro e w12 ⟨Qk10, nk10, ck10, zk10, evk10, rfl, o_k10, g_k10, hb⟩
  replace hB := bel_step hB hb
  replace g_a0 := Gd.step g_a0 hb
  replace g_a1 := Gd.step g_a1 hb
  replace g_a2 := Gd.step g_a2 hb
  replace g_k3 := Gd.step g_k3 hb
  replace g_k5 := Gd.step g_k5 hb
  replace g_k7 := Gd.step g_k7 hb
  replace g_k9 := Gd.step g_k9 hb
  clear hb
  obtain ⟨i_k10, e0⟩ := ModO.ok o_k10 (hz.out)
  subst e0
  clear o_k10
  go_wp2_with fail
  go_at_call 37
  refine (mul_2 g_a0 g_a1 (by omega) (by omega) 10 (by omega)).mono ?_
  rintro e w13 ⟨v, rfl, Qk11, nk11, ck11, zk11, rfl, i_k11, g_k11, hb⟩
  replace hB := bel_step hB hb
  replace g_a0 := Gd.step g_a0 hb
  replace g_a1 := Gd.step g_a1 hb
  replace g_a2 := Gd.step g_a2 hb
  replace g_k3 := Gd.step g_k3 hb
  replace g_k5 := Gd.step g_k5 hb
  replace g_k7 := Gd.step g_k7 hb
  replace g_k9 := Gd.step g_k9 hb
  replace g_k10 := Gd.step g_k10 hb
  clear hb
  go_wp2_with fail
  go_at_call 11
  refine (one_r (X : Int) (Wx _ (by omega)) _).mono ?_
  rintro e w14 ⟨v, rfl, Qk12, nk12, ck12, zk12, rfl, i_k12, g_k12, hb⟩
  replace hB := bel_step hB hb
  replace g_a0 := Gd.step g_a0 hb
  replace g_a1 := Gd.step g_a1 hb
  replace g_a2 := Gd.step g_a2 hb
  replace g_k3 := Gd.step g_k3 hb
  replace g_k5 := Gd.step g_k5 hb
  replace g_k7 := Gd.step g_k7 hb
  replace g_k9 := Gd.step g_k9 hb
  replace g_k10 := Gd.step g_k10 hb
  replace g_k11 := Gd.step g_k11 hb
  clear hb
  go_wp2_with fail
  go_at_call 18
  refine (mpow_o g_k11 (Gd.up g_k12 (show 1 ≤ 10 by omega)) g_a2 (by omega) (by omega) X (by rw [i_k12.out.v])).mono ?_
  rintro e w15 ⟨Qk13, nk13, ck13, zk13, evk13, rfl, o_k13, g_k13, hb⟩
  replace hB := bel_step hB hb
  replace g_a0 := Gd.step g_a0 hb
  replace g_a1 := Gd.step g_a1 hb
  replace g_a2 := Gd.step g_a2 hb
  replace g_k3 := Gd.step g_k3 hb
  replace g_k5 := Gd.step g_k5 hb
  replace g_k7 := Gd.step g_k7 hb
  replace g_k9 := Gd.step g_k9 hb
  replace g_k10 := Gd.step g_k10 hb
  replace g_k11 := Gd.step g_k11 hb
  replace g_k12 := Gd.step g_k12 hb
  clear hb
  obtain ⟨i_k13, e0⟩ := ModO.ok o_k13 (hz.out)
  subst e0
  clear o_k13
  clear g_k12
  clear g_k9
  have hb := below_alloc (w := w15) (.cells (us primes7) 29)
  have hcp : (w15.alloc (.cells #[.int .u64 2, .int .u64 3, .int .u64 5, .int .u64 7, .int .u64 251, .int .u64 65537, .int .u64 4294967291] 29)).cell? ⟨w15.heap.size, i, none⟩ = some (.int .u64 (pr : Int)) := by
    have h := (Bk.new w15 29 (us primes7)).cell i
    rw [us_get (show i < primes7.length from hi7), hpr] at h
    exact h
  have hcp2 : (#[.int .u64 2, .int .u64 3, .int .u64 5, .int .u64 7, .int .u64 251, .int .u64 65537, .int .u64 4294967291] : Array Value)[i]? = some (.int .u64 (pr : Int)) := by
    have h := us_get (xs := primes7) (show i < primes7.length from hi7)
    rw [hpr] at h
    exact h
  have hii : (i : Int) < 7 := by omega
  replace hB := bel_step hB hb
  replace g_a0 := Gd.step g_a0 hb
  replace g_a1 := Gd.step g_a1 hb
  replace g_a2 := Gd.step g_a2 hb
  replace g_k3 := Gd.step g_k3 hb
  replace g_k5 := Gd.step g_k5 hb
  replace g_k7 := Gd.step g_k7 hb
  replace g_k10 := Gd.step g_k10 hb
  replace g_k11 := Gd.step g_k11 hb
  replace g_k13 := Gd.step g_k13 hb
  clear hb
  go_wp2_with fail
  go_at_call 36
  refine (Kit.pick_c a5 7 _ wf5 (by decide)).mono ?_
  rintro e w9 ⟨rfl, rfl⟩
  rw [HI.out]
  go_wp2_with fail
  go_at_call 11
  refine (one_r (pr : Int) (Wx _ (by omega)) _).mono ?_
  rintro e w16 ⟨v, rfl, Qk14, nk14, ck14, zk14, rfl, i_k14, g_k14, hb⟩
  replace hB := bel_step hB hb
  replace g_a0 := Gd.step g_a0 hb
  replace g_a1 := Gd.step g_a1 hb
  replace g_a2 := Gd.step g_a2 hb
  replace g_k3 := Gd.step g_k3 hb
  replace g_k5 := Gd.step g_k5 hb
  replace g_k7 := Gd.step g_k7 hb
  replace g_k10 := Gd.step g_k10 hb
  replace g_k11 := Gd.step g_k11 hb
  replace g_k13 := Gd.step g_k13 hb
  clear hb
  clear hcp hcp2
  go_wp2_with fail
  go_at_call 18
  refine (mpow_o g_a0 (Gd.up g_k14 (show 1 ≤ 5 by omega)) g_k14 (by omega) (by omega) pr (by rw [i_k14.out.v])).mono ?_
  rintro e w17 ⟨Qk15, nk15, ck15, zk15, evk15, rfl, o_k15, g_k15, hb⟩
  replace hB := bel_step hB hb
  replace g_a0 := Gd.step g_a0 hb
  replace g_a1 := Gd.step g_a1 hb
  replace g_a2 := Gd.step g_a2 hb
  replace g_k3 := Gd.step g_k3 hb
  replace g_k5 := Gd.step g_k5 hb
  replace g_k7 := Gd.step g_k7 hb
  replace g_k10 := Gd.step g_k10 hb
  replace g_k11 := Gd.step g_k11 hb
  replace g_k13 := Gd.step g_k13 hb
  replace g_k14 := Gd.step g_k14 hb
  clear hb
  have hne : V zk14 ≠ 0 := by rw [i_k14.out.v]; have := HPR.out.1; omega
  obtain ⟨i_k15, e0⟩ := ModO.ok o_k15 (hne)
  subst e0
  clear o_k15
  go_wp2_with fail
  go_at_call 32
  refine (div_2 g_a0 g_k14 (by omega) (by omega) hne).mono ?_
  rintro e w18 ⟨v1, v2, rfl, ⟨Qqk16, nqk16, cqk16, zqk16, rfl, -, -, -⟩, ⟨Qk16, nk16, ck16, zk16, rfl, i_k16, g_k16, hb⟩⟩
  replace hB := bel_step hB hb
  replace g_a0 := Gd.step g_a0 hb
  replace g_a1 := Gd.step g_a1 hb
  replace g_a2 := Gd.step g_a2 hb
  replace g_k3 := Gd.step g_k3 hb
  replace g_k5 := Gd.step g_k5 hb
  replace g_k7 := Gd.step g_k7 hb
  replace g_k10 := Gd.step g_k10 hb
  replace g_k11 := Gd.step g_k11 hb
  replace g_k13 := Gd.step g_k13 hb
  replace g_k14 := Gd.step g_k14 hb
  replace g_k15 := Gd.step g_k15 hb
  clear hb
  rw [i_k14.out.v] at i_k15 i_k16
  clear g_k14
  go_wp2_with fail
  go_at_call 19
  refine (sameM g_k5 g_k7 (by omega) (by omega) true (decide_eq_true (is_eq i_k5 i_k7 (by rw [i_k3.out.v, mod_pow, ← Int.pow_mul, HZ.out])))).mono ?_
  rintro e w19 ⟨rfl, hb⟩
  replace hB := bel_step hB hb
  replace g_a0 := Gd.step g_a0 hb
  replace g_a1 := Gd.step g_a1 hb
  replace g_a2 := Gd.step g_a2 hb
  replace g_k3 := Gd.step g_k3 hb
  replace g_k5 := Gd.step g_k5 hb
  replace g_k7 := Gd.step g_k7 hb
  replace g_k10 := Gd.step g_k10 hb
  replace g_k11 := Gd.step g_k11 hb
  replace g_k13 := Gd.step g_k13 hb
  replace g_k15 := Gd.step g_k15 hb
  replace g_k16 := Gd.step g_k16 hb
  clear hb
  go_wp2_with fail
  go_at_call 19
  refine (sameM g_k10 g_k13 (by omega) (by omega) true (decide_eq_true (is_eq i_k10 i_k13 (by rw [i_k3.out.v, i_k9.out.v, mod_mul, i_k11.out.v, Int.mul_pow])))).mono ?_
  rintro e w20 ⟨rfl, hb⟩
  replace hB := bel_step hB hb
  replace g_a0 := Gd.step g_a0 hb
  replace g_a1 := Gd.step g_a1 hb
  replace g_a2 := Gd.step g_a2 hb
  replace g_k3 := Gd.step g_k3 hb
  replace g_k5 := Gd.step g_k5 hb
  replace g_k7 := Gd.step g_k7 hb
  replace g_k10 := Gd.step g_k10 hb
  replace g_k11 := Gd.step g_k11 hb
  replace g_k13 := Gd.step g_k13 hb
  replace g_k15 := Gd.step g_k15 hb
  replace g_k16 := Gd.step g_k16 hb
  clear hb
  go_wp2_with fail
  go_at_call 19
  refine (sameM g_k15 g_k16 (by omega) (by omega) true (decide_eq_true (is_eq i_k15 i_k16 (fermat_int HPR.out p0.out)))).mono ?_
  rintro e w21 ⟨rfl, hb⟩
  replace hB := bel_step hB hb
  replace g_a0 := Gd.step g_a0 hb
  replace g_a1 := Gd.step g_a1 hb
  replace g_a2 := Gd.step g_a2 hb
  replace g_k3 := Gd.step g_k3 hb
  replace g_k5 := Gd.step g_k5 hb
  replace g_k7 := Gd.step g_k7 hb
  replace g_k10 := Gd.step g_k10 hb
  replace g_k11 := Gd.step g_k11 hb
  replace g_k13 := Gd.step g_k13 hb
  replace g_k15 := Gd.step g_k15 hb
  replace g_k16 := Gd.step g_k16 hb
  clear hb
  go_wp2_with fail
  go_ret
  exact ⟨rfl, hB.out⟩

theorem walk (w : World) (A0 : Option Addr) (n0 c0 : Nat) (xs0 : List Int) (A1 : Option Addr) (n1 c1 : Nat) (xs1 : List Int) (A2 : Option Addr) (n2 c2 : Nat) (xs2 : List Int) (a3 : Int) (a4 : Int) (a5 : Int)
    (hr0 : Rd w w.heap.size A0 n0 xs0) (hn0 : n0 ≤ c0) (hm0 : c0 ≤ 9223372036854775807) (hr1 : Rd w w.heap.size A1 n1 xs1) (hn1 : n1 ≤ c1) (hm1 : c1 ≤ 9223372036854775807) (hr2 : Rd w w.heap.size A2 n2 xs2) (hn2 : n2 ≤ c2) (hm2 : c2 ≤ 9223372036854775807) (wf3 : (Lit.int .u64 a3).wf = true) (wf4 : (Lit.int .u64 a4).wf = true) (wf5 : (Lit.int .i64 a5).wf = true) :
    Calls Try.prog 8 #[.slice A0 n0 c0, .slice A1 n1 c1, .slice A2 n2 c2, .int .u64 a3, .int .u64 a4, .int .i64 a5] w fun e w' => e = .returned (.bool true) ∧ Below w.heap.size w w' := by
  by_cases h0 : n0 ≤ 5
  · by_cases h1 : n1 ≤ 5
    · by_cases h2 : n2 ≤ 5
      · by_cases hv : V xs2 = 0
        · exact walk_z w A0 n0 c0 xs0 A1 n1 c1 xs1 A2 n2 c2 xs2 a3 a4 a5 hr0 hn0 hm0 hr1 hn1 hm1 hr2 hn2 hm2 wf3 wf4 wf5 h0 h1 h2 hv
        · exact walk_m w A0 n0 c0 xs0 A1 n1 c1 xs1 A2 n2 c2 xs2 a3 a4 a5 hr0 hn0 hm0 hr1 hn1 hm1 hr2 hn2 hm2 wf3 wf4 wf5 h0 h1 h2 hv
      · exact walk_h1 w A0 n0 c0 xs0 A1 n1 c1 xs1 A2 n2 c2 xs2 a3 a4 a5 hr0 hn0 hm0 hr1 hn1 hm1 hr2 hn2 hm2 wf3 wf4 wf5 (by omega)
    · exact walk_h1 w A0 n0 c0 xs0 A1 n1 c1 xs1 A2 n2 c2 xs2 a3 a4 a5 hr0 hn0 hm0 hr1 hn1 hm1 hr2 hn2 hm2 wf3 wf4 wf5 (by omega)
  · exact walk_h1 w A0 n0 c0 xs0 A1 n1 c1 xs1 A2 n2 c2 xs2 a3 a4 a5 hr0 hn0 hm0 hr1 hn1 hm1 hr2 hn2 hm2 wf3 wf4 wf5 (by omega)
end modularPowers
end Go.Proofs.Ytopajockmcgpmaa
