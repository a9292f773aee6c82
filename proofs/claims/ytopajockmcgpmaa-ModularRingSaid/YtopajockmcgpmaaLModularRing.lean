/- The walk of ModularRing. -/
import Derived.Test.YtopajockmcgpmaaM0
namespace Go.Proofs.Ytopajockmcgpmaa
open Go Go.RowKit
namespace modularRing
open Wd Sti Nt
set_option linter.unusedVariables false
set_option maxRecDepth 100000 in
set_option maxHeartbeats 16000000 in
theorem walk_h1 (w : World) (A0 : Option Addr) (n0 c0 : Nat) (xs0 : List Int) (A1 : Option Addr) (n1 c1 : Nat) (xs1 : List Int) (A2 : Option Addr) (n2 c2 : Nat) (xs2 : List Int) (A3 : Option Addr) (n3 c3 : Nat) (xs3 : List Int) (a4 : Int) (a5 : Int)
    (hr0 : Rd w w.heap.size A0 n0 xs0) (hn0 : n0 ≤ c0) (hm0 : c0 ≤ 9223372036854775807) (hr1 : Rd w w.heap.size A1 n1 xs1) (hn1 : n1 ≤ c1) (hm1 : c1 ≤ 9223372036854775807) (hr2 : Rd w w.heap.size A2 n2 xs2) (hn2 : n2 ≤ c2) (hm2 : c2 ≤ 9223372036854775807) (hr3 : Rd w w.heap.size A3 n3 xs3) (hn3 : n3 ≤ c3) (hm3 : c3 ≤ 9223372036854775807) (wf4 : (Lit.int .u64 a4).wf = true) (wf5 : (Lit.int .u64 a5).wf = true) (hl : 5 < n0 ∨ 5 < n1 ∨ 5 < n3) :
    Calls Try.prog 5 #[.slice A0 n0 c0, .slice A1 n1 c1, .slice A2 n2 c2, .slice A3 n3 c3, .int .u64 a4, .int .u64 a5] w fun e w' => e = .returned (.bool true) ∧ Below w.heap.size w w' := by
  have hB : Hid (Below w.heap.size w w) := Lib.hid (Below.refl _ w)
  clear hr0
  clear hr1
  clear hr2
  clear hr3
  go_enter Try.func5, Try.ntmps5
  try simp only [List.append]
  go_wp2_with fail
  go_at_call 9
  refine (lives3_c _).mono ?_
  rintro e w1 ⟨rfl, hb⟩
  replace hB := bel_step hB hb
  clear hb
  go_wp2_with fail
  go_at_call 21
  refine (light3_c A0 A1 A3 n0 c0 n1 c1 n3 c3 (by omega) (by omega) (by omega) _ false (by simp only [Bool.and_eq_false_iff, decide_eq_false_iff_not]; omega)).mono ?_
  rintro e w2 ⟨rfl, hb⟩
  replace hB := bel_step hB hb
  clear hb
  go_wp2_with fail
  go_ret
  exact ⟨rfl, hB.out⟩

set_option maxRecDepth 100000 in
set_option maxHeartbeats 16000000 in
theorem walk_h2 (w : World) (A0 : Option Addr) (n0 c0 : Nat) (xs0 : List Int) (A1 : Option Addr) (n1 c1 : Nat) (xs1 : List Int) (A2 : Option Addr) (n2 c2 : Nat) (xs2 : List Int) (A3 : Option Addr) (n3 c3 : Nat) (xs3 : List Int) (a4 : Int) (a5 : Int)
    (hr0 : Rd w w.heap.size A0 n0 xs0) (hn0 : n0 ≤ c0) (hm0 : c0 ≤ 9223372036854775807) (hr1 : Rd w w.heap.size A1 n1 xs1) (hn1 : n1 ≤ c1) (hm1 : c1 ≤ 9223372036854775807) (hr2 : Rd w w.heap.size A2 n2 xs2) (hn2 : n2 ≤ c2) (hm2 : c2 ≤ 9223372036854775807) (hr3 : Rd w w.heap.size A3 n3 xs3) (hn3 : n3 ≤ c3) (hm3 : c3 ≤ 9223372036854775807) (wf4 : (Lit.int .u64 a4).wf = true) (wf5 : (Lit.int .u64 a5).wf = true) (h0 : n0 ≤ 5) (h1 : n1 ≤ 5) (h3 : n3 ≤ 5) (h2 : 5 < n2) :
    Calls Try.prog 5 #[.slice A0 n0 c0, .slice A1 n1 c1, .slice A2 n2 c2, .slice A3 n3 c3, .int .u64 a4, .int .u64 a5] w fun e w' => e = .returned (.bool true) ∧ Below w.heap.size w w' := by
  have h2i : (5 : Int) < (n2 : Int) := by omega
  have hB : Hid (Below w.heap.size w w) := Lib.hid (Below.refl _ w)
  clear hr0
  clear hr1
  clear hr2
  clear hr3
  go_enter Try.func5, Try.ntmps5
  try simp only [List.append]
  go_wp2_with fail
  go_at_call 9
  refine (lives3_c _).mono ?_
  rintro e w1 ⟨rfl, hb⟩
  replace hB := bel_step hB hb
  clear hb
  go_wp2_with fail
  go_at_call 21
  refine (light3_c A0 A1 A3 n0 c0 n1 c1 n3 c3 (by omega) (by omega) (by omega) _ true (by simp <;> omega)).mono ?_
  rintro e w2 ⟨rfl, hb⟩
  replace hB := bel_step hB hb
  clear hb
  go_wp2_with fail
  go_ret
  exact ⟨rfl, hB.out⟩

set_option maxRecDepth 100000 in
set_option maxHeartbeats 16000000 in
theorem walk_z (w : World) (A0 : Option Addr) (n0 c0 : Nat) (xs0 : List Int) (A1 : Option Addr) (n1 c1 : Nat) (xs1 : List Int) (A2 : Option Addr) (n2 c2 : Nat) (xs2 : List Int) (A3 : Option Addr) (n3 c3 : Nat) (xs3 : List Int) (a4 : Int) (a5 : Int)
    (hr0 : Rd w w.heap.size A0 n0 xs0) (hn0 : n0 ≤ c0) (hm0 : c0 ≤ 9223372036854775807) (hr1 : Rd w w.heap.size A1 n1 xs1) (hn1 : n1 ≤ c1) (hm1 : c1 ≤ 9223372036854775807) (hr2 : Rd w w.heap.size A2 n2 xs2) (hn2 : n2 ≤ c2) (hm2 : c2 ≤ 9223372036854775807) (hr3 : Rd w w.heap.size A3 n3 xs3) (hn3 : n3 ≤ c3) (hm3 : c3 ≤ 9223372036854775807) (wf4 : (Lit.int .u64 a4).wf = true) (wf5 : (Lit.int .u64 a5).wf = true) (h0 : n0 ≤ 5) (h1 : n1 ≤ 5) (h3 : n3 ≤ 5) (h2 : n2 ≤ 5) (hv : V xs3 = 0) :
    Calls Try.prog 5 #[.slice A0 n0 c0, .slice A1 n1 c1, .slice A2 n2 c2, .slice A3 n3 c3, .int .u64 a4, .int .u64 a5] w fun e w' => e = .returned (.bool true) ∧ Below w.heap.size w w' := by
  have h2i : (n2 : Int) ≤ 5 := by omega
  have hz := Lib.hid hv
  clear hv
  have g_a3 : Hid (Gd w A3 n3 c3 xs3 5) := Lib.hid ⟨hr3, hn3, hm3, by omega⟩
  have hB : Hid (Below w.heap.size w w) := Lib.hid (Below.refl _ w)
  clear hr0
  clear hr1
  clear hr2
  clear hr3
  go_enter Try.func5, Try.ntmps5
  try simp only [List.append]
  go_wp2_with fail
  go_at_call 9
  refine (lives3_c _).mono ?_
  rintro e w1 ⟨rfl, hb⟩
  replace hB := bel_step hB hb
  replace g_a3 := Gd.step g_a3 hb
  clear hb
  go_wp2_with fail
  go_at_call 21
  refine (light3_c A0 A1 A3 n0 c0 n1 c1 n3 c3 (by omega) (by omega) (by omega) _ true (by simp <;> omega)).mono ?_
  rintro e w2 ⟨rfl, hb⟩
  replace hB := bel_step hB hb
  replace g_a3 := Gd.step g_a3 hb
  clear hb
  go_wp2_with fail
  go_at_call 31
  refine (trim_2 g_a3 (by omega)).mono ?_
  rintro e w3 ⟨v, rfl, Qk1, nk1, ck1, zk1, rfl, i_k1, g_k1, hb⟩
  replace hB := bel_step hB hb
  replace g_a3 := Gd.step g_a3 hb
  clear hb
  obtain rfl : nk1 = 0 := by have h9 := g_k1.out.at_.len; rw [i_k1.out.uniq (show Is [] _ by rw [hz.out]; exact Is.nil)] at h9; exact h9.symm
  clear g_k1 i_k1
  go_wp2_with fail
  go_ret
  exact ⟨rfl, hB.out⟩

set_option maxRecDepth 100000 in
set_option maxHeartbeats 16000000 in
theorem walk_m (w : World) (A0 : Option Addr) (n0 c0 : Nat) (xs0 : List Int) (A1 : Option Addr) (n1 c1 : Nat) (xs1 : List Int) (A2 : Option Addr) (n2 c2 : Nat) (xs2 : List Int) (A3 : Option Addr) (n3 c3 : Nat) (xs3 : List Int) (a4 : Int) (a5 : Int)
    (hr0 : Rd w w.heap.size A0 n0 xs0) (hn0 : n0 ≤ c0) (hm0 : c0 ≤ 9223372036854775807) (hr1 : Rd w w.heap.size A1 n1 xs1) (hn1 : n1 ≤ c1) (hm1 : c1 ≤ 9223372036854775807) (hr2 : Rd w w.heap.size A2 n2 xs2) (hn2 : n2 ≤ c2) (hm2 : c2 ≤ 9223372036854775807) (hr3 : Rd w w.heap.size A3 n3 xs3) (hn3 : n3 ≤ c3) (hm3 : c3 ≤ 9223372036854775807) (wf4 : (Lit.int .u64 a4).wf = true) (wf5 : (Lit.int .u64 a5).wf = true) (h0 : n0 ≤ 5) (h1 : n1 ≤ 5) (h3 : n3 ≤ 5) (h2 : n2 ≤ 5) (hv : V xs3 ≠ 0) :
    Calls Try.prog 5 #[.slice A0 n0 c0, .slice A1 n1 c1, .slice A2 n2 c2, .slice A3 n3 c3, .int .u64 a4, .int .u64 a5] w fun e w' => e = .returned (.bool true) ∧ Below w.heap.size w w' := by
  have h2i : (n2 : Int) ≤ 5 := by omega
  have hz := Lib.hid hv
  clear hv
  have hw4 := W_wf wf4
  have hw5 := W_wf wf5
  unfold Wd.W at hw4 hw5
  have t4 : a4.tmod 1048576 = a4 % 1048576 := Int.tmod_eq_emod_of_nonneg hw4.1
  have t5 : a5.tmod 1048576 = a5 % 1048576 := Int.tmod_eq_emod_of_nonneg hw5.1
  have hp : Hid (0 < V xs3) := Lib.hid (by have := V_nonneg hr3.ws; have := hz.out; omega)
  obtain ⟨X, hX⟩ : ∃ X : Nat, a4 % 1048576 = X := ⟨(a4 % 1048576).toNat, by omega⟩
  obtain ⟨Y, hY⟩ : ∃ Y : Nat, a5 % 1048576 = Y := ⟨(a5 % 1048576).toNat, by omega⟩
  have hXl : (X : Int) ≤ 1048575 := by omega
  have hYl : (Y : Int) ≤ 1048575 := by omega
  obtain ⟨hw41, hw42⟩ := hw4
  obtain ⟨hw51, hw52⟩ := hw5
  have g_a0 : Hid (Gd w A0 n0 c0 xs0 5) := Lib.hid ⟨hr0, hn0, hm0, by omega⟩
  have g_a1 : Hid (Gd w A1 n1 c1 xs1 5) := Lib.hid ⟨hr1, hn1, hm1, by omega⟩
  have g_a2 : Hid (Gd w A2 n2 c2 xs2 5) := Lib.hid ⟨hr2, hn2, hm2, by omega⟩
  have g_a3 : Hid (Gd w A3 n3 c3 xs3 5) := Lib.hid ⟨hr3, hn3, hm3, by omega⟩
  have hB : Hid (Below w.heap.size w w) := Lib.hid (Below.refl _ w)
  clear hr0
  clear hr1
  clear hr2
  clear hr3
  go_enter Try.func5, Try.ntmps5
  try simp only [List.append]
  go_wp2_with fail
  go_at_call 9
  refine (lives3_c _).mono ?_
  rintro e w1 ⟨rfl, hb⟩
  replace hB := bel_step hB hb
  replace g_a0 := Gd.step g_a0 hb
  replace g_a1 := Gd.step g_a1 hb
  replace g_a2 := Gd.step g_a2 hb
  replace g_a3 := Gd.step g_a3 hb
  clear hb
  go_wp2_with fail
  go_at_call 21
  refine (light3_c A0 A1 A3 n0 c0 n1 c1 n3 c3 (by omega) (by omega) (by omega) _ true (by simp <;> omega)).mono ?_
  rintro e w2 ⟨rfl, hb⟩
  replace hB := bel_step hB hb
  replace g_a0 := Gd.step g_a0 hb
  replace g_a1 := Gd.step g_a1 hb
  replace g_a2 := Gd.step g_a2 hb
  replace g_a3 := Gd.step g_a3 hb
  clear hb
  go_wp2_with fail
  go_at_call 31
  refine (trim_2 g_a3 (by omega)).mono ?_
  rintro e w3 ⟨v, rfl, Qk1, nk1, ck1, zk1, rfl, i_k1, g_k1, hb⟩
  replace hB := bel_step hB hb
  replace g_a0 := Gd.step g_a0 hb
  replace g_a1 := Gd.step g_a1 hb
  replace g_a2 := Gd.step g_a2 hb
  replace g_a3 := Gd.step g_a3 hb
  clear hb
  have hlf : ((nk1 : Int) == 0) = false := by
    have h8 : nk1 ≠ 0 := fun e9 => hz.out (by have h9 := g_k1.out.at_.len; rw [e9] at h9; rw [← i_k1.out.v, List.eq_nil_of_length_eq_zero h9]; rfl)
    simp; omega
  clear g_k1 i_k1
  go_wp2_with fail
  go_at_call 10
  refine (madd_o g_a1 g_a2 g_a3 (by omega) (by omega)).mono ?_
  rintro e w4 ⟨Qk2, nk2, ck2, zk2, evk2, rfl, o_k2, g_k2, hb⟩
  replace hB := bel_step hB hb
  replace g_a0 := Gd.step g_a0 hb
  replace g_a1 := Gd.step g_a1 hb
  replace g_a2 := Gd.step g_a2 hb
  replace g_a3 := Gd.step g_a3 hb
  clear hb
  obtain ⟨i_k2, e0⟩ := ModO.ok o_k2 (hz.out)
  subst e0
  clear o_k2
  go_wp2_with fail
  go_at_call 17
  refine (mmul_o g_a0 g_k2 g_a3 (by omega) (by omega)).mono ?_
  rintro e w5 ⟨Qk3, nk3, ck3, zk3, evk3, rfl, o_k3, g_k3, hb⟩
  replace hB := bel_step hB hb
  replace g_a0 := Gd.step g_a0 hb
  replace g_a1 := Gd.step g_a1 hb
  replace g_a2 := Gd.step g_a2 hb
  replace g_a3 := Gd.step g_a3 hb
  replace g_k2 := Gd.step g_k2 hb
  clear hb
  obtain ⟨i_k3, e0⟩ := ModO.ok o_k3 (hz.out)
  subst e0
  clear o_k3
  go_wp2_with fail
  go_at_call 17
  refine (mmul_o g_a0 g_a1 g_a3 (by omega) (by omega)).mono ?_
  rintro e w6 ⟨Qk4, nk4, ck4, zk4, evk4, rfl, o_k4, g_k4, hb⟩
  replace hB := bel_step hB hb
  replace g_a0 := Gd.step g_a0 hb
  replace g_a1 := Gd.step g_a1 hb
  replace g_a2 := Gd.step g_a2 hb
  replace g_a3 := Gd.step g_a3 hb
  replace g_k2 := Gd.step g_k2 hb
  replace g_k3 := Gd.step g_k3 hb
  clear hb
  obtain ⟨i_k4, e0⟩ := ModO.ok o_k4 (hz.out)
  subst e0
  clear o_k4
  go_wp2_with fail
  go_at_call 17
  refine (mmul_o g_a0 g_a2 g_a3 (by omega) (by omega)).mono ?_
  rintro e w7 ⟨Qk5, nk5, ck5, zk5, evk5, rfl, o_k5, g_k5, hb⟩
  replace hB := bel_step hB hb
  replace g_a0 := Gd.step g_a0 hb
  replace g_a1 := Gd.step g_a1 hb
  replace g_a2 := Gd.step g_a2 hb
  replace g_a3 := Gd.step g_a3 hb
  replace g_k2 := Gd.step g_k2 hb
  replace g_k3 := Gd.step g_k3 hb
  replace g_k4 := Gd.step g_k4 hb
  clear hb
  obtain ⟨i_k5, e0⟩ := ModO.ok o_k5 (hz.out)
  subst e0
  clear o_k5
  go_wp2_with fail
  go_at_call 10
  refine (madd_o g_k4 g_k5 g_a3 (by omega) (by omega)).mono ?_
  rintro e w8 ⟨Qk6, nk6, ck6, zk6, evk6, rfl, o_k6, g_k6, hb⟩
  replace hB := bel_step hB hb
  replace g_a0 := Gd.step g_a0 hb
  replace g_a1 := Gd.step g_a1 hb
  replace g_a2 := Gd.step g_a2 hb
  replace g_a3 := Gd.step g_a3 hb
  replace g_k2 := Gd.step g_k2 hb
  replace g_k3 := Gd.step g_k3 hb
  replace g_k4 := Gd.step g_k4 hb
  replace g_k5 := Gd.step g_k5 hb
  clear hb
  obtain ⟨i_k6, e0⟩ := ModO.ok o_k6 (hz.out)
  subst e0
  clear o_k6
  go_wp2_with fail
  go_at_call 16
  refine (msub_o g_k2 g_a2 g_a3 (by omega) (by omega)).mono ?_
  rintro e w9 ⟨Qk7, nk7, ck7, zk7, evk7, rfl, o_k7, g_k7, hb⟩
  replace hB := bel_step hB hb
  replace g_a0 := Gd.step g_a0 hb
  replace g_a1 := Gd.step g_a1 hb
  replace g_a2 := Gd.step g_a2 hb
  replace g_a3 := Gd.step g_a3 hb
  replace g_k2 := Gd.step g_k2 hb
  replace g_k3 := Gd.step g_k3 hb
  replace g_k4 := Gd.step g_k4 hb
  replace g_k5 := Gd.step g_k5 hb
  replace g_k6 := Gd.step g_k6 hb
  clear hb
  obtain ⟨i_k7, e0⟩ := ModO.ok o_k7 (hz.out)
  subst e0
  clear o_k7
  go_wp2_with fail
  go_at_call 32
  refine (div_2 g_a1 g_a3 (by omega) (by omega) (hz.out)).mono ?_
  rintro e w10 ⟨v1, v2, rfl, ⟨Qqk8, nqk8, cqk8, zqk8, rfl, -, -, -⟩, ⟨Qk8, nk8, ck8, zk8, rfl, i_k8, g_k8, hb⟩⟩
  replace hB := bel_step hB hb
  replace g_a0 := Gd.step g_a0 hb
  replace g_a1 := Gd.step g_a1 hb
  replace g_a2 := Gd.step g_a2 hb
  replace g_a3 := Gd.step g_a3 hb
  replace g_k2 := Gd.step g_k2 hb
  replace g_k3 := Gd.step g_k3 hb
  replace g_k4 := Gd.step g_k4 hb
  replace g_k5 := Gd.step g_k5 hb
  replace g_k6 := Gd.step g_k6 hb
  replace g_k7 := Gd.step g_k7 hb
  clear hb
  go_wp2_with fail
  go_at_call 11
  refine (one_r (X : Int) (Wx _ (by omega)) _).mono ?_
  rintro e w11 ⟨v, rfl, Qk9, nk9, ck9, zk9, rfl, i_k9, g_k9, hb⟩
  replace hB := bel_step hB hb
  replace g_a0 := Gd.step g_a0 hb
  replace g_a1 := Gd.step g_a1 hb
  replace g_a2 := Gd.step g_a2 hb
  replace g_a3 := Gd.step g_a3 hb
  replace g_k2 := Gd.step g_k2 hb
  replace g_k3 := Gd.step g_k3 hb
  replace g_k4 := Gd.step g_k4 hb
  replace g_k5 := Gd.step g_k5 hb
  replace g_k6 := Gd.step g_k6 hb
  replace g_k7 := Gd.step g_k7 hb
  replace g_k8 := Gd.step g_k8 hb
  clear hb
  go_wp2_with fail
  go_at_call 18
  refine (mpow_o g_a0 (Gd.up g_k9 (show 1 ≤ 5 by omega)) g_a3 (by omega) (by omega) X (by rw [i_k9.out.v])).mono ?_
  rintro e w12 ⟨Qk10, nk10, ck10, zk10, evk10, rfl, o_k10, g_k10, hb⟩
  replace hB := bel_step hB hb
  replace g_a0 := Gd.step g_a0 hb
  replace g_a1 := Gd.step g_a1 hb
  replace g_a2 := Gd.step g_a2 hb
  replace g_a3 := Gd.step g_a3 hb
  replace g_k2 := Gd.step g_k2 hb
  replace g_k3 := Gd.step g_k3 hb
  replace g_k4 := Gd.step g_k4 hb
  replace g_k5 := Gd.step g_k5 hb
  replace g_k6 := Gd.step g_k6 hb
  replace g_k7 := Gd.step g_k7 hb
  replace g_k8 := Gd.step g_k8 hb
  replace g_k9 := Gd.step g_k9 hb
  clear hb
  obtain ⟨i_k10, e0⟩ := ModO.ok o_k10 (hz.out)
  subst e0
  clear o_k10
  clear g_k9
  go_wp2_with fail
  go_at_call 11
  refine (one_r (Y : Int) (Wx _ (by omega)) _).mono ?_
  rintro e w13 ⟨v, rfl, Qk11, nk11, ck11, zk11, rfl, i_k11, g_k11, hb⟩
  replace hB := bel_step hB hb
  replace g_a0 := Gd.step g_a0 hb
  replace g_a1 := Gd.step g_a1 hb
  replace g_a2 := Gd.step g_a2 hb
  replace g_a3 := Gd.step g_a3 hb
  replace g_k2 := Gd.step g_k2 hb
  replace g_k3 := Gd.step g_k3 hb
  replace g_k4 := Gd.step g_k4 hb
  replace g_k5 := Gd.step g_k5 hb
  replace g_k6 := Gd.step g_k6 hb
  replace g_k7 := Gd.step g_k7 hb
  replace g_k8 := Gd.step g_k8 hb
  replace g_k10 := Gd.step g_k10 hb
  clear hb
  go_wp2_with fail
  go_at_call 18
  refine (mpow_o g_a0 (Gd.up g_k11 (show 1 ≤ 5 by omega)) g_a3 (by omega) (by omega) Y (by rw [i_k11.out.v])).mono ?_
  rintro e w14 ⟨Qk12, nk12, ck12, zk12, evk12, rfl, o_k12, g_k12, hb⟩
  replace hB := bel_step hB hb
  replace g_a0 := Gd.step g_a0 hb
  replace g_a1 := Gd.step g_a1 hb
  replace g_a2 := Gd.step g_a2 hb
  replace g_a3 := Gd.step g_a3 hb
  replace g_k2 := Gd.step g_k2 hb
  replace g_k3 := Gd.step g_k3 hb
  replace g_k4 := Gd.step g_k4 hb
  replace g_k5 := Gd.step g_k5 hb
  replace g_k6 := Gd.step g_k6 hb
  replace g_k7 := Gd.step g_k7 hb
  replace g_k8 := Gd.step g_k8 hb
  replace g_k10 := Gd.step g_k10 hb
  replace g_k11 := Gd.step g_k11 hb
  clear hb
  obtain ⟨i_k12, e0⟩ := ModO.ok o_k12 (hz.out)
  subst e0
  clear o_k12
  clear g_k11
  go_wp2_with fail
  go_at_call 17
  refine (mmul_o g_k10 g_k12 g_a3 (by omega) (by omega)).mono ?_
  rintro e w15 ⟨Qk13, nk13, ck13, zk13, evk13, rfl, o_k13, g_k13, hb⟩
  replace hB := bel_step hB hb
  replace g_a0 := Gd.step g_a0 hb
  replace g_a1 := Gd.step g_a1 hb
  replace g_a2 := Gd.step g_a2 hb
  replace g_a3 := Gd.step g_a3 hb
  replace g_k2 := Gd.step g_k2 hb
  replace g_k3 := Gd.step g_k3 hb
  replace g_k4 := Gd.step g_k4 hb
  replace g_k5 := Gd.step g_k5 hb
  replace g_k6 := Gd.step g_k6 hb
  replace g_k7 := Gd.step g_k7 hb
  replace g_k8 := Gd.step g_k8 hb
  replace g_k10 := Gd.step g_k10 hb
  replace g_k12 := Gd.step g_k12 hb
  clear hb
  obtain ⟨i_k13, e0⟩ := ModO.ok o_k13 (hz.out)
  subst e0
  clear o_k13
  go_wp2_with fail
  go_at_call 11
  refine (one_r (X : Int) (Wx _ (by omega)) _).mono ?_
  rintro e w16 ⟨v, rfl, Qk14, nk14, ck14, zk14, rfl, i_k14, g_k14, hb⟩
  replace hB := bel_step hB hb
  replace g_a0 := Gd.step g_a0 hb
  replace g_a1 := Gd.step g_a1 hb
  replace g_a2 := Gd.step g_a2 hb
  replace g_a3 := Gd.step g_a3 hb
  replace g_k2 := Gd.step g_k2 hb
  replace g_k3 := Gd.step g_k3 hb
  replace g_k4 := Gd.step g_k4 hb
  replace g_k5 := Gd.step g_k5 hb
  replace g_k6 := Gd.step g_k6 hb
  replace g_k7 := Gd.step g_k7 hb
  replace g_k8 := Gd.step g_k8 hb
  replace g_k10 := Gd.step g_k10 hb
  replace g_k12 := Gd.step g_k12 hb
  replace g_k13 := Gd.step g_k13 hb
  clear hb
  go_wp2_with fail
  go_at_call 11
  refine (one_r (Y : Int) (Wx _ (by omega)) _).mono ?_
  rintro e w17 ⟨v, rfl, Qk15, nk15, ck15, zk15, rfl, i_k15, g_k15, hb⟩
  replace hB := bel_step hB hb
  replace g_a0 := Gd.step g_a0 hb
  replace g_a1 := Gd.step g_a1 hb
  replace g_a2 := Gd.step g_a2 hb
  replace g_a3 := Gd.step g_a3 hb
  replace g_k2 := Gd.step g_k2 hb
  replace g_k3 := Gd.step g_k3 hb
  replace g_k4 := Gd.step g_k4 hb
  replace g_k5 := Gd.step g_k5 hb
  replace g_k6 := Gd.step g_k6 hb
  replace g_k7 := Gd.step g_k7 hb
  replace g_k8 := Gd.step g_k8 hb
  replace g_k10 := Gd.step g_k10 hb
  replace g_k12 := Gd.step g_k12 hb
  replace g_k13 := Gd.step g_k13 hb
  replace g_k14 := Gd.step g_k14 hb
  clear hb
  go_wp2_with fail
  go_at_call 33
  refine (add_2 g_k14 g_k15 (by omega) (by omega) 2 (by omega)).mono ?_
  rintro e w18 ⟨v, rfl, Qk16, nk16, ck16, zk16, rfl, i_k16, g_k16, hb⟩
  replace hB := bel_step hB hb
  replace g_a0 := Gd.step g_a0 hb
  replace g_a1 := Gd.step g_a1 hb
  replace g_a2 := Gd.step g_a2 hb
  replace g_a3 := Gd.step g_a3 hb
  replace g_k2 := Gd.step g_k2 hb
  replace g_k3 := Gd.step g_k3 hb
  replace g_k4 := Gd.step g_k4 hb
  replace g_k5 := Gd.step g_k5 hb
  replace g_k6 := Gd.step g_k6 hb
  replace g_k7 := Gd.step g_k7 hb
  replace g_k8 := Gd.step g_k8 hb
  replace g_k10 := Gd.step g_k10 hb
  replace g_k12 := Gd.step g_k12 hb
  replace g_k13 := Gd.step g_k13 hb
  replace g_k14 := Gd.step g_k14 hb
  replace g_k15 := Gd.step g_k15 hb
  clear hb
  go_wp2_with fail
  go_at_call 18
  refine (mpow_o g_a0 (Gd.up g_k16 (show 2 ≤ 5 by omega)) g_a3 (by omega) (by omega) (X + Y) (by rw [i_k16.out.v, i_k14.out.v, i_k15.out.v]; simp)).mono ?_
  rintro e w19 ⟨Qk17, nk17, ck17, zk17, evk17, rfl, o_k17, g_k17, hb⟩
  replace hB := bel_step hB hb
  replace g_a0 := Gd.step g_a0 hb
  replace g_a1 := Gd.step g_a1 hb
  replace g_a2 := Gd.step g_a2 hb
  replace g_a3 := Gd.step g_a3 hb
  replace g_k2 := Gd.step g_k2 hb
  replace g_k3 := Gd.step g_k3 hb
  replace g_k4 := Gd.step g_k4 hb
  replace g_k5 := Gd.step g_k5 hb
  replace g_k6 := Gd.step g_k6 hb
  replace g_k7 := Gd.step g_k7 hb
  replace g_k8 := Gd.step g_k8 hb
  replace g_k10 := Gd.step g_k10 hb
  replace g_k12 := Gd.step g_k12 hb
  replace g_k13 := Gd.step g_k13 hb
  replace g_k14 := Gd.step g_k14 hb
  replace g_k15 := Gd.step g_k15 hb
  replace g_k16 := Gd.step g_k16 hb
  clear hb
  obtain ⟨i_k17, e0⟩ := ModO.ok o_k17 (hz.out)
  subst e0
  clear o_k17
  clear g_k14
  clear g_k15
  clear g_k16
  go_wp2_with fail
  go_at_call 19
  refine (sameM g_k3 g_k6 (by omega) (by omega) true (decide_eq_true (is_eq i_k3 i_k6 (by rw [i_k2.out.v, i_k4.out.v, i_k5.out.v, mod_mul_r, mod_add, Int.mul_add])))).mono ?_
  rintro e w20 ⟨rfl, hb⟩
  replace hB := bel_step hB hb
  replace g_a0 := Gd.step g_a0 hb
  replace g_a1 := Gd.step g_a1 hb
  replace g_a2 := Gd.step g_a2 hb
  replace g_a3 := Gd.step g_a3 hb
  replace g_k2 := Gd.step g_k2 hb
  replace g_k3 := Gd.step g_k3 hb
  replace g_k4 := Gd.step g_k4 hb
  replace g_k5 := Gd.step g_k5 hb
  replace g_k6 := Gd.step g_k6 hb
  replace g_k7 := Gd.step g_k7 hb
  replace g_k8 := Gd.step g_k8 hb
  replace g_k10 := Gd.step g_k10 hb
  replace g_k12 := Gd.step g_k12 hb
  replace g_k13 := Gd.step g_k13 hb
  replace g_k17 := Gd.step g_k17 hb
  clear hb
  go_wp2_with fail
  go_at_call 19
  refine (sameM g_k7 g_k8 (by omega) (by omega) true (decide_eq_true (is_eq i_k7 i_k8 (by rw [i_k2.out.v, Int.sub_emod, Int.emod_emod_of_dvd _ (Int.dvd_refl _), ← Int.sub_emod, Int.add_sub_cancel])))).mono ?_
  rintro e w21 ⟨rfl, hb⟩
  replace hB := bel_step hB hb
  replace g_a0 := Gd.step g_a0 hb
  replace g_a1 := Gd.step g_a1 hb
  replace g_a2 := Gd.step g_a2 hb
  replace g_a3 := Gd.step g_a3 hb
  replace g_k2 := Gd.step g_k2 hb
  replace g_k3 := Gd.step g_k3 hb
  replace g_k4 := Gd.step g_k4 hb
  replace g_k5 := Gd.step g_k5 hb
  replace g_k6 := Gd.step g_k6 hb
  replace g_k7 := Gd.step g_k7 hb
  replace g_k8 := Gd.step g_k8 hb
  replace g_k10 := Gd.step g_k10 hb
  replace g_k12 := Gd.step g_k12 hb
  replace g_k13 := Gd.step g_k13 hb
  replace g_k17 := Gd.step g_k17 hb
  clear hb
  go_wp2_with fail
  go_at_call 19
  refine (sameM g_k13 g_k17 (by omega) (by omega) true (decide_eq_true (is_eq i_k13 i_k17 (by rw [i_k10.out.v, i_k12.out.v, mod_mul, Int.pow_add])))).mono ?_
  rintro e w22 ⟨rfl, hb⟩
  replace hB := bel_step hB hb
  replace g_a0 := Gd.step g_a0 hb
  replace g_a1 := Gd.step g_a1 hb
  replace g_a2 := Gd.step g_a2 hb
  replace g_a3 := Gd.step g_a3 hb
  replace g_k2 := Gd.step g_k2 hb
  replace g_k3 := Gd.step g_k3 hb
  replace g_k4 := Gd.step g_k4 hb
  replace g_k5 := Gd.step g_k5 hb
  replace g_k6 := Gd.step g_k6 hb
  replace g_k7 := Gd.step g_k7 hb
  replace g_k8 := Gd.step g_k8 hb
  replace g_k10 := Gd.step g_k10 hb
  replace g_k12 := Gd.step g_k12 hb
  replace g_k13 := Gd.step g_k13 hb
  replace g_k17 := Gd.step g_k17 hb
  clear hb
  go_wp2_with fail
  go_at_call 34
  refine (cmp_2 g_k2 g_a3 (by omega) (by omega) (-1) (cmp_lt' (by rw [i_k2.out.v]; exact Int.emod_lt_of_pos _ hp.out))).mono ?_
  rintro e w23 ⟨rfl, hb⟩
  replace hB := bel_step hB hb
  replace g_a0 := Gd.step g_a0 hb
  replace g_a1 := Gd.step g_a1 hb
  replace g_a2 := Gd.step g_a2 hb
  replace g_a3 := Gd.step g_a3 hb
  replace g_k2 := Gd.step g_k2 hb
  replace g_k3 := Gd.step g_k3 hb
  replace g_k4 := Gd.step g_k4 hb
  replace g_k5 := Gd.step g_k5 hb
  replace g_k6 := Gd.step g_k6 hb
  replace g_k7 := Gd.step g_k7 hb
  replace g_k8 := Gd.step g_k8 hb
  replace g_k10 := Gd.step g_k10 hb
  replace g_k12 := Gd.step g_k12 hb
  replace g_k13 := Gd.step g_k13 hb
  replace g_k17 := Gd.step g_k17 hb
  clear hb
  go_wp2_with fail
  go_at_call 34
  refine (cmp_2 g_k3 g_a3 (by omega) (by omega) (-1) (cmp_lt' (by rw [i_k3.out.v]; exact Int.emod_lt_of_pos _ hp.out))).mono ?_
  rintro e w24 ⟨rfl, hb⟩
  replace hB := bel_step hB hb
  replace g_a0 := Gd.step g_a0 hb
  replace g_a1 := Gd.step g_a1 hb
  replace g_a2 := Gd.step g_a2 hb
  replace g_a3 := Gd.step g_a3 hb
  replace g_k2 := Gd.step g_k2 hb
  replace g_k3 := Gd.step g_k3 hb
  replace g_k4 := Gd.step g_k4 hb
  replace g_k5 := Gd.step g_k5 hb
  replace g_k6 := Gd.step g_k6 hb
  replace g_k7 := Gd.step g_k7 hb
  replace g_k8 := Gd.step g_k8 hb
  replace g_k10 := Gd.step g_k10 hb
  replace g_k12 := Gd.step g_k12 hb
  replace g_k13 := Gd.step g_k13 hb
  replace g_k17 := Gd.step g_k17 hb
  clear hb
  go_wp2_with fail
  go_at_call 34
  refine (cmp_2 g_k17 g_a3 (by omega) (by omega) (-1) (cmp_lt' (by rw [i_k17.out.v]; exact Int.emod_lt_of_pos _ hp.out))).mono ?_
  rintro e w25 ⟨rfl, hb⟩
  replace hB := bel_step hB hb
  replace g_a0 := Gd.step g_a0 hb
  replace g_a1 := Gd.step g_a1 hb
  replace g_a2 := Gd.step g_a2 hb
  replace g_a3 := Gd.step g_a3 hb
  replace g_k2 := Gd.step g_k2 hb
  replace g_k3 := Gd.step g_k3 hb
  replace g_k4 := Gd.step g_k4 hb
  replace g_k5 := Gd.step g_k5 hb
  replace g_k6 := Gd.step g_k6 hb
  replace g_k7 := Gd.step g_k7 hb
  replace g_k8 := Gd.step g_k8 hb
  replace g_k10 := Gd.step g_k10 hb
  replace g_k12 := Gd.step g_k12 hb
  replace g_k13 := Gd.step g_k13 hb
  replace g_k17 := Gd.step g_k17 hb
  clear hb
  go_wp2_with fail
  go_at_call 35
  refine (trimd_2 g_k17 (by omega) true (decide_eq_true i_k17.out.tr)).mono ?_
  rintro e w26 ⟨rfl, hb⟩
  replace hB := bel_step hB hb
  replace g_a0 := Gd.step g_a0 hb
  replace g_a1 := Gd.step g_a1 hb
  replace g_a2 := Gd.step g_a2 hb
  replace g_a3 := Gd.step g_a3 hb
  replace g_k2 := Gd.step g_k2 hb
  replace g_k3 := Gd.step g_k3 hb
  replace g_k4 := Gd.step g_k4 hb
  replace g_k5 := Gd.step g_k5 hb
  replace g_k6 := Gd.step g_k6 hb
  replace g_k7 := Gd.step g_k7 hb
  replace g_k8 := Gd.step g_k8 hb
  replace g_k10 := Gd.step g_k10 hb
  replace g_k12 := Gd.step g_k12 hb
  replace g_k13 := Gd.step g_k13 hb
  replace g_k17 := Gd.step g_k17 hb
  clear hb
  go_wp2_with fail
  go_ret
  exact ⟨rfl, hB.out⟩

theorem walk (w : World) (A0 : Option Addr) (n0 c0 : Nat) (xs0 : List Int) (A1 : Option Addr) (n1 c1 : Nat) (xs1 : List Int) (A2 : Option Addr) (n2 c2 : Nat) (xs2 : List Int) (A3 : Option Addr) (n3 c3 : Nat) (xs3 : List Int) (a4 : Int) (a5 : Int)
    (hr0 : Rd w w.heap.size A0 n0 xs0) (hn0 : n0 ≤ c0) (hm0 : c0 ≤ 9223372036854775807) (hr1 : Rd w w.heap.size A1 n1 xs1) (hn1 : n1 ≤ c1) (hm1 : c1 ≤ 9223372036854775807) (hr2 : Rd w w.heap.size A2 n2 xs2) (hn2 : n2 ≤ c2) (hm2 : c2 ≤ 9223372036854775807) (hr3 : Rd w w.heap.size A3 n3 xs3) (hn3 : n3 ≤ c3) (hm3 : c3 ≤ 9223372036854775807) (wf4 : (Lit.int .u64 a4).wf = true) (wf5 : (Lit.int .u64 a5).wf = true) :
    Calls Try.prog 5 #[.slice A0 n0 c0, .slice A1 n1 c1, .slice A2 n2 c2, .slice A3 n3 c3, .int .u64 a4, .int .u64 a5] w fun e w' => e = .returned (.bool true) ∧ Below w.heap.size w w' := by
  by_cases h0 : n0 ≤ 5
  · by_cases h1 : n1 ≤ 5
    · by_cases h3 : n3 ≤ 5
      · by_cases h2 : n2 ≤ 5
        · by_cases hv : V xs3 = 0
          · exact walk_z w A0 n0 c0 xs0 A1 n1 c1 xs1 A2 n2 c2 xs2 A3 n3 c3 xs3 a4 a5 hr0 hn0 hm0 hr1 hn1 hm1 hr2 hn2 hm2 hr3 hn3 hm3 wf4 wf5 h0 h1 h3 h2 hv
          · exact walk_m w A0 n0 c0 xs0 A1 n1 c1 xs1 A2 n2 c2 xs2 A3 n3 c3 xs3 a4 a5 hr0 hn0 hm0 hr1 hn1 hm1 hr2 hn2 hm2 hr3 hn3 hm3 wf4 wf5 h0 h1 h3 h2 hv
        · exact walk_h2 w A0 n0 c0 xs0 A1 n1 c1 xs1 A2 n2 c2 xs2 A3 n3 c3 xs3 a4 a5 hr0 hn0 hm0 hr1 hn1 hm1 hr2 hn2 hm2 hr3 hn3 hm3 wf4 wf5 h0 h1 h3 (by omega)
      · exact walk_h1 w A0 n0 c0 xs0 A1 n1 c1 xs1 A2 n2 c2 xs2 A3 n3 c3 xs3 a4 a5 hr0 hn0 hm0 hr1 hn1 hm1 hr2 hn2 hm2 hr3 hn3 hm3 wf4 wf5 (by omega)
    · exact walk_h1 w A0 n0 c0 xs0 A1 n1 c1 xs1 A2 n2 c2 xs2 A3 n3 c3 xs3 a4 a5 hr0 hn0 hm0 hr1 hn1 hm1 hr2 hn2 hm2 hr3 hn3 hm3 wf4 wf5 (by omega)
  · exact walk_h1 w A0 n0 c0 xs0 A1 n1 c1 xs1 A2 n2 c2 xs2 A3 n3 c3 xs3 a4 a5 hr0 hn0 hm0 hr1 hn1 hm1 hr2 hn2 hm2 hr3 hn3 hm3 wf4 wf5 (by omega)
end modularRing
end Go.Proofs.Ytopajockmcgpmaa
