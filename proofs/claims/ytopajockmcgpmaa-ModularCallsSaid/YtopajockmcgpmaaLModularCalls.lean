/- The walk of ModularCalls. -/
import Derived.Test.YtopajockmcgpmaaM0
namespace Go.Proofs.Ytopajockmcgpmaa
open Go Go.RowKit
namespace modularCalls
open Wd Sti Nt
set_option linter.unusedVariables false
set_option maxRecDepth 100000 in
set_option maxHeartbeats 16000000 in
theorem walk_h1 (w : World) (A0 : Option Addr) (n0 c0 : Nat) (xs0 : List Int) (A1 : Option Addr) (n1 c1 : Nat) (xs1 : List Int) (A2 : Option Addr) (n2 c2 : Nat) (xs2 : List Int) (A3 : Option Addr) (n3 c3 : Nat) (xs3 : List Int) (a4 : Int)
    (hr0 : Rd w w.heap.size A0 n0 xs0) (hn0 : n0 ≤ c0) (hm0 : c0 ≤ 9223372036854775807) (hr1 : Rd w w.heap.size A1 n1 xs1) (hn1 : n1 ≤ c1) (hm1 : c1 ≤ 9223372036854775807) (hr2 : Rd w w.heap.size A2 n2 xs2) (hn2 : n2 ≤ c2) (hm2 : c2 ≤ 9223372036854775807) (hr3 : Rd w w.heap.size A3 n3 xs3) (hn3 : n3 ≤ c3) (hm3 : c3 ≤ 9223372036854775807) (wf4 : (Lit.int .i64 a4).wf = true) (hl : 5 < n0 ∨ 5 < n1 ∨ 5 < n2) :
    Calls Try.prog 4 #[.slice A0 n0 c0, .slice A1 n1 c1, .slice A2 n2 c2, .slice A3 n3 c3, .int .i64 a4] w fun e w' => e = .returned (.bool true) ∧ Below w.heap.size w w' := by
  have hB : Hid (Below w.heap.size w w) := Lib.hid (Below.refl _ w)
  clear hr0
  clear hr1
  clear hr2
  clear hr3
  go_enter Try.func4, Try.ntmps4
  try simp only [List.append]
  go_wp2_with fail
  go_at_call 9
  refine (lives3_c _).mono ?_
  rintro e w1 ⟨rfl, hb⟩
  replace hB := bel_step hB hb
  clear hb
  go_wp2_with fail
  go_at_call 21
  refine (light3_c A0 A1 A2 n0 c0 n1 c1 n2 c2 (by omega) (by omega) (by omega) _ false (by simp only [Bool.and_eq_false_iff, decide_eq_false_iff_not]; omega)).mono ?_
  rintro e w2 ⟨rfl, hb⟩
  replace hB := bel_step hB hb
  clear hb
  go_wp2_with fail
  go_ret
  exact ⟨rfl, hB.out⟩

set_option maxRecDepth 100000 in
set_option maxHeartbeats 16000000 in
theorem walk_h2 (w : World) (A0 : Option Addr) (n0 c0 : Nat) (xs0 : List Int) (A1 : Option Addr) (n1 c1 : Nat) (xs1 : List Int) (A2 : Option Addr) (n2 c2 : Nat) (xs2 : List Int) (A3 : Option Addr) (n3 c3 : Nat) (xs3 : List Int) (a4 : Int)
    (hr0 : Rd w w.heap.size A0 n0 xs0) (hn0 : n0 ≤ c0) (hm0 : c0 ≤ 9223372036854775807) (hr1 : Rd w w.heap.size A1 n1 xs1) (hn1 : n1 ≤ c1) (hm1 : c1 ≤ 9223372036854775807) (hr2 : Rd w w.heap.size A2 n2 xs2) (hn2 : n2 ≤ c2) (hm2 : c2 ≤ 9223372036854775807) (hr3 : Rd w w.heap.size A3 n3 xs3) (hn3 : n3 ≤ c3) (hm3 : c3 ≤ 9223372036854775807) (wf4 : (Lit.int .i64 a4).wf = true) (h0 : n0 ≤ 5) (h1 : n1 ≤ 5) (h2 : n2 ≤ 5) (h3 : 2 < n3) :
    Calls Try.prog 4 #[.slice A0 n0 c0, .slice A1 n1 c1, .slice A2 n2 c2, .slice A3 n3 c3, .int .i64 a4] w fun e w' => e = .returned (.bool true) ∧ Below w.heap.size w w' := by
  have h3i : (2 : Int) < (n3 : Int) := by omega
  have hB : Hid (Below w.heap.size w w) := Lib.hid (Below.refl _ w)
  clear hr0
  clear hr1
  clear hr2
  clear hr3
  go_enter Try.func4, Try.ntmps4
  try simp only [List.append]
  go_wp2_with fail
  go_at_call 9
  refine (lives3_c _).mono ?_
  rintro e w1 ⟨rfl, hb⟩
  replace hB := bel_step hB hb
  clear hb
  go_wp2_with fail
  go_at_call 21
  refine (light3_c A0 A1 A2 n0 c0 n1 c1 n2 c2 (by omega) (by omega) (by omega) _ true (by simp <;> omega)).mono ?_
  rintro e w2 ⟨rfl, hb⟩
  replace hB := bel_step hB hb
  clear hb
  go_wp2_with fail
  go_ret
  exact ⟨rfl, hB.out⟩

set_option maxRecDepth 100000 in
set_option maxHeartbeats 16000000 in
theorem walk_h3 (w : World) (A0 : Option Addr) (n0 c0 : Nat) (xs0 : List Int) (A1 : Option Addr) (n1 c1 : Nat) (xs1 : List Int) (A2 : Option Addr) (n2 c2 : Nat) (xs2 : List Int) (A3 : Option Addr) (n3 c3 : Nat) (xs3 : List Int) (a4 : Int)
    (hr0 : Rd w w.heap.size A0 n0 xs0) (hn0 : n0 ≤ c0) (hm0 : c0 ≤ 9223372036854775807) (hr1 : Rd w w.heap.size A1 n1 xs1) (hn1 : n1 ≤ c1) (hm1 : c1 ≤ 9223372036854775807) (hr2 : Rd w w.heap.size A2 n2 xs2) (hn2 : n2 ≤ c2) (hm2 : c2 ≤ 9223372036854775807) (hr3 : Rd w w.heap.size A3 n3 xs3) (hn3 : n3 ≤ c3) (hm3 : c3 ≤ 9223372036854775807) (wf4 : (Lit.int .i64 a4).wf = true) (h0 : n0 ≤ 5) (h1 : n1 ≤ 5) (h2 : n2 ≤ 5) (h3 : n3 ≤ 2) (h4 : 8 < a4) (h5 : a4 ≤ 512) :
    Calls Try.prog 4 #[.slice A0 n0 c0, .slice A1 n1 c1, .slice A2 n2 c2, .slice A3 n3 c3, .int .i64 a4] w fun e w' => e = .returned (.bool true) ∧ Below w.heap.size w w' := by
  have h3i : (n3 : Int) ≤ 2 := by omega
  have hB : Hid (Below w.heap.size w w) := Lib.hid (Below.refl _ w)
  clear hr0
  clear hr1
  clear hr2
  clear hr3
  go_enter Try.func4, Try.ntmps4
  try simp only [List.append]
  go_wp2_with fail
  go_at_call 9
  refine (lives3_c _).mono ?_
  rintro e w1 ⟨rfl, hb⟩
  replace hB := bel_step hB hb
  clear hb
  go_wp2_with fail
  go_at_call 21
  refine (light3_c A0 A1 A2 n0 c0 n1 c1 n2 c2 (by omega) (by omega) (by omega) _ true (by simp <;> omega)).mono ?_
  rintro e w2 ⟨rfl, hb⟩
  replace hB := bel_step hB hb
  clear hb
  go_wp2_with fail
  go_ret
  exact ⟨rfl, hB.out⟩

set_option maxRecDepth 100000 in
set_option maxHeartbeats 16000000 in
theorem walk_m1 (w : World) (A0 : Option Addr) (n0 c0 : Nat) (xs0 : List Int) (A1 : Option Addr) (n1 c1 : Nat) (xs1 : List Int) (A2 : Option Addr) (n2 c2 : Nat) (xs2 : List Int) (A3 : Option Addr) (n3 c3 : Nat) (xs3 : List Int) (a4 : Int)
    (hr0 : Rd w w.heap.size A0 n0 xs0) (hn0 : n0 ≤ c0) (hm0 : c0 ≤ 9223372036854775807) (hr1 : Rd w w.heap.size A1 n1 xs1) (hn1 : n1 ≤ c1) (hm1 : c1 ≤ 9223372036854775807) (hr2 : Rd w w.heap.size A2 n2 xs2) (hn2 : n2 ≤ c2) (hm2 : c2 ≤ 9223372036854775807) (hr3 : Rd w w.heap.size A3 n3 xs3) (hn3 : n3 ≤ c3) (hm3 : c3 ≤ 9223372036854775807) (wf4 : (Lit.int .i64 a4).wf = true) (h0 : n0 ≤ 5) (h1 : n1 ≤ 5) (h2 : n2 ≤ 5) (h3 : n3 ≤ 2) (h4 : a4 ≤ 8) :
    Calls Try.prog 4 #[.slice A0 n0 c0, .slice A1 n1 c1, .slice A2 n2 c2, .slice A3 n3 c3, .int .i64 a4] w fun e w' => e = .returned (.bool true) ∧ Below w.heap.size w w' := by
  have h3i : (n3 : Int) ≤ 2 := by omega
  have p0 := Lib.hid (V_nonneg hr0.ws)
  have p2 := Lib.hid (V_nonneg hr2.ws)
  obtain ⟨E, hE⟩ : ∃ E : Nat, V xs3 = E := ⟨(V xs3).toNat, by have := V_nonneg hr3.ws; omega⟩
  have HE := Lib.hid hE
  clear hE
  have g_a0 : Hid (Gd w A0 n0 c0 xs0 5) := Lib.hid ⟨hr0, hn0, hm0, by omega⟩
  have g_a1 : Hid (Gd w A1 n1 c1 xs1 5) := Lib.hid ⟨hr1, hn1, hm1, by omega⟩
  have g_a2 : Hid (Gd w A2 n2 c2 xs2 5) := Lib.hid ⟨hr2, hn2, hm2, by omega⟩
  have g_a3 : Hid (Gd w A3 n3 c3 xs3 5) := Lib.hid ⟨hr3, hn3, hm3, by omega⟩
  have hB : Hid (Below w.heap.size w w) := Lib.hid (Below.refl _ w)
  clear hr0
  clear hr1
  clear hr2
  clear hr3
  go_enter Try.func4, Try.ntmps4
  try simp only [List.append]
  go_wp2_with fail
  go_at_call 9
  refine (lives3_c _).mono ?_
  rintro e w1 ⟨rfl, hb⟩
  replace hB := bel_step hB hb
  replace g_a0 := Gd.step g_a0 hb
  replace g_a1 := Gd.step g_a1 hb
  replace g_a2 := Gd.step g_a2 hb
  replace g_a3 := Gd.step g_a3 hb
  clear hb
  go_wp2_with fail
  go_at_call 21
  refine (light3_c A0 A1 A2 n0 c0 n1 c1 n2 c2 (by omega) (by omega) (by omega) _ true (by simp <;> omega)).mono ?_
  rintro e w2 ⟨rfl, hb⟩
  replace hB := bel_step hB hb
  replace g_a0 := Gd.step g_a0 hb
  replace g_a1 := Gd.step g_a1 hb
  replace g_a2 := Gd.step g_a2 hb
  replace g_a3 := Gd.step g_a3 hb
  clear hb
  go_wp2_with fail
  go_at_call 10
  refine (madd_o g_a0 g_a1 g_a2 (by omega) (by omega)).mono ?_
  rintro e w3 ⟨Qk1, nk1, ck1, zk1, evk1, rfl, o_k1, g_k1, hb⟩
  replace hB := bel_step hB hb
  replace g_a0 := Gd.step g_a0 hb
  replace g_a1 := Gd.step g_a1 hb
  replace g_a2 := Gd.step g_a2 hb
  replace g_a3 := Gd.step g_a3 hb
  clear hb
  go_wp2_with fail
  go_at_call 22
  refine (radd_o g_a0 g_a1 g_a2 (by omega) (by omega)).mono ?_
  rintro e w4 ⟨Qk2, nk2, ck2, zk2, evk2, rfl, o_k2, g_k2, hb⟩
  replace hB := bel_step hB hb
  replace g_a0 := Gd.step g_a0 hb
  replace g_a1 := Gd.step g_a1 hb
  replace g_a2 := Gd.step g_a2 hb
  replace g_a3 := Gd.step g_a3 hb
  replace g_k1 := Gd.step g_k1 hb
  clear hb
  obtain ⟨e1, e2⟩ := ModO.uniq o_k1 o_k2
  subst e1 e2
  clear o_k1 o_k2
  go_wp2_with fail
  go_at_call 16
  refine (msub_o g_a0 g_a1 g_a2 (by omega) (by omega)).mono ?_
  rintro e w5 ⟨Qk3, nk3, ck3, zk3, evk3, rfl, o_k3, g_k3, hb⟩
  replace hB := bel_step hB hb
  replace g_a0 := Gd.step g_a0 hb
  replace g_a1 := Gd.step g_a1 hb
  replace g_a2 := Gd.step g_a2 hb
  replace g_a3 := Gd.step g_a3 hb
  replace g_k1 := Gd.step g_k1 hb
  replace g_k2 := Gd.step g_k2 hb
  clear hb
  go_wp2_with fail
  go_at_call 23
  refine (rsub_o g_a0 g_a1 g_a2 (by omega) (by omega)).mono ?_
  rintro e w6 ⟨Qk4, nk4, ck4, zk4, evk4, rfl, o_k4, g_k4, hb⟩
  replace hB := bel_step hB hb
  replace g_a0 := Gd.step g_a0 hb
  replace g_a1 := Gd.step g_a1 hb
  replace g_a2 := Gd.step g_a2 hb
  replace g_a3 := Gd.step g_a3 hb
  replace g_k1 := Gd.step g_k1 hb
  replace g_k2 := Gd.step g_k2 hb
  replace g_k3 := Gd.step g_k3 hb
  clear hb
  obtain ⟨e1, e2⟩ := ModO.uniq o_k3 o_k4
  subst e1 e2
  clear o_k3 o_k4
  go_wp2_with fail
  go_at_call 17
  refine (mmul_o g_a0 g_a1 g_a2 (by omega) (by omega)).mono ?_
  rintro e w7 ⟨Qk5, nk5, ck5, zk5, evk5, rfl, o_k5, g_k5, hb⟩
  replace hB := bel_step hB hb
  replace g_a0 := Gd.step g_a0 hb
  replace g_a1 := Gd.step g_a1 hb
  replace g_a2 := Gd.step g_a2 hb
  replace g_a3 := Gd.step g_a3 hb
  replace g_k1 := Gd.step g_k1 hb
  replace g_k2 := Gd.step g_k2 hb
  replace g_k3 := Gd.step g_k3 hb
  replace g_k4 := Gd.step g_k4 hb
  clear hb
  go_wp2_with fail
  go_at_call 24
  refine (rmul_o g_a0 g_a1 g_a2 (by omega) (by omega)).mono ?_
  rintro e w8 ⟨Qk6, nk6, ck6, zk6, evk6, rfl, o_k6, g_k6, hb⟩
  replace hB := bel_step hB hb
  replace g_a0 := Gd.step g_a0 hb
  replace g_a1 := Gd.step g_a1 hb
  replace g_a2 := Gd.step g_a2 hb
  replace g_a3 := Gd.step g_a3 hb
  replace g_k1 := Gd.step g_k1 hb
  replace g_k2 := Gd.step g_k2 hb
  replace g_k3 := Gd.step g_k3 hb
  replace g_k4 := Gd.step g_k4 hb
  replace g_k5 := Gd.step g_k5 hb
  clear hb
  obtain ⟨e1, e2⟩ := ModO.uniq o_k5 o_k6
  subst e1 e2
  clear o_k5 o_k6
  go_wp2_with fail
  go_at_call 19
  refine (sameM g_k1 g_k2 (by omega) (by omega) true (decide_eq_true (rfl))).mono ?_
  rintro e w9 ⟨rfl, hb⟩
  replace hB := bel_step hB hb
  replace g_a0 := Gd.step g_a0 hb
  replace g_a1 := Gd.step g_a1 hb
  replace g_a2 := Gd.step g_a2 hb
  replace g_a3 := Gd.step g_a3 hb
  replace g_k1 := Gd.step g_k1 hb
  replace g_k2 := Gd.step g_k2 hb
  replace g_k3 := Gd.step g_k3 hb
  replace g_k4 := Gd.step g_k4 hb
  replace g_k5 := Gd.step g_k5 hb
  replace g_k6 := Gd.step g_k6 hb
  clear hb
  clear g_k1
  clear g_k2
  go_wp2_with fail
  go_at_call 19
  refine (sameM g_k3 g_k4 (by omega) (by omega) true (decide_eq_true (rfl))).mono ?_
  rintro e w10 ⟨rfl, hb⟩
  replace hB := bel_step hB hb
  replace g_a0 := Gd.step g_a0 hb
  replace g_a1 := Gd.step g_a1 hb
  replace g_a2 := Gd.step g_a2 hb
  replace g_a3 := Gd.step g_a3 hb
  replace g_k3 := Gd.step g_k3 hb
  replace g_k4 := Gd.step g_k4 hb
  replace g_k5 := Gd.step g_k5 hb
  replace g_k6 := Gd.step g_k6 hb
  clear hb
  clear g_k3
  clear g_k4
  go_wp2_with fail
  go_at_call 19
  refine (sameM g_k5 g_k6 (by omega) (by omega) true (decide_eq_true (rfl))).mono ?_
  rintro e w11 ⟨rfl, hb⟩
  replace hB := bel_step hB hb
  replace g_a0 := Gd.step g_a0 hb
  replace g_a1 := Gd.step g_a1 hb
  replace g_a2 := Gd.step g_a2 hb
  replace g_a3 := Gd.step g_a3 hb
  replace g_k5 := Gd.step g_k5 hb
  replace g_k6 := Gd.step g_k6 hb
  clear hb
  clear g_k5
  clear g_k6
  go_wp2_with fail
  go_at_call 18
  refine (mpow_o g_a0 g_a3 g_a2 (by omega) (by omega) E HE.out).mono ?_
  rintro e w12 ⟨Qk7, nk7, ck7, zk7, evk7, rfl, o_k7, g_k7, hb⟩
  replace hB := bel_step hB hb
  replace g_a0 := Gd.step g_a0 hb
  replace g_a1 := Gd.step g_a1 hb
  replace g_a2 := Gd.step g_a2 hb
  replace g_a3 := Gd.step g_a3 hb
  clear hb
  go_wp2_with fail
  go_at_call 25
  refine (rpow_o g_a0 g_a3 g_a2 (by omega) (by omega) E HE.out).mono ?_
  rintro e w13 ⟨Qk8, nk8, ck8, zk8, evk8, rfl, o_k8, g_k8, hb⟩
  replace hB := bel_step hB hb
  replace g_a0 := Gd.step g_a0 hb
  replace g_a1 := Gd.step g_a1 hb
  replace g_a2 := Gd.step g_a2 hb
  replace g_a3 := Gd.step g_a3 hb
  replace g_k7 := Gd.step g_k7 hb
  clear hb
  obtain ⟨e1, e2⟩ := ModO.uniq o_k7 o_k8
  subst e1 e2
  clear o_k7 o_k8
  go_wp2_with fail
  go_at_call 12
  refine (minv_o g_a0 g_a2 (by omega) (by omega)).mono ?_
  rintro e w14 ⟨Qk9, nk9, ck9, zk9, evk9, rfl, o_k9, g_k9, hb⟩
  replace hB := bel_step hB hb
  replace g_a0 := Gd.step g_a0 hb
  replace g_a1 := Gd.step g_a1 hb
  replace g_a2 := Gd.step g_a2 hb
  replace g_a3 := Gd.step g_a3 hb
  replace g_k7 := Gd.step g_k7 hb
  replace g_k8 := Gd.step g_k8 hb
  clear hb
  go_wp2_with fail
  go_at_call 26
  refine (rinv_o g_a0 g_a2 (by omega) (by omega)).mono ?_
  rintro e w15 ⟨Qk10, nk10, ck10, zk10, evk10, rfl, o_k10, g_k10, hb⟩
  replace hB := bel_step hB hb
  replace g_a0 := Gd.step g_a0 hb
  replace g_a1 := Gd.step g_a1 hb
  replace g_a2 := Gd.step g_a2 hb
  replace g_a3 := Gd.step g_a3 hb
  replace g_k7 := Gd.step g_k7 hb
  replace g_k8 := Gd.step g_k8 hb
  replace g_k9 := Gd.step g_k9 hb
  clear hb
  obtain ⟨e1, e2⟩ := InvO.uniq p0.out o_k9 o_k10
  subst e1 e2
  clear o_k9 o_k10
  go_wp2_with fail
  go_at_call 14
  refine (mrad_o a4 g_a2 (by omega)).mono ?_
  rintro e w16 ⟨Qk11, nk11, ck11, zk11, evk11, rfl, o_k11, g_k11, hb⟩
  replace hB := bel_step hB hb
  replace g_a0 := Gd.step g_a0 hb
  replace g_a1 := Gd.step g_a1 hb
  replace g_a2 := Gd.step g_a2 hb
  replace g_a3 := Gd.step g_a3 hb
  replace g_k7 := Gd.step g_k7 hb
  replace g_k8 := Gd.step g_k8 hb
  replace g_k9 := Gd.step g_k9 hb
  replace g_k10 := Gd.step g_k10 hb
  clear hb
  go_wp2_with fail
  go_at_call 27
  refine (rrad_o a4 g_a2 (by omega)).mono ?_
  rintro e w17 ⟨Qk12, nk12, ck12, zk12, evk12, rfl, o_k12, g_k12, hb⟩
  replace hB := bel_step hB hb
  replace g_a0 := Gd.step g_a0 hb
  replace g_a1 := Gd.step g_a1 hb
  replace g_a2 := Gd.step g_a2 hb
  replace g_a3 := Gd.step g_a3 hb
  replace g_k7 := Gd.step g_k7 hb
  replace g_k8 := Gd.step g_k8 hb
  replace g_k9 := Gd.step g_k9 hb
  replace g_k10 := Gd.step g_k10 hb
  replace g_k11 := Gd.step g_k11 hb
  clear hb
  obtain ⟨e1, e2⟩ := RadO.uniq o_k11 o_k12
  subst e1 e2
  clear o_k11 o_k12
  go_wp2_with fail
  go_at_call 13
  refine (mcon_o g_a2 (by omega)).mono ?_
  rintro e w18 ⟨xk13, evk13, rfl, o_k13, hb⟩
  replace hB := bel_step hB hb
  replace g_a0 := Gd.step g_a0 hb
  replace g_a1 := Gd.step g_a1 hb
  replace g_a2 := Gd.step g_a2 hb
  replace g_a3 := Gd.step g_a3 hb
  replace g_k7 := Gd.step g_k7 hb
  replace g_k8 := Gd.step g_k8 hb
  replace g_k9 := Gd.step g_k9 hb
  replace g_k10 := Gd.step g_k10 hb
  replace g_k11 := Gd.step g_k11 hb
  replace g_k12 := Gd.step g_k12 hb
  clear hb
  go_wp2_with fail
  go_at_call 28
  refine (rcon_o g_a2 (by omega)).mono ?_
  rintro e w19 ⟨xk14, evk14, rfl, o_k14, hb⟩
  replace hB := bel_step hB hb
  replace g_a0 := Gd.step g_a0 hb
  replace g_a1 := Gd.step g_a1 hb
  replace g_a2 := Gd.step g_a2 hb
  replace g_a3 := Gd.step g_a3 hb
  replace g_k7 := Gd.step g_k7 hb
  replace g_k8 := Gd.step g_k8 hb
  replace g_k9 := Gd.step g_k9 hb
  replace g_k10 := Gd.step g_k10 hb
  replace g_k11 := Gd.step g_k11 hb
  replace g_k12 := Gd.step g_k12 hb
  clear hb
  obtain ⟨e1, e2⟩ := ConO.uniq o_k13 o_k14
  subst e1 e2
  clear o_k13 o_k14
  go_wp2_with fail
  go_at_call 15
  refine (mred_o a4 g_a0 g_a2 (by omega) (by omega)).mono ?_
  rintro e w20 ⟨Qk15, nk15, ck15, zk15, evk15, rfl, o_k15, g_k15, hb⟩
  replace hB := bel_step hB hb
  replace g_a0 := Gd.step g_a0 hb
  replace g_a1 := Gd.step g_a1 hb
  replace g_a2 := Gd.step g_a2 hb
  replace g_a3 := Gd.step g_a3 hb
  replace g_k7 := Gd.step g_k7 hb
  replace g_k8 := Gd.step g_k8 hb
  replace g_k9 := Gd.step g_k9 hb
  replace g_k10 := Gd.step g_k10 hb
  replace g_k11 := Gd.step g_k11 hb
  replace g_k12 := Gd.step g_k12 hb
  clear hb
  go_wp2_with fail
  go_at_call 29
  refine (rred_o a4 g_a0 g_a2 (by omega) (by omega)).mono ?_
  rintro e w21 ⟨Qk16, nk16, ck16, zk16, evk16, rfl, o_k16, g_k16, hb⟩
  replace hB := bel_step hB hb
  replace g_a0 := Gd.step g_a0 hb
  replace g_a1 := Gd.step g_a1 hb
  replace g_a2 := Gd.step g_a2 hb
  replace g_a3 := Gd.step g_a3 hb
  replace g_k7 := Gd.step g_k7 hb
  replace g_k8 := Gd.step g_k8 hb
  replace g_k9 := Gd.step g_k9 hb
  replace g_k10 := Gd.step g_k10 hb
  replace g_k11 := Gd.step g_k11 hb
  replace g_k12 := Gd.step g_k12 hb
  replace g_k15 := Gd.step g_k15 hb
  clear hb
  obtain ⟨e1, e2⟩ := RedO.uniq p2.out o_k15 o_k16
  subst e1 e2
  clear o_k15 o_k16
  go_wp2_with fail
  go_at_call 19
  refine (sameM g_k7 g_k8 (by omega) (by omega) true (decide_eq_true (rfl))).mono ?_
  rintro e w22 ⟨rfl, hb⟩
  replace hB := bel_step hB hb
  replace g_a0 := Gd.step g_a0 hb
  replace g_a1 := Gd.step g_a1 hb
  replace g_a2 := Gd.step g_a2 hb
  replace g_a3 := Gd.step g_a3 hb
  replace g_k7 := Gd.step g_k7 hb
  replace g_k8 := Gd.step g_k8 hb
  replace g_k9 := Gd.step g_k9 hb
  replace g_k10 := Gd.step g_k10 hb
  replace g_k11 := Gd.step g_k11 hb
  replace g_k12 := Gd.step g_k12 hb
  replace g_k15 := Gd.step g_k15 hb
  replace g_k16 := Gd.step g_k16 hb
  clear hb
  clear g_k7
  clear g_k8
  go_wp2_with fail
  go_at_call 19
  refine (sameM g_k9 g_k10 (by omega) (by omega) true (decide_eq_true (rfl))).mono ?_
  rintro e w23 ⟨rfl, hb⟩
  replace hB := bel_step hB hb
  replace g_a0 := Gd.step g_a0 hb
  replace g_a1 := Gd.step g_a1 hb
  replace g_a2 := Gd.step g_a2 hb
  replace g_a3 := Gd.step g_a3 hb
  replace g_k9 := Gd.step g_k9 hb
  replace g_k10 := Gd.step g_k10 hb
  replace g_k11 := Gd.step g_k11 hb
  replace g_k12 := Gd.step g_k12 hb
  replace g_k15 := Gd.step g_k15 hb
  replace g_k16 := Gd.step g_k16 hb
  clear hb
  clear g_k9
  clear g_k10
  go_wp2_with fail
  go_at_call 19
  refine (sameM g_k11 g_k12 (by omega) (by omega) true (decide_eq_true (rfl))).mono ?_
  rintro e w24 ⟨rfl, hb⟩
  replace hB := bel_step hB hb
  replace g_a0 := Gd.step g_a0 hb
  replace g_a1 := Gd.step g_a1 hb
  replace g_a2 := Gd.step g_a2 hb
  replace g_a3 := Gd.step g_a3 hb
  replace g_k11 := Gd.step g_k11 hb
  replace g_k12 := Gd.step g_k12 hb
  replace g_k15 := Gd.step g_k15 hb
  replace g_k16 := Gd.step g_k16 hb
  clear hb
  clear g_k11
  clear g_k12
  go_wp2_with fail
  go_at_call 19
  refine (sameM g_k15 g_k16 (by omega) (by omega) true (decide_eq_true (rfl))).mono ?_
  rintro e w25 ⟨rfl, hb⟩
  replace hB := bel_step hB hb
  replace g_a0 := Gd.step g_a0 hb
  replace g_a1 := Gd.step g_a1 hb
  replace g_a2 := Gd.step g_a2 hb
  replace g_a3 := Gd.step g_a3 hb
  replace g_k15 := Gd.step g_k15 hb
  replace g_k16 := Gd.step g_k16 hb
  clear hb
  clear g_k15
  clear g_k16
  go_wp2_with fail
  go_at_call 20
  refine (mgcd_o g_a0 g_a1 (by omega)).mono ?_
  rintro e w26 ⟨v, rfl, Qk17, nk17, ck17, zk17, rfl, i_k17, g_k17, hb⟩
  replace hB := bel_step hB hb
  replace g_a0 := Gd.step g_a0 hb
  replace g_a1 := Gd.step g_a1 hb
  replace g_a2 := Gd.step g_a2 hb
  replace g_a3 := Gd.step g_a3 hb
  clear hb
  go_wp2_with fail
  go_at_call 30
  refine (gcd_r g_a0 g_a1 (by omega)).mono ?_
  rintro e w27 ⟨v, rfl, Qk18, nk18, ck18, zk18, rfl, i_k18, g_k18, hb⟩
  replace hB := bel_step hB hb
  replace g_a0 := Gd.step g_a0 hb
  replace g_a1 := Gd.step g_a1 hb
  replace g_a2 := Gd.step g_a2 hb
  replace g_a3 := Gd.step g_a3 hb
  replace g_k17 := Gd.step g_k17 hb
  clear hb
  go_wp2_with fail
  go_at_call 19
  refine (sameM g_k17 g_k18 (by omega) (by omega) true (decide_eq_true (is_eq i_k17 i_k18 rfl))).mono ?_
  rintro e w28 ⟨rfl, hb⟩
  replace hB := bel_step hB hb
  replace g_a0 := Gd.step g_a0 hb
  replace g_a1 := Gd.step g_a1 hb
  replace g_a2 := Gd.step g_a2 hb
  replace g_a3 := Gd.step g_a3 hb
  replace g_k17 := Gd.step g_k17 hb
  replace g_k18 := Gd.step g_k18 hb
  clear hb
  go_wp2_with fail
  go_ret
  exact ⟨rfl, hB.out⟩

set_option maxRecDepth 100000 in
set_option maxHeartbeats 16000000 in
theorem walk_m2 (w : World) (A0 : Option Addr) (n0 c0 : Nat) (xs0 : List Int) (A1 : Option Addr) (n1 c1 : Nat) (xs1 : List Int) (A2 : Option Addr) (n2 c2 : Nat) (xs2 : List Int) (A3 : Option Addr) (n3 c3 : Nat) (xs3 : List Int) (a4 : Int)
    (hr0 : Rd w w.heap.size A0 n0 xs0) (hn0 : n0 ≤ c0) (hm0 : c0 ≤ 9223372036854775807) (hr1 : Rd w w.heap.size A1 n1 xs1) (hn1 : n1 ≤ c1) (hm1 : c1 ≤ 9223372036854775807) (hr2 : Rd w w.heap.size A2 n2 xs2) (hn2 : n2 ≤ c2) (hm2 : c2 ≤ 9223372036854775807) (hr3 : Rd w w.heap.size A3 n3 xs3) (hn3 : n3 ≤ c3) (hm3 : c3 ≤ 9223372036854775807) (wf4 : (Lit.int .i64 a4).wf = true) (h0 : n0 ≤ 5) (h1 : n1 ≤ 5) (h2 : n2 ≤ 5) (h3 : n3 ≤ 2) (h4 : 512 < a4) :
    Calls Try.prog 4 #[.slice A0 n0 c0, .slice A1 n1 c1, .slice A2 n2 c2, .slice A3 n3 c3, .int .i64 a4] w fun e w' => e = .returned (.bool true) ∧ Below w.heap.size w w' := by
  have h3i : (n3 : Int) ≤ 2 := by omega
  have p0 := Lib.hid (V_nonneg hr0.ws)
  have p2 := Lib.hid (V_nonneg hr2.ws)
  obtain ⟨E, hE⟩ : ∃ E : Nat, V xs3 = E := ⟨(V xs3).toNat, by have := V_nonneg hr3.ws; omega⟩
  have HE := Lib.hid hE
  clear hE
  have h5 : 8 < a4 := by omega
  have g_a0 : Hid (Gd w A0 n0 c0 xs0 5) := Lib.hid ⟨hr0, hn0, hm0, by omega⟩
  have g_a1 : Hid (Gd w A1 n1 c1 xs1 5) := Lib.hid ⟨hr1, hn1, hm1, by omega⟩
  have g_a2 : Hid (Gd w A2 n2 c2 xs2 5) := Lib.hid ⟨hr2, hn2, hm2, by omega⟩
  have g_a3 : Hid (Gd w A3 n3 c3 xs3 5) := Lib.hid ⟨hr3, hn3, hm3, by omega⟩
  have hB : Hid (Below w.heap.size w w) := Lib.hid (Below.refl _ w)
  clear hr0
  clear hr1
  clear hr2
  clear hr3
  go_enter Try.func4, Try.ntmps4
  try simp only [List.append]
  go_wp2_with fail
  go_at_call 9
  refine (lives3_c _).mono ?_
  rintro e w1 ⟨rfl, hb⟩
  replace hB := bel_step hB hb
  replace g_a0 := Gd.step g_a0 hb
  replace g_a1 := Gd.step g_a1 hb
  replace g_a2 := Gd.step g_a2 hb
  replace g_a3 := Gd.step g_a3 hb
  clear hb
  go_wp2_with fail
  go_at_call 21
  refine (light3_c A0 A1 A2 n0 c0 n1 c1 n2 c2 (by omega) (by omega) (by omega) _ true (by simp <;> omega)).mono ?_
  rintro e w2 ⟨rfl, hb⟩
  replace hB := bel_step hB hb
  replace g_a0 := Gd.step g_a0 hb
  replace g_a1 := Gd.step g_a1 hb
  replace g_a2 := Gd.step g_a2 hb
  replace g_a3 := Gd.step g_a3 hb
  clear hb
  go_wp2_with fail
  go_at_call 10
  refine (madd_o g_a0 g_a1 g_a2 (by omega) (by omega)).mono ?_
  rintro e w3 ⟨Qk1, nk1, ck1, zk1, evk1, rfl, o_k1, g_k1, hb⟩
  replace hB := bel_step hB hb
  replace g_a0 := Gd.step g_a0 hb
  replace g_a1 := Gd.step g_a1 hb
  replace g_a2 := Gd.step g_a2 hb
  replace g_a3 := Gd.step g_a3 hb
  clear hb
  go_wp2_with fail
  go_at_call 22
  refine (radd_o g_a0 g_a1 g_a2 (by omega) (by omega)).mono ?_
  rintro e w4 ⟨Qk2, nk2, ck2, zk2, evk2, rfl, o_k2, g_k2, hb⟩
  replace hB := bel_step hB hb
  replace g_a0 := Gd.step g_a0 hb
  replace g_a1 := Gd.step g_a1 hb
  replace g_a2 := Gd.step g_a2 hb
  replace g_a3 := Gd.step g_a3 hb
  replace g_k1 := Gd.step g_k1 hb
  clear hb
  obtain ⟨e1, e2⟩ := ModO.uniq o_k1 o_k2
  subst e1 e2
  clear o_k1 o_k2
  go_wp2_with fail
  go_at_call 16
  refine (msub_o g_a0 g_a1 g_a2 (by omega) (by omega)).mono ?_
  rintro e w5 ⟨Qk3, nk3, ck3, zk3, evk3, rfl, o_k3, g_k3, hb⟩
  replace hB := bel_step hB hb
  replace g_a0 := Gd.step g_a0 hb
  replace g_a1 := Gd.step g_a1 hb
  replace g_a2 := Gd.step g_a2 hb
  replace g_a3 := Gd.step g_a3 hb
  replace g_k1 := Gd.step g_k1 hb
  replace g_k2 := Gd.step g_k2 hb
  clear hb
  go_wp2_with fail
  go_at_call 23
  refine (rsub_o g_a0 g_a1 g_a2 (by omega) (by omega)).mono ?_
  rintro e w6 ⟨Qk4, nk4, ck4, zk4, evk4, rfl, o_k4, g_k4, hb⟩
  replace hB := bel_step hB hb
  replace g_a0 := Gd.step g_a0 hb
  replace g_a1 := Gd.step g_a1 hb
  replace g_a2 := Gd.step g_a2 hb
  replace g_a3 := Gd.step g_a3 hb
  replace g_k1 := Gd.step g_k1 hb
  replace g_k2 := Gd.step g_k2 hb
  replace g_k3 := Gd.step g_k3 hb
  clear hb
  obtain ⟨e1, e2⟩ := ModO.uniq o_k3 o_k4
  subst e1 e2
  clear o_k3 o_k4
  go_wp2_with fail
  go_at_call 17
  refine (mmul_o g_a0 g_a1 g_a2 (by omega) (by omega)).mono ?_
  rintro e w7 ⟨Qk5, nk5, ck5, zk5, evk5, rfl, o_k5, g_k5, hb⟩
  replace hB := bel_step hB hb
  replace g_a0 := Gd.step g_a0 hb
  replace g_a1 := Gd.step g_a1 hb
  replace g_a2 := Gd.step g_a2 hb
  replace g_a3 := Gd.step g_a3 hb
  replace g_k1 := Gd.step g_k1 hb
  replace g_k2 := Gd.step g_k2 hb
  replace g_k3 := Gd.step g_k3 hb
  replace g_k4 := Gd.step g_k4 hb
  clear hb
  go_wp2_with fail
  go_at_call 24
  refine (rmul_o g_a0 g_a1 g_a2 (by omega) (by omega)).mono ?_
  rintro e w8 ⟨Qk6, nk6, ck6, zk6, evk6, rfl, o_k6, g_k6, hb⟩
  replace hB := bel_step hB hb
  replace g_a0 := Gd.step g_a0 hb
  replace g_a1 := Gd.step g_a1 hb
  replace g_a2 := Gd.step g_a2 hb
  replace g_a3 := Gd.step g_a3 hb
  replace g_k1 := Gd.step g_k1 hb
  replace g_k2 := Gd.step g_k2 hb
  replace g_k3 := Gd.step g_k3 hb
  replace g_k4 := Gd.step g_k4 hb
  replace g_k5 := Gd.step g_k5 hb
  clear hb
  obtain ⟨e1, e2⟩ := ModO.uniq o_k5 o_k6
  subst e1 e2
  clear o_k5 o_k6
  go_wp2_with fail
  go_at_call 19
  refine (sameM g_k1 g_k2 (by omega) (by omega) true (decide_eq_true (rfl))).mono ?_
  rintro e w9 ⟨rfl, hb⟩
  replace hB := bel_step hB hb
  replace g_a0 := Gd.step g_a0 hb
  replace g_a1 := Gd.step g_a1 hb
  replace g_a2 := Gd.step g_a2 hb
  replace g_a3 := Gd.step g_a3 hb
  replace g_k1 := Gd.step g_k1 hb
  replace g_k2 := Gd.step g_k2 hb
  replace g_k3 := Gd.step g_k3 hb
  replace g_k4 := Gd.step g_k4 hb
  replace g_k5 := Gd.step g_k5 hb
  replace g_k6 := Gd.step g_k6 hb
  clear hb
  clear g_k1
  clear g_k2
  go_wp2_with fail
  go_at_call 19
  refine (sameM g_k3 g_k4 (by omega) (by omega) true (decide_eq_true (rfl))).mono ?_
  rintro e w10 ⟨rfl, hb⟩
  replace hB := bel_step hB hb
  replace g_a0 := Gd.step g_a0 hb
  replace g_a1 := Gd.step g_a1 hb
  replace g_a2 := Gd.step g_a2 hb
  replace g_a3 := Gd.step g_a3 hb
  replace g_k3 := Gd.step g_k3 hb
  replace g_k4 := Gd.step g_k4 hb
  replace g_k5 := Gd.step g_k5 hb
  replace g_k6 := Gd.step g_k6 hb
  clear hb
  clear g_k3
  clear g_k4
  go_wp2_with fail
  go_at_call 19
  refine (sameM g_k5 g_k6 (by omega) (by omega) true (decide_eq_true (rfl))).mono ?_
  rintro e w11 ⟨rfl, hb⟩
  replace hB := bel_step hB hb
  replace g_a0 := Gd.step g_a0 hb
  replace g_a1 := Gd.step g_a1 hb
  replace g_a2 := Gd.step g_a2 hb
  replace g_a3 := Gd.step g_a3 hb
  replace g_k5 := Gd.step g_k5 hb
  replace g_k6 := Gd.step g_k6 hb
  clear hb
  clear g_k5
  clear g_k6
  go_wp2_with fail
  go_at_call 18
  refine (mpow_o g_a0 g_a3 g_a2 (by omega) (by omega) E HE.out).mono ?_
  rintro e w12 ⟨Qk7, nk7, ck7, zk7, evk7, rfl, o_k7, g_k7, hb⟩
  replace hB := bel_step hB hb
  replace g_a0 := Gd.step g_a0 hb
  replace g_a1 := Gd.step g_a1 hb
  replace g_a2 := Gd.step g_a2 hb
  replace g_a3 := Gd.step g_a3 hb
  clear hb
  go_wp2_with fail
  go_at_call 25
  refine (rpow_o g_a0 g_a3 g_a2 (by omega) (by omega) E HE.out).mono ?_
  rintro e w13 ⟨Qk8, nk8, ck8, zk8, evk8, rfl, o_k8, g_k8, hb⟩
  replace hB := bel_step hB hb
  replace g_a0 := Gd.step g_a0 hb
  replace g_a1 := Gd.step g_a1 hb
  replace g_a2 := Gd.step g_a2 hb
  replace g_a3 := Gd.step g_a3 hb
  replace g_k7 := Gd.step g_k7 hb
  clear hb
  obtain ⟨e1, e2⟩ := ModO.uniq o_k7 o_k8
  subst e1 e2
  clear o_k7 o_k8
  go_wp2_with fail
  go_at_call 12
  refine (minv_o g_a0 g_a2 (by omega) (by omega)).mono ?_
  rintro e w14 ⟨Qk9, nk9, ck9, zk9, evk9, rfl, o_k9, g_k9, hb⟩
  replace hB := bel_step hB hb
  replace g_a0 := Gd.step g_a0 hb
  replace g_a1 := Gd.step g_a1 hb
  replace g_a2 := Gd.step g_a2 hb
  replace g_a3 := Gd.step g_a3 hb
  replace g_k7 := Gd.step g_k7 hb
  replace g_k8 := Gd.step g_k8 hb
  clear hb
  go_wp2_with fail
  go_at_call 26
  refine (rinv_o g_a0 g_a2 (by omega) (by omega)).mono ?_
  rintro e w15 ⟨Qk10, nk10, ck10, zk10, evk10, rfl, o_k10, g_k10, hb⟩
  replace hB := bel_step hB hb
  replace g_a0 := Gd.step g_a0 hb
  replace g_a1 := Gd.step g_a1 hb
  replace g_a2 := Gd.step g_a2 hb
  replace g_a3 := Gd.step g_a3 hb
  replace g_k7 := Gd.step g_k7 hb
  replace g_k8 := Gd.step g_k8 hb
  replace g_k9 := Gd.step g_k9 hb
  clear hb
  obtain ⟨e1, e2⟩ := InvO.uniq p0.out o_k9 o_k10
  subst e1 e2
  clear o_k9 o_k10
  go_wp2_with fail
  go_at_call 14
  refine (mrad_o a4 g_a2 (by omega)).mono ?_
  rintro e w16 ⟨Qk11, nk11, ck11, zk11, evk11, rfl, o_k11, g_k11, hb⟩
  replace hB := bel_step hB hb
  replace g_a0 := Gd.step g_a0 hb
  replace g_a1 := Gd.step g_a1 hb
  replace g_a2 := Gd.step g_a2 hb
  replace g_a3 := Gd.step g_a3 hb
  replace g_k7 := Gd.step g_k7 hb
  replace g_k8 := Gd.step g_k8 hb
  replace g_k9 := Gd.step g_k9 hb
  replace g_k10 := Gd.step g_k10 hb
  clear hb
  go_wp2_with fail
  go_at_call 27
  refine (rrad_o a4 g_a2 (by omega)).mono ?_
  rintro e w17 ⟨Qk12, nk12, ck12, zk12, evk12, rfl, o_k12, g_k12, hb⟩
  replace hB := bel_step hB hb
  replace g_a0 := Gd.step g_a0 hb
  replace g_a1 := Gd.step g_a1 hb
  replace g_a2 := Gd.step g_a2 hb
  replace g_a3 := Gd.step g_a3 hb
  replace g_k7 := Gd.step g_k7 hb
  replace g_k8 := Gd.step g_k8 hb
  replace g_k9 := Gd.step g_k9 hb
  replace g_k10 := Gd.step g_k10 hb
  replace g_k11 := Gd.step g_k11 hb
  clear hb
  obtain ⟨e1, e2⟩ := RadO.uniq o_k11 o_k12
  subst e1 e2
  clear o_k11 o_k12
  go_wp2_with fail
  go_at_call 13
  refine (mcon_o g_a2 (by omega)).mono ?_
  rintro e w18 ⟨xk13, evk13, rfl, o_k13, hb⟩
  replace hB := bel_step hB hb
  replace g_a0 := Gd.step g_a0 hb
  replace g_a1 := Gd.step g_a1 hb
  replace g_a2 := Gd.step g_a2 hb
  replace g_a3 := Gd.step g_a3 hb
  replace g_k7 := Gd.step g_k7 hb
  replace g_k8 := Gd.step g_k8 hb
  replace g_k9 := Gd.step g_k9 hb
  replace g_k10 := Gd.step g_k10 hb
  replace g_k11 := Gd.step g_k11 hb
  replace g_k12 := Gd.step g_k12 hb
  clear hb
  go_wp2_with fail
  go_at_call 28
  refine (rcon_o g_a2 (by omega)).mono ?_
  rintro e w19 ⟨xk14, evk14, rfl, o_k14, hb⟩
  replace hB := bel_step hB hb
  replace g_a0 := Gd.step g_a0 hb
  replace g_a1 := Gd.step g_a1 hb
  replace g_a2 := Gd.step g_a2 hb
  replace g_a3 := Gd.step g_a3 hb
  replace g_k7 := Gd.step g_k7 hb
  replace g_k8 := Gd.step g_k8 hb
  replace g_k9 := Gd.step g_k9 hb
  replace g_k10 := Gd.step g_k10 hb
  replace g_k11 := Gd.step g_k11 hb
  replace g_k12 := Gd.step g_k12 hb
  clear hb
  obtain ⟨e1, e2⟩ := ConO.uniq o_k13 o_k14
  subst e1 e2
  clear o_k13 o_k14
  go_wp2_with fail
  go_at_call 15
  refine (mred_o a4 g_a0 g_a2 (by omega) (by omega)).mono ?_
  rintro e w20 ⟨Qk15, nk15, ck15, zk15, evk15, rfl, o_k15, g_k15, hb⟩
  replace hB := bel_step hB hb
  replace g_a0 := Gd.step g_a0 hb
  replace g_a1 := Gd.step g_a1 hb
  replace g_a2 := Gd.step g_a2 hb
  replace g_a3 := Gd.step g_a3 hb
  replace g_k7 := Gd.step g_k7 hb
  replace g_k8 := Gd.step g_k8 hb
  replace g_k9 := Gd.step g_k9 hb
  replace g_k10 := Gd.step g_k10 hb
  replace g_k11 := Gd.step g_k11 hb
  replace g_k12 := Gd.step g_k12 hb
  clear hb
  go_wp2_with fail
  go_at_call 29
  refine (rred_o a4 g_a0 g_a2 (by omega) (by omega)).mono ?_
  rintro e w21 ⟨Qk16, nk16, ck16, zk16, evk16, rfl, o_k16, g_k16, hb⟩
  replace hB := bel_step hB hb
  replace g_a0 := Gd.step g_a0 hb
  replace g_a1 := Gd.step g_a1 hb
  replace g_a2 := Gd.step g_a2 hb
  replace g_a3 := Gd.step g_a3 hb
  replace g_k7 := Gd.step g_k7 hb
  replace g_k8 := Gd.step g_k8 hb
  replace g_k9 := Gd.step g_k9 hb
  replace g_k10 := Gd.step g_k10 hb
  replace g_k11 := Gd.step g_k11 hb
  replace g_k12 := Gd.step g_k12 hb
  replace g_k15 := Gd.step g_k15 hb
  clear hb
  obtain ⟨e1, e2⟩ := RedO.uniq p2.out o_k15 o_k16
  subst e1 e2
  clear o_k15 o_k16
  go_wp2_with fail
  go_at_call 19
  refine (sameM g_k7 g_k8 (by omega) (by omega) true (decide_eq_true (rfl))).mono ?_
  rintro e w22 ⟨rfl, hb⟩
  replace hB := bel_step hB hb
  replace g_a0 := Gd.step g_a0 hb
  replace g_a1 := Gd.step g_a1 hb
  replace g_a2 := Gd.step g_a2 hb
  replace g_a3 := Gd.step g_a3 hb
  replace g_k7 := Gd.step g_k7 hb
  replace g_k8 := Gd.step g_k8 hb
  replace g_k9 := Gd.step g_k9 hb
  replace g_k10 := Gd.step g_k10 hb
  replace g_k11 := Gd.step g_k11 hb
  replace g_k12 := Gd.step g_k12 hb
  replace g_k15 := Gd.step g_k15 hb
  replace g_k16 := Gd.step g_k16 hb
  clear hb
  clear g_k7
  clear g_k8
  go_wp2_with fail
  go_at_call 19
  refine (sameM g_k9 g_k10 (by omega) (by omega) true (decide_eq_true (rfl))).mono ?_
  rintro e w23 ⟨rfl, hb⟩
  replace hB := bel_step hB hb
  replace g_a0 := Gd.step g_a0 hb
  replace g_a1 := Gd.step g_a1 hb
  replace g_a2 := Gd.step g_a2 hb
  replace g_a3 := Gd.step g_a3 hb
  replace g_k9 := Gd.step g_k9 hb
  replace g_k10 := Gd.step g_k10 hb
  replace g_k11 := Gd.step g_k11 hb
  replace g_k12 := Gd.step g_k12 hb
  replace g_k15 := Gd.step g_k15 hb
  replace g_k16 := Gd.step g_k16 hb
  clear hb
  clear g_k9
  clear g_k10
  go_wp2_with fail
  go_at_call 19
  refine (sameM g_k11 g_k12 (by omega) (by omega) true (decide_eq_true (rfl))).mono ?_
  rintro e w24 ⟨rfl, hb⟩
  replace hB := bel_step hB hb
  replace g_a0 := Gd.step g_a0 hb
  replace g_a1 := Gd.step g_a1 hb
  replace g_a2 := Gd.step g_a2 hb
  replace g_a3 := Gd.step g_a3 hb
  replace g_k11 := Gd.step g_k11 hb
  replace g_k12 := Gd.step g_k12 hb
  replace g_k15 := Gd.step g_k15 hb
  replace g_k16 := Gd.step g_k16 hb
  clear hb
  clear g_k11
  clear g_k12
  go_wp2_with fail
  go_at_call 19
  refine (sameM g_k15 g_k16 (by omega) (by omega) true (decide_eq_true (rfl))).mono ?_
  rintro e w25 ⟨rfl, hb⟩
  replace hB := bel_step hB hb
  replace g_a0 := Gd.step g_a0 hb
  replace g_a1 := Gd.step g_a1 hb
  replace g_a2 := Gd.step g_a2 hb
  replace g_a3 := Gd.step g_a3 hb
  replace g_k15 := Gd.step g_k15 hb
  replace g_k16 := Gd.step g_k16 hb
  clear hb
  clear g_k15
  clear g_k16
  go_wp2_with fail
  go_at_call 20
  refine (mgcd_o g_a0 g_a1 (by omega)).mono ?_
  rintro e w26 ⟨v, rfl, Qk17, nk17, ck17, zk17, rfl, i_k17, g_k17, hb⟩
  replace hB := bel_step hB hb
  replace g_a0 := Gd.step g_a0 hb
  replace g_a1 := Gd.step g_a1 hb
  replace g_a2 := Gd.step g_a2 hb
  replace g_a3 := Gd.step g_a3 hb
  clear hb
  go_wp2_with fail
  go_at_call 30
  refine (gcd_r g_a0 g_a1 (by omega)).mono ?_
  rintro e w27 ⟨v, rfl, Qk18, nk18, ck18, zk18, rfl, i_k18, g_k18, hb⟩
  replace hB := bel_step hB hb
  replace g_a0 := Gd.step g_a0 hb
  replace g_a1 := Gd.step g_a1 hb
  replace g_a2 := Gd.step g_a2 hb
  replace g_a3 := Gd.step g_a3 hb
  replace g_k17 := Gd.step g_k17 hb
  clear hb
  go_wp2_with fail
  go_at_call 19
  refine (sameM g_k17 g_k18 (by omega) (by omega) true (decide_eq_true (is_eq i_k17 i_k18 rfl))).mono ?_
  rintro e w28 ⟨rfl, hb⟩
  replace hB := bel_step hB hb
  replace g_a0 := Gd.step g_a0 hb
  replace g_a1 := Gd.step g_a1 hb
  replace g_a2 := Gd.step g_a2 hb
  replace g_a3 := Gd.step g_a3 hb
  replace g_k17 := Gd.step g_k17 hb
  replace g_k18 := Gd.step g_k18 hb
  clear hb
  go_wp2_with fail
  go_ret
  exact ⟨rfl, hB.out⟩

theorem walk (w : World) (A0 : Option Addr) (n0 c0 : Nat) (xs0 : List Int) (A1 : Option Addr) (n1 c1 : Nat) (xs1 : List Int) (A2 : Option Addr) (n2 c2 : Nat) (xs2 : List Int) (A3 : Option Addr) (n3 c3 : Nat) (xs3 : List Int) (a4 : Int)
    (hr0 : Rd w w.heap.size A0 n0 xs0) (hn0 : n0 ≤ c0) (hm0 : c0 ≤ 9223372036854775807) (hr1 : Rd w w.heap.size A1 n1 xs1) (hn1 : n1 ≤ c1) (hm1 : c1 ≤ 9223372036854775807) (hr2 : Rd w w.heap.size A2 n2 xs2) (hn2 : n2 ≤ c2) (hm2 : c2 ≤ 9223372036854775807) (hr3 : Rd w w.heap.size A3 n3 xs3) (hn3 : n3 ≤ c3) (hm3 : c3 ≤ 9223372036854775807) (wf4 : (Lit.int .i64 a4).wf = true) :
    Calls Try.prog 4 #[.slice A0 n0 c0, .slice A1 n1 c1, .slice A2 n2 c2, .slice A3 n3 c3, .int .i64 a4] w fun e w' => e = .returned (.bool true) ∧ Below w.heap.size w w' := by
  by_cases h0 : n0 ≤ 5
  · by_cases h1 : n1 ≤ 5
    · by_cases h2 : n2 ≤ 5
      · by_cases h3 : n3 ≤ 2
        · by_cases h4 : a4 ≤ 8
          · exact walk_m1 w A0 n0 c0 xs0 A1 n1 c1 xs1 A2 n2 c2 xs2 A3 n3 c3 xs3 a4 hr0 hn0 hm0 hr1 hn1 hm1 hr2 hn2 hm2 hr3 hn3 hm3 wf4 h0 h1 h2 h3 h4
          · by_cases h5 : a4 ≤ 512
            · exact walk_h3 w A0 n0 c0 xs0 A1 n1 c1 xs1 A2 n2 c2 xs2 A3 n3 c3 xs3 a4 hr0 hn0 hm0 hr1 hn1 hm1 hr2 hn2 hm2 hr3 hn3 hm3 wf4 h0 h1 h2 h3 (by omega) h5
            · exact walk_m2 w A0 n0 c0 xs0 A1 n1 c1 xs1 A2 n2 c2 xs2 A3 n3 c3 xs3 a4 hr0 hn0 hm0 hr1 hn1 hm1 hr2 hn2 hm2 hr3 hn3 hm3 wf4 h0 h1 h2 h3 (by omega)
        · exact walk_h2 w A0 n0 c0 xs0 A1 n1 c1 xs1 A2 n2 c2 xs2 A3 n3 c3 xs3 a4 hr0 hn0 hm0 hr1 hn1 hm1 hr2 hn2 hm2 hr3 hn3 hm3 wf4 h0 h1 h2 (by omega)
      · exact walk_h1 w A0 n0 c0 xs0 A1 n1 c1 xs1 A2 n2 c2 xs2 A3 n3 c3 xs3 a4 hr0 hn0 hm0 hr1 hn1 hm1 hr2 hn2 hm2 hr3 hn3 hm3 wf4 (by omega)
    · exact walk_h1 w A0 n0 c0 xs0 A1 n1 c1 xs1 A2 n2 c2 xs2 A3 n3 c3 xs3 a4 hr0 hn0 hm0 hr1 hn1 hm1 hr2 hn2 hm2 hr3 hn3 hm3 wf4 (by omega)
  · exact walk_h1 w A0 n0 c0 xs0 A1 n1 c1 xs1 A2 n2 c2 xs2 A3 n3 c3 xs3 a4 hr0 hn0 hm0 hr1 hn1 hm1 hr2 hn2 hm2 hr3 hn3 hm3 wf4 (by omega)
end modularCalls
end Go.Proofs.Ytopajockmcgpmaa
