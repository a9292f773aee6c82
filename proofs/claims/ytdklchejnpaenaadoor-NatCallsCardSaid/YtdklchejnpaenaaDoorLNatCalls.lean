/- The walk of NatCalls. -/
import Derived.Test.YtdklchejnpaenaaDoorUniC
namespace Go.Proofs.YtdklchejnpaenaaDoor
open Go Go.RowKit
namespace natCalls
open Wd Sti Nt
set_option linter.unusedVariables false

set_option maxRecDepth 100000 in
set_option maxHeartbeats 16000000 in
theorem walk_h1 (w : World) (A0 : Option Addr) (n0 c0 : Nat) (xs0 : List Int) (A1 : Option Addr) (n1 c1 : Nat) (xs1 : List Int) (a2 a3 : Int) (s4 : ByteArray)
    (hr0 : Rd w w.heap.size A0 n0 xs0) (hn0 : n0 ≤ c0) (hm0 : c0 ≤ 9223372036854775807) (hr1 : Rd w w.heap.size A1 n1 xs1) (hn1 : n1 ≤ c1) (hm1 : c1 ≤ 9223372036854775807) (wf2 : (Lit.int .i64 a2).wf = true) (wf3 : (Lit.int .i64 a3).wf = true) (ws4 : s4.size ≤ maxLen) (hl : 12 < n0 ∨ 12 < n1) :
    Calls Tryd.prog 4 #[.slice A0 n0 c0, .slice A1 n1 c1, .int .i64 a2, .int .i64 a3, .string s4] w fun e w' => e = .returned (.bool true) ∧ Below w.heap.size w w' := by
  have r_a0 : Hid (At w A0 n0 xs0) := Lib.hid hr0
  have r_a1 : Hid (At w A1 n1 xs1) := Lib.hid hr1
  have hB : Hid (Below w.heap.size w w) := Lib.hid (Below.refl _ w)
  clear hr0 hr1
  go_enter Tryd.func4, Tryd.ntmps4
  try simp only [List.append]
  go_wp2_with fail
  go_at_call 10
  refine (lives_c _).mono ?_
  rintro e w1 ⟨rfl, hb⟩
  replace hB := bel_step hB hb
  replace r_a0 := At.step r_a0 hb
  replace r_a1 := At.step r_a1 hb
  clear hb
  go_wp2_with fail
  go_at_call 26
  refine (light_u n0 c0 n1 c1 (by omega) (by omega) false (by simp; omega)).mono ?_
  rintro e w2 ⟨rfl, hb⟩
  replace hB := bel_step hB hb
  replace r_a0 := At.step r_a0 hb
  replace r_a1 := At.step r_a1 hb
  clear hb
  go_wp2_with fail
  go_ret
  exact ⟨rfl, hB.out⟩

set_option maxRecDepth 100000 in
set_option maxHeartbeats 16000000 in
theorem walk_h2 (w : World) (A0 : Option Addr) (n0 c0 : Nat) (xs0 : List Int) (A1 : Option Addr) (n1 c1 : Nat) (xs1 : List Int) (a2 a3 : Int) (s4 : ByteArray)
    (hr0 : Rd w w.heap.size A0 n0 xs0) (hn0 : n0 ≤ c0) (hm0 : c0 ≤ 9223372036854775807) (hr1 : Rd w w.heap.size A1 n1 xs1) (hn1 : n1 ≤ c1) (hm1 : c1 ≤ 9223372036854775807) (wf2 : (Lit.int .i64 a2).wf = true) (wf3 : (Lit.int .i64 a3).wf = true) (ws4 : s4.size ≤ maxLen) (h0 : n0 ≤ 12) (h1 : n1 ≤ 12) (hs : 200 < s4.size) :
    Calls Tryd.prog 4 #[.slice A0 n0 c0, .slice A1 n1 c1, .int .i64 a2, .int .i64 a3, .string s4] w fun e w' => e = .returned (.bool true) ∧ Below w.heap.size w w' := by
  have hs1 : (200 : Int) < (s4.size : Int) := by omega
  have r_a0 : Hid (At w A0 n0 xs0) := Lib.hid hr0
  have r_a1 : Hid (At w A1 n1 xs1) := Lib.hid hr1
  have hB : Hid (Below w.heap.size w w) := Lib.hid (Below.refl _ w)
  clear hr0 hr1
  go_enter Tryd.func4, Tryd.ntmps4
  try simp only [List.append]
  go_wp2_with fail
  go_at_call 10
  refine (lives_c _).mono ?_
  rintro e w1 ⟨rfl, hb⟩
  replace hB := bel_step hB hb
  replace r_a0 := At.step r_a0 hb
  replace r_a1 := At.step r_a1 hb
  clear hb
  go_wp2_with fail
  go_at_call 26
  refine (light_u n0 c0 n1 c1 (by omega) (by omega) true (by simp; omega)).mono ?_
  rintro e w2 ⟨rfl, hb⟩
  replace hB := bel_step hB hb
  replace r_a0 := At.step r_a0 hb
  replace r_a1 := At.step r_a1 hb
  clear hb
  go_wp2_with fail
  go_ret
  exact ⟨rfl, hB.out⟩

set_option maxRecDepth 100000 in
set_option maxHeartbeats 16000000 in
theorem walk_h3 (w : World) (A0 : Option Addr) (n0 c0 : Nat) (xs0 : List Int) (A1 : Option Addr) (n1 c1 : Nat) (xs1 : List Int) (a2 a3 : Int) (s4 : ByteArray)
    (hr0 : Rd w w.heap.size A0 n0 xs0) (hn0 : n0 ≤ c0) (hm0 : c0 ≤ 9223372036854775807) (hr1 : Rd w w.heap.size A1 n1 xs1) (hn1 : n1 ≤ c1) (hm1 : c1 ≤ 9223372036854775807) (wf2 : (Lit.int .i64 a2).wf = true) (wf3 : (Lit.int .i64 a3).wf = true) (ws4 : s4.size ≤ maxLen) (h0 : n0 ≤ 12) (h1 : n1 ≤ 12) (hs : s4.size ≤ 200) (hk : 1000 < a2) :
    Calls Tryd.prog 4 #[.slice A0 n0 c0, .slice A1 n1 c1, .int .i64 a2, .int .i64 a3, .string s4] w fun e w' => e = .returned (.bool true) ∧ Below w.heap.size w w' := by
  have hs1 : (s4.size : Int) ≤ 200 := by omega
  have r_a0 : Hid (At w A0 n0 xs0) := Lib.hid hr0
  have r_a1 : Hid (At w A1 n1 xs1) := Lib.hid hr1
  have hB : Hid (Below w.heap.size w w) := Lib.hid (Below.refl _ w)
  clear hr0 hr1
  go_enter Tryd.func4, Tryd.ntmps4
  try simp only [List.append]
  go_wp2_with fail
  go_at_call 10
  refine (lives_c _).mono ?_
  rintro e w1 ⟨rfl, hb⟩
  replace hB := bel_step hB hb
  replace r_a0 := At.step r_a0 hb
  replace r_a1 := At.step r_a1 hb
  clear hb
  go_wp2_with fail
  go_at_call 26
  refine (light_u n0 c0 n1 c1 (by omega) (by omega) true (by simp; omega)).mono ?_
  rintro e w2 ⟨rfl, hb⟩
  replace hB := bel_step hB hb
  replace r_a0 := At.step r_a0 hb
  replace r_a1 := At.step r_a1 hb
  clear hb
  go_wp2_with fail
  go_ret
  exact ⟨rfl, hB.out⟩

set_option maxRecDepth 100000 in
set_option maxHeartbeats 16000000 in
theorem walk_m (w : World) (A0 : Option Addr) (n0 c0 : Nat) (xs0 : List Int) (A1 : Option Addr) (n1 c1 : Nat) (xs1 : List Int) (a2 a3 : Int) (s4 : ByteArray)
    (hr0 : Rd w w.heap.size A0 n0 xs0) (hn0 : n0 ≤ c0) (hm0 : c0 ≤ 9223372036854775807) (hr1 : Rd w w.heap.size A1 n1 xs1) (hn1 : n1 ≤ c1) (hm1 : c1 ≤ 9223372036854775807) (wf2 : (Lit.int .i64 a2).wf = true) (wf3 : (Lit.int .i64 a3).wf = true) (ws4 : s4.size ≤ maxLen) (h0 : n0 ≤ 12) (h1 : n1 ≤ 12) (hs : s4.size ≤ 200) (hk : a2 ≤ 1000) :
    Calls Tryd.prog 4 #[.slice A0 n0 c0, .slice A1 n1 c1, .int .i64 a2, .int .i64 a3, .string s4] w fun e w' => e = .returned (.bool true) ∧ Below w.heap.size w w' := by
  have hs1 : (s4.size : Int) ≤ 200 := by omega
  have r_a0 : Hid (At w A0 n0 xs0) := Lib.hid hr0
  have r_a1 : Hid (At w A1 n1 xs1) := Lib.hid hr1
  have hB : Hid (Below w.heap.size w w) := Lib.hid (Below.refl _ w)
  clear hr0 hr1
  go_enter Tryd.func4, Tryd.ntmps4
  try simp only [List.append]
  go_wp2_with fail
  go_at_call 10
  refine (lives_c _).mono ?_
  rintro e w1 ⟨rfl, hb⟩
  replace hB := bel_step hB hb
  replace r_a0 := At.step r_a0 hb
  replace r_a1 := At.step r_a1 hb
  clear hb
  go_wp2_with fail
  go_at_call 26
  refine (light_u n0 c0 n1 c1 (by omega) (by omega) true (by simp; omega)).mono ?_
  rintro e w2 ⟨rfl, hb⟩
  replace hB := bel_step hB hb
  replace r_a0 := At.step r_a0 hb
  replace r_a1 := At.step r_a1 hb
  clear hb
  go_wp2_with fail
  go_at_call 11
  refine (sub_any r_a0 r_a1 h0 h1).mono ?_
  rintro e w3 ⟨Qc, nc, cc, zc, evc, rfl, i_c, r_c, l_c, hb⟩
  replace hB := bel_step hB hb
  replace r_a0 := At.step r_a0 hb
  replace r_a1 := At.step r_a1 hb
  clear hb
  go_wp2_with fail
  go_at_call 27
  refine (rsub_any r_a0 r_a1 h0 h1).mono ?_
  rintro e w4 ⟨Qd, nd, cd, zd, evd, rfl, i_d, r_d, l_d, hb⟩
  replace hB := bel_step hB hb
  replace r_a0 := At.step r_a0 hb
  replace r_a1 := At.step r_a1 hb
  replace r_c := At.step r_c hb
  clear hb
  obtain ⟨e1, e2⟩ := SubO.uniq i_c i_d
  subst e1 e2
  clear i_c i_d
  go_wp2_with fail
  go_at_call 12
  refine (div_any r_a0 r_a1 h0 h1 hn0 hn1 hm0 hm1).mono ?_
  rintro e w5 ⟨Qq, nq, cq, zq, Qr, nr, cr, zr, evq, rfl, i_q, r_q, r_r, l_q, l_r, hb⟩
  replace hB := bel_step hB hb
  replace r_a0 := At.step r_a0 hb
  replace r_a1 := At.step r_a1 hb
  replace r_c := At.step r_c hb
  replace r_d := At.step r_d hb
  clear hb
  go_wp2_with fail
  go_at_call 28
  refine (rdiv_any r_a0 r_a1 h0 h1 hn0 hn1 hm0 hm1).mono ?_
  rintro e w6 ⟨Qt, nt, ct, zt, Qu, nu, cu, zu, evt, rfl, i_t, r_t, r_u, l_t, l_u, hb⟩
  replace hB := bel_step hB hb
  replace r_a0 := At.step r_a0 hb
  replace r_a1 := At.step r_a1 hb
  replace r_c := At.step r_c hb
  replace r_d := At.step r_d hb
  replace r_q := At.step r_q hb
  replace r_r := At.step r_r hb
  clear hb
  obtain ⟨e1, e2, e3⟩ := DivO.uniq i_q i_t
  subst e1 e2 e3
  clear i_q i_t
  go_wp2_with fail
  go_at_call 14
  refine (fit_any a2 r_a0 h0 hn0 hm0).mono ?_
  rintro e w7 ⟨Qx, nx, cx, zx, evx, rfl, i_x, r_x, l_x, hb⟩
  replace hB := bel_step hB hb
  replace r_a0 := At.step r_a0 hb
  replace r_a1 := At.step r_a1 hb
  replace r_c := At.step r_c hb
  replace r_d := At.step r_d hb
  replace r_q := At.step r_q hb
  replace r_r := At.step r_r hb
  replace r_t := At.step r_t hb
  replace r_u := At.step r_u hb
  clear hb
  go_wp2_with fail
  go_at_call 29
  refine (rfit_any a2 r_a0 h0 hn0 hm0).mono ?_
  rintro e w8 ⟨Qy, ny, cy, zy, evy, rfl, i_y, r_y, l_y, hb⟩
  replace hB := bel_step hB hb
  replace r_a0 := At.step r_a0 hb
  replace r_a1 := At.step r_a1 hb
  replace r_c := At.step r_c hb
  replace r_d := At.step r_d hb
  replace r_q := At.step r_q hb
  replace r_r := At.step r_r hb
  replace r_t := At.step r_t hb
  replace r_u := At.step r_u hb
  replace r_x := At.step r_x hb
  clear hb
  obtain ⟨e1, e2⟩ := FitO.uniq i_x i_y
  subst e1 e2
  clear i_x i_y
  go_wp2_with fail
  go_at_call 15
  refine (read_any s4 (by omega)).mono ?_
  rintro e w9 ⟨Qv, nv, cv, zv, evv, rfl, i_v, r_v, l_v, hb⟩
  replace hB := bel_step hB hb
  replace r_a0 := At.step r_a0 hb
  replace r_a1 := At.step r_a1 hb
  replace r_c := At.step r_c hb
  replace r_d := At.step r_d hb
  replace r_q := At.step r_q hb
  replace r_r := At.step r_r hb
  replace r_t := At.step r_t hb
  replace r_u := At.step r_u hb
  replace r_x := At.step r_x hb
  replace r_y := At.step r_y hb
  clear hb
  go_wp2_with fail
  go_at_call 30
  refine (rread_any s4 (by omega)).mono ?_
  rintro e w10 ⟨Qw, nw, cw, zw, evw, rfl, i_w, r_w, l_w, hb⟩
  replace hB := bel_step hB hb
  replace r_a0 := At.step r_a0 hb
  replace r_a1 := At.step r_a1 hb
  replace r_c := At.step r_c hb
  replace r_d := At.step r_d hb
  replace r_q := At.step r_q hb
  replace r_r := At.step r_r hb
  replace r_t := At.step r_t hb
  replace r_u := At.step r_u hb
  replace r_x := At.step r_x hb
  replace r_y := At.step r_y hb
  replace r_v := At.step r_v hb
  clear hb
  obtain ⟨e1, e2⟩ := ReadO.uniq i_v i_w
  subst e1 e2
  clear i_v i_w
  go_wp2_with fail
  go_at_call 20
  refine (same_u r_c r_d l_c l_d true (decide_eq_true rfl)).mono ?_
  rintro e w11 ⟨rfl, hb⟩
  replace hB := bel_step hB hb
  replace r_a0 := At.step r_a0 hb
  replace r_a1 := At.step r_a1 hb
  replace r_c := At.step r_c hb
  replace r_d := At.step r_d hb
  replace r_q := At.step r_q hb
  replace r_r := At.step r_r hb
  replace r_t := At.step r_t hb
  replace r_u := At.step r_u hb
  replace r_x := At.step r_x hb
  replace r_y := At.step r_y hb
  replace r_v := At.step r_v hb
  replace r_w := At.step r_w hb
  clear hb
  clear r_c
  clear r_d
  go_wp2_with fail
  go_at_call 20
  refine (same_u r_q r_t l_q l_t true (decide_eq_true rfl)).mono ?_
  rintro e w12 ⟨rfl, hb⟩
  replace hB := bel_step hB hb
  replace r_a0 := At.step r_a0 hb
  replace r_a1 := At.step r_a1 hb
  replace r_q := At.step r_q hb
  replace r_r := At.step r_r hb
  replace r_t := At.step r_t hb
  replace r_u := At.step r_u hb
  replace r_x := At.step r_x hb
  replace r_y := At.step r_y hb
  replace r_v := At.step r_v hb
  replace r_w := At.step r_w hb
  clear hb
  clear r_q
  clear r_t
  go_wp2_with fail
  go_at_call 20
  refine (same_u r_r r_u l_r l_u true (decide_eq_true rfl)).mono ?_
  rintro e w13 ⟨rfl, hb⟩
  replace hB := bel_step hB hb
  replace r_a0 := At.step r_a0 hb
  replace r_a1 := At.step r_a1 hb
  replace r_r := At.step r_r hb
  replace r_u := At.step r_u hb
  replace r_x := At.step r_x hb
  replace r_y := At.step r_y hb
  replace r_v := At.step r_v hb
  replace r_w := At.step r_w hb
  clear hb
  clear r_r
  clear r_u
  go_wp2_with fail
  go_at_call 20
  refine (same_u r_x r_y l_x l_y true (decide_eq_true rfl)).mono ?_
  rintro e w14 ⟨rfl, hb⟩
  replace hB := bel_step hB hb
  replace r_a0 := At.step r_a0 hb
  replace r_a1 := At.step r_a1 hb
  replace r_x := At.step r_x hb
  replace r_y := At.step r_y hb
  replace r_v := At.step r_v hb
  replace r_w := At.step r_w hb
  clear hb
  clear r_x
  clear r_y
  go_wp2_with fail
  go_at_call 20
  refine (same_u r_v r_w l_v l_w true (decide_eq_true rfl)).mono ?_
  rintro e w15 ⟨rfl, hb⟩
  replace hB := bel_step hB hb
  replace r_a0 := At.step r_a0 hb
  replace r_a1 := At.step r_a1 hb
  replace r_v := At.step r_v hb
  replace r_w := At.step r_w hb
  clear hb
  clear r_v
  clear r_w
  go_wp2_with fail
  go_at_call 22
  refine (trim_1 r_a0 h0 hn0 hm0).mono ?_
  rintro e w16 ⟨Qk1, nk1, ck1, zk1, rfl, i_k1, r_k1, l_k1, hb⟩
  replace hB := bel_step hB hb
  replace r_a0 := At.step r_a0 hb
  replace r_a1 := At.step r_a1 hb
  clear hb
  go_wp2_with fail
  go_at_call 31
  refine (rtrim_1 r_a0 h0 hn0 hm0).mono ?_
  rintro e w17 ⟨Qk2, nk2, ck2, zk2, rfl, i_k2, r_k2, l_k2, hb⟩
  replace hB := bel_step hB hb
  replace r_a0 := At.step r_a0 hb
  replace r_a1 := At.step r_a1 hb
  replace r_k1 := At.step r_k1 hb
  clear hb
  obtain rfl := i_k2.out.uniq i_k1.out
  clear i_k1 i_k2
  go_wp2_with fail
  go_at_call 20
  refine (same_u r_k1 r_k2 l_k1 l_k2 true (decide_eq_true rfl)).mono ?_
  rintro e w18 ⟨rfl, hb⟩
  replace hB := bel_step hB hb
  replace r_a0 := At.step r_a0 hb
  replace r_a1 := At.step r_a1 hb
  replace r_k1 := At.step r_k1 hb
  replace r_k2 := At.step r_k2 hb
  clear hb
  clear r_k1
  clear r_k2
  go_wp2_with fail
  go_at_call 21
  refine (cmp_u r_a0 r_a1 (by omega) (by omega)).mono ?_
  rintro e w19 ⟨rfl, hb⟩
  replace hB := bel_step hB hb
  replace r_a0 := At.step r_a0 hb
  replace r_a1 := At.step r_a1 hb
  clear hb
  go_wp2_with fail
  go_at_call 32
  refine (rcmp_u r_a0 r_a1 h0 h1).mono ?_
  rintro e w20 ⟨rfl, hb⟩
  replace hB := bel_step hB hb
  replace r_a0 := At.step r_a0 hb
  replace r_a1 := At.step r_a1 hb
  clear hb
  go_wp2_with fail
  go_at_call 18
  refine (add_1 r_a0 r_a1 h0 h1).mono ?_
  rintro e w21 ⟨Qk3, nk3, ck3, zk3, rfl, i_k3, r_k3, l_k3, hb⟩
  replace hB := bel_step hB hb
  replace r_a0 := At.step r_a0 hb
  replace r_a1 := At.step r_a1 hb
  clear hb
  go_wp2_with fail
  go_at_call 33
  refine (radd_1 r_a0 r_a1 h0 h1).mono ?_
  rintro e w22 ⟨Qk4, nk4, ck4, zk4, rfl, i_k4, r_k4, l_k4, hb⟩
  replace hB := bel_step hB hb
  replace r_a0 := At.step r_a0 hb
  replace r_a1 := At.step r_a1 hb
  replace r_k3 := At.step r_k3 hb
  clear hb
  obtain rfl := i_k4.out.uniq i_k3.out
  clear i_k3 i_k4
  go_wp2_with fail
  go_at_call 20
  refine (same_u r_k3 r_k4 l_k3 l_k4 true (decide_eq_true rfl)).mono ?_
  rintro e w23 ⟨rfl, hb⟩
  replace hB := bel_step hB hb
  replace r_a0 := At.step r_a0 hb
  replace r_a1 := At.step r_a1 hb
  replace r_k3 := At.step r_k3 hb
  replace r_k4 := At.step r_k4 hb
  clear hb
  clear r_k3
  clear r_k4
  go_wp2_with fail
  go_at_call 19
  refine (mul_1 r_a0 r_a1 h0 h1 hn0 hn1 hm0 hm1).mono ?_
  rintro e w24 ⟨Qk5, nk5, ck5, zk5, rfl, i_k5, r_k5, l_k5, hb⟩
  replace hB := bel_step hB hb
  replace r_a0 := At.step r_a0 hb
  replace r_a1 := At.step r_a1 hb
  clear hb
  go_wp2_with fail
  go_at_call 34
  refine (rmul_1 r_a0 r_a1 h0 h1 hn0 hn1 hm0 hm1).mono ?_
  rintro e w25 ⟨Qk6, nk6, ck6, zk6, rfl, i_k6, r_k6, l_k6, hb⟩
  replace hB := bel_step hB hb
  replace r_a0 := At.step r_a0 hb
  replace r_a1 := At.step r_a1 hb
  replace r_k5 := At.step r_k5 hb
  clear hb
  obtain rfl := i_k6.out.uniq i_k5.out
  clear i_k5 i_k6
  go_wp2_with fail
  go_at_call 20
  refine (same_u r_k5 r_k6 l_k5 l_k6 true (decide_eq_true rfl)).mono ?_
  rintro e w26 ⟨rfl, hb⟩
  replace hB := bel_step hB hb
  replace r_a0 := At.step r_a0 hb
  replace r_a1 := At.step r_a1 hb
  replace r_k5 := At.step r_k5 hb
  replace r_k6 := At.step r_k6 hb
  clear hb
  clear r_k5
  clear r_k6
  go_wp2_with fail
  go_at_call 23
  refine (bits_u r_a0 (by omega) hn0 hm0).mono ?_
  rintro e w27 ⟨rfl, hb⟩
  replace hB := bel_step hB hb
  replace r_a0 := At.step r_a0 hb
  replace r_a1 := At.step r_a1 hb
  clear hb
  go_wp2_with fail
  go_at_call 35
  refine (rbits_n r_a0 h0 hn0 hm0).mono ?_
  rintro e w28 ⟨rfl, hb⟩
  replace hB := bel_step hB hb
  replace r_a0 := At.step r_a0 hb
  replace r_a1 := At.step r_a1 hb
  clear hb
  go_wp2_with fail
  go_at_call 24
  refine (bit_u a3 wf3 r_a0).mono ?_
  rintro e w29 ⟨rfl, hb⟩
  replace hB := bel_step hB hb
  replace r_a0 := At.step r_a0 hb
  replace r_a1 := At.step r_a1 hb
  clear hb
  go_wp2_with fail
  go_at_call 36
  refine (rbit_u a3 wf3 r_a0).mono ?_
  rintro e w30 ⟨rfl, hb⟩
  replace hB := bel_step hB hb
  replace r_a0 := At.step r_a0 hb
  replace r_a1 := At.step r_a1 hb
  clear hb
  go_wp2_with fail
  go_at_call 25
  refine (low_1 a2 wf2 r_a0 h0 hn0 hm0).mono ?_
  rintro e w31 ⟨Qk7, nk7, ck7, zk7, rfl, i_k7, r_k7, l_k7, hb⟩
  replace hB := bel_step hB hb
  replace r_a0 := At.step r_a0 hb
  replace r_a1 := At.step r_a1 hb
  clear hb
  go_wp2_with fail
  go_at_call 37
  refine (rlow_1 a2 wf2 r_a0 h0 hn0 hm0).mono ?_
  rintro e w32 ⟨Qk8, nk8, ck8, zk8, rfl, i_k8, r_k8, l_k8, hb⟩
  replace hB := bel_step hB hb
  replace r_a0 := At.step r_a0 hb
  replace r_a1 := At.step r_a1 hb
  replace r_k7 := At.step r_k7 hb
  clear hb
  obtain rfl := i_k8.out.uniq i_k7.out
  clear i_k7 i_k8
  go_wp2_with fail
  go_at_call 20
  refine (same_u r_k7 r_k8 l_k7 l_k8 true (decide_eq_true rfl)).mono ?_
  rintro e w33 ⟨rfl, hb⟩
  replace hB := bel_step hB hb
  replace r_a0 := At.step r_a0 hb
  replace r_a1 := At.step r_a1 hb
  replace r_k7 := At.step r_k7 hb
  replace r_k8 := At.step r_k8 hb
  clear hb
  clear r_k7
  clear r_k8
  obtain ⟨sx, hsx⟩ : ∃ sx : ByteArray, sx = ⟨(hexes (V xs0) (digs xs0)).toArray⟩ := ⟨_, rfl⟩
  have HSX := Lib.hid hsx
  clear hsx
  go_wp2_with fail
  go_at_call 17
  refine (text_s r_a0 h0 hn0 hm0 sx HSX.out).mono ?_
  rintro e w34 ⟨rfl, hb⟩
  replace hB := bel_step hB hb
  replace r_a0 := At.step r_a0 hb
  replace r_a1 := At.step r_a1 hb
  clear hb
  go_wp2_with fail
  go_at_call 38
  refine (rtext_s r_a0 h0 hn0 hm0 sx HSX.out).mono ?_
  rintro e w35 ⟨rfl, hb⟩
  replace hB := bel_step hB hb
  replace r_a0 := At.step r_a0 hb
  replace r_a1 := At.step r_a1 hb
  clear hb
  go_wp2_with fail
  go_ret
  exact ⟨rfl, hB.out⟩

theorem walk (w : World) (A0 : Option Addr) (n0 c0 : Nat) (xs0 : List Int) (A1 : Option Addr) (n1 c1 : Nat) (xs1 : List Int) (a2 a3 : Int) (s4 : ByteArray)
    (hr0 : Rd w w.heap.size A0 n0 xs0) (hn0 : n0 ≤ c0) (hm0 : c0 ≤ 9223372036854775807) (hr1 : Rd w w.heap.size A1 n1 xs1) (hn1 : n1 ≤ c1) (hm1 : c1 ≤ 9223372036854775807) (wf2 : (Lit.int .i64 a2).wf = true) (wf3 : (Lit.int .i64 a3).wf = true) (ws4 : s4.size ≤ maxLen) :
    Calls Tryd.prog 4 #[.slice A0 n0 c0, .slice A1 n1 c1, .int .i64 a2, .int .i64 a3, .string s4] w fun e w' => e = .returned (.bool true) ∧ Below w.heap.size w w' := by
  by_cases h0 : n0 ≤ 12
  · by_cases h1 : n1 ≤ 12
    · by_cases hs : s4.size ≤ 200
      · by_cases hk : a2 ≤ 1000
        · exact walk_m w A0 n0 c0 xs0 A1 n1 c1 xs1 a2 a3 s4 hr0 hn0 hm0 hr1 hn1 hm1 wf2 wf3 ws4 h0 h1 hs hk
        · exact walk_h3 w A0 n0 c0 xs0 A1 n1 c1 xs1 a2 a3 s4 hr0 hn0 hm0 hr1 hn1 hm1 wf2 wf3 ws4 h0 h1 hs (by omega)
      · exact walk_h2 w A0 n0 c0 xs0 A1 n1 c1 xs1 a2 a3 s4 hr0 hn0 hm0 hr1 hn1 hm1 wf2 wf3 ws4 h0 h1 (by omega)
    · exact walk_h1 w A0 n0 c0 xs0 A1 n1 c1 xs1 a2 a3 s4 hr0 hn0 hm0 hr1 hn1 hm1 wf2 wf3 ws4 (by omega)
  · exact walk_h1 w A0 n0 c0 xs0 A1 n1 c1 xs1 a2 a3 s4 hr0 hn0 hm0 hr1 hn1 hm1 wf2 wf3 ws4 (by omega)
end natCalls
end Go.Proofs.YtdklchejnpaenaaDoor
