/- The walk of NatDivides. -/
import Derived.Test.YtdklchejnpaenaaDoorUni3
namespace Go.Proofs.YtdklchejnpaenaaDoor
open Go Go.RowKit
namespace natDivides
open Wd Sti Nt
set_option linter.unusedVariables false

set_option maxRecDepth 100000 in
set_option maxHeartbeats 8000000 in
theorem walk_h (w : World) (A0 : Option Addr) (n0 c0 : Nat) (xs0 : List Int) (A1 : Option Addr) (n1 c1 : Nat) (xs1 : List Int)
    (hr0 : Rd w w.heap.size A0 n0 xs0) (hn0 : n0 ≤ c0) (hm0 : c0 ≤ 9223372036854775807) (hr1 : Rd w w.heap.size A1 n1 xs1) (hn1 : n1 ≤ c1) (hm1 : c1 ≤ 9223372036854775807) (hl : 12 < n0 ∨ 12 < n1) :
    Calls Tryd.prog 5 #[.slice A0 n0 c0, .slice A1 n1 c1] w fun e w' => e = .returned (.bool true) ∧ Below w.heap.size w w' := by
  have p0 := V_nonneg hr0.ws
  have p1 := V_nonneg hr1.ws
  have r_a0 : Hid (At w A0 n0 xs0) := Lib.hid hr0
  have r_a1 : Hid (At w A1 n1 xs1) := Lib.hid hr1
  have hB : Hid (Below w.heap.size w w) := Lib.hid (Below.refl _ w)
  clear hr0 hr1
  go_enter Tryd.func5, Tryd.ntmps5
  try simp only [List.append]
  go_wp2_with fail
  try go_at_call 10
  refine (lives_c _).mono ?_
  rintro e w1 ⟨rfl, hb⟩
  have hB := bel_step hB hb
  have r_a0 := At.step r_a0 hb
  have r_a1 := At.step r_a1 hb
  clear hb
  go_wp2_with fail
  try go_at_call 26
  refine (light_u n0 c0 n1 c1 (by omega) (by omega) false (by simp; omega)).mono ?_
  rintro e w2 ⟨rfl, hb⟩
  have hB := bel_step hB hb
  have r_a0 := At.step r_a0 hb
  have r_a1 := At.step r_a1 hb
  clear hb
  go_wp2_with fail
  go_ret
  exact ⟨rfl, hB.out⟩

set_option maxRecDepth 100000 in
set_option maxHeartbeats 8000000 in
theorem walk_z (w : World) (A0 : Option Addr) (n0 c0 : Nat) (xs0 : List Int) (A1 : Option Addr) (n1 c1 : Nat) (xs1 : List Int)
    (hr0 : Rd w w.heap.size A0 n0 xs0) (hn0 : n0 ≤ c0) (hm0 : c0 ≤ 9223372036854775807) (hr1 : Rd w w.heap.size A1 n1 xs1) (hn1 : n1 ≤ c1) (hm1 : c1 ≤ 9223372036854775807) (h0 : n0 ≤ 12) (h1 : n1 ≤ 12) (hv : V xs1 = 0) :
    Calls Tryd.prog 5 #[.slice A0 n0 c0, .slice A1 n1 c1] w fun e w' => e = .returned (.bool true) ∧ Below w.heap.size w w' := by
  have p0 := V_nonneg hr0.ws
  have p1 := V_nonneg hr1.ws
  have r_a0 : Hid (At w A0 n0 xs0) := Lib.hid hr0
  have r_a1 : Hid (At w A1 n1 xs1) := Lib.hid hr1
  have hB : Hid (Below w.heap.size w w) := Lib.hid (Below.refl _ w)
  clear hr0 hr1
  go_enter Tryd.func5, Tryd.ntmps5
  try simp only [List.append]
  go_wp2_with fail
  try go_at_call 10
  refine (lives_c _).mono ?_
  rintro e w1 ⟨rfl, hb⟩
  have hB := bel_step hB hb
  have r_a0 := At.step r_a0 hb
  have r_a1 := At.step r_a1 hb
  clear hb
  go_wp2_with fail
  try go_at_call 26
  refine (light_u n0 c0 n1 c1 (by omega) (by omega) true (by simp; omega)).mono ?_
  rintro e w2 ⟨rfl, hb⟩
  have hB := bel_step hB hb
  have r_a0 := At.step r_a0 hb
  have r_a1 := At.step r_a1 hb
  clear hb
  go_wp2_with fail
  try go_at_call 12
  refine (div0_u r_a1 (by omega) (by omega) (by omega) hv).mono ?_
  rintro e w3 ⟨rfl, hb⟩
  have hB := bel_step hB hb
  have r_a0 := At.step r_a0 hb
  have r_a1 := At.step r_a1 hb
  clear hb
  go_wp2_with fail
  try go_at_call 22
  refine (trim_u 12 r_a1 (by omega) (by omega) (by omega) (by omega)).mono ?_
  rintro e w4 ⟨v, rfl, Az1, nz1, cz1, z1, rfl, i_z1, r_z1, hc_z1, hk_z1, hb⟩
  have hB := bel_step hB hb
  have r_a0 := At.step r_a0 hb
  have r_a1 := At.step r_a1 hb
  clear hb
  obtain rfl : nz1 = 0 := len_zero r_z1 i_z1 hv
  go_wp2_with fail
  go_ret
  exact ⟨rfl, hB.out⟩

set_option maxRecDepth 100000 in
set_option maxHeartbeats 8000000 in
theorem walk_m (w : World) (A0 : Option Addr) (n0 c0 : Nat) (xs0 : List Int) (A1 : Option Addr) (n1 c1 : Nat) (xs1 : List Int)
    (hr0 : Rd w w.heap.size A0 n0 xs0) (hn0 : n0 ≤ c0) (hm0 : c0 ≤ 9223372036854775807) (hr1 : Rd w w.heap.size A1 n1 xs1) (hn1 : n1 ≤ c1) (hm1 : c1 ≤ 9223372036854775807) (h0 : n0 ≤ 12) (h1 : n1 ≤ 12) (hv : V xs1 ≠ 0) :
    Calls Tryd.prog 5 #[.slice A0 n0 c0, .slice A1 n1 c1] w fun e w' => e = .returned (.bool true) ∧ Below w.heap.size w w' := by
  have p0 := V_nonneg hr0.ws
  have p1 := V_nonneg hr1.ws
  have r_a0 : Hid (At w A0 n0 xs0) := Lib.hid hr0
  have r_a1 : Hid (At w A1 n1 xs1) := Lib.hid hr1
  have hB : Hid (Below w.heap.size w w) := Lib.hid (Below.refl _ w)
  clear hr0 hr1
  go_enter Tryd.func5, Tryd.ntmps5
  try simp only [List.append]
  go_wp2_with fail
  try go_at_call 10
  refine (lives_c _).mono ?_
  rintro e w1 ⟨rfl, hb⟩
  have hB := bel_step hB hb
  have r_a0 := At.step r_a0 hb
  have r_a1 := At.step r_a1 hb
  clear hb
  go_wp2_with fail
  try go_at_call 26
  refine (light_u n0 c0 n1 c1 (by omega) (by omega) true (by simp; omega)).mono ?_
  rintro e w2 ⟨rfl, hb⟩
  have hB := bel_step hB hb
  have r_a0 := At.step r_a0 hb
  have r_a1 := At.step r_a1 hb
  clear hb
  go_wp2_with fail
  try go_at_call 12
  refine (div_u 14 14 r_a0 r_a1 (by omega) (by omega) (by omega) (by omega) (by omega) (by omega) (by omega) (by omega) hv).mono ?_
  rintro e w3 ⟨v1, v2, rfl, ⟨Aq, nq, cq, zq, rfl, i_q, r_q, hc_q, hk_q, hb⟩, ⟨Ar, nr, cr, zr, rfl, i_r, r_r, hc_r, hk_r, hb9⟩⟩
  have hB := bel_step hB hb
  have r_a0 := At.step r_a0 hb
  have r_a1 := At.step r_a1 hb
  clear hb
  clear hb9
  go_wp2_with fail
  try go_at_call 22
  refine (trim_u 12 r_a1 (by omega) (by omega) (by omega) (by omega)).mono ?_
  rintro e w4 ⟨v, rfl, Az3, nz3, cz3, z3, rfl, i_z3, r_z3, hc_z3, hk_z3, hb⟩
  have hB := bel_step hB hb
  have r_a0 := At.step r_a0 hb
  have r_a1 := At.step r_a1 hb
  have r_q := At.step r_q hb
  have r_r := At.step r_r hb
  clear hb
  have hlp : nz3 ≠ 0 := len_pos r_z3 i_z3 hv
  have hlf : ((nz3 : Int) == 0) = false := by simp; omega
  clear r_z3
  go_wp2_with fail
  try go_at_call 39
  refine (trimd_u r_q (by omega) true (decide_eq_true i_q.out.tr)).mono ?_
  rintro e w5 ⟨rfl, hb⟩
  have hB := bel_step hB hb
  have r_a0 := At.step r_a0 hb
  have r_a1 := At.step r_a1 hb
  have r_q := At.step r_q hb
  have r_r := At.step r_r hb
  clear hb
  go_wp2_with fail
  try go_at_call 39
  refine (trimd_u r_r (by omega) true (decide_eq_true i_r.out.tr)).mono ?_
  rintro e w6 ⟨rfl, hb⟩
  have hB := bel_step hB hb
  have r_a0 := At.step r_a0 hb
  have r_a1 := At.step r_a1 hb
  have r_q := At.step r_q hb
  have r_r := At.step r_r hb
  clear hb
  have hrl : V xs0 % V xs1 < V xs1 := Int.emod_lt_of_pos _ (by omega)
  go_wp2_with fail
  try go_at_call 21
  refine (cmpv_u r_r r_a1 (by omega) (by omega) (-1) (by rw [i_r.out.v]; exact cmp_lt' hrl)).mono ?_
  rintro e w7 ⟨rfl, hb⟩
  have hB := bel_step hB hb
  have r_a0 := At.step r_a0 hb
  have r_a1 := At.step r_a1 hb
  have r_q := At.step r_q hb
  have r_r := At.step r_r hb
  clear hb
  go_wp2_with fail
  try go_at_call 19
  refine (mul_u 26 r_q r_a1 (by omega) (by omega) (by omega) (by omega) (by omega) (by omega) (by omega)).mono ?_
  rintro e w8 ⟨v, rfl, Az4, nz4, cz4, z4, rfl, i_z4, r_z4, hc_z4, hk_z4, hb⟩
  have hB := bel_step hB hb
  have r_a0 := At.step r_a0 hb
  have r_a1 := At.step r_a1 hb
  have r_q := At.step r_q hb
  have r_r := At.step r_r hb
  clear hb
  go_wp2_with fail
  try go_at_call 18
  refine (add_u 27 r_z4 r_r (by omega) (by omega) (by omega)).mono ?_
  rintro e w9 ⟨v, rfl, Az5, nz5, cz5, z5, rfl, i_z5, r_z5, hc_z5, hk_z5, hb⟩
  have hB := bel_step hB hb
  have r_a0 := At.step r_a0 hb
  have r_a1 := At.step r_a1 hb
  have r_q := At.step r_q hb
  have r_r := At.step r_r hb
  have r_z4 := At.step r_z4 hb
  clear hb
  go_wp2_with fail
  try go_at_call 40
  refine (nat_u r_z5 r_a0 (by omega) (by omega) true (decide_eq_true (by rw [i_z5.out.v, i_z4.out.v, i_q.out.v, i_r.out.v, Int.add_comm, Int.mul_comm]; exact Int.emod_add_mul_ediv _ _))).mono ?_
  rintro e w10 ⟨rfl, hb⟩
  have hB := bel_step hB hb
  have r_a0 := At.step r_a0 hb
  have r_a1 := At.step r_a1 hb
  have r_q := At.step r_q hb
  have r_r := At.step r_r hb
  have r_z4 := At.step r_z4 hb
  have r_z5 := At.step r_z5 hb
  clear hb
  go_wp2_with fail
  go_ret
  exact ⟨rfl, hB.out⟩

set_option maxRecDepth 100000 in
set_option maxHeartbeats 8000000 in
theorem walk (w : World) (A0 : Option Addr) (n0 c0 : Nat) (xs0 : List Int) (A1 : Option Addr) (n1 c1 : Nat) (xs1 : List Int)
    (hr0 : Rd w w.heap.size A0 n0 xs0) (hn0 : n0 ≤ c0) (hm0 : c0 ≤ 9223372036854775807) (hr1 : Rd w w.heap.size A1 n1 xs1) (hn1 : n1 ≤ c1) (hm1 : c1 ≤ 9223372036854775807) :
    Calls Tryd.prog 5 #[.slice A0 n0 c0, .slice A1 n1 c1] w fun e w' => e = .returned (.bool true) ∧ Below w.heap.size w w' := by
  by_cases h0 : n0 ≤ 12
  · by_cases h1 : n1 ≤ 12
    · by_cases hv : V xs1 = 0
      · exact walk_z w A0 n0 c0 xs0 A1 n1 c1 xs1 hr0 hn0 hm0 hr1 hn1 hm1 h0 h1 hv
      · exact walk_m w A0 n0 c0 xs0 A1 n1 c1 xs1 hr0 hn0 hm0 hr1 hn1 hm1 h0 h1 hv
    · exact walk_h w A0 n0 c0 xs0 A1 n1 c1 xs1 hr0 hn0 hm0 hr1 hn1 hm1 (by omega)
  · exact walk_h w A0 n0 c0 xs0 A1 n1 c1 xs1 hr0 hn0 hm0 hr1 hn1 hm1 (by omega)
end natDivides
end Go.Proofs.YtdklchejnpaenaaDoor
