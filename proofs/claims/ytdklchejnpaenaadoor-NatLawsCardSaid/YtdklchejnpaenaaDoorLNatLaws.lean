/- The walk of NatLaws. -/
import Derived.Test.YtdklchejnpaenaaDoorUni
namespace Go.Proofs.YtdklchejnpaenaaDoor
open Go Go.RowKit
namespace natLaws
open Wd Sti Nt
set_option linter.unusedVariables false

set_option maxRecDepth 100000 in
set_option maxHeartbeats 8000000 in
theorem walk_h1 (w : World) (A0 : Option Addr) (n0 c0 : Nat) (xs0 : List Int) (A1 : Option Addr) (n1 c1 : Nat) (xs1 : List Int) (A2 : Option Addr) (n2 c2 : Nat) (xs2 : List Int)
    (hr0 : Rd w w.heap.size A0 n0 xs0) (hn0 : n0 ≤ c0) (hm0 : c0 ≤ 9223372036854775807) (hr1 : Rd w w.heap.size A1 n1 xs1) (hn1 : n1 ≤ c1) (hm1 : c1 ≤ 9223372036854775807) (hr2 : Rd w w.heap.size A2 n2 xs2) (hn2 : n2 ≤ c2) (hm2 : c2 ≤ 9223372036854775807) (hl : 12 < n0 ∨ 12 < n1) :
    Calls Tryd.prog 6 #[.slice A0 n0 c0, .slice A1 n1 c1, .slice A2 n2 c2] w fun e w' => e = .returned (.bool true) ∧ Below w.heap.size w w' := by
  have p0 := V_nonneg hr0.ws
  have p1 := V_nonneg hr1.ws
  have p2 := V_nonneg hr2.ws
  have r_a0 : Hid (At w A0 n0 xs0) := Lib.hid hr0
  have r_a1 : Hid (At w A1 n1 xs1) := Lib.hid hr1
  have r_a2 : Hid (At w A2 n2 xs2) := Lib.hid hr2
  have hB : Hid (Below w.heap.size w w) := Lib.hid (Below.refl _ w)
  clear hr0 hr1 hr2
  go_enter Tryd.func6, Tryd.ntmps6
  try simp only [List.append]
  go_wp2_with fail
  try go_at_call 10
  refine (lives_c _).mono ?_
  rintro e w1 ⟨rfl, hb⟩
  have hB := bel_step hB hb
  have r_a0 := At.step r_a0 hb
  have r_a1 := At.step r_a1 hb
  have r_a2 := At.step r_a2 hb
  clear hb
  go_wp2_with fail
  try go_at_call 26
  refine (light_u n0 c0 n1 c1 (by omega) (by omega) false (by simp; omega)).mono ?_
  rintro e w2 ⟨rfl, hb⟩
  have hB := bel_step hB hb
  have r_a0 := At.step r_a0 hb
  have r_a1 := At.step r_a1 hb
  have r_a2 := At.step r_a2 hb
  clear hb
  go_wp2_with fail
  go_ret
  exact ⟨rfl, hB.out⟩

set_option maxRecDepth 100000 in
set_option maxHeartbeats 8000000 in
theorem walk_h2 (w : World) (A0 : Option Addr) (n0 c0 : Nat) (xs0 : List Int) (A1 : Option Addr) (n1 c1 : Nat) (xs1 : List Int) (A2 : Option Addr) (n2 c2 : Nat) (xs2 : List Int)
    (hr0 : Rd w w.heap.size A0 n0 xs0) (hn0 : n0 ≤ c0) (hm0 : c0 ≤ 9223372036854775807) (hr1 : Rd w w.heap.size A1 n1 xs1) (hn1 : n1 ≤ c1) (hm1 : c1 ≤ 9223372036854775807) (hr2 : Rd w w.heap.size A2 n2 xs2) (hn2 : n2 ≤ c2) (hm2 : c2 ≤ 9223372036854775807) (h0 : n0 ≤ 12) (h1 : n1 ≤ 12) (h2 : 12 < n2) :
    Calls Tryd.prog 6 #[.slice A0 n0 c0, .slice A1 n1 c1, .slice A2 n2 c2] w fun e w' => e = .returned (.bool true) ∧ Below w.heap.size w w' := by
  have p0 := V_nonneg hr0.ws
  have p1 := V_nonneg hr1.ws
  have p2 := V_nonneg hr2.ws
  have r_a0 : Hid (At w A0 n0 xs0) := Lib.hid hr0
  have r_a1 : Hid (At w A1 n1 xs1) := Lib.hid hr1
  have r_a2 : Hid (At w A2 n2 xs2) := Lib.hid hr2
  have hB : Hid (Below w.heap.size w w) := Lib.hid (Below.refl _ w)
  clear hr0 hr1 hr2
  go_enter Tryd.func6, Tryd.ntmps6
  try simp only [List.append]
  go_wp2_with fail
  try go_at_call 10
  refine (lives_c _).mono ?_
  rintro e w1 ⟨rfl, hb⟩
  have hB := bel_step hB hb
  have r_a0 := At.step r_a0 hb
  have r_a1 := At.step r_a1 hb
  have r_a2 := At.step r_a2 hb
  clear hb
  go_wp2_with fail
  try go_at_call 26
  refine (light_u n0 c0 n1 c1 (by omega) (by omega) true (by simp; omega)).mono ?_
  rintro e w2 ⟨rfl, hb⟩
  have hB := bel_step hB hb
  have r_a0 := At.step r_a0 hb
  have r_a1 := At.step r_a1 hb
  have r_a2 := At.step r_a2 hb
  clear hb
  go_wp2_with fail
  go_ret
  exact ⟨rfl, hB.out⟩

set_option maxRecDepth 100000 in
set_option maxHeartbeats 8000000 in
theorem walk_m1 (w : World) (A0 : Option Addr) (n0 c0 : Nat) (xs0 : List Int) (A1 : Option Addr) (n1 c1 : Nat) (xs1 : List Int) (A2 : Option Addr) (n2 c2 : Nat) (xs2 : List Int)
    (hr0 : Rd w w.heap.size A0 n0 xs0) (hn0 : n0 ≤ c0) (hm0 : c0 ≤ 9223372036854775807) (hr1 : Rd w w.heap.size A1 n1 xs1) (hn1 : n1 ≤ c1) (hm1 : c1 ≤ 9223372036854775807) (hr2 : Rd w w.heap.size A2 n2 xs2) (hn2 : n2 ≤ c2) (hm2 : c2 ≤ 9223372036854775807) (h0 : n0 ≤ 12) (h1 : n1 ≤ 12) (h2 : n2 ≤ 12) (hv : V xs1 ≤ V xs0) :
    Calls Tryd.prog 6 #[.slice A0 n0 c0, .slice A1 n1 c1, .slice A2 n2 c2] w fun e w' => e = .returned (.bool true) ∧ Below w.heap.size w w' := by
  have p0 := V_nonneg hr0.ws
  have p1 := V_nonneg hr1.ws
  have p2 := V_nonneg hr2.ws
  have r_a0 : Hid (At w A0 n0 xs0) := Lib.hid hr0
  have r_a1 : Hid (At w A1 n1 xs1) := Lib.hid hr1
  have r_a2 : Hid (At w A2 n2 xs2) := Lib.hid hr2
  have hB : Hid (Below w.heap.size w w) := Lib.hid (Below.refl _ w)
  clear hr0 hr1 hr2
  go_enter Tryd.func6, Tryd.ntmps6
  try simp only [List.append]
  go_wp2_with fail
  try go_at_call 10
  refine (lives_c _).mono ?_
  rintro e w1 ⟨rfl, hb⟩
  have hB := bel_step hB hb
  have r_a0 := At.step r_a0 hb
  have r_a1 := At.step r_a1 hb
  have r_a2 := At.step r_a2 hb
  clear hb
  go_wp2_with fail
  try go_at_call 26
  refine (light_u n0 c0 n1 c1 (by omega) (by omega) true (by simp; omega)).mono ?_
  rintro e w2 ⟨rfl, hb⟩
  have hB := bel_step hB hb
  have r_a0 := At.step r_a0 hb
  have r_a1 := At.step r_a1 hb
  have r_a2 := At.step r_a2 hb
  clear hb
  go_wp2_with fail
  try go_at_call 18
  refine (add_u 13 r_a0 r_a1 (by omega) (by omega) (by omega)).mono ?_
  rintro e w3 ⟨v, rfl, Az1, nz1, cz1, z1, rfl, i_z1, r_z1, hc_z1, hk_z1, hb⟩
  have hB := bel_step hB hb
  have r_a0 := At.step r_a0 hb
  have r_a1 := At.step r_a1 hb
  have r_a2 := At.step r_a2 hb
  clear hb
  go_wp2_with fail
  try go_at_call 11
  refine (sub_u 13 r_z1 r_a1 (by omega) (by omega) (by omega) (by rw [i_z1.out.v]; omega)).mono ?_
  rintro e w4 ⟨v, rfl, Az2, nz2, cz2, z2, rfl, i_z2, r_z2, hc_z2, hk_z2, hb⟩
  have hB := bel_step hB hb
  have r_a0 := At.step r_a0 hb
  have r_a1 := At.step r_a1 hb
  have r_a2 := At.step r_a2 hb
  have r_z1 := At.step r_z1 hb
  clear hb
  go_wp2_with fail
  try go_at_call 11
  refine (sub_u 12 r_a0 r_a1 (by omega) (by omega) (by omega) (by omega)).mono ?_
  rintro e w5 ⟨v, rfl, Az3, nz3, cz3, z3, rfl, i_z3, r_z3, hc_z3, hk_z3, hb⟩
  have hB := bel_step hB hb
  have r_a0 := At.step r_a0 hb
  have r_a1 := At.step r_a1 hb
  have r_a2 := At.step r_a2 hb
  have r_z1 := At.step r_z1 hb
  have r_z2 := At.step r_z2 hb
  clear hb
  go_wp2_with fail
  try go_at_call 40
  refine (nat_u r_z2 r_a0 (by omega) (by omega) true (decide_eq_true (by rw [i_z2.out.v, i_z1.out.v]; omega))).mono ?_
  rintro e w6 ⟨rfl, hb⟩
  have hB := bel_step hB hb
  have r_a0 := At.step r_a0 hb
  have r_a1 := At.step r_a1 hb
  have r_a2 := At.step r_a2 hb
  have r_z1 := At.step r_z1 hb
  have r_z2 := At.step r_z2 hb
  have r_z3 := At.step r_z3 hb
  clear hb
  clear r_z2
  have hcm : 0 ≤ cmpN (V xs0) (V xs1) := by unfold cmpN; split <;> (try split) <;> omega
  go_wp2_with fail
  try go_at_call 21
  refine (cmp_u r_a0 r_a1 (by omega) (by omega)).mono ?_
  rintro e w7 ⟨rfl, hb⟩
  have hB := bel_step hB hb
  have r_a0 := At.step r_a0 hb
  have r_a1 := At.step r_a1 hb
  have r_a2 := At.step r_a2 hb
  have r_z1 := At.step r_z1 hb
  have r_z3 := At.step r_z3 hb
  clear hb
  go_wp2_with fail
  try go_at_call 18
  refine (add_u 13 r_z3 r_a1 (by omega) (by omega) (by omega)).mono ?_
  rintro e w8 ⟨v, rfl, Az4, nz4, cz4, z4, rfl, i_z4, r_z4, hc_z4, hk_z4, hb⟩
  have hB := bel_step hB hb
  have r_a0 := At.step r_a0 hb
  have r_a1 := At.step r_a1 hb
  have r_a2 := At.step r_a2 hb
  have r_z1 := At.step r_z1 hb
  have r_z3 := At.step r_z3 hb
  clear hb
  go_wp2_with fail
  try go_at_call 40
  refine (nat_u r_z4 r_a0 (by omega) (by omega) true (decide_eq_true (by rw [i_z4.out.v, i_z3.out.v]; omega))).mono ?_
  rintro e w9 ⟨rfl, hb⟩
  have hB := bel_step hB hb
  have r_a0 := At.step r_a0 hb
  have r_a1 := At.step r_a1 hb
  have r_a2 := At.step r_a2 hb
  have r_z1 := At.step r_z1 hb
  have r_z3 := At.step r_z3 hb
  have r_z4 := At.step r_z4 hb
  clear hb
  clear r_z3
  clear r_z4
  go_wp2_with fail
  try go_at_call 19
  refine (mul_u 24 r_a0 r_a1 (by omega) (by omega) (by omega) (by omega) (by omega) (by omega) (by omega)).mono ?_
  rintro e w10 ⟨v, rfl, Az5, nz5, cz5, z5, rfl, i_z5, r_z5, hc_z5, hk_z5, hb⟩
  have hB := bel_step hB hb
  have r_a0 := At.step r_a0 hb
  have r_a1 := At.step r_a1 hb
  have r_a2 := At.step r_a2 hb
  have r_z1 := At.step r_z1 hb
  clear hb
  go_wp2_with fail
  try go_at_call 39
  refine (trimd_u r_z1 (by omega) true (decide_eq_true i_z1.out.tr)).mono ?_
  rintro e w11 ⟨rfl, hb⟩
  have hB := bel_step hB hb
  have r_a0 := At.step r_a0 hb
  have r_a1 := At.step r_a1 hb
  have r_a2 := At.step r_a2 hb
  have r_z1 := At.step r_z1 hb
  have r_z5 := At.step r_z5 hb
  clear hb
  go_wp2_with fail
  try go_at_call 39
  refine (trimd_u r_z5 (by omega) true (decide_eq_true i_z5.out.tr)).mono ?_
  rintro e w12 ⟨rfl, hb⟩
  have hB := bel_step hB hb
  have r_a0 := At.step r_a0 hb
  have r_a1 := At.step r_a1 hb
  have r_a2 := At.step r_a2 hb
  have r_z1 := At.step r_z1 hb
  have r_z5 := At.step r_z5 hb
  clear hb
  go_wp2_with fail
  try go_at_call 18
  refine (add_u 13 r_a1 r_a0 (by omega) (by omega) (by omega)).mono ?_
  rintro e w13 ⟨v, rfl, Az6, nz6, cz6, z6, rfl, i_z6, r_z6, hc_z6, hk_z6, hb⟩
  have hB := bel_step hB hb
  have r_a0 := At.step r_a0 hb
  have r_a1 := At.step r_a1 hb
  have r_a2 := At.step r_a2 hb
  have r_z1 := At.step r_z1 hb
  have r_z5 := At.step r_z5 hb
  clear hb
  go_wp2_with fail
  try go_at_call 20
  refine (same_u r_z1 r_z6 (by omega) (by omega) true (decide_eq_true (Is.uniq' i_z1.out i_z6.out (by omega)))).mono ?_
  rintro e w14 ⟨rfl, hb⟩
  have hB := bel_step hB hb
  have r_a0 := At.step r_a0 hb
  have r_a1 := At.step r_a1 hb
  have r_a2 := At.step r_a2 hb
  have r_z1 := At.step r_z1 hb
  have r_z5 := At.step r_z5 hb
  have r_z6 := At.step r_z6 hb
  clear hb
  clear r_z6
  go_wp2_with fail
  try go_at_call 19
  refine (mul_u 24 r_a1 r_a0 (by omega) (by omega) (by omega) (by omega) (by omega) (by omega) (by omega)).mono ?_
  rintro e w15 ⟨v, rfl, Az7, nz7, cz7, z7, rfl, i_z7, r_z7, hc_z7, hk_z7, hb⟩
  have hB := bel_step hB hb
  have r_a0 := At.step r_a0 hb
  have r_a1 := At.step r_a1 hb
  have r_a2 := At.step r_a2 hb
  have r_z1 := At.step r_z1 hb
  have r_z5 := At.step r_z5 hb
  clear hb
  go_wp2_with fail
  try go_at_call 20
  refine (same_u r_z5 r_z7 (by omega) (by omega) true (decide_eq_true (Is.uniq' i_z5.out i_z7.out (Int.mul_comm _ _)))).mono ?_
  rintro e w16 ⟨rfl, hb⟩
  have hB := bel_step hB hb
  have r_a0 := At.step r_a0 hb
  have r_a1 := At.step r_a1 hb
  have r_a2 := At.step r_a2 hb
  have r_z1 := At.step r_z1 hb
  have r_z5 := At.step r_z5 hb
  have r_z7 := At.step r_z7 hb
  clear hb
  clear r_z7
  go_wp2_with fail
  try go_at_call 18
  refine (add_u 14 r_z1 r_a2 (by omega) (by omega) (by omega)).mono ?_
  rintro e w17 ⟨v, rfl, Az8, nz8, cz8, z8, rfl, i_z8, r_z8, hc_z8, hk_z8, hb⟩
  have hB := bel_step hB hb
  have r_a0 := At.step r_a0 hb
  have r_a1 := At.step r_a1 hb
  have r_a2 := At.step r_a2 hb
  have r_z1 := At.step r_z1 hb
  have r_z5 := At.step r_z5 hb
  clear hb
  go_wp2_with fail
  try go_at_call 18
  refine (add_u 13 r_a1 r_a2 (by omega) (by omega) (by omega)).mono ?_
  rintro e w18 ⟨v, rfl, Az9, nz9, cz9, z9, rfl, i_z9, r_z9, hc_z9, hk_z9, hb⟩
  have hB := bel_step hB hb
  have r_a0 := At.step r_a0 hb
  have r_a1 := At.step r_a1 hb
  have r_a2 := At.step r_a2 hb
  have r_z1 := At.step r_z1 hb
  have r_z5 := At.step r_z5 hb
  have r_z8 := At.step r_z8 hb
  clear hb
  go_wp2_with fail
  try go_at_call 18
  refine (add_u 14 r_a0 r_z9 (by omega) (by omega) (by omega)).mono ?_
  rintro e w19 ⟨v, rfl, Az10, nz10, cz10, z10, rfl, i_z10, r_z10, hc_z10, hk_z10, hb⟩
  have hB := bel_step hB hb
  have r_a0 := At.step r_a0 hb
  have r_a1 := At.step r_a1 hb
  have r_a2 := At.step r_a2 hb
  have r_z1 := At.step r_z1 hb
  have r_z5 := At.step r_z5 hb
  have r_z8 := At.step r_z8 hb
  have r_z9 := At.step r_z9 hb
  clear hb
  go_wp2_with fail
  try go_at_call 20
  refine (same_u r_z8 r_z10 (by omega) (by omega) true (decide_eq_true (Is.uniq' i_z8.out i_z10.out (by rw [i_z1.out.v, i_z9.out.v]; omega)))).mono ?_
  rintro e w20 ⟨rfl, hb⟩
  have hB := bel_step hB hb
  have r_a0 := At.step r_a0 hb
  have r_a1 := At.step r_a1 hb
  have r_a2 := At.step r_a2 hb
  have r_z1 := At.step r_z1 hb
  have r_z5 := At.step r_z5 hb
  have r_z8 := At.step r_z8 hb
  have r_z9 := At.step r_z9 hb
  have r_z10 := At.step r_z10 hb
  clear hb
  clear r_z8
  clear r_z9
  clear r_z10
  go_wp2_with fail
  try go_at_call 19
  refine (mul_u 36 r_z5 r_a2 (by omega) (by omega) (by omega) (by omega) (by omega) (by omega) (by omega)).mono ?_
  rintro e w21 ⟨v, rfl, Az11, nz11, cz11, z11, rfl, i_z11, r_z11, hc_z11, hk_z11, hb⟩
  have hB := bel_step hB hb
  have r_a0 := At.step r_a0 hb
  have r_a1 := At.step r_a1 hb
  have r_a2 := At.step r_a2 hb
  have r_z1 := At.step r_z1 hb
  have r_z5 := At.step r_z5 hb
  clear hb
  go_wp2_with fail
  try go_at_call 19
  refine (mul_u 24 r_a1 r_a2 (by omega) (by omega) (by omega) (by omega) (by omega) (by omega) (by omega)).mono ?_
  rintro e w22 ⟨v, rfl, Az12, nz12, cz12, z12, rfl, i_z12, r_z12, hc_z12, hk_z12, hb⟩
  have hB := bel_step hB hb
  have r_a0 := At.step r_a0 hb
  have r_a1 := At.step r_a1 hb
  have r_a2 := At.step r_a2 hb
  have r_z1 := At.step r_z1 hb
  have r_z5 := At.step r_z5 hb
  have r_z11 := At.step r_z11 hb
  clear hb
  go_wp2_with fail
  try go_at_call 19
  refine (mul_u 36 r_a0 r_z12 (by omega) (by omega) (by omega) (by omega) (by omega) (by omega) (by omega)).mono ?_
  rintro e w23 ⟨v, rfl, Az13, nz13, cz13, z13, rfl, i_z13, r_z13, hc_z13, hk_z13, hb⟩
  have hB := bel_step hB hb
  have r_a0 := At.step r_a0 hb
  have r_a1 := At.step r_a1 hb
  have r_a2 := At.step r_a2 hb
  have r_z1 := At.step r_z1 hb
  have r_z5 := At.step r_z5 hb
  have r_z11 := At.step r_z11 hb
  have r_z12 := At.step r_z12 hb
  clear hb
  go_wp2_with fail
  try go_at_call 20
  refine (same_u r_z11 r_z13 (by omega) (by omega) true (decide_eq_true (Is.uniq' i_z11.out i_z13.out (by rw [i_z5.out.v, i_z12.out.v]; exact Int.mul_assoc _ _ _)))).mono ?_
  rintro e w24 ⟨rfl, hb⟩
  have hB := bel_step hB hb
  have r_a0 := At.step r_a0 hb
  have r_a1 := At.step r_a1 hb
  have r_a2 := At.step r_a2 hb
  have r_z1 := At.step r_z1 hb
  have r_z5 := At.step r_z5 hb
  have r_z11 := At.step r_z11 hb
  have r_z12 := At.step r_z12 hb
  have r_z13 := At.step r_z13 hb
  clear hb
  clear r_z11
  clear r_z12
  clear r_z13
  go_wp2_with fail
  try go_at_call 18
  refine (add_u 13 r_a1 r_a2 (by omega) (by omega) (by omega)).mono ?_
  rintro e w25 ⟨v, rfl, Az14, nz14, cz14, z14, rfl, i_z14, r_z14, hc_z14, hk_z14, hb⟩
  have hB := bel_step hB hb
  have r_a0 := At.step r_a0 hb
  have r_a1 := At.step r_a1 hb
  have r_a2 := At.step r_a2 hb
  have r_z1 := At.step r_z1 hb
  have r_z5 := At.step r_z5 hb
  clear hb
  go_wp2_with fail
  try go_at_call 19
  refine (mul_u 25 r_a0 r_z14 (by omega) (by omega) (by omega) (by omega) (by omega) (by omega) (by omega)).mono ?_
  rintro e w26 ⟨v, rfl, Az15, nz15, cz15, z15, rfl, i_z15, r_z15, hc_z15, hk_z15, hb⟩
  have hB := bel_step hB hb
  have r_a0 := At.step r_a0 hb
  have r_a1 := At.step r_a1 hb
  have r_a2 := At.step r_a2 hb
  have r_z1 := At.step r_z1 hb
  have r_z5 := At.step r_z5 hb
  have r_z14 := At.step r_z14 hb
  clear hb
  go_wp2_with fail
  try go_at_call 19
  refine (mul_u 24 r_a0 r_a2 (by omega) (by omega) (by omega) (by omega) (by omega) (by omega) (by omega)).mono ?_
  rintro e w27 ⟨v, rfl, Az16, nz16, cz16, z16, rfl, i_z16, r_z16, hc_z16, hk_z16, hb⟩
  have hB := bel_step hB hb
  have r_a0 := At.step r_a0 hb
  have r_a1 := At.step r_a1 hb
  have r_a2 := At.step r_a2 hb
  have r_z1 := At.step r_z1 hb
  have r_z5 := At.step r_z5 hb
  have r_z14 := At.step r_z14 hb
  have r_z15 := At.step r_z15 hb
  clear hb
  go_wp2_with fail
  try go_at_call 18
  refine (add_u 25 r_z5 r_z16 (by omega) (by omega) (by omega)).mono ?_
  rintro e w28 ⟨v, rfl, Az17, nz17, cz17, z17, rfl, i_z17, r_z17, hc_z17, hk_z17, hb⟩
  have hB := bel_step hB hb
  have r_a0 := At.step r_a0 hb
  have r_a1 := At.step r_a1 hb
  have r_a2 := At.step r_a2 hb
  have r_z1 := At.step r_z1 hb
  have r_z5 := At.step r_z5 hb
  have r_z14 := At.step r_z14 hb
  have r_z15 := At.step r_z15 hb
  have r_z16 := At.step r_z16 hb
  clear hb
  go_wp2_with fail
  try go_at_call 20
  refine (same_u r_z15 r_z17 (by omega) (by omega) true (decide_eq_true (Is.uniq' i_z15.out i_z17.out (by rw [i_z14.out.v, i_z5.out.v, i_z16.out.v]; exact Int.mul_add _ _ _)))).mono ?_
  rintro e w29 ⟨rfl, hb⟩
  have hB := bel_step hB hb
  have r_a0 := At.step r_a0 hb
  have r_a1 := At.step r_a1 hb
  have r_a2 := At.step r_a2 hb
  have r_z1 := At.step r_z1 hb
  have r_z5 := At.step r_z5 hb
  have r_z14 := At.step r_z14 hb
  have r_z15 := At.step r_z15 hb
  have r_z16 := At.step r_z16 hb
  have r_z17 := At.step r_z17 hb
  clear hb
  go_wp2_with fail
  go_ret
  exact ⟨rfl, hB.out⟩

set_option maxRecDepth 100000 in
set_option maxHeartbeats 8000000 in
theorem walk_m2 (w : World) (A0 : Option Addr) (n0 c0 : Nat) (xs0 : List Int) (A1 : Option Addr) (n1 c1 : Nat) (xs1 : List Int) (A2 : Option Addr) (n2 c2 : Nat) (xs2 : List Int)
    (hr0 : Rd w w.heap.size A0 n0 xs0) (hn0 : n0 ≤ c0) (hm0 : c0 ≤ 9223372036854775807) (hr1 : Rd w w.heap.size A1 n1 xs1) (hn1 : n1 ≤ c1) (hm1 : c1 ≤ 9223372036854775807) (hr2 : Rd w w.heap.size A2 n2 xs2) (hn2 : n2 ≤ c2) (hm2 : c2 ≤ 9223372036854775807) (h0 : n0 ≤ 12) (h1 : n1 ≤ 12) (h2 : n2 ≤ 12) (hv : V xs0 < V xs1) :
    Calls Tryd.prog 6 #[.slice A0 n0 c0, .slice A1 n1 c1, .slice A2 n2 c2] w fun e w' => e = .returned (.bool true) ∧ Below w.heap.size w w' := by
  have p0 := V_nonneg hr0.ws
  have p1 := V_nonneg hr1.ws
  have p2 := V_nonneg hr2.ws
  have r_a0 : Hid (At w A0 n0 xs0) := Lib.hid hr0
  have r_a1 : Hid (At w A1 n1 xs1) := Lib.hid hr1
  have r_a2 : Hid (At w A2 n2 xs2) := Lib.hid hr2
  have hB : Hid (Below w.heap.size w w) := Lib.hid (Below.refl _ w)
  clear hr0 hr1 hr2
  go_enter Tryd.func6, Tryd.ntmps6
  try simp only [List.append]
  go_wp2_with fail
  try go_at_call 10
  refine (lives_c _).mono ?_
  rintro e w1 ⟨rfl, hb⟩
  have hB := bel_step hB hb
  have r_a0 := At.step r_a0 hb
  have r_a1 := At.step r_a1 hb
  have r_a2 := At.step r_a2 hb
  clear hb
  go_wp2_with fail
  try go_at_call 26
  refine (light_u n0 c0 n1 c1 (by omega) (by omega) true (by simp; omega)).mono ?_
  rintro e w2 ⟨rfl, hb⟩
  have hB := bel_step hB hb
  have r_a0 := At.step r_a0 hb
  have r_a1 := At.step r_a1 hb
  have r_a2 := At.step r_a2 hb
  clear hb
  go_wp2_with fail
  try go_at_call 18
  refine (add_u 13 r_a0 r_a1 (by omega) (by omega) (by omega)).mono ?_
  rintro e w3 ⟨v, rfl, Az1, nz1, cz1, z1, rfl, i_z1, r_z1, hc_z1, hk_z1, hb⟩
  have hB := bel_step hB hb
  have r_a0 := At.step r_a0 hb
  have r_a1 := At.step r_a1 hb
  have r_a2 := At.step r_a2 hb
  clear hb
  go_wp2_with fail
  try go_at_call 11
  refine (sub_u 13 r_z1 r_a1 (by omega) (by omega) (by omega) (by rw [i_z1.out.v]; omega)).mono ?_
  rintro e w4 ⟨v, rfl, Az2, nz2, cz2, z2, rfl, i_z2, r_z2, hc_z2, hk_z2, hb⟩
  have hB := bel_step hB hb
  have r_a0 := At.step r_a0 hb
  have r_a1 := At.step r_a1 hb
  have r_a2 := At.step r_a2 hb
  have r_z1 := At.step r_z1 hb
  clear hb
  go_wp2_with fail
  try go_at_call 11
  refine (subE_u r_a0 r_a1 (by omega) (by omega) (by omega)).mono ?_
  rintro e w5 ⟨rfl, hb⟩
  have hB := bel_step hB hb
  have r_a0 := At.step r_a0 hb
  have r_a1 := At.step r_a1 hb
  have r_a2 := At.step r_a2 hb
  have r_z1 := At.step r_z1 hb
  have r_z2 := At.step r_z2 hb
  clear hb
  go_wp2_with fail
  try go_at_call 40
  refine (nat_u r_z2 r_a0 (by omega) (by omega) true (decide_eq_true (by rw [i_z2.out.v, i_z1.out.v]; omega))).mono ?_
  rintro e w6 ⟨rfl, hb⟩
  have hB := bel_step hB hb
  have r_a0 := At.step r_a0 hb
  have r_a1 := At.step r_a1 hb
  have r_a2 := At.step r_a2 hb
  have r_z1 := At.step r_z1 hb
  have r_z2 := At.step r_z2 hb
  clear hb
  clear r_z2
  have hcm : cmpN (V xs0) (V xs1) < 0 := by unfold cmpN; rw [if_pos (by omega)]; omega
  go_wp2_with fail
  try go_at_call 21
  refine (cmp_u r_a0 r_a1 (by omega) (by omega)).mono ?_
  rintro e w7 ⟨rfl, hb⟩
  have hB := bel_step hB hb
  have r_a0 := At.step r_a0 hb
  have r_a1 := At.step r_a1 hb
  have r_a2 := At.step r_a2 hb
  have r_z1 := At.step r_z1 hb
  clear hb
  go_wp2_with fail
  try go_at_call 19
  refine (mul_u 24 r_a0 r_a1 (by omega) (by omega) (by omega) (by omega) (by omega) (by omega) (by omega)).mono ?_
  rintro e w8 ⟨v, rfl, Az3, nz3, cz3, z3, rfl, i_z3, r_z3, hc_z3, hk_z3, hb⟩
  have hB := bel_step hB hb
  have r_a0 := At.step r_a0 hb
  have r_a1 := At.step r_a1 hb
  have r_a2 := At.step r_a2 hb
  have r_z1 := At.step r_z1 hb
  clear hb
  go_wp2_with fail
  try go_at_call 39
  refine (trimd_u r_z1 (by omega) true (decide_eq_true i_z1.out.tr)).mono ?_
  rintro e w9 ⟨rfl, hb⟩
  have hB := bel_step hB hb
  have r_a0 := At.step r_a0 hb
  have r_a1 := At.step r_a1 hb
  have r_a2 := At.step r_a2 hb
  have r_z1 := At.step r_z1 hb
  have r_z3 := At.step r_z3 hb
  clear hb
  go_wp2_with fail
  try go_at_call 39
  refine (trimd_u r_z3 (by omega) true (decide_eq_true i_z3.out.tr)).mono ?_
  rintro e w10 ⟨rfl, hb⟩
  have hB := bel_step hB hb
  have r_a0 := At.step r_a0 hb
  have r_a1 := At.step r_a1 hb
  have r_a2 := At.step r_a2 hb
  have r_z1 := At.step r_z1 hb
  have r_z3 := At.step r_z3 hb
  clear hb
  go_wp2_with fail
  try go_at_call 18
  refine (add_u 13 r_a1 r_a0 (by omega) (by omega) (by omega)).mono ?_
  rintro e w11 ⟨v, rfl, Az4, nz4, cz4, z4, rfl, i_z4, r_z4, hc_z4, hk_z4, hb⟩
  have hB := bel_step hB hb
  have r_a0 := At.step r_a0 hb
  have r_a1 := At.step r_a1 hb
  have r_a2 := At.step r_a2 hb
  have r_z1 := At.step r_z1 hb
  have r_z3 := At.step r_z3 hb
  clear hb
  go_wp2_with fail
  try go_at_call 20
  refine (same_u r_z1 r_z4 (by omega) (by omega) true (decide_eq_true (Is.uniq' i_z1.out i_z4.out (by omega)))).mono ?_
  rintro e w12 ⟨rfl, hb⟩
  have hB := bel_step hB hb
  have r_a0 := At.step r_a0 hb
  have r_a1 := At.step r_a1 hb
  have r_a2 := At.step r_a2 hb
  have r_z1 := At.step r_z1 hb
  have r_z3 := At.step r_z3 hb
  have r_z4 := At.step r_z4 hb
  clear hb
  clear r_z4
  go_wp2_with fail
  try go_at_call 19
  refine (mul_u 24 r_a1 r_a0 (by omega) (by omega) (by omega) (by omega) (by omega) (by omega) (by omega)).mono ?_
  rintro e w13 ⟨v, rfl, Az5, nz5, cz5, z5, rfl, i_z5, r_z5, hc_z5, hk_z5, hb⟩
  have hB := bel_step hB hb
  have r_a0 := At.step r_a0 hb
  have r_a1 := At.step r_a1 hb
  have r_a2 := At.step r_a2 hb
  have r_z1 := At.step r_z1 hb
  have r_z3 := At.step r_z3 hb
  clear hb
  go_wp2_with fail
  try go_at_call 20
  refine (same_u r_z3 r_z5 (by omega) (by omega) true (decide_eq_true (Is.uniq' i_z3.out i_z5.out (Int.mul_comm _ _)))).mono ?_
  rintro e w14 ⟨rfl, hb⟩
  have hB := bel_step hB hb
  have r_a0 := At.step r_a0 hb
  have r_a1 := At.step r_a1 hb
  have r_a2 := At.step r_a2 hb
  have r_z1 := At.step r_z1 hb
  have r_z3 := At.step r_z3 hb
  have r_z5 := At.step r_z5 hb
  clear hb
  clear r_z5
  go_wp2_with fail
  try go_at_call 18
  refine (add_u 14 r_z1 r_a2 (by omega) (by omega) (by omega)).mono ?_
  rintro e w15 ⟨v, rfl, Az6, nz6, cz6, z6, rfl, i_z6, r_z6, hc_z6, hk_z6, hb⟩
  have hB := bel_step hB hb
  have r_a0 := At.step r_a0 hb
  have r_a1 := At.step r_a1 hb
  have r_a2 := At.step r_a2 hb
  have r_z1 := At.step r_z1 hb
  have r_z3 := At.step r_z3 hb
  clear hb
  go_wp2_with fail
  try go_at_call 18
  refine (add_u 13 r_a1 r_a2 (by omega) (by omega) (by omega)).mono ?_
  rintro e w16 ⟨v, rfl, Az7, nz7, cz7, z7, rfl, i_z7, r_z7, hc_z7, hk_z7, hb⟩
  have hB := bel_step hB hb
  have r_a0 := At.step r_a0 hb
  have r_a1 := At.step r_a1 hb
  have r_a2 := At.step r_a2 hb
  have r_z1 := At.step r_z1 hb
  have r_z3 := At.step r_z3 hb
  have r_z6 := At.step r_z6 hb
  clear hb
  go_wp2_with fail
  try go_at_call 18
  refine (add_u 14 r_a0 r_z7 (by omega) (by omega) (by omega)).mono ?_
  rintro e w17 ⟨v, rfl, Az8, nz8, cz8, z8, rfl, i_z8, r_z8, hc_z8, hk_z8, hb⟩
  have hB := bel_step hB hb
  have r_a0 := At.step r_a0 hb
  have r_a1 := At.step r_a1 hb
  have r_a2 := At.step r_a2 hb
  have r_z1 := At.step r_z1 hb
  have r_z3 := At.step r_z3 hb
  have r_z6 := At.step r_z6 hb
  have r_z7 := At.step r_z7 hb
  clear hb
  go_wp2_with fail
  try go_at_call 20
  refine (same_u r_z6 r_z8 (by omega) (by omega) true (decide_eq_true (Is.uniq' i_z6.out i_z8.out (by rw [i_z1.out.v, i_z7.out.v]; omega)))).mono ?_
  rintro e w18 ⟨rfl, hb⟩
  have hB := bel_step hB hb
  have r_a0 := At.step r_a0 hb
  have r_a1 := At.step r_a1 hb
  have r_a2 := At.step r_a2 hb
  have r_z1 := At.step r_z1 hb
  have r_z3 := At.step r_z3 hb
  have r_z6 := At.step r_z6 hb
  have r_z7 := At.step r_z7 hb
  have r_z8 := At.step r_z8 hb
  clear hb
  clear r_z6
  clear r_z7
  clear r_z8
  go_wp2_with fail
  try go_at_call 19
  refine (mul_u 36 r_z3 r_a2 (by omega) (by omega) (by omega) (by omega) (by omega) (by omega) (by omega)).mono ?_
  rintro e w19 ⟨v, rfl, Az9, nz9, cz9, z9, rfl, i_z9, r_z9, hc_z9, hk_z9, hb⟩
  have hB := bel_step hB hb
  have r_a0 := At.step r_a0 hb
  have r_a1 := At.step r_a1 hb
  have r_a2 := At.step r_a2 hb
  have r_z1 := At.step r_z1 hb
  have r_z3 := At.step r_z3 hb
  clear hb
  go_wp2_with fail
  try go_at_call 19
  refine (mul_u 24 r_a1 r_a2 (by omega) (by omega) (by omega) (by omega) (by omega) (by omega) (by omega)).mono ?_
  rintro e w20 ⟨v, rfl, Az10, nz10, cz10, z10, rfl, i_z10, r_z10, hc_z10, hk_z10, hb⟩
  have hB := bel_step hB hb
  have r_a0 := At.step r_a0 hb
  have r_a1 := At.step r_a1 hb
  have r_a2 := At.step r_a2 hb
  have r_z1 := At.step r_z1 hb
  have r_z3 := At.step r_z3 hb
  have r_z9 := At.step r_z9 hb
  clear hb
  go_wp2_with fail
  try go_at_call 19
  refine (mul_u 36 r_a0 r_z10 (by omega) (by omega) (by omega) (by omega) (by omega) (by omega) (by omega)).mono ?_
  rintro e w21 ⟨v, rfl, Az11, nz11, cz11, z11, rfl, i_z11, r_z11, hc_z11, hk_z11, hb⟩
  have hB := bel_step hB hb
  have r_a0 := At.step r_a0 hb
  have r_a1 := At.step r_a1 hb
  have r_a2 := At.step r_a2 hb
  have r_z1 := At.step r_z1 hb
  have r_z3 := At.step r_z3 hb
  have r_z9 := At.step r_z9 hb
  have r_z10 := At.step r_z10 hb
  clear hb
  go_wp2_with fail
  try go_at_call 20
  refine (same_u r_z9 r_z11 (by omega) (by omega) true (decide_eq_true (Is.uniq' i_z9.out i_z11.out (by rw [i_z3.out.v, i_z10.out.v]; exact Int.mul_assoc _ _ _)))).mono ?_
  rintro e w22 ⟨rfl, hb⟩
  have hB := bel_step hB hb
  have r_a0 := At.step r_a0 hb
  have r_a1 := At.step r_a1 hb
  have r_a2 := At.step r_a2 hb
  have r_z1 := At.step r_z1 hb
  have r_z3 := At.step r_z3 hb
  have r_z9 := At.step r_z9 hb
  have r_z10 := At.step r_z10 hb
  have r_z11 := At.step r_z11 hb
  clear hb
  clear r_z9
  clear r_z10
  clear r_z11
  go_wp2_with fail
  try go_at_call 18
  refine (add_u 13 r_a1 r_a2 (by omega) (by omega) (by omega)).mono ?_
  rintro e w23 ⟨v, rfl, Az12, nz12, cz12, z12, rfl, i_z12, r_z12, hc_z12, hk_z12, hb⟩
  have hB := bel_step hB hb
  have r_a0 := At.step r_a0 hb
  have r_a1 := At.step r_a1 hb
  have r_a2 := At.step r_a2 hb
  have r_z1 := At.step r_z1 hb
  have r_z3 := At.step r_z3 hb
  clear hb
  go_wp2_with fail
  try go_at_call 19
  refine (mul_u 25 r_a0 r_z12 (by omega) (by omega) (by omega) (by omega) (by omega) (by omega) (by omega)).mono ?_
  rintro e w24 ⟨v, rfl, Az13, nz13, cz13, z13, rfl, i_z13, r_z13, hc_z13, hk_z13, hb⟩
  have hB := bel_step hB hb
  have r_a0 := At.step r_a0 hb
  have r_a1 := At.step r_a1 hb
  have r_a2 := At.step r_a2 hb
  have r_z1 := At.step r_z1 hb
  have r_z3 := At.step r_z3 hb
  have r_z12 := At.step r_z12 hb
  clear hb
  go_wp2_with fail
  try go_at_call 19
  refine (mul_u 24 r_a0 r_a2 (by omega) (by omega) (by omega) (by omega) (by omega) (by omega) (by omega)).mono ?_
  rintro e w25 ⟨v, rfl, Az14, nz14, cz14, z14, rfl, i_z14, r_z14, hc_z14, hk_z14, hb⟩
  have hB := bel_step hB hb
  have r_a0 := At.step r_a0 hb
  have r_a1 := At.step r_a1 hb
  have r_a2 := At.step r_a2 hb
  have r_z1 := At.step r_z1 hb
  have r_z3 := At.step r_z3 hb
  have r_z12 := At.step r_z12 hb
  have r_z13 := At.step r_z13 hb
  clear hb
  go_wp2_with fail
  try go_at_call 18
  refine (add_u 25 r_z3 r_z14 (by omega) (by omega) (by omega)).mono ?_
  rintro e w26 ⟨v, rfl, Az15, nz15, cz15, z15, rfl, i_z15, r_z15, hc_z15, hk_z15, hb⟩
  have hB := bel_step hB hb
  have r_a0 := At.step r_a0 hb
  have r_a1 := At.step r_a1 hb
  have r_a2 := At.step r_a2 hb
  have r_z1 := At.step r_z1 hb
  have r_z3 := At.step r_z3 hb
  have r_z12 := At.step r_z12 hb
  have r_z13 := At.step r_z13 hb
  have r_z14 := At.step r_z14 hb
  clear hb
  go_wp2_with fail
  try go_at_call 20
  refine (same_u r_z13 r_z15 (by omega) (by omega) true (decide_eq_true (Is.uniq' i_z13.out i_z15.out (by rw [i_z12.out.v, i_z3.out.v, i_z14.out.v]; exact Int.mul_add _ _ _)))).mono ?_
  rintro e w27 ⟨rfl, hb⟩
  have hB := bel_step hB hb
  have r_a0 := At.step r_a0 hb
  have r_a1 := At.step r_a1 hb
  have r_a2 := At.step r_a2 hb
  have r_z1 := At.step r_z1 hb
  have r_z3 := At.step r_z3 hb
  have r_z12 := At.step r_z12 hb
  have r_z13 := At.step r_z13 hb
  have r_z14 := At.step r_z14 hb
  have r_z15 := At.step r_z15 hb
  clear hb
  go_wp2_with fail
  go_ret
  exact ⟨rfl, hB.out⟩

set_option maxRecDepth 100000 in
set_option maxHeartbeats 8000000 in
theorem walk (w : World) (A0 : Option Addr) (n0 c0 : Nat) (xs0 : List Int) (A1 : Option Addr) (n1 c1 : Nat) (xs1 : List Int) (A2 : Option Addr) (n2 c2 : Nat) (xs2 : List Int)
    (hr0 : Rd w w.heap.size A0 n0 xs0) (hn0 : n0 ≤ c0) (hm0 : c0 ≤ 9223372036854775807) (hr1 : Rd w w.heap.size A1 n1 xs1) (hn1 : n1 ≤ c1) (hm1 : c1 ≤ 9223372036854775807) (hr2 : Rd w w.heap.size A2 n2 xs2) (hn2 : n2 ≤ c2) (hm2 : c2 ≤ 9223372036854775807) :
    Calls Tryd.prog 6 #[.slice A0 n0 c0, .slice A1 n1 c1, .slice A2 n2 c2] w fun e w' => e = .returned (.bool true) ∧ Below w.heap.size w w' := by
  by_cases h0 : n0 ≤ 12
  · by_cases h1 : n1 ≤ 12
    · by_cases h2 : n2 ≤ 12
      · by_cases hv : V xs1 ≤ V xs0
        · exact walk_m1 w A0 n0 c0 xs0 A1 n1 c1 xs1 A2 n2 c2 xs2 hr0 hn0 hm0 hr1 hn1 hm1 hr2 hn2 hm2 h0 h1 h2 hv
        · exact walk_m2 w A0 n0 c0 xs0 A1 n1 c1 xs1 A2 n2 c2 xs2 hr0 hn0 hm0 hr1 hn1 hm1 hr2 hn2 hm2 h0 h1 h2 (by omega)
      · exact walk_h2 w A0 n0 c0 xs0 A1 n1 c1 xs1 A2 n2 c2 xs2 hr0 hn0 hm0 hr1 hn1 hm1 hr2 hn2 hm2 h0 h1 (by omega)
    · exact walk_h1 w A0 n0 c0 xs0 A1 n1 c1 xs1 A2 n2 c2 xs2 hr0 hn0 hm0 hr1 hn1 hm1 hr2 hn2 hm2 (by omega)
  · exact walk_h1 w A0 n0 c0 xs0 A1 n1 c1 xs1 A2 n2 c2 xs2 hr0 hn0 hm0 hr1 hn1 hm1 hr2 hn2 hm2 (by omega)
end natLaws
end Go.Proofs.YtdklchejnpaenaaDoor
