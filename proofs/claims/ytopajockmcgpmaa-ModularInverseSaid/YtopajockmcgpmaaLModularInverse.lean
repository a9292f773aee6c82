/- The walk of ModularInverse. -/
import Derived.Test.YtopajockmcgpmaaM0
namespace Go.Proofs.Ytopajockmcgpmaa
open Go Go.RowKit
namespace modularInverse
open Wd Sti Nt
set_option linter.unusedVariables false
set_option maxRecDepth 100000 in
set_option maxHeartbeats 16000000 in
theorem walk_h1 (w : World) (A0 : Option Addr) (n0 c0 : Nat) (xs0 : List Int) (A1 : Option Addr) (n1 c1 : Nat) (xs1 : List Int) (A2 : Option Addr) (n2 c2 : Nat) (xs2 : List Int)
    (hr0 : Rd w w.heap.size A0 n0 xs0) (hn0 : n0 ≤ c0) (hm0 : c0 ≤ 9223372036854775807) (hr1 : Rd w w.heap.size A1 n1 xs1) (hn1 : n1 ≤ c1) (hm1 : c1 ≤ 9223372036854775807) (hr2 : Rd w w.heap.size A2 n2 xs2) (hn2 : n2 ≤ c2) (hm2 : c2 ≤ 9223372036854775807) (hl : 5 < n0 ∨ 5 < n1 ∨ 5 < n2) :
    Calls Try.prog 6 #[.slice A0 n0 c0, .slice A1 n1 c1, .slice A2 n2 c2] w fun e w' => e = .returned (.bool true) ∧ Below w.heap.size w w' := by
  have hB : Hid (Below w.heap.size w w) := Lib.hid (Below.refl _ w)
  clear hr0
  clear hr1
  clear hr2
  go_enter Try.func6, Try.ntmps6
  try simp only [List.append]
  go_wp2_with fail
  go_at_call 9
  refine (lives3_c _).mono ?_
  rintro e w1 ⟨rfl, hb⟩
  replace hB := bel_step hB hb
  clear hb
  go_wp2_with fail
  go_at_call 21
  refine (light3_c A0 A1 A2 n0 c0 n1 c1 n2 c2 (by omega) (by omega) (by omega) _ false (by simp only [Bool.and_eq_false_iff, decide_eq_false_iff_not]; omega)).mono ?_
  rintro e w2 ⟨rfl, hb⟩
  replace hB := bel_step hB hb
  clear hb
  go_wp2_with fail
  go_ret
  exact ⟨rfl, hB.out⟩

set_option maxRecDepth 100000 in
set_option maxHeartbeats 16000000 in
theorem walk_z (w : World) (A0 : Option Addr) (n0 c0 : Nat) (xs0 : List Int) (A1 : Option Addr) (n1 c1 : Nat) (xs1 : List Int) (A2 : Option Addr) (n2 c2 : Nat) (xs2 : List Int)
    (hr0 : Rd w w.heap.size A0 n0 xs0) (hn0 : n0 ≤ c0) (hm0 : c0 ≤ 9223372036854775807) (hr1 : Rd w w.heap.size A1 n1 xs1) (hn1 : n1 ≤ c1) (hm1 : c1 ≤ 9223372036854775807) (hr2 : Rd w w.heap.size A2 n2 xs2) (hn2 : n2 ≤ c2) (hm2 : c2 ≤ 9223372036854775807) (h0 : n0 ≤ 5) (h1 : n1 ≤ 5) (h2 : n2 ≤ 5) (hv : V xs1 = 0) :
    Calls Try.prog 6 #[.slice A0 n0 c0, .slice A1 n1 c1, .slice A2 n2 c2] w fun e w' => e = .returned (.bool true) ∧ Below w.heap.size w w' := by
  have hz := Lib.hid hv
  clear hv
  have g_a1 : Hid (Gd w A1 n1 c1 xs1 5) := Lib.hid ⟨hr1, hn1, hm1, by omega⟩
  have hB : Hid (Below w.heap.size w w) := Lib.hid (Below.refl _ w)
  clear hr0
  clear hr1
  clear hr2
  go_enter Try.func6, Try.ntmps6
  try simp only [List.append]
  go_wp2_with fail
  go_at_call 9
  refine (lives3_c _).mono ?_
  rintro e w1 ⟨rfl, hb⟩
  replace hB := bel_step hB hb
  replace g_a1 := Gd.step g_a1 hb
  clear hb
  go_wp2_with fail
  go_at_call 21
  refine (light3_c A0 A1 A2 n0 c0 n1 c1 n2 c2 (by omega) (by omega) (by omega) _ true (by simp <;> omega)).mono ?_
  rintro e w2 ⟨rfl, hb⟩
  replace hB := bel_step hB hb
  replace g_a1 := Gd.step g_a1 hb
  clear hb
  go_wp2_with fail
  go_at_call 31
  refine (trim_2 g_a1 (by omega)).mono ?_
  rintro e w3 ⟨v, rfl, Qk1, nk1, ck1, zk1, rfl, i_k1, g_k1, hb⟩
  replace hB := bel_step hB hb
  replace g_a1 := Gd.step g_a1 hb
  clear hb
  obtain rfl : nk1 = 0 := by have h9 := g_k1.out.at_.len; rw [i_k1.out.uniq (show Is [] _ by rw [hz.out]; exact Is.nil)] at h9; exact h9.symm
  clear g_k1 i_k1
  go_wp2_with fail
  go_ret
  exact ⟨rfl, hB.out⟩

set_option maxRecDepth 100000 in
set_option maxHeartbeats 16000000 in
theorem walk_cz (w : World) (A0 : Option Addr) (n0 c0 : Nat) (xs0 : List Int) (A1 : Option Addr) (n1 c1 : Nat) (xs1 : List Int) (A2 : Option Addr) (n2 c2 : Nat) (xs2 : List Int)
    (hr0 : Rd w w.heap.size A0 n0 xs0) (hn0 : n0 ≤ c0) (hm0 : c0 ≤ 9223372036854775807) (hr1 : Rd w w.heap.size A1 n1 xs1) (hn1 : n1 ≤ c1) (hm1 : c1 ≤ 9223372036854775807) (hr2 : Rd w w.heap.size A2 n2 xs2) (hn2 : n2 ≤ c2) (hm2 : c2 ≤ 9223372036854775807) (h0 : n0 ≤ 5) (h1 : n1 ≤ 5) (h2 : n2 ≤ 5) (hv : V xs1 ≠ 0) (hg : gc (V xs0) (V xs1) = 1) (hd : V xs2 = 0) :
    Calls Try.prog 6 #[.slice A0 n0 c0, .slice A1 n1 c1, .slice A2 n2 c2] w fun e w' => e = .returned (.bool true) ∧ Below w.heap.size w w' := by
  have hz := Lib.hid hv
  have hgg := Lib.hid hg
  have hdd := Lib.hid hd
  have p0 := Lib.hid (V_nonneg hr0.ws)
  have hp : Hid (0 < V xs1) := Lib.hid (by have := V_nonneg hr1.ws; have := hz.out; omega)
  have p2 := Lib.hid (V_nonneg hr2.ws)
  clear hv hg hd
  have g_a0 : Hid (Gd w A0 n0 c0 xs0 5) := Lib.hid ⟨hr0, hn0, hm0, by omega⟩
  have g_a1 : Hid (Gd w A1 n1 c1 xs1 5) := Lib.hid ⟨hr1, hn1, hm1, by omega⟩
  have g_a2 : Hid (Gd w A2 n2 c2 xs2 5) := Lib.hid ⟨hr2, hn2, hm2, by omega⟩
  have hB : Hid (Below w.heap.size w w) := Lib.hid (Below.refl _ w)
  clear hr0
  clear hr1
  clear hr2
  go_enter Try.func6, Try.ntmps6
  try simp only [List.append]
  go_wp2_with fail
  go_at_call 9
  refine (lives3_c _).mono ?_
  rintro e w1 ⟨rfl, hb⟩
  replace hB := bel_step hB hb
  replace g_a0 := Gd.step g_a0 hb
  replace g_a1 := Gd.step g_a1 hb
  replace g_a2 := Gd.step g_a2 hb
  clear hb
  go_wp2_with fail
  go_at_call 21
  refine (light3_c A0 A1 A2 n0 c0 n1 c1 n2 c2 (by omega) (by omega) (by omega) _ true (by simp <;> omega)).mono ?_
  rintro e w2 ⟨rfl, hb⟩
  replace hB := bel_step hB hb
  replace g_a0 := Gd.step g_a0 hb
  replace g_a1 := Gd.step g_a1 hb
  replace g_a2 := Gd.step g_a2 hb
  clear hb
  go_wp2_with fail
  go_at_call 31
  refine (trim_2 g_a1 (by omega)).mono ?_
  rintro e w3 ⟨v, rfl, Qk1, nk1, ck1, zk1, rfl, i_k1, g_k1, hb⟩
  replace hB := bel_step hB hb
  replace g_a0 := Gd.step g_a0 hb
  replace g_a1 := Gd.step g_a1 hb
  replace g_a2 := Gd.step g_a2 hb
  clear hb
  have hlf : ((nk1 : Int) == 0) = false := by
    have h8 : nk1 ≠ 0 := fun e9 => hz.out (by have h9 := g_k1.out.at_.len; rw [e9] at h9; rw [← i_k1.out.v, List.eq_nil_of_length_eq_zero h9]; rfl)
    simp; omega
  clear g_k1 i_k1
  go_wp2_with fail
  go_at_call 20
  refine (mgcd_o g_a0 g_a1 (by omega)).mono ?_
  rintro e w4 ⟨v, rfl, Qk2, nk2, ck2, zk2, rfl, i_k2, g_k2, hb⟩
  replace hB := bel_step hB hb
  replace g_a0 := Gd.step g_a0 hb
  replace g_a1 := Gd.step g_a1 hb
  replace g_a2 := Gd.step g_a2 hb
  clear hb
  clear hlf
  go_wp2_with fail
  go_at_call 12
  refine (minv_o g_a0 g_a1 (by omega) (by omega)).mono ?_
  rintro e w5 ⟨Qk3, nk3, ck3, zk3, evk3, rfl, o_k3, g_k3, hb⟩
  replace hB := bel_step hB hb
  replace g_a0 := Gd.step g_a0 hb
  replace g_a1 := Gd.step g_a1 hb
  replace g_a2 := Gd.step g_a2 hb
  replace g_k2 := Gd.step g_k2 hb
  clear hb
  obtain ⟨N, e0, i_k3, hN⟩ : ∃ N, evk3 = 0 ∧ Hid (Is zk3 N) ∧ Hid (N < V xs1 ∧ (N * V xs0) % V xs1 = 1 % V xs1) := by
    rcases o_k3.out with ⟨h, _⟩ | ⟨_, h, _⟩ | ⟨_, _, h1, N, h2, h3, h4, h5⟩
    · exact absurd h hz.out
    · exact absurd hgg.out h
    · exact ⟨N, h1, Lib.hid h2, Lib.hid ⟨h4, h5⟩⟩
  subst e0
  clear o_k3
  go_wp2_with fail
  go_at_call 17
  refine (mmul_o g_a0 g_k3 g_a1 (by omega) (by omega)).mono ?_
  rintro e w6 ⟨Qk4, nk4, ck4, zk4, evk4, rfl, o_k4, g_k4, hb⟩
  replace hB := bel_step hB hb
  replace g_a0 := Gd.step g_a0 hb
  replace g_a1 := Gd.step g_a1 hb
  replace g_a2 := Gd.step g_a2 hb
  replace g_k2 := Gd.step g_k2 hb
  replace g_k3 := Gd.step g_k3 hb
  clear hb
  obtain ⟨i_k4, e0⟩ := ModO.ok o_k4 (hz.out)
  subst e0
  clear o_k4
  go_wp2_with fail
  go_at_call 11
  refine (one_r 1 (Wx _ (by omega)) _).mono ?_
  rintro e w7 ⟨v, rfl, Qk5, nk5, ck5, zk5, rfl, i_k5, g_k5, hb⟩
  replace hB := bel_step hB hb
  replace g_a0 := Gd.step g_a0 hb
  replace g_a1 := Gd.step g_a1 hb
  replace g_a2 := Gd.step g_a2 hb
  replace g_k2 := Gd.step g_k2 hb
  replace g_k3 := Gd.step g_k3 hb
  replace g_k4 := Gd.step g_k4 hb
  clear hb
  go_wp2_with fail
  go_at_call 32
  refine (div_2 g_k5 g_a1 (by omega) (by omega) hz.out).mono ?_
  rintro e w8 ⟨v1, v2, rfl, ⟨Qqk6, nqk6, cqk6, zqk6, rfl, -, -, -⟩, ⟨Qk6, nk6, ck6, zk6, rfl, i_k6, g_k6, hb⟩⟩
  replace hB := bel_step hB hb
  replace g_a0 := Gd.step g_a0 hb
  replace g_a1 := Gd.step g_a1 hb
  replace g_a2 := Gd.step g_a2 hb
  replace g_k2 := Gd.step g_k2 hb
  replace g_k3 := Gd.step g_k3 hb
  replace g_k4 := Gd.step g_k4 hb
  replace g_k5 := Gd.step g_k5 hb
  clear hb
  rw [i_k5.out.v] at i_k6
  clear g_k5
  clear i_k5
  go_wp2_with fail
  go_at_call 11
  refine (one_r 1 (Wx _ (by omega)) _).mono ?_
  rintro e w9 ⟨v, rfl, Qk7, nk7, ck7, zk7, rfl, i_k7, g_k7, hb⟩
  replace hB := bel_step hB hb
  replace g_a0 := Gd.step g_a0 hb
  replace g_a1 := Gd.step g_a1 hb
  replace g_a2 := Gd.step g_a2 hb
  replace g_k2 := Gd.step g_k2 hb
  replace g_k3 := Gd.step g_k3 hb
  replace g_k4 := Gd.step g_k4 hb
  replace g_k6 := Gd.step g_k6 hb
  clear hb
  go_wp2_with fail
  go_at_call 19
  refine (sameM g_k2 g_k7 (by omega) (by omega) true (decide_eq_true (is_eq i_k2 i_k7 hgg.out))).mono ?_
  rintro e w10 ⟨rfl, hb⟩
  replace hB := bel_step hB hb
  replace g_a0 := Gd.step g_a0 hb
  replace g_a1 := Gd.step g_a1 hb
  replace g_a2 := Gd.step g_a2 hb
  replace g_k2 := Gd.step g_k2 hb
  replace g_k3 := Gd.step g_k3 hb
  replace g_k4 := Gd.step g_k4 hb
  replace g_k6 := Gd.step g_k6 hb
  replace g_k7 := Gd.step g_k7 hb
  clear hb
  clear g_k7
  go_wp2_with fail
  go_at_call 19
  refine (sameM g_k4 g_k6 (by omega) (by omega) true (decide_eq_true (is_eq i_k4 i_k6 (by rw [i_k3.out.v, Int.mul_comm]; exact hN.out.2)))).mono ?_
  rintro e w11 ⟨rfl, hb⟩
  replace hB := bel_step hB hb
  replace g_a0 := Gd.step g_a0 hb
  replace g_a1 := Gd.step g_a1 hb
  replace g_a2 := Gd.step g_a2 hb
  replace g_k2 := Gd.step g_k2 hb
  replace g_k3 := Gd.step g_k3 hb
  replace g_k4 := Gd.step g_k4 hb
  replace g_k6 := Gd.step g_k6 hb
  clear hb
  go_wp2_with fail
  go_at_call 34
  refine (cmp_2 g_k3 g_a1 (by omega) (by omega) (-1) (cmp_lt' (by rw [i_k3.out.v]; exact hN.out.1))).mono ?_
  rintro e w12 ⟨rfl, hb⟩
  replace hB := bel_step hB hb
  replace g_a0 := Gd.step g_a0 hb
  replace g_a1 := Gd.step g_a1 hb
  replace g_a2 := Gd.step g_a2 hb
  replace g_k2 := Gd.step g_k2 hb
  replace g_k3 := Gd.step g_k3 hb
  replace g_k4 := Gd.step g_k4 hb
  replace g_k6 := Gd.step g_k6 hb
  clear hb
  clear g_k3
  clear g_k4
  clear g_k6
  go_wp2_with fail
  go_at_call 32
  refine (div_2 g_a0 g_k2 (by omega) (by omega) (by rw [i_k2.out.v]; have := gc_pos (a := V xs0) hp.out; omega)).mono ?_
  rintro e w13 ⟨v1, v2, rfl, ⟨Qqk8, nqk8, cqk8, zqk8, rfl, -, -, -⟩, ⟨Qk8, nk8, ck8, zk8, rfl, i_k8, g_k8, hb⟩⟩
  replace hB := bel_step hB hb
  replace g_a0 := Gd.step g_a0 hb
  replace g_a1 := Gd.step g_a1 hb
  replace g_a2 := Gd.step g_a2 hb
  replace g_k2 := Gd.step g_k2 hb
  clear hb
  obtain rfl : nk8 = 0 := nlen0 g_k8 i_k8 (by rw [i_k2.out.v]; exact Int.emod_eq_zero_of_dvd (gc_dvd_l p0.out))
  clear g_k8 i_k8
  go_wp2_with fail
  go_at_call 32
  refine (div_2 g_a1 g_k2 (by omega) (by omega) (by rw [i_k2.out.v]; have := gc_pos (a := V xs0) hp.out; omega)).mono ?_
  rintro e w14 ⟨v1, v2, rfl, ⟨Qqk9, nqk9, cqk9, zqk9, rfl, -, -, -⟩, ⟨Qk9, nk9, ck9, zk9, rfl, i_k9, g_k9, hb⟩⟩
  replace hB := bel_step hB hb
  replace g_a0 := Gd.step g_a0 hb
  replace g_a1 := Gd.step g_a1 hb
  replace g_a2 := Gd.step g_a2 hb
  replace g_k2 := Gd.step g_k2 hb
  clear hb
  obtain rfl : nk9 = 0 := nlen0 g_k9 i_k9 (by rw [i_k2.out.v]; exact Int.emod_eq_zero_of_dvd (gc_dvd_r (Int.le_of_lt hp.out)))
  clear g_k9 i_k9
  go_wp2_with fail
  go_at_call 32
  refine (divE_2 (A := A0) (na := n0) (ca := c0) g_a2 (by omega) hdd.out).mono ?_
  rintro e w15 ⟨rfl, hb⟩
  replace hB := bel_step hB hb
  replace g_a0 := Gd.step g_a0 hb
  replace g_a1 := Gd.step g_a1 hb
  replace g_a2 := Gd.step g_a2 hb
  replace g_k2 := Gd.step g_k2 hb
  clear hb
  go_wp2_with fail
  go_at_call 32
  refine (divE_2 (A := A1) (na := n1) (ca := c1) g_a2 (by omega) hdd.out).mono ?_
  rintro e w16 ⟨rfl, hb⟩
  replace hB := bel_step hB hb
  replace g_a0 := Gd.step g_a0 hb
  replace g_a1 := Gd.step g_a1 hb
  replace g_a2 := Gd.step g_a2 hb
  replace g_k2 := Gd.step g_k2 hb
  clear hb
  go_wp2_with fail
  go_at_call 32
  refine (divE_2 (A := Qk2) (na := nk2) (ca := ck2) g_a2 (by omega) hdd.out).mono ?_
  rintro e w17 ⟨rfl, hb⟩
  replace hB := bel_step hB hb
  replace g_a0 := Gd.step g_a0 hb
  replace g_a1 := Gd.step g_a1 hb
  replace g_a2 := Gd.step g_a2 hb
  replace g_k2 := Gd.step g_k2 hb
  clear hb
  go_wp2_with fail
  go_ret
  exact ⟨rfl, hB.out⟩

set_option maxRecDepth 100000 in
set_option maxHeartbeats 16000000 in
theorem walk_cd (w : World) (A0 : Option Addr) (n0 c0 : Nat) (xs0 : List Int) (A1 : Option Addr) (n1 c1 : Nat) (xs1 : List Int) (A2 : Option Addr) (n2 c2 : Nat) (xs2 : List Int)
    (hr0 : Rd w w.heap.size A0 n0 xs0) (hn0 : n0 ≤ c0) (hm0 : c0 ≤ 9223372036854775807) (hr1 : Rd w w.heap.size A1 n1 xs1) (hn1 : n1 ≤ c1) (hm1 : c1 ≤ 9223372036854775807) (hr2 : Rd w w.heap.size A2 n2 xs2) (hn2 : n2 ≤ c2) (hm2 : c2 ≤ 9223372036854775807) (h0 : n0 ≤ 5) (h1 : n1 ≤ 5) (h2 : n2 ≤ 5) (hv : V xs1 ≠ 0) (hg : gc (V xs0) (V xs1) = 1) (hd : V xs2 ≠ 0) (ht : V xs0 % V xs2 = 0) (hu : V xs1 % V xs2 = 0) :
    Calls Try.prog 6 #[.slice A0 n0 c0, .slice A1 n1 c1, .slice A2 n2 c2] w fun e w' => e = .returned (.bool true) ∧ Below w.heap.size w w' := by
  have hz := Lib.hid hv
  have hgg := Lib.hid hg
  have hdd := Lib.hid hd
  have htt := Lib.hid ht
  have huu := Lib.hid hu
  have p0 := Lib.hid (V_nonneg hr0.ws)
  have hp : Hid (0 < V xs1) := Lib.hid (by have := V_nonneg hr1.ws; have := hz.out; omega)
  have p2 := Lib.hid (V_nonneg hr2.ws)
  clear hv hg hd ht hu
  have g_a0 : Hid (Gd w A0 n0 c0 xs0 5) := Lib.hid ⟨hr0, hn0, hm0, by omega⟩
  have g_a1 : Hid (Gd w A1 n1 c1 xs1 5) := Lib.hid ⟨hr1, hn1, hm1, by omega⟩
  have g_a2 : Hid (Gd w A2 n2 c2 xs2 5) := Lib.hid ⟨hr2, hn2, hm2, by omega⟩
  have hB : Hid (Below w.heap.size w w) := Lib.hid (Below.refl _ w)
  clear hr0
  clear hr1
  clear hr2
  go_enter Try.func6, Try.ntmps6
  try simp only [List.append]
  go_wp2_with fail
  go_at_call 9
  refine (lives3_c _).mono ?_
  rintro e w1 ⟨rfl, hb⟩
  replace hB := bel_step hB hb
  replace g_a0 := Gd.step g_a0 hb
  replace g_a1 := Gd.step g_a1 hb
  replace g_a2 := Gd.step g_a2 hb
  clear hb
  go_wp2_with fail
  go_at_call 21
  refine (light3_c A0 A1 A2 n0 c0 n1 c1 n2 c2 (by omega) (by omega) (by omega) _ true (by simp <;> omega)).mono ?_
  rintro e w2 ⟨rfl, hb⟩
  replace hB := bel_step hB hb
  replace g_a0 := Gd.step g_a0 hb
  replace g_a1 := Gd.step g_a1 hb
  replace g_a2 := Gd.step g_a2 hb
  clear hb
  go_wp2_with fail
  go_at_call 31
  refine (trim_2 g_a1 (by omega)).mono ?_
  rintro e w3 ⟨v, rfl, Qk1, nk1, ck1, zk1, rfl, i_k1, g_k1, hb⟩
  replace hB := bel_step hB hb
  replace g_a0 := Gd.step g_a0 hb
  replace g_a1 := Gd.step g_a1 hb
  replace g_a2 := Gd.step g_a2 hb
  clear hb
  have hlf : ((nk1 : Int) == 0) = false := by
    have h8 : nk1 ≠ 0 := fun e9 => hz.out (by have h9 := g_k1.out.at_.len; rw [e9] at h9; rw [← i_k1.out.v, List.eq_nil_of_length_eq_zero h9]; rfl)
    simp; omega
  clear g_k1 i_k1
  go_wp2_with fail
  go_at_call 20
  refine (mgcd_o g_a0 g_a1 (by omega)).mono ?_
  rintro e w4 ⟨v, rfl, Qk2, nk2, ck2, zk2, rfl, i_k2, g_k2, hb⟩
  replace hB := bel_step hB hb
  replace g_a0 := Gd.step g_a0 hb
  replace g_a1 := Gd.step g_a1 hb
  replace g_a2 := Gd.step g_a2 hb
  clear hb
  clear hlf
  go_wp2_with fail
  go_at_call 12
  refine (minv_o g_a0 g_a1 (by omega) (by omega)).mono ?_
  rintro e w5 ⟨Qk3, nk3, ck3, zk3, evk3, rfl, o_k3, g_k3, hb⟩
  replace hB := bel_step hB hb
  replace g_a0 := Gd.step g_a0 hb
  replace g_a1 := Gd.step g_a1 hb
  replace g_a2 := Gd.step g_a2 hb
  replace g_k2 := Gd.step g_k2 hb
  clear hb
  obtain ⟨N, e0, i_k3, hN⟩ : ∃ N, evk3 = 0 ∧ Hid (Is zk3 N) ∧ Hid (N < V xs1 ∧ (N * V xs0) % V xs1 = 1 % V xs1) := by
    rcases o_k3.out with ⟨h, _⟩ | ⟨_, h, _⟩ | ⟨_, _, h1, N, h2, h3, h4, h5⟩
    · exact absurd h hz.out
    · exact absurd hgg.out h
    · exact ⟨N, h1, Lib.hid h2, Lib.hid ⟨h4, h5⟩⟩
  subst e0
  clear o_k3
  go_wp2_with fail
  go_at_call 17
  refine (mmul_o g_a0 g_k3 g_a1 (by omega) (by omega)).mono ?_
  rintro e w6 ⟨Qk4, nk4, ck4, zk4, evk4, rfl, o_k4, g_k4, hb⟩
  replace hB := bel_step hB hb
  replace g_a0 := Gd.step g_a0 hb
  replace g_a1 := Gd.step g_a1 hb
  replace g_a2 := Gd.step g_a2 hb
  replace g_k2 := Gd.step g_k2 hb
  replace g_k3 := Gd.step g_k3 hb
  clear hb
  obtain ⟨i_k4, e0⟩ := ModO.ok o_k4 (hz.out)
  subst e0
  clear o_k4
  go_wp2_with fail
  go_at_call 11
  refine (one_r 1 (Wx _ (by omega)) _).mono ?_
  rintro e w7 ⟨v, rfl, Qk5, nk5, ck5, zk5, rfl, i_k5, g_k5, hb⟩
  replace hB := bel_step hB hb
  replace g_a0 := Gd.step g_a0 hb
  replace g_a1 := Gd.step g_a1 hb
  replace g_a2 := Gd.step g_a2 hb
  replace g_k2 := Gd.step g_k2 hb
  replace g_k3 := Gd.step g_k3 hb
  replace g_k4 := Gd.step g_k4 hb
  clear hb
  go_wp2_with fail
  go_at_call 32
  refine (div_2 g_k5 g_a1 (by omega) (by omega) hz.out).mono ?_
  rintro e w8 ⟨v1, v2, rfl, ⟨Qqk6, nqk6, cqk6, zqk6, rfl, -, -, -⟩, ⟨Qk6, nk6, ck6, zk6, rfl, i_k6, g_k6, hb⟩⟩
  replace hB := bel_step hB hb
  replace g_a0 := Gd.step g_a0 hb
  replace g_a1 := Gd.step g_a1 hb
  replace g_a2 := Gd.step g_a2 hb
  replace g_k2 := Gd.step g_k2 hb
  replace g_k3 := Gd.step g_k3 hb
  replace g_k4 := Gd.step g_k4 hb
  replace g_k5 := Gd.step g_k5 hb
  clear hb
  rw [i_k5.out.v] at i_k6
  clear g_k5
  clear i_k5
  go_wp2_with fail
  go_at_call 11
  refine (one_r 1 (Wx _ (by omega)) _).mono ?_
  rintro e w9 ⟨v, rfl, Qk7, nk7, ck7, zk7, rfl, i_k7, g_k7, hb⟩
  replace hB := bel_step hB hb
  replace g_a0 := Gd.step g_a0 hb
  replace g_a1 := Gd.step g_a1 hb
  replace g_a2 := Gd.step g_a2 hb
  replace g_k2 := Gd.step g_k2 hb
  replace g_k3 := Gd.step g_k3 hb
  replace g_k4 := Gd.step g_k4 hb
  replace g_k6 := Gd.step g_k6 hb
  clear hb
  go_wp2_with fail
  go_at_call 19
  refine (sameM g_k2 g_k7 (by omega) (by omega) true (decide_eq_true (is_eq i_k2 i_k7 hgg.out))).mono ?_
  rintro e w10 ⟨rfl, hb⟩
  replace hB := bel_step hB hb
  replace g_a0 := Gd.step g_a0 hb
  replace g_a1 := Gd.step g_a1 hb
  replace g_a2 := Gd.step g_a2 hb
  replace g_k2 := Gd.step g_k2 hb
  replace g_k3 := Gd.step g_k3 hb
  replace g_k4 := Gd.step g_k4 hb
  replace g_k6 := Gd.step g_k6 hb
  replace g_k7 := Gd.step g_k7 hb
  clear hb
  clear g_k7
  go_wp2_with fail
  go_at_call 19
  refine (sameM g_k4 g_k6 (by omega) (by omega) true (decide_eq_true (is_eq i_k4 i_k6 (by rw [i_k3.out.v, Int.mul_comm]; exact hN.out.2)))).mono ?_
  rintro e w11 ⟨rfl, hb⟩
  replace hB := bel_step hB hb
  replace g_a0 := Gd.step g_a0 hb
  replace g_a1 := Gd.step g_a1 hb
  replace g_a2 := Gd.step g_a2 hb
  replace g_k2 := Gd.step g_k2 hb
  replace g_k3 := Gd.step g_k3 hb
  replace g_k4 := Gd.step g_k4 hb
  replace g_k6 := Gd.step g_k6 hb
  clear hb
  go_wp2_with fail
  go_at_call 34
  refine (cmp_2 g_k3 g_a1 (by omega) (by omega) (-1) (cmp_lt' (by rw [i_k3.out.v]; exact hN.out.1))).mono ?_
  rintro e w12 ⟨rfl, hb⟩
  replace hB := bel_step hB hb
  replace g_a0 := Gd.step g_a0 hb
  replace g_a1 := Gd.step g_a1 hb
  replace g_a2 := Gd.step g_a2 hb
  replace g_k2 := Gd.step g_k2 hb
  replace g_k3 := Gd.step g_k3 hb
  replace g_k4 := Gd.step g_k4 hb
  replace g_k6 := Gd.step g_k6 hb
  clear hb
  clear g_k3
  clear g_k4
  clear g_k6
  go_wp2_with fail
  go_at_call 32
  refine (div_2 g_a0 g_k2 (by omega) (by omega) (by rw [i_k2.out.v]; have := gc_pos (a := V xs0) hp.out; omega)).mono ?_
  rintro e w13 ⟨v1, v2, rfl, ⟨Qqk8, nqk8, cqk8, zqk8, rfl, -, -, -⟩, ⟨Qk8, nk8, ck8, zk8, rfl, i_k8, g_k8, hb⟩⟩
  replace hB := bel_step hB hb
  replace g_a0 := Gd.step g_a0 hb
  replace g_a1 := Gd.step g_a1 hb
  replace g_a2 := Gd.step g_a2 hb
  replace g_k2 := Gd.step g_k2 hb
  clear hb
  obtain rfl : nk8 = 0 := nlen0 g_k8 i_k8 (by rw [i_k2.out.v]; exact Int.emod_eq_zero_of_dvd (gc_dvd_l p0.out))
  clear g_k8 i_k8
  go_wp2_with fail
  go_at_call 32
  refine (div_2 g_a1 g_k2 (by omega) (by omega) (by rw [i_k2.out.v]; have := gc_pos (a := V xs0) hp.out; omega)).mono ?_
  rintro e w14 ⟨v1, v2, rfl, ⟨Qqk9, nqk9, cqk9, zqk9, rfl, -, -, -⟩, ⟨Qk9, nk9, ck9, zk9, rfl, i_k9, g_k9, hb⟩⟩
  replace hB := bel_step hB hb
  replace g_a0 := Gd.step g_a0 hb
  replace g_a1 := Gd.step g_a1 hb
  replace g_a2 := Gd.step g_a2 hb
  replace g_k2 := Gd.step g_k2 hb
  clear hb
  obtain rfl : nk9 = 0 := nlen0 g_k9 i_k9 (by rw [i_k2.out.v]; exact Int.emod_eq_zero_of_dvd (gc_dvd_r (Int.le_of_lt hp.out)))
  clear g_k9 i_k9
  go_wp2_with fail
  go_at_call 32
  refine (div_2 g_a0 g_a2 (by omega) (by omega) hdd.out).mono ?_
  rintro e w15 ⟨v1, v2, rfl, ⟨Qqk10, nqk10, cqk10, zqk10, rfl, -, -, -⟩, ⟨Qk10, nk10, ck10, zk10, rfl, i_k10, g_k10, hb⟩⟩
  replace hB := bel_step hB hb
  replace g_a0 := Gd.step g_a0 hb
  replace g_a1 := Gd.step g_a1 hb
  replace g_a2 := Gd.step g_a2 hb
  replace g_k2 := Gd.step g_k2 hb
  clear hb
  have hq_k10 : nk10 ≤ 5 := g_k10.out.le
  obtain rfl : nk10 = 0 := nlen0 g_k10 i_k10 (htt.out)
  clear g_k10 i_k10
  go_wp2_with fail
  go_at_call 32
  refine (div_2 g_a1 g_a2 (by omega) (by omega) hdd.out).mono ?_
  rintro e w16 ⟨v1, v2, rfl, ⟨Qqk11, nqk11, cqk11, zqk11, rfl, -, -, -⟩, ⟨Qk11, nk11, ck11, zk11, rfl, i_k11, g_k11, hb⟩⟩
  replace hB := bel_step hB hb
  replace g_a0 := Gd.step g_a0 hb
  replace g_a1 := Gd.step g_a1 hb
  replace g_a2 := Gd.step g_a2 hb
  replace g_k2 := Gd.step g_k2 hb
  clear hb
  have hq_k11 : nk11 ≤ 5 := g_k11.out.le
  obtain rfl : nk11 = 0 := nlen0 g_k11 i_k11 (huu.out)
  clear g_k11 i_k11
  go_wp2_with fail
  go_at_call 32
  refine (div_2 g_k2 g_a2 (by omega) (by omega) hdd.out).mono ?_
  rintro e w17 ⟨v1, v2, rfl, ⟨Qqk12, nqk12, cqk12, zqk12, rfl, -, -, -⟩, ⟨Qk12, nk12, ck12, zk12, rfl, i_k12, g_k12, hb⟩⟩
  replace hB := bel_step hB hb
  replace g_a0 := Gd.step g_a0 hb
  replace g_a1 := Gd.step g_a1 hb
  replace g_a2 := Gd.step g_a2 hb
  replace g_k2 := Gd.step g_k2 hb
  clear hb
  have hq_k12 : nk12 ≤ 5 := g_k12.out.le
  obtain rfl : nk12 = 0 := nlen0 g_k12 i_k12 (by rw [i_k2.out.v]; exact Int.emod_eq_zero_of_dvd (dvd_gc p0.out (Int.le_of_lt hp.out) p2.out (Int.dvd_of_emod_eq_zero htt.out) (Int.dvd_of_emod_eq_zero huu.out)))
  clear g_k12 i_k12
  go_wp2_with fail
  go_ret
  exact ⟨rfl, hB.out⟩

set_option maxRecDepth 100000 in
set_option maxHeartbeats 16000000 in
theorem walk_cn (w : World) (A0 : Option Addr) (n0 c0 : Nat) (xs0 : List Int) (A1 : Option Addr) (n1 c1 : Nat) (xs1 : List Int) (A2 : Option Addr) (n2 c2 : Nat) (xs2 : List Int)
    (hr0 : Rd w w.heap.size A0 n0 xs0) (hn0 : n0 ≤ c0) (hm0 : c0 ≤ 9223372036854775807) (hr1 : Rd w w.heap.size A1 n1 xs1) (hn1 : n1 ≤ c1) (hm1 : c1 ≤ 9223372036854775807) (hr2 : Rd w w.heap.size A2 n2 xs2) (hn2 : n2 ≤ c2) (hm2 : c2 ≤ 9223372036854775807) (h0 : n0 ≤ 5) (h1 : n1 ≤ 5) (h2 : n2 ≤ 5) (hv : V xs1 ≠ 0) (hg : gc (V xs0) (V xs1) = 1) (hd : V xs2 ≠ 0) (ht : V xs0 % V xs2 ≠ 0) :
    Calls Try.prog 6 #[.slice A0 n0 c0, .slice A1 n1 c1, .slice A2 n2 c2] w fun e w' => e = .returned (.bool true) ∧ Below w.heap.size w w' := by
  have hz := Lib.hid hv
  have hgg := Lib.hid hg
  have hdd := Lib.hid hd
  have htt := Lib.hid ht
  have p0 := Lib.hid (V_nonneg hr0.ws)
  have hp : Hid (0 < V xs1) := Lib.hid (by have := V_nonneg hr1.ws; have := hz.out; omega)
  have p2 := Lib.hid (V_nonneg hr2.ws)
  clear hv hg hd ht
  have g_a0 : Hid (Gd w A0 n0 c0 xs0 5) := Lib.hid ⟨hr0, hn0, hm0, by omega⟩
  have g_a1 : Hid (Gd w A1 n1 c1 xs1 5) := Lib.hid ⟨hr1, hn1, hm1, by omega⟩
  have g_a2 : Hid (Gd w A2 n2 c2 xs2 5) := Lib.hid ⟨hr2, hn2, hm2, by omega⟩
  have hB : Hid (Below w.heap.size w w) := Lib.hid (Below.refl _ w)
  clear hr0
  clear hr1
  clear hr2
  go_enter Try.func6, Try.ntmps6
  try simp only [List.append]
  go_wp2_with fail
  go_at_call 9
  refine (lives3_c _).mono ?_
  rintro e w1 ⟨rfl, hb⟩
  replace hB := bel_step hB hb
  replace g_a0 := Gd.step g_a0 hb
  replace g_a1 := Gd.step g_a1 hb
  replace g_a2 := Gd.step g_a2 hb
  clear hb
  go_wp2_with fail
  go_at_call 21
  refine (light3_c A0 A1 A2 n0 c0 n1 c1 n2 c2 (by omega) (by omega) (by omega) _ true (by simp <;> omega)).mono ?_
  rintro e w2 ⟨rfl, hb⟩
  replace hB := bel_step hB hb
  replace g_a0 := Gd.step g_a0 hb
  replace g_a1 := Gd.step g_a1 hb
  replace g_a2 := Gd.step g_a2 hb
  clear hb
  go_wp2_with fail
  go_at_call 31
  refine (trim_2 g_a1 (by omega)).mono ?_
  rintro e w3 ⟨v, rfl, Qk1, nk1, ck1, zk1, rfl, i_k1, g_k1, hb⟩
  replace hB := bel_step hB hb
  replace g_a0 := Gd.step g_a0 hb
  replace g_a1 := Gd.step g_a1 hb
  replace g_a2 := Gd.step g_a2 hb
  clear hb
  have hlf : ((nk1 : Int) == 0) = false := by
    have h8 : nk1 ≠ 0 := fun e9 => hz.out (by have h9 := g_k1.out.at_.len; rw [e9] at h9; rw [← i_k1.out.v, List.eq_nil_of_length_eq_zero h9]; rfl)
    simp; omega
  clear g_k1 i_k1
  go_wp2_with fail
  go_at_call 20
  refine (mgcd_o g_a0 g_a1 (by omega)).mono ?_
  rintro e w4 ⟨v, rfl, Qk2, nk2, ck2, zk2, rfl, i_k2, g_k2, hb⟩
  replace hB := bel_step hB hb
  replace g_a0 := Gd.step g_a0 hb
  replace g_a1 := Gd.step g_a1 hb
  replace g_a2 := Gd.step g_a2 hb
  clear hb
  clear hlf
  go_wp2_with fail
  go_at_call 12
  refine (minv_o g_a0 g_a1 (by omega) (by omega)).mono ?_
  rintro e w5 ⟨Qk3, nk3, ck3, zk3, evk3, rfl, o_k3, g_k3, hb⟩
  replace hB := bel_step hB hb
  replace g_a0 := Gd.step g_a0 hb
  replace g_a1 := Gd.step g_a1 hb
  replace g_a2 := Gd.step g_a2 hb
  replace g_k2 := Gd.step g_k2 hb
  clear hb
  obtain ⟨N, e0, i_k3, hN⟩ : ∃ N, evk3 = 0 ∧ Hid (Is zk3 N) ∧ Hid (N < V xs1 ∧ (N * V xs0) % V xs1 = 1 % V xs1) := by
    rcases o_k3.out with ⟨h, _⟩ | ⟨_, h, _⟩ | ⟨_, _, h1, N, h2, h3, h4, h5⟩
    · exact absurd h hz.out
    · exact absurd hgg.out h
    · exact ⟨N, h1, Lib.hid h2, Lib.hid ⟨h4, h5⟩⟩
  subst e0
  clear o_k3
  go_wp2_with fail
  go_at_call 17
  refine (mmul_o g_a0 g_k3 g_a1 (by omega) (by omega)).mono ?_
  rintro e w6 ⟨Qk4, nk4, ck4, zk4, evk4, rfl, o_k4, g_k4, hb⟩
  replace hB := bel_step hB hb
  replace g_a0 := Gd.step g_a0 hb
  replace g_a1 := Gd.step g_a1 hb
  replace g_a2 := Gd.step g_a2 hb
  replace g_k2 := Gd.step g_k2 hb
  replace g_k3 := Gd.step g_k3 hb
  clear hb
  obtain ⟨i_k4, e0⟩ := ModO.ok o_k4 (hz.out)
  subst e0
  clear o_k4
  go_wp2_with fail
  go_at_call 11
  refine (one_r 1 (Wx _ (by omega)) _).mono ?_
  rintro e w7 ⟨v, rfl, Qk5, nk5, ck5, zk5, rfl, i_k5, g_k5, hb⟩
  replace hB := bel_step hB hb
  replace g_a0 := Gd.step g_a0 hb
  replace g_a1 := Gd.step g_a1 hb
  replace g_a2 := Gd.step g_a2 hb
  replace g_k2 := Gd.step g_k2 hb
  replace g_k3 := Gd.step g_k3 hb
  replace g_k4 := Gd.step g_k4 hb
  clear hb
  go_wp2_with fail
  go_at_call 32
  refine (div_2 g_k5 g_a1 (by omega) (by omega) hz.out).mono ?_
  rintro e w8 ⟨v1, v2, rfl, ⟨Qqk6, nqk6, cqk6, zqk6, rfl, -, -, -⟩, ⟨Qk6, nk6, ck6, zk6, rfl, i_k6, g_k6, hb⟩⟩
  replace hB := bel_step hB hb
  replace g_a0 := Gd.step g_a0 hb
  replace g_a1 := Gd.step g_a1 hb
  replace g_a2 := Gd.step g_a2 hb
  replace g_k2 := Gd.step g_k2 hb
  replace g_k3 := Gd.step g_k3 hb
  replace g_k4 := Gd.step g_k4 hb
  replace g_k5 := Gd.step g_k5 hb
  clear hb
  rw [i_k5.out.v] at i_k6
  clear g_k5
  clear i_k5
  go_wp2_with fail
  go_at_call 11
  refine (one_r 1 (Wx _ (by omega)) _).mono ?_
  rintro e w9 ⟨v, rfl, Qk7, nk7, ck7, zk7, rfl, i_k7, g_k7, hb⟩
  replace hB := bel_step hB hb
  replace g_a0 := Gd.step g_a0 hb
  replace g_a1 := Gd.step g_a1 hb
  replace g_a2 := Gd.step g_a2 hb
  replace g_k2 := Gd.step g_k2 hb
  replace g_k3 := Gd.step g_k3 hb
  replace g_k4 := Gd.step g_k4 hb
  replace g_k6 := Gd.step g_k6 hb
  clear hb
  go_wp2_with fail
  go_at_call 19
  refine (sameM g_k2 g_k7 (by omega) (by omega) true (decide_eq_true (is_eq i_k2 i_k7 hgg.out))).mono ?_
  rintro e w10 ⟨rfl, hb⟩
  replace hB := bel_step hB hb
  replace g_a0 := Gd.step g_a0 hb
  replace g_a1 := Gd.step g_a1 hb
  replace g_a2 := Gd.step g_a2 hb
  replace g_k2 := Gd.step g_k2 hb
  replace g_k3 := Gd.step g_k3 hb
  replace g_k4 := Gd.step g_k4 hb
  replace g_k6 := Gd.step g_k6 hb
  replace g_k7 := Gd.step g_k7 hb
  clear hb
  clear g_k7
  go_wp2_with fail
  go_at_call 19
  refine (sameM g_k4 g_k6 (by omega) (by omega) true (decide_eq_true (is_eq i_k4 i_k6 (by rw [i_k3.out.v, Int.mul_comm]; exact hN.out.2)))).mono ?_
  rintro e w11 ⟨rfl, hb⟩
  replace hB := bel_step hB hb
  replace g_a0 := Gd.step g_a0 hb
  replace g_a1 := Gd.step g_a1 hb
  replace g_a2 := Gd.step g_a2 hb
  replace g_k2 := Gd.step g_k2 hb
  replace g_k3 := Gd.step g_k3 hb
  replace g_k4 := Gd.step g_k4 hb
  replace g_k6 := Gd.step g_k6 hb
  clear hb
  go_wp2_with fail
  go_at_call 34
  refine (cmp_2 g_k3 g_a1 (by omega) (by omega) (-1) (cmp_lt' (by rw [i_k3.out.v]; exact hN.out.1))).mono ?_
  rintro e w12 ⟨rfl, hb⟩
  replace hB := bel_step hB hb
  replace g_a0 := Gd.step g_a0 hb
  replace g_a1 := Gd.step g_a1 hb
  replace g_a2 := Gd.step g_a2 hb
  replace g_k2 := Gd.step g_k2 hb
  replace g_k3 := Gd.step g_k3 hb
  replace g_k4 := Gd.step g_k4 hb
  replace g_k6 := Gd.step g_k6 hb
  clear hb
  clear g_k3
  clear g_k4
  clear g_k6
  go_wp2_with fail
  go_at_call 32
  refine (div_2 g_a0 g_k2 (by omega) (by omega) (by rw [i_k2.out.v]; have := gc_pos (a := V xs0) hp.out; omega)).mono ?_
  rintro e w13 ⟨v1, v2, rfl, ⟨Qqk8, nqk8, cqk8, zqk8, rfl, -, -, -⟩, ⟨Qk8, nk8, ck8, zk8, rfl, i_k8, g_k8, hb⟩⟩
  replace hB := bel_step hB hb
  replace g_a0 := Gd.step g_a0 hb
  replace g_a1 := Gd.step g_a1 hb
  replace g_a2 := Gd.step g_a2 hb
  replace g_k2 := Gd.step g_k2 hb
  clear hb
  obtain rfl : nk8 = 0 := nlen0 g_k8 i_k8 (by rw [i_k2.out.v]; exact Int.emod_eq_zero_of_dvd (gc_dvd_l p0.out))
  clear g_k8 i_k8
  go_wp2_with fail
  go_at_call 32
  refine (div_2 g_a1 g_k2 (by omega) (by omega) (by rw [i_k2.out.v]; have := gc_pos (a := V xs0) hp.out; omega)).mono ?_
  rintro e w14 ⟨v1, v2, rfl, ⟨Qqk9, nqk9, cqk9, zqk9, rfl, -, -, -⟩, ⟨Qk9, nk9, ck9, zk9, rfl, i_k9, g_k9, hb⟩⟩
  replace hB := bel_step hB hb
  replace g_a0 := Gd.step g_a0 hb
  replace g_a1 := Gd.step g_a1 hb
  replace g_a2 := Gd.step g_a2 hb
  replace g_k2 := Gd.step g_k2 hb
  clear hb
  obtain rfl : nk9 = 0 := nlen0 g_k9 i_k9 (by rw [i_k2.out.v]; exact Int.emod_eq_zero_of_dvd (gc_dvd_r (Int.le_of_lt hp.out)))
  clear g_k9 i_k9
  go_wp2_with fail
  go_at_call 32
  refine (div_2 g_a0 g_a2 (by omega) (by omega) hdd.out).mono ?_
  rintro e w15 ⟨v1, v2, rfl, ⟨Qqk10, nqk10, cqk10, zqk10, rfl, -, -, -⟩, ⟨Qk10, nk10, ck10, zk10, rfl, i_k10, g_k10, hb⟩⟩
  replace hB := bel_step hB hb
  replace g_a0 := Gd.step g_a0 hb
  replace g_a1 := Gd.step g_a1 hb
  replace g_a2 := Gd.step g_a2 hb
  replace g_k2 := Gd.step g_k2 hb
  clear hb
  have hq_k10 : nk10 ≤ 5 := g_k10.out.le
  have hp_k10 : 0 < nk10 := nlenP g_k10 i_k10 (htt.out)
  clear g_k10 i_k10
  go_wp2_with fail
  go_at_call 32
  refine (div_2 g_a1 g_a2 (by omega) (by omega) hdd.out).mono ?_
  rintro e w16 ⟨v1, v2, rfl, ⟨Qqk11, nqk11, cqk11, zqk11, rfl, -, -, -⟩, ⟨Qk11, nk11, ck11, zk11, rfl, i_k11, g_k11, hb⟩⟩
  replace hB := bel_step hB hb
  replace g_a0 := Gd.step g_a0 hb
  replace g_a1 := Gd.step g_a1 hb
  replace g_a2 := Gd.step g_a2 hb
  replace g_k2 := Gd.step g_k2 hb
  clear hb
  have hq_k11 : nk11 ≤ 5 := g_k11.out.le
  clear g_k11 i_k11
  have hpp : (0 : Int) < (nk10 : Int) + (nk11 : Int) := by omega
  go_wp2_with fail
  go_at_call 32
  refine (div_2 g_k2 g_a2 (by omega) (by omega) hdd.out).mono ?_
  rintro e w17 ⟨v1, v2, rfl, ⟨Qqk12, nqk12, cqk12, zqk12, rfl, -, -, -⟩, ⟨Qk12, nk12, ck12, zk12, rfl, i_k12, g_k12, hb⟩⟩
  replace hB := bel_step hB hb
  replace g_a0 := Gd.step g_a0 hb
  replace g_a1 := Gd.step g_a1 hb
  replace g_a2 := Gd.step g_a2 hb
  replace g_k2 := Gd.step g_k2 hb
  clear hb
  have hq_k12 : nk12 ≤ 5 := g_k12.out.le
  clear g_k12 i_k12
  go_wp2_with fail
  go_ret
  exact ⟨rfl, hB.out⟩

set_option maxRecDepth 100000 in
set_option maxHeartbeats 16000000 in
theorem walk_cm (w : World) (A0 : Option Addr) (n0 c0 : Nat) (xs0 : List Int) (A1 : Option Addr) (n1 c1 : Nat) (xs1 : List Int) (A2 : Option Addr) (n2 c2 : Nat) (xs2 : List Int)
    (hr0 : Rd w w.heap.size A0 n0 xs0) (hn0 : n0 ≤ c0) (hm0 : c0 ≤ 9223372036854775807) (hr1 : Rd w w.heap.size A1 n1 xs1) (hn1 : n1 ≤ c1) (hm1 : c1 ≤ 9223372036854775807) (hr2 : Rd w w.heap.size A2 n2 xs2) (hn2 : n2 ≤ c2) (hm2 : c2 ≤ 9223372036854775807) (h0 : n0 ≤ 5) (h1 : n1 ≤ 5) (h2 : n2 ≤ 5) (hv : V xs1 ≠ 0) (hg : gc (V xs0) (V xs1) = 1) (hd : V xs2 ≠ 0) (ht : V xs0 % V xs2 = 0) (hu : V xs1 % V xs2 ≠ 0) :
    Calls Try.prog 6 #[.slice A0 n0 c0, .slice A1 n1 c1, .slice A2 n2 c2] w fun e w' => e = .returned (.bool true) ∧ Below w.heap.size w w' := by
  have hz := Lib.hid hv
  have hgg := Lib.hid hg
  have hdd := Lib.hid hd
  have htt := Lib.hid ht
  have huu := Lib.hid hu
  have p0 := Lib.hid (V_nonneg hr0.ws)
  have hp : Hid (0 < V xs1) := Lib.hid (by have := V_nonneg hr1.ws; have := hz.out; omega)
  have p2 := Lib.hid (V_nonneg hr2.ws)
  clear hv hg hd ht hu
  have g_a0 : Hid (Gd w A0 n0 c0 xs0 5) := Lib.hid ⟨hr0, hn0, hm0, by omega⟩
  have g_a1 : Hid (Gd w A1 n1 c1 xs1 5) := Lib.hid ⟨hr1, hn1, hm1, by omega⟩
  have g_a2 : Hid (Gd w A2 n2 c2 xs2 5) := Lib.hid ⟨hr2, hn2, hm2, by omega⟩
  have hB : Hid (Below w.heap.size w w) := Lib.hid (Below.refl _ w)
  clear hr0
  clear hr1
  clear hr2
  go_enter Try.func6, Try.ntmps6
  try simp only [List.append]
  go_wp2_with fail
  go_at_call 9
  refine (lives3_c _).mono ?_
  rintro e w1 ⟨rfl, hb⟩
  replace hB := bel_step hB hb
  replace g_a0 := Gd.step g_a0 hb
  replace g_a1 := Gd.step g_a1 hb
  replace g_a2 := Gd.step g_a2 hb
  clear hb
  go_wp2_with fail
  go_at_call 21
  refine (light3_c A0 A1 A2 n0 c0 n1 c1 n2 c2 (by omega) (by omega) (by omega) _ true (by simp <;> omega)).mono ?_
  rintro e w2 ⟨rfl, hb⟩
  replace hB := bel_step hB hb
  replace g_a0 := Gd.step g_a0 hb
  replace g_a1 := Gd.step g_a1 hb
  replace g_a2 := Gd.step g_a2 hb
  clear hb
  go_wp2_with fail
  go_at_call 31
  refine (trim_2 g_a1 (by omega)).mono ?_
  rintro e w3 ⟨v, rfl, Qk1, nk1, ck1, zk1, rfl, i_k1, g_k1, hb⟩
  replace hB := bel_step hB hb
  replace g_a0 := Gd.step g_a0 hb
  replace g_a1 := Gd.step g_a1 hb
  replace g_a2 := Gd.step g_a2 hb
  clear hb
  have hlf : ((nk1 : Int) == 0) = false := by
    have h8 : nk1 ≠ 0 := fun e9 => hz.out (by have h9 := g_k1.out.at_.len; rw [e9] at h9; rw [← i_k1.out.v, List.eq_nil_of_length_eq_zero h9]; rfl)
    simp; omega
  clear g_k1 i_k1
  go_wp2_with fail
  go_at_call 20
  refine (mgcd_o g_a0 g_a1 (by omega)).mono ?_
  rintro e w4 ⟨v, rfl, Qk2, nk2, ck2, zk2, rfl, i_k2, g_k2, hb⟩
  replace hB := bel_step hB hb
  replace g_a0 := Gd.step g_a0 hb
  replace g_a1 := Gd.step g_a1 hb
  replace g_a2 := Gd.step g_a2 hb
  clear hb
  clear hlf
  go_wp2_with fail
  go_at_call 12
  refine (minv_o g_a0 g_a1 (by omega) (by omega)).mono ?_
  rintro e w5 ⟨Qk3, nk3, ck3, zk3, evk3, rfl, o_k3, g_k3, hb⟩
  replace hB := bel_step hB hb
  replace g_a0 := Gd.step g_a0 hb
  replace g_a1 := Gd.step g_a1 hb
  replace g_a2 := Gd.step g_a2 hb
  replace g_k2 := Gd.step g_k2 hb
  clear hb
  obtain ⟨N, e0, i_k3, hN⟩ : ∃ N, evk3 = 0 ∧ Hid (Is zk3 N) ∧ Hid (N < V xs1 ∧ (N * V xs0) % V xs1 = 1 % V xs1) := by
    rcases o_k3.out with ⟨h, _⟩ | ⟨_, h, _⟩ | ⟨_, _, h1, N, h2, h3, h4, h5⟩
    · exact absurd h hz.out
    · exact absurd hgg.out h
    · exact ⟨N, h1, Lib.hid h2, Lib.hid ⟨h4, h5⟩⟩
  subst e0
  clear o_k3
  go_wp2_with fail
  go_at_call 17
  refine (mmul_o g_a0 g_k3 g_a1 (by omega) (by omega)).mono ?_
  rintro e w6 ⟨Qk4, nk4, ck4, zk4, evk4, rfl, o_k4, g_k4, hb⟩
  replace hB := bel_step hB hb
  replace g_a0 := Gd.step g_a0 hb
  replace g_a1 := Gd.step g_a1 hb
  replace g_a2 := Gd.step g_a2 hb
  replace g_k2 := Gd.step g_k2 hb
  replace g_k3 := Gd.step g_k3 hb
  clear hb
  obtain ⟨i_k4, e0⟩ := ModO.ok o_k4 (hz.out)
  subst e0
  clear o_k4
  go_wp2_with fail
  go_at_call 11
  refine (one_r 1 (Wx _ (by omega)) _).mono ?_
  rintro e w7 ⟨v, rfl, Qk5, nk5, ck5, zk5, rfl, i_k5, g_k5, hb⟩
  replace hB := bel_step hB hb
  replace g_a0 := Gd.step g_a0 hb
  replace g_a1 := Gd.step g_a1 hb
  replace g_a2 := Gd.step g_a2 hb
  replace g_k2 := Gd.step g_k2 hb
  replace g_k3 := Gd.step g_k3 hb
  replace g_k4 := Gd.step g_k4 hb
  clear hb
  go_wp2_with fail
  go_at_call 32
  refine (div_2 g_k5 g_a1 (by omega) (by omega) hz.out).mono ?_
  rintro e w8 ⟨v1, v2, rfl, ⟨Qqk6, nqk6, cqk6, zqk6, rfl, -, -, -⟩, ⟨Qk6, nk6, ck6, zk6, rfl, i_k6, g_k6, hb⟩⟩
  replace hB := bel_step hB hb
  replace g_a0 := Gd.step g_a0 hb
  replace g_a1 := Gd.step g_a1 hb
  replace g_a2 := Gd.step g_a2 hb
  replace g_k2 := Gd.step g_k2 hb
  replace g_k3 := Gd.step g_k3 hb
  replace g_k4 := Gd.step g_k4 hb
  replace g_k5 := Gd.step g_k5 hb
  clear hb
  rw [i_k5.out.v] at i_k6
  clear g_k5
  clear i_k5
  go_wp2_with fail
  go_at_call 11
  refine (one_r 1 (Wx _ (by omega)) _).mono ?_
  rintro e w9 ⟨v, rfl, Qk7, nk7, ck7, zk7, rfl, i_k7, g_k7, hb⟩
  replace hB := bel_step hB hb
  replace g_a0 := Gd.step g_a0 hb
  replace g_a1 := Gd.step g_a1 hb
  replace g_a2 := Gd.step g_a2 hb
  replace g_k2 := Gd.step g_k2 hb
  replace g_k3 := Gd.step g_k3 hb
  replace g_k4 := Gd.step g_k4 hb
  replace g_k6 := Gd.step g_k6 hb
  clear hb
  go_wp2_with fail
  go_at_call 19
  refine (sameM g_k2 g_k7 (by omega) (by omega) true (decide_eq_true (is_eq i_k2 i_k7 hgg.out))).mono ?_
  rintro e w10 ⟨rfl, hb⟩
  replace hB := bel_step hB hb
  replace g_a0 := Gd.step g_a0 hb
  replace g_a1 := Gd.step g_a1 hb
  replace g_a2 := Gd.step g_a2 hb
  replace g_k2 := Gd.step g_k2 hb
  replace g_k3 := Gd.step g_k3 hb
  replace g_k4 := Gd.step g_k4 hb
  replace g_k6 := Gd.step g_k6 hb
  replace g_k7 := Gd.step g_k7 hb
  clear hb
  clear g_k7
  go_wp2_with fail
  go_at_call 19
  refine (sameM g_k4 g_k6 (by omega) (by omega) true (decide_eq_true (is_eq i_k4 i_k6 (by rw [i_k3.out.v, Int.mul_comm]; exact hN.out.2)))).mono ?_
  rintro e w11 ⟨rfl, hb⟩
  replace hB := bel_step hB hb
  replace g_a0 := Gd.step g_a0 hb
  replace g_a1 := Gd.step g_a1 hb
  replace g_a2 := Gd.step g_a2 hb
  replace g_k2 := Gd.step g_k2 hb
  replace g_k3 := Gd.step g_k3 hb
  replace g_k4 := Gd.step g_k4 hb
  replace g_k6 := Gd.step g_k6 hb
  clear hb
  go_wp2_with fail
  go_at_call 34
  refine (cmp_2 g_k3 g_a1 (by omega) (by omega) (-1) (cmp_lt' (by rw [i_k3.out.v]; exact hN.out.1))).mono ?_
  rintro e w12 ⟨rfl, hb⟩
  replace hB := bel_step hB hb
  replace g_a0 := Gd.step g_a0 hb
  replace g_a1 := Gd.step g_a1 hb
  replace g_a2 := Gd.step g_a2 hb
  replace g_k2 := Gd.step g_k2 hb
  replace g_k3 := Gd.step g_k3 hb
  replace g_k4 := Gd.step g_k4 hb
  replace g_k6 := Gd.step g_k6 hb
  clear hb
  clear g_k3
  clear g_k4
  clear g_k6
  go_wp2_with fail
  go_at_call 32
  refine (div_2 g_a0 g_k2 (by omega) (by omega) (by rw [i_k2.out.v]; have := gc_pos (a := V xs0) hp.out; omega)).mono ?_
  rintro e w13 ⟨v1, v2, rfl, ⟨Qqk8, nqk8, cqk8, zqk8, rfl, -, -, -⟩, ⟨Qk8, nk8, ck8, zk8, rfl, i_k8, g_k8, hb⟩⟩
  replace hB := bel_step hB hb
  replace g_a0 := Gd.step g_a0 hb
  replace g_a1 := Gd.step g_a1 hb
  replace g_a2 := Gd.step g_a2 hb
  replace g_k2 := Gd.step g_k2 hb
  clear hb
  obtain rfl : nk8 = 0 := nlen0 g_k8 i_k8 (by rw [i_k2.out.v]; exact Int.emod_eq_zero_of_dvd (gc_dvd_l p0.out))
  clear g_k8 i_k8
  go_wp2_with fail
  go_at_call 32
  refine (div_2 g_a1 g_k2 (by omega) (by omega) (by rw [i_k2.out.v]; have := gc_pos (a := V xs0) hp.out; omega)).mono ?_
  rintro e w14 ⟨v1, v2, rfl, ⟨Qqk9, nqk9, cqk9, zqk9, rfl, -, -, -⟩, ⟨Qk9, nk9, ck9, zk9, rfl, i_k9, g_k9, hb⟩⟩
  replace hB := bel_step hB hb
  replace g_a0 := Gd.step g_a0 hb
  replace g_a1 := Gd.step g_a1 hb
  replace g_a2 := Gd.step g_a2 hb
  replace g_k2 := Gd.step g_k2 hb
  clear hb
  obtain rfl : nk9 = 0 := nlen0 g_k9 i_k9 (by rw [i_k2.out.v]; exact Int.emod_eq_zero_of_dvd (gc_dvd_r (Int.le_of_lt hp.out)))
  clear g_k9 i_k9
  go_wp2_with fail
  go_at_call 32
  refine (div_2 g_a0 g_a2 (by omega) (by omega) hdd.out).mono ?_
  rintro e w15 ⟨v1, v2, rfl, ⟨Qqk10, nqk10, cqk10, zqk10, rfl, -, -, -⟩, ⟨Qk10, nk10, ck10, zk10, rfl, i_k10, g_k10, hb⟩⟩
  replace hB := bel_step hB hb
  replace g_a0 := Gd.step g_a0 hb
  replace g_a1 := Gd.step g_a1 hb
  replace g_a2 := Gd.step g_a2 hb
  replace g_k2 := Gd.step g_k2 hb
  clear hb
  have hq_k10 : nk10 ≤ 5 := g_k10.out.le
  obtain rfl : nk10 = 0 := nlen0 g_k10 i_k10 (htt.out)
  clear g_k10 i_k10
  go_wp2_with fail
  go_at_call 32
  refine (div_2 g_a1 g_a2 (by omega) (by omega) hdd.out).mono ?_
  rintro e w16 ⟨v1, v2, rfl, ⟨Qqk11, nqk11, cqk11, zqk11, rfl, -, -, -⟩, ⟨Qk11, nk11, ck11, zk11, rfl, i_k11, g_k11, hb⟩⟩
  replace hB := bel_step hB hb
  replace g_a0 := Gd.step g_a0 hb
  replace g_a1 := Gd.step g_a1 hb
  replace g_a2 := Gd.step g_a2 hb
  replace g_k2 := Gd.step g_k2 hb
  clear hb
  have hq_k11 : nk11 ≤ 5 := g_k11.out.le
  have hp_k11 : 0 < nk11 := nlenP g_k11 i_k11 (huu.out)
  clear g_k11 i_k11
  have hpp : (0 : Int) < (nk11 : Int) := by omega
  go_wp2_with fail
  go_at_call 32
  refine (div_2 g_k2 g_a2 (by omega) (by omega) hdd.out).mono ?_
  rintro e w17 ⟨v1, v2, rfl, ⟨Qqk12, nqk12, cqk12, zqk12, rfl, -, -, -⟩, ⟨Qk12, nk12, ck12, zk12, rfl, i_k12, g_k12, hb⟩⟩
  replace hB := bel_step hB hb
  replace g_a0 := Gd.step g_a0 hb
  replace g_a1 := Gd.step g_a1 hb
  replace g_a2 := Gd.step g_a2 hb
  replace g_k2 := Gd.step g_k2 hb
  clear hb
  have hq_k12 : nk12 ≤ 5 := g_k12.out.le
  clear g_k12 i_k12
  go_wp2_with fail
  go_ret
  exact ⟨rfl, hB.out⟩

set_option maxRecDepth 100000 in
set_option maxHeartbeats 16000000 in
theorem walk_ez (w : World) (A0 : Option Addr) (n0 c0 : Nat) (xs0 : List Int) (A1 : Option Addr) (n1 c1 : Nat) (xs1 : List Int) (A2 : Option Addr) (n2 c2 : Nat) (xs2 : List Int)
    (hr0 : Rd w w.heap.size A0 n0 xs0) (hn0 : n0 ≤ c0) (hm0 : c0 ≤ 9223372036854775807) (hr1 : Rd w w.heap.size A1 n1 xs1) (hn1 : n1 ≤ c1) (hm1 : c1 ≤ 9223372036854775807) (hr2 : Rd w w.heap.size A2 n2 xs2) (hn2 : n2 ≤ c2) (hm2 : c2 ≤ 9223372036854775807) (h0 : n0 ≤ 5) (h1 : n1 ≤ 5) (h2 : n2 ≤ 5) (hv : V xs1 ≠ 0) (hg : gc (V xs0) (V xs1) ≠ 1) (hd : V xs2 = 0) :
    Calls Try.prog 6 #[.slice A0 n0 c0, .slice A1 n1 c1, .slice A2 n2 c2] w fun e w' => e = .returned (.bool true) ∧ Below w.heap.size w w' := by
  have hz := Lib.hid hv
  have hgg := Lib.hid hg
  have hdd := Lib.hid hd
  have p0 := Lib.hid (V_nonneg hr0.ws)
  have hp : Hid (0 < V xs1) := Lib.hid (by have := V_nonneg hr1.ws; have := hz.out; omega)
  have p2 := Lib.hid (V_nonneg hr2.ws)
  clear hv hg hd
  have g_a0 : Hid (Gd w A0 n0 c0 xs0 5) := Lib.hid ⟨hr0, hn0, hm0, by omega⟩
  have g_a1 : Hid (Gd w A1 n1 c1 xs1 5) := Lib.hid ⟨hr1, hn1, hm1, by omega⟩
  have g_a2 : Hid (Gd w A2 n2 c2 xs2 5) := Lib.hid ⟨hr2, hn2, hm2, by omega⟩
  have hB : Hid (Below w.heap.size w w) := Lib.hid (Below.refl _ w)
  clear hr0
  clear hr1
  clear hr2
  go_enter Try.func6, Try.ntmps6
  try simp only [List.append]
  go_wp2_with fail
  go_at_call 9
  refine (lives3_c _).mono ?_
  rintro e w1 ⟨rfl, hb⟩
  replace hB := bel_step hB hb
  replace g_a0 := Gd.step g_a0 hb
  replace g_a1 := Gd.step g_a1 hb
  replace g_a2 := Gd.step g_a2 hb
  clear hb
  go_wp2_with fail
  go_at_call 21
  refine (light3_c A0 A1 A2 n0 c0 n1 c1 n2 c2 (by omega) (by omega) (by omega) _ true (by simp <;> omega)).mono ?_
  rintro e w2 ⟨rfl, hb⟩
  replace hB := bel_step hB hb
  replace g_a0 := Gd.step g_a0 hb
  replace g_a1 := Gd.step g_a1 hb
  replace g_a2 := Gd.step g_a2 hb
  clear hb
  go_wp2_with fail
  go_at_call 31
  refine (trim_2 g_a1 (by omega)).mono ?_
  rintro e w3 ⟨v, rfl, Qk1, nk1, ck1, zk1, rfl, i_k1, g_k1, hb⟩
  replace hB := bel_step hB hb
  replace g_a0 := Gd.step g_a0 hb
  replace g_a1 := Gd.step g_a1 hb
  replace g_a2 := Gd.step g_a2 hb
  clear hb
  have hlf : ((nk1 : Int) == 0) = false := by
    have h8 : nk1 ≠ 0 := fun e9 => hz.out (by have h9 := g_k1.out.at_.len; rw [e9] at h9; rw [← i_k1.out.v, List.eq_nil_of_length_eq_zero h9]; rfl)
    simp; omega
  clear g_k1 i_k1
  go_wp2_with fail
  go_at_call 20
  refine (mgcd_o g_a0 g_a1 (by omega)).mono ?_
  rintro e w4 ⟨v, rfl, Qk2, nk2, ck2, zk2, rfl, i_k2, g_k2, hb⟩
  replace hB := bel_step hB hb
  replace g_a0 := Gd.step g_a0 hb
  replace g_a1 := Gd.step g_a1 hb
  replace g_a2 := Gd.step g_a2 hb
  clear hb
  clear hlf
  go_wp2_with fail
  go_at_call 12
  refine (minv_o g_a0 g_a1 (by omega) (by omega)).mono ?_
  rintro e w5 ⟨Qk3, nk3, ck3, zk3, evk3, rfl, o_k3, g_k3, hb⟩
  replace hB := bel_step hB hb
  replace g_a0 := Gd.step g_a0 hb
  replace g_a1 := Gd.step g_a1 hb
  replace g_a2 := Gd.step g_a2 hb
  replace g_k2 := Gd.step g_k2 hb
  clear hb
  obtain ⟨e1, e0⟩ : zk3 = [] ∧ evk3 = 5 := by
    rcases o_k3.out with ⟨h, _⟩ | ⟨_, _, h1, h2⟩ | ⟨_, h, _⟩
    · exact absurd h hz.out
    · exact ⟨h1, h2⟩
    · exact absurd h hgg.out
  subst e0
  clear o_k3
  go_wp2_with fail
  go_at_call 17
  refine (mmul_o g_a0 g_k3 g_a1 (by omega) (by omega)).mono ?_
  rintro e w6 ⟨Qk4, nk4, ck4, zk4, evk4, rfl, o_k4, g_k4, hb⟩
  replace hB := bel_step hB hb
  replace g_a0 := Gd.step g_a0 hb
  replace g_a1 := Gd.step g_a1 hb
  replace g_a2 := Gd.step g_a2 hb
  replace g_k2 := Gd.step g_k2 hb
  replace g_k3 := Gd.step g_k3 hb
  clear hb
  obtain ⟨i_k4, e0⟩ := ModO.ok o_k4 (hz.out)
  subst e0
  clear o_k4
  go_wp2_with fail
  go_at_call 11
  refine (one_r 1 (Wx _ (by omega)) _).mono ?_
  rintro e w7 ⟨v, rfl, Qk5, nk5, ck5, zk5, rfl, i_k5, g_k5, hb⟩
  replace hB := bel_step hB hb
  replace g_a0 := Gd.step g_a0 hb
  replace g_a1 := Gd.step g_a1 hb
  replace g_a2 := Gd.step g_a2 hb
  replace g_k2 := Gd.step g_k2 hb
  replace g_k3 := Gd.step g_k3 hb
  replace g_k4 := Gd.step g_k4 hb
  clear hb
  go_wp2_with fail
  go_at_call 32
  refine (div_2 g_k5 g_a1 (by omega) (by omega) hz.out).mono ?_
  rintro e w8 ⟨v1, v2, rfl, ⟨Qqk6, nqk6, cqk6, zqk6, rfl, -, -, -⟩, ⟨Qk6, nk6, ck6, zk6, rfl, i_k6, g_k6, hb⟩⟩
  replace hB := bel_step hB hb
  replace g_a0 := Gd.step g_a0 hb
  replace g_a1 := Gd.step g_a1 hb
  replace g_a2 := Gd.step g_a2 hb
  replace g_k2 := Gd.step g_k2 hb
  replace g_k3 := Gd.step g_k3 hb
  replace g_k4 := Gd.step g_k4 hb
  replace g_k5 := Gd.step g_k5 hb
  clear hb
  rw [i_k5.out.v] at i_k6
  clear g_k5
  clear i_k5
  go_wp2_with fail
  go_at_call 11
  refine (one_r 1 (Wx _ (by omega)) _).mono ?_
  rintro e w9 ⟨v, rfl, Qk7, nk7, ck7, zk7, rfl, i_k7, g_k7, hb⟩
  replace hB := bel_step hB hb
  replace g_a0 := Gd.step g_a0 hb
  replace g_a1 := Gd.step g_a1 hb
  replace g_a2 := Gd.step g_a2 hb
  replace g_k2 := Gd.step g_k2 hb
  replace g_k3 := Gd.step g_k3 hb
  replace g_k4 := Gd.step g_k4 hb
  replace g_k6 := Gd.step g_k6 hb
  clear hb
  go_wp2_with fail
  go_at_call 19
  refine (sameM g_k2 g_k7 (by omega) (by omega) false (decide_eq_false (fun e9 => hgg.out (by rw [← i_k2.out.v, e9]; exact i_k7.out.v)))).mono ?_
  rintro e w10 ⟨rfl, hb⟩
  replace hB := bel_step hB hb
  replace g_a0 := Gd.step g_a0 hb
  replace g_a1 := Gd.step g_a1 hb
  replace g_a2 := Gd.step g_a2 hb
  replace g_k2 := Gd.step g_k2 hb
  replace g_k3 := Gd.step g_k3 hb
  replace g_k4 := Gd.step g_k4 hb
  replace g_k6 := Gd.step g_k6 hb
  replace g_k7 := Gd.step g_k7 hb
  clear hb
  clear g_k7
  clear g_k3
  clear g_k4
  clear g_k6
  go_wp2_with fail
  go_at_call 32
  refine (div_2 g_a0 g_k2 (by omega) (by omega) (by rw [i_k2.out.v]; have := gc_pos (a := V xs0) hp.out; omega)).mono ?_
  rintro e w11 ⟨v1, v2, rfl, ⟨Qqk8, nqk8, cqk8, zqk8, rfl, -, -, -⟩, ⟨Qk8, nk8, ck8, zk8, rfl, i_k8, g_k8, hb⟩⟩
  replace hB := bel_step hB hb
  replace g_a0 := Gd.step g_a0 hb
  replace g_a1 := Gd.step g_a1 hb
  replace g_a2 := Gd.step g_a2 hb
  replace g_k2 := Gd.step g_k2 hb
  clear hb
  obtain rfl : nk8 = 0 := nlen0 g_k8 i_k8 (by rw [i_k2.out.v]; exact Int.emod_eq_zero_of_dvd (gc_dvd_l p0.out))
  clear g_k8 i_k8
  go_wp2_with fail
  go_at_call 32
  refine (div_2 g_a1 g_k2 (by omega) (by omega) (by rw [i_k2.out.v]; have := gc_pos (a := V xs0) hp.out; omega)).mono ?_
  rintro e w12 ⟨v1, v2, rfl, ⟨Qqk9, nqk9, cqk9, zqk9, rfl, -, -, -⟩, ⟨Qk9, nk9, ck9, zk9, rfl, i_k9, g_k9, hb⟩⟩
  replace hB := bel_step hB hb
  replace g_a0 := Gd.step g_a0 hb
  replace g_a1 := Gd.step g_a1 hb
  replace g_a2 := Gd.step g_a2 hb
  replace g_k2 := Gd.step g_k2 hb
  clear hb
  obtain rfl : nk9 = 0 := nlen0 g_k9 i_k9 (by rw [i_k2.out.v]; exact Int.emod_eq_zero_of_dvd (gc_dvd_r (Int.le_of_lt hp.out)))
  clear g_k9 i_k9
  go_wp2_with fail
  go_at_call 32
  refine (divE_2 (A := A0) (na := n0) (ca := c0) g_a2 (by omega) hdd.out).mono ?_
  rintro e w13 ⟨rfl, hb⟩
  replace hB := bel_step hB hb
  replace g_a0 := Gd.step g_a0 hb
  replace g_a1 := Gd.step g_a1 hb
  replace g_a2 := Gd.step g_a2 hb
  replace g_k2 := Gd.step g_k2 hb
  clear hb
  go_wp2_with fail
  go_at_call 32
  refine (divE_2 (A := A1) (na := n1) (ca := c1) g_a2 (by omega) hdd.out).mono ?_
  rintro e w14 ⟨rfl, hb⟩
  replace hB := bel_step hB hb
  replace g_a0 := Gd.step g_a0 hb
  replace g_a1 := Gd.step g_a1 hb
  replace g_a2 := Gd.step g_a2 hb
  replace g_k2 := Gd.step g_k2 hb
  clear hb
  go_wp2_with fail
  go_at_call 32
  refine (divE_2 (A := Qk2) (na := nk2) (ca := ck2) g_a2 (by omega) hdd.out).mono ?_
  rintro e w15 ⟨rfl, hb⟩
  replace hB := bel_step hB hb
  replace g_a0 := Gd.step g_a0 hb
  replace g_a1 := Gd.step g_a1 hb
  replace g_a2 := Gd.step g_a2 hb
  replace g_k2 := Gd.step g_k2 hb
  clear hb
  go_wp2_with fail
  go_ret
  exact ⟨rfl, hB.out⟩

set_option maxRecDepth 100000 in
set_option maxHeartbeats 16000000 in
theorem walk_ed (w : World) (A0 : Option Addr) (n0 c0 : Nat) (xs0 : List Int) (A1 : Option Addr) (n1 c1 : Nat) (xs1 : List Int) (A2 : Option Addr) (n2 c2 : Nat) (xs2 : List Int)
    (hr0 : Rd w w.heap.size A0 n0 xs0) (hn0 : n0 ≤ c0) (hm0 : c0 ≤ 9223372036854775807) (hr1 : Rd w w.heap.size A1 n1 xs1) (hn1 : n1 ≤ c1) (hm1 : c1 ≤ 9223372036854775807) (hr2 : Rd w w.heap.size A2 n2 xs2) (hn2 : n2 ≤ c2) (hm2 : c2 ≤ 9223372036854775807) (h0 : n0 ≤ 5) (h1 : n1 ≤ 5) (h2 : n2 ≤ 5) (hv : V xs1 ≠ 0) (hg : gc (V xs0) (V xs1) ≠ 1) (hd : V xs2 ≠ 0) (ht : V xs0 % V xs2 = 0) (hu : V xs1 % V xs2 = 0) :
    Calls Try.prog 6 #[.slice A0 n0 c0, .slice A1 n1 c1, .slice A2 n2 c2] w fun e w' => e = .returned (.bool true) ∧ Below w.heap.size w w' := by
  have hz := Lib.hid hv
  have hgg := Lib.hid hg
  have hdd := Lib.hid hd
  have htt := Lib.hid ht
  have huu := Lib.hid hu
  have p0 := Lib.hid (V_nonneg hr0.ws)
  have hp : Hid (0 < V xs1) := Lib.hid (by have := V_nonneg hr1.ws; have := hz.out; omega)
  have p2 := Lib.hid (V_nonneg hr2.ws)
  clear hv hg hd ht hu
  have g_a0 : Hid (Gd w A0 n0 c0 xs0 5) := Lib.hid ⟨hr0, hn0, hm0, by omega⟩
  have g_a1 : Hid (Gd w A1 n1 c1 xs1 5) := Lib.hid ⟨hr1, hn1, hm1, by omega⟩
  have g_a2 : Hid (Gd w A2 n2 c2 xs2 5) := Lib.hid ⟨hr2, hn2, hm2, by omega⟩
  have hB : Hid (Below w.heap.size w w) := Lib.hid (Below.refl _ w)
  clear hr0
  clear hr1
  clear hr2
  go_enter Try.func6, Try.ntmps6
  try simp only [List.append]
  go_wp2_with fail
  go_at_call 9
  refine (lives3_c _).mono ?_
  rintro e w1 ⟨rfl, hb⟩
  replace hB := bel_step hB hb
  replace g_a0 := Gd.step g_a0 hb
  replace g_a1 := Gd.step g_a1 hb
  replace g_a2 := Gd.step g_a2 hb
  clear hb
  go_wp2_with fail
  go_at_call 21
  refine (light3_c A0 A1 A2 n0 c0 n1 c1 n2 c2 (by omega) (by omega) (by omega) _ true (by simp <;> omega)).mono ?_
  rintro e w2 ⟨rfl, hb⟩
  replace hB := bel_step hB hb
  replace g_a0 := Gd.step g_a0 hb
  replace g_a1 := Gd.step g_a1 hb
  replace g_a2 := Gd.step g_a2 hb
  clear hb
  go_wp2_with fail
  go_at_call 31
  refine (trim_2 g_a1 (by omega)).mono ?_
  rintro e w3 ⟨v, rfl, Qk1, nk1, ck1, zk1, rfl, i_k1, g_k1, hb⟩
  replace hB := bel_step hB hb
  replace g_a0 := Gd.step g_a0 hb
  replace g_a1 := Gd.step g_a1 hb
  replace g_a2 := Gd.step g_a2 hb
  clear hb
  have hlf : ((nk1 : Int) == 0) = false := by
    have h8 : nk1 ≠ 0 := fun e9 => hz.out (by have h9 := g_k1.out.at_.len; rw [e9] at h9; rw [← i_k1.out.v, List.eq_nil_of_length_eq_zero h9]; rfl)
    simp; omega
  clear g_k1 i_k1
  go_wp2_with fail
  go_at_call 20
  refine (mgcd_o g_a0 g_a1 (by omega)).mono ?_
  rintro e w4 ⟨v, rfl, Qk2, nk2, ck2, zk2, rfl, i_k2, g_k2, hb⟩
  replace hB := bel_step hB hb
  replace g_a0 := Gd.step g_a0 hb
  replace g_a1 := Gd.step g_a1 hb
  replace g_a2 := Gd.step g_a2 hb
  clear hb
  clear hlf
  go_wp2_with fail
  go_at_call 12
  refine (minv_o g_a0 g_a1 (by omega) (by omega)).mono ?_
  rintro e w5 ⟨Qk3, nk3, ck3, zk3, evk3, rfl, o_k3, g_k3, hb⟩
  replace hB := bel_step hB hb
  replace g_a0 := Gd.step g_a0 hb
  replace g_a1 := Gd.step g_a1 hb
  replace g_a2 := Gd.step g_a2 hb
  replace g_k2 := Gd.step g_k2 hb
  clear hb
  obtain ⟨e1, e0⟩ : zk3 = [] ∧ evk3 = 5 := by
    rcases o_k3.out with ⟨h, _⟩ | ⟨_, _, h1, h2⟩ | ⟨_, h, _⟩
    · exact absurd h hz.out
    · exact ⟨h1, h2⟩
    · exact absurd h hgg.out
  subst e0
  clear o_k3
  go_wp2_with fail
  go_at_call 17
  refine (mmul_o g_a0 g_k3 g_a1 (by omega) (by omega)).mono ?_
  rintro e w6 ⟨Qk4, nk4, ck4, zk4, evk4, rfl, o_k4, g_k4, hb⟩
  replace hB := bel_step hB hb
  replace g_a0 := Gd.step g_a0 hb
  replace g_a1 := Gd.step g_a1 hb
  replace g_a2 := Gd.step g_a2 hb
  replace g_k2 := Gd.step g_k2 hb
  replace g_k3 := Gd.step g_k3 hb
  clear hb
  obtain ⟨i_k4, e0⟩ := ModO.ok o_k4 (hz.out)
  subst e0
  clear o_k4
  go_wp2_with fail
  go_at_call 11
  refine (one_r 1 (Wx _ (by omega)) _).mono ?_
  rintro e w7 ⟨v, rfl, Qk5, nk5, ck5, zk5, rfl, i_k5, g_k5, hb⟩
  replace hB := bel_step hB hb
  replace g_a0 := Gd.step g_a0 hb
  replace g_a1 := Gd.step g_a1 hb
  replace g_a2 := Gd.step g_a2 hb
  replace g_k2 := Gd.step g_k2 hb
  replace g_k3 := Gd.step g_k3 hb
  replace g_k4 := Gd.step g_k4 hb
  clear hb
  go_wp2_with fail
  go_at_call 32
  refine (div_2 g_k5 g_a1 (by omega) (by omega) hz.out).mono ?_
  rintro e w8 ⟨v1, v2, rfl, ⟨Qqk6, nqk6, cqk6, zqk6, rfl, -, -, -⟩, ⟨Qk6, nk6, ck6, zk6, rfl, i_k6, g_k6, hb⟩⟩
  replace hB := bel_step hB hb
  replace g_a0 := Gd.step g_a0 hb
  replace g_a1 := Gd.step g_a1 hb
  replace g_a2 := Gd.step g_a2 hb
  replace g_k2 := Gd.step g_k2 hb
  replace g_k3 := Gd.step g_k3 hb
  replace g_k4 := Gd.step g_k4 hb
  replace g_k5 := Gd.step g_k5 hb
  clear hb
  rw [i_k5.out.v] at i_k6
  clear g_k5
  clear i_k5
  go_wp2_with fail
  go_at_call 11
  refine (one_r 1 (Wx _ (by omega)) _).mono ?_
  rintro e w9 ⟨v, rfl, Qk7, nk7, ck7, zk7, rfl, i_k7, g_k7, hb⟩
  replace hB := bel_step hB hb
  replace g_a0 := Gd.step g_a0 hb
  replace g_a1 := Gd.step g_a1 hb
  replace g_a2 := Gd.step g_a2 hb
  replace g_k2 := Gd.step g_k2 hb
  replace g_k3 := Gd.step g_k3 hb
  replace g_k4 := Gd.step g_k4 hb
  replace g_k6 := Gd.step g_k6 hb
  clear hb
  go_wp2_with fail
  go_at_call 19
  refine (sameM g_k2 g_k7 (by omega) (by omega) false (decide_eq_false (fun e9 => hgg.out (by rw [← i_k2.out.v, e9]; exact i_k7.out.v)))).mono ?_
  rintro e w10 ⟨rfl, hb⟩
  replace hB := bel_step hB hb
  replace g_a0 := Gd.step g_a0 hb
  replace g_a1 := Gd.step g_a1 hb
  replace g_a2 := Gd.step g_a2 hb
  replace g_k2 := Gd.step g_k2 hb
  replace g_k3 := Gd.step g_k3 hb
  replace g_k4 := Gd.step g_k4 hb
  replace g_k6 := Gd.step g_k6 hb
  replace g_k7 := Gd.step g_k7 hb
  clear hb
  clear g_k7
  clear g_k3
  clear g_k4
  clear g_k6
  go_wp2_with fail
  go_at_call 32
  refine (div_2 g_a0 g_k2 (by omega) (by omega) (by rw [i_k2.out.v]; have := gc_pos (a := V xs0) hp.out; omega)).mono ?_
  rintro e w11 ⟨v1, v2, rfl, ⟨Qqk8, nqk8, cqk8, zqk8, rfl, -, -, -⟩, ⟨Qk8, nk8, ck8, zk8, rfl, i_k8, g_k8, hb⟩⟩
  replace hB := bel_step hB hb
  replace g_a0 := Gd.step g_a0 hb
  replace g_a1 := Gd.step g_a1 hb
  replace g_a2 := Gd.step g_a2 hb
  replace g_k2 := Gd.step g_k2 hb
  clear hb
  obtain rfl : nk8 = 0 := nlen0 g_k8 i_k8 (by rw [i_k2.out.v]; exact Int.emod_eq_zero_of_dvd (gc_dvd_l p0.out))
  clear g_k8 i_k8
  go_wp2_with fail
  go_at_call 32
  refine (div_2 g_a1 g_k2 (by omega) (by omega) (by rw [i_k2.out.v]; have := gc_pos (a := V xs0) hp.out; omega)).mono ?_
  rintro e w12 ⟨v1, v2, rfl, ⟨Qqk9, nqk9, cqk9, zqk9, rfl, -, -, -⟩, ⟨Qk9, nk9, ck9, zk9, rfl, i_k9, g_k9, hb⟩⟩
  replace hB := bel_step hB hb
  replace g_a0 := Gd.step g_a0 hb
  replace g_a1 := Gd.step g_a1 hb
  replace g_a2 := Gd.step g_a2 hb
  replace g_k2 := Gd.step g_k2 hb
  clear hb
  obtain rfl : nk9 = 0 := nlen0 g_k9 i_k9 (by rw [i_k2.out.v]; exact Int.emod_eq_zero_of_dvd (gc_dvd_r (Int.le_of_lt hp.out)))
  clear g_k9 i_k9
  go_wp2_with fail
  go_at_call 32
  refine (div_2 g_a0 g_a2 (by omega) (by omega) hdd.out).mono ?_
  rintro e w13 ⟨v1, v2, rfl, ⟨Qqk10, nqk10, cqk10, zqk10, rfl, -, -, -⟩, ⟨Qk10, nk10, ck10, zk10, rfl, i_k10, g_k10, hb⟩⟩
  replace hB := bel_step hB hb
  replace g_a0 := Gd.step g_a0 hb
  replace g_a1 := Gd.step g_a1 hb
  replace g_a2 := Gd.step g_a2 hb
  replace g_k2 := Gd.step g_k2 hb
  clear hb
  have hq_k10 : nk10 ≤ 5 := g_k10.out.le
  obtain rfl : nk10 = 0 := nlen0 g_k10 i_k10 (htt.out)
  clear g_k10 i_k10
  go_wp2_with fail
  go_at_call 32
  refine (div_2 g_a1 g_a2 (by omega) (by omega) hdd.out).mono ?_
  rintro e w14 ⟨v1, v2, rfl, ⟨Qqk11, nqk11, cqk11, zqk11, rfl, -, -, -⟩, ⟨Qk11, nk11, ck11, zk11, rfl, i_k11, g_k11, hb⟩⟩
  replace hB := bel_step hB hb
  replace g_a0 := Gd.step g_a0 hb
  replace g_a1 := Gd.step g_a1 hb
  replace g_a2 := Gd.step g_a2 hb
  replace g_k2 := Gd.step g_k2 hb
  clear hb
  have hq_k11 : nk11 ≤ 5 := g_k11.out.le
  obtain rfl : nk11 = 0 := nlen0 g_k11 i_k11 (huu.out)
  clear g_k11 i_k11
  go_wp2_with fail
  go_at_call 32
  refine (div_2 g_k2 g_a2 (by omega) (by omega) hdd.out).mono ?_
  rintro e w15 ⟨v1, v2, rfl, ⟨Qqk12, nqk12, cqk12, zqk12, rfl, -, -, -⟩, ⟨Qk12, nk12, ck12, zk12, rfl, i_k12, g_k12, hb⟩⟩
  replace hB := bel_step hB hb
  replace g_a0 := Gd.step g_a0 hb
  replace g_a1 := Gd.step g_a1 hb
  replace g_a2 := Gd.step g_a2 hb
  replace g_k2 := Gd.step g_k2 hb
  clear hb
  have hq_k12 : nk12 ≤ 5 := g_k12.out.le
  obtain rfl : nk12 = 0 := nlen0 g_k12 i_k12 (by rw [i_k2.out.v]; exact Int.emod_eq_zero_of_dvd (dvd_gc p0.out (Int.le_of_lt hp.out) p2.out (Int.dvd_of_emod_eq_zero htt.out) (Int.dvd_of_emod_eq_zero huu.out)))
  clear g_k12 i_k12
  go_wp2_with fail
  go_ret
  exact ⟨rfl, hB.out⟩

set_option maxRecDepth 100000 in
set_option maxHeartbeats 16000000 in
theorem walk_en (w : World) (A0 : Option Addr) (n0 c0 : Nat) (xs0 : List Int) (A1 : Option Addr) (n1 c1 : Nat) (xs1 : List Int) (A2 : Option Addr) (n2 c2 : Nat) (xs2 : List Int)
    (hr0 : Rd w w.heap.size A0 n0 xs0) (hn0 : n0 ≤ c0) (hm0 : c0 ≤ 9223372036854775807) (hr1 : Rd w w.heap.size A1 n1 xs1) (hn1 : n1 ≤ c1) (hm1 : c1 ≤ 9223372036854775807) (hr2 : Rd w w.heap.size A2 n2 xs2) (hn2 : n2 ≤ c2) (hm2 : c2 ≤ 9223372036854775807) (h0 : n0 ≤ 5) (h1 : n1 ≤ 5) (h2 : n2 ≤ 5) (hv : V xs1 ≠ 0) (hg : gc (V xs0) (V xs1) ≠ 1) (hd : V xs2 ≠ 0) (ht : V xs0 % V xs2 ≠ 0) :
    Calls Try.prog 6 #[.slice A0 n0 c0, .slice A1 n1 c1, .slice A2 n2 c2] w fun e w' => e = .returned (.bool true) ∧ Below w.heap.size w w' := by
  have hz := Lib.hid hv
  have hgg := Lib.hid hg
  have hdd := Lib.hid hd
  have htt := Lib.hid ht
  have p0 := Lib.hid (V_nonneg hr0.ws)
  have hp : Hid (0 < V xs1) := Lib.hid (by have := V_nonneg hr1.ws; have := hz.out; omega)
  have p2 := Lib.hid (V_nonneg hr2.ws)
  clear hv hg hd ht
  have g_a0 : Hid (Gd w A0 n0 c0 xs0 5) := Lib.hid ⟨hr0, hn0, hm0, by omega⟩
  have g_a1 : Hid (Gd w A1 n1 c1 xs1 5) := Lib.hid ⟨hr1, hn1, hm1, by omega⟩
  have g_a2 : Hid (Gd w A2 n2 c2 xs2 5) := Lib.hid ⟨hr2, hn2, hm2, by omega⟩
  have hB : Hid (Below w.heap.size w w) := Lib.hid (Below.refl _ w)
  clear hr0
  clear hr1
  clear hr2
  go_enter Try.func6, Try.ntmps6
  try simp only [List.append]
  go_wp2_with fail
  go_at_call 9
  refine (lives3_c _).mono ?_
  rintro e w1 ⟨rfl, hb⟩
  replace hB := bel_step hB hb
  replace g_a0 := Gd.step g_a0 hb
  replace g_a1 := Gd.step g_a1 hb
  replace g_a2 := Gd.step g_a2 hb
  clear hb
  go_wp2_with fail
  go_at_call 21
  refine (light3_c A0 A1 A2 n0 c0 n1 c1 n2 c2 (by omega) (by omega) (by omega) _ true (by simp <;> omega)).mono ?_
  rintro e w2 ⟨rfl, hb⟩
  replace hB := bel_step hB hb
  replace g_a0 := Gd.step g_a0 hb
  replace g_a1 := Gd.step g_a1 hb
  replace g_a2 := Gd.step g_a2 hb
  clear hb
  go_wp2_with fail
  go_at_call 31
  refine (trim_2 g_a1 (by omega)).mono ?_
  rintro e w3 ⟨v, rfl, Qk1, nk1, ck1, zk1, rfl, i_k1, g_k1, hb⟩
  replace hB := bel_step hB hb
  replace g_a0 := Gd.step g_a0 hb
  replace g_a1 := Gd.step g_a1 hb
  replace g_a2 := Gd.step g_a2 hb
  clear hb
  have hlf : ((nk1 : Int) == 0) = false := by
    have h8 : nk1 ≠ 0 := fun e9 => hz.out (by have h9 := g_k1.out.at_.len; rw [e9] at h9; rw [← i_k1.out.v, List.eq_nil_of_length_eq_zero h9]; rfl)
    simp; omega
  clear g_k1 i_k1
  go_wp2_with fail
  go_at_call 20
  refine (mgcd_o g_a0 g_a1 (by omega)).mono ?_
  rintro e w4 ⟨v, rfl, Qk2, nk2, ck2, zk2, rfl, i_k2, g_k2, hb⟩
  replace hB := bel_step hB hb
  replace g_a0 := Gd.step g_a0 hb
  replace g_a1 := Gd.step g_a1 hb
  replace g_a2 := Gd.step g_a2 hb
  clear hb
  clear hlf
  go_wp2_with fail
  go_at_call 12
  refine (minv_o g_a0 g_a1 (by omega) (by omega)).mono ?_
  rintro e w5 ⟨Qk3, nk3, ck3, zk3, evk3, rfl, o_k3, g_k3, hb⟩
  replace hB := bel_step hB hb
  replace g_a0 := Gd.step g_a0 hb
  replace g_a1 := Gd.step g_a1 hb
  replace g_a2 := Gd.step g_a2 hb
  replace g_k2 := Gd.step g_k2 hb
  clear hb
  obtain ⟨e1, e0⟩ : zk3 = [] ∧ evk3 = 5 := by
    rcases o_k3.out with ⟨h, _⟩ | ⟨_, _, h1, h2⟩ | ⟨_, h, _⟩
    · exact absurd h hz.out
    · exact ⟨h1, h2⟩
    · exact absurd h hgg.out
  subst e0
  clear o_k3
  go_wp2_with fail
  go_at_call 17
  refine (mmul_o g_a0 g_k3 g_a1 (by omega) (by omega)).mono ?_
  rintro e w6 ⟨Qk4, nk4, ck4, zk4, evk4, rfl, o_k4, g_k4, hb⟩
  replace hB := bel_step hB hb
  replace g_a0 := Gd.step g_a0 hb
  replace g_a1 := Gd.step g_a1 hb
  replace g_a2 := Gd.step g_a2 hb
  replace g_k2 := Gd.step g_k2 hb
  replace g_k3 := Gd.step g_k3 hb
  clear hb
  obtain ⟨i_k4, e0⟩ := ModO.ok o_k4 (hz.out)
  subst e0
  clear o_k4
  go_wp2_with fail
  go_at_call 11
  refine (one_r 1 (Wx _ (by omega)) _).mono ?_
  rintro e w7 ⟨v, rfl, Qk5, nk5, ck5, zk5, rfl, i_k5, g_k5, hb⟩
  replace hB := bel_step hB hb
  replace g_a0 := Gd.step g_a0 hb
  replace g_a1 := Gd.step g_a1 hb
  replace g_a2 := Gd.step g_a2 hb
  replace g_k2 := Gd.step g_k2 hb
  replace g_k3 := Gd.step g_k3 hb
  replace g_k4 := Gd.step g_k4 hb
  clear hb
  go_wp2_with fail
  go_at_call 32
  refine (div_2 g_k5 g_a1 (by omega) (by omega) hz.out).mono ?_
  rintro e w8 ⟨v1, v2, rfl, ⟨Qqk6, nqk6, cqk6, zqk6, rfl, -, -, -⟩, ⟨Qk6, nk6, ck6, zk6, rfl, i_k6, g_k6, hb⟩⟩
  replace hB := bel_step hB hb
  replace g_a0 := Gd.step g_a0 hb
  replace g_a1 := Gd.step g_a1 hb
  replace g_a2 := Gd.step g_a2 hb
  replace g_k2 := Gd.step g_k2 hb
  replace g_k3 := Gd.step g_k3 hb
  replace g_k4 := Gd.step g_k4 hb
  replace g_k5 := Gd.step g_k5 hb
  clear hb
  rw [i_k5.out.v] at i_k6
  clear g_k5
  clear i_k5
  go_wp2_with fail
  go_at_call 11
  refine (one_r 1 (Wx _ (by omega)) _).mono ?_
  rintro e w9 ⟨v, rfl, Qk7, nk7, ck7, zk7, rfl, i_k7, g_k7, hb⟩
  replace hB := bel_step hB hb
  replace g_a0 := Gd.step g_a0 hb
  replace g_a1 := Gd.step g_a1 hb
  replace g_a2 := Gd.step g_a2 hb
  replace g_k2 := Gd.step g_k2 hb
  replace g_k3 := Gd.step g_k3 hb
  replace g_k4 := Gd.step g_k4 hb
  replace g_k6 := Gd.step g_k6 hb
  clear hb
  go_wp2_with fail
  go_at_call 19
  refine (sameM g_k2 g_k7 (by omega) (by omega) false (decide_eq_false (fun e9 => hgg.out (by rw [← i_k2.out.v, e9]; exact i_k7.out.v)))).mono ?_
  rintro e w10 ⟨rfl, hb⟩
  replace hB := bel_step hB hb
  replace g_a0 := Gd.step g_a0 hb
  replace g_a1 := Gd.step g_a1 hb
  replace g_a2 := Gd.step g_a2 hb
  replace g_k2 := Gd.step g_k2 hb
  replace g_k3 := Gd.step g_k3 hb
  replace g_k4 := Gd.step g_k4 hb
  replace g_k6 := Gd.step g_k6 hb
  replace g_k7 := Gd.step g_k7 hb
  clear hb
  clear g_k7
  clear g_k3
  clear g_k4
  clear g_k6
  go_wp2_with fail
  go_at_call 32
  refine (div_2 g_a0 g_k2 (by omega) (by omega) (by rw [i_k2.out.v]; have := gc_pos (a := V xs0) hp.out; omega)).mono ?_
  rintro e w11 ⟨v1, v2, rfl, ⟨Qqk8, nqk8, cqk8, zqk8, rfl, -, -, -⟩, ⟨Qk8, nk8, ck8, zk8, rfl, i_k8, g_k8, hb⟩⟩
  replace hB := bel_step hB hb
  replace g_a0 := Gd.step g_a0 hb
  replace g_a1 := Gd.step g_a1 hb
  replace g_a2 := Gd.step g_a2 hb
  replace g_k2 := Gd.step g_k2 hb
  clear hb
  obtain rfl : nk8 = 0 := nlen0 g_k8 i_k8 (by rw [i_k2.out.v]; exact Int.emod_eq_zero_of_dvd (gc_dvd_l p0.out))
  clear g_k8 i_k8
  go_wp2_with fail
  go_at_call 32
  refine (div_2 g_a1 g_k2 (by omega) (by omega) (by rw [i_k2.out.v]; have := gc_pos (a := V xs0) hp.out; omega)).mono ?_
  rintro e w12 ⟨v1, v2, rfl, ⟨Qqk9, nqk9, cqk9, zqk9, rfl, -, -, -⟩, ⟨Qk9, nk9, ck9, zk9, rfl, i_k9, g_k9, hb⟩⟩
  replace hB := bel_step hB hb
  replace g_a0 := Gd.step g_a0 hb
  replace g_a1 := Gd.step g_a1 hb
  replace g_a2 := Gd.step g_a2 hb
  replace g_k2 := Gd.step g_k2 hb
  clear hb
  obtain rfl : nk9 = 0 := nlen0 g_k9 i_k9 (by rw [i_k2.out.v]; exact Int.emod_eq_zero_of_dvd (gc_dvd_r (Int.le_of_lt hp.out)))
  clear g_k9 i_k9
  go_wp2_with fail
  go_at_call 32
  refine (div_2 g_a0 g_a2 (by omega) (by omega) hdd.out).mono ?_
  rintro e w13 ⟨v1, v2, rfl, ⟨Qqk10, nqk10, cqk10, zqk10, rfl, -, -, -⟩, ⟨Qk10, nk10, ck10, zk10, rfl, i_k10, g_k10, hb⟩⟩
  replace hB := bel_step hB hb
  replace g_a0 := Gd.step g_a0 hb
  replace g_a1 := Gd.step g_a1 hb
  replace g_a2 := Gd.step g_a2 hb
  replace g_k2 := Gd.step g_k2 hb
  clear hb
  have hq_k10 : nk10 ≤ 5 := g_k10.out.le
  have hp_k10 : 0 < nk10 := nlenP g_k10 i_k10 (htt.out)
  clear g_k10 i_k10
  go_wp2_with fail
  go_at_call 32
  refine (div_2 g_a1 g_a2 (by omega) (by omega) hdd.out).mono ?_
  rintro e w14 ⟨v1, v2, rfl, ⟨Qqk11, nqk11, cqk11, zqk11, rfl, -, -, -⟩, ⟨Qk11, nk11, ck11, zk11, rfl, i_k11, g_k11, hb⟩⟩
  replace hB := bel_step hB hb
  replace g_a0 := Gd.step g_a0 hb
  replace g_a1 := Gd.step g_a1 hb
  replace g_a2 := Gd.step g_a2 hb
  replace g_k2 := Gd.step g_k2 hb
  clear hb
  have hq_k11 : nk11 ≤ 5 := g_k11.out.le
  clear g_k11 i_k11
  have hpp : (0 : Int) < (nk10 : Int) + (nk11 : Int) := by omega
  go_wp2_with fail
  go_at_call 32
  refine (div_2 g_k2 g_a2 (by omega) (by omega) hdd.out).mono ?_
  rintro e w15 ⟨v1, v2, rfl, ⟨Qqk12, nqk12, cqk12, zqk12, rfl, -, -, -⟩, ⟨Qk12, nk12, ck12, zk12, rfl, i_k12, g_k12, hb⟩⟩
  replace hB := bel_step hB hb
  replace g_a0 := Gd.step g_a0 hb
  replace g_a1 := Gd.step g_a1 hb
  replace g_a2 := Gd.step g_a2 hb
  replace g_k2 := Gd.step g_k2 hb
  clear hb
  have hq_k12 : nk12 ≤ 5 := g_k12.out.le
  clear g_k12 i_k12
  go_wp2_with fail
  go_ret
  exact ⟨rfl, hB.out⟩

set_option maxRecDepth 100000 in
set_option maxHeartbeats 16000000 in
theorem walk_em (w : World) (A0 : Option Addr) (n0 c0 : Nat) (xs0 : List Int) (A1 : Option Addr) (n1 c1 : Nat) (xs1 : List Int) (A2 : Option Addr) (n2 c2 : Nat) (xs2 : List Int)
    (hr0 : Rd w w.heap.size A0 n0 xs0) (hn0 : n0 ≤ c0) (hm0 : c0 ≤ 9223372036854775807) (hr1 : Rd w w.heap.size A1 n1 xs1) (hn1 : n1 ≤ c1) (hm1 : c1 ≤ 9223372036854775807) (hr2 : Rd w w.heap.size A2 n2 xs2) (hn2 : n2 ≤ c2) (hm2 : c2 ≤ 9223372036854775807) (h0 : n0 ≤ 5) (h1 : n1 ≤ 5) (h2 : n2 ≤ 5) (hv : V xs1 ≠ 0) (hg : gc (V xs0) (V xs1) ≠ 1) (hd : V xs2 ≠ 0) (ht : V xs0 % V xs2 = 0) (hu : V xs1 % V xs2 ≠ 0) :
    Calls Try.prog 6 #[.slice A0 n0 c0, .slice A1 n1 c1, .slice A2 n2 c2] w fun e w' => e = .returned (.bool true) ∧ Below w.heap.size w w' := by
  have hz := Lib.hid hv
  have hgg := Lib.hid hg
  have hdd := Lib.hid hd
  have htt := Lib.hid ht
  have huu := Lib.hid hu
  have p0 := Lib.hid (V_nonneg hr0.ws)
  have hp : Hid (0 < V xs1) := Lib.hid (by have := V_nonneg hr1.ws; have := hz.out; omega)
  have p2 := Lib.hid (V_nonneg hr2.ws)
  clear hv hg hd ht hu
  have g_a0 : Hid (Gd w A0 n0 c0 xs0 5) := Lib.hid ⟨hr0, hn0, hm0, by omega⟩
  have g_a1 : Hid (Gd w A1 n1 c1 xs1 5) := Lib.hid ⟨hr1, hn1, hm1, by omega⟩
  have g_a2 : Hid (Gd w A2 n2 c2 xs2 5) := Lib.hid ⟨hr2, hn2, hm2, by omega⟩
  have hB : Hid (Below w.heap.size w w) := Lib.hid (Below.refl _ w)
  clear hr0
  clear hr1
  clear hr2
  go_enter Try.func6, Try.ntmps6
  try simp only [List.append]
  go_wp2_with fail
  go_at_call 9
  refine (lives3_c _).mono ?_
  rintro e w1 ⟨rfl, hb⟩
  replace hB := bel_step hB hb
  replace g_a0 := Gd.step g_a0 hb
  replace g_a1 := Gd.step g_a1 hb
  replace g_a2 := Gd.step g_a2 hb
  clear hb
  go_wp2_with fail
  go_at_call 21
  refine (light3_c A0 A1 A2 n0 c0 n1 c1 n2 c2 (by omega) (by omega) (by omega) _ true (by simp <;> omega)).mono ?_
  rintro e w2 ⟨rfl, hb⟩
  replace hB := bel_step hB hb
  replace g_a0 := Gd.step g_a0 hb
  replace g_a1 := Gd.step g_a1 hb
  replace g_a2 := Gd.step g_a2 hb
  clear hb
  go_wp2_with fail
  go_at_call 31
  refine (trim_2 g_a1 (by omega)).mono ?_
  rintro e w3 ⟨v, rfl, Qk1, nk1, ck1, zk1, rfl, i_k1, g_k1, hb⟩
  replace hB := bel_step hB hb
  replace g_a0 := Gd.step g_a0 hb
  replace g_a1 := Gd.step g_a1 hb
  replace g_a2 := Gd.step g_a2 hb
  clear hb
  have hlf : ((nk1 : Int) == 0) = false := by
    have h8 : nk1 ≠ 0 := fun e9 => hz.out (by have h9 := g_k1.out.at_.len; rw [e9] at h9; rw [← i_k1.out.v, List.eq_nil_of_length_eq_zero h9]; rfl)
    simp; omega
  clear g_k1 i_k1
  go_wp2_with fail
  go_at_call 20
  refine (mgcd_o g_a0 g_a1 (by omega)).mono ?_
  rintro e w4 ⟨v, rfl, Qk2, nk2, ck2, zk2, rfl, i_k2, g_k2, hb⟩
  replace hB := bel_step hB hb
  replace g_a0 := Gd.step g_a0 hb
  replace g_a1 := Gd.step g_a1 hb
  replace g_a2 := Gd.step g_a2 hb
  clear hb
  clear hlf
  go_wp2_with fail
  go_at_call 12
  refine (minv_o g_a0 g_a1 (by omega) (by omega)).mono ?_
  rintro e w5 ⟨Qk3, nk3, ck3, zk3, evk3, rfl, o_k3, g_k3, hb⟩
  replace hB := bel_step hB hb
  replace g_a0 := Gd.step g_a0 hb
  replace g_a1 := Gd.step g_a1 hb
  replace g_a2 := Gd.step g_a2 hb
  replace g_k2 := Gd.step g_k2 hb
  clear hb
  obtain ⟨e1, e0⟩ : zk3 = [] ∧ evk3 = 5 := by
    rcases o_k3.out with ⟨h, _⟩ | ⟨_, _, h1, h2⟩ | ⟨_, h, _⟩
    · exact absurd h hz.out
    · exact ⟨h1, h2⟩
    · exact absurd h hgg.out
  subst e0
  clear o_k3
  go_wp2_with fail
  go_at_call 17
  refine (mmul_o g_a0 g_k3 g_a1 (by omega) (by omega)).mono ?_
  rintro e w6 ⟨Qk4, nk4, ck4, zk4, evk4, rfl, o_k4, g_k4, hb⟩
  replace hB := bel_step hB hb
  replace g_a0 := Gd.step g_a0 hb
  replace g_a1 := Gd.step g_a1 hb
  replace g_a2 := Gd.step g_a2 hb
  replace g_k2 := Gd.step g_k2 hb
  replace g_k3 := Gd.step g_k3 hb
  clear hb
  obtain ⟨i_k4, e0⟩ := ModO.ok o_k4 (hz.out)
  subst e0
  clear o_k4
  go_wp2_with fail
  go_at_call 11
  refine (one_r 1 (Wx _ (by omega)) _).mono ?_
  rintro e w7 ⟨v, rfl, Qk5, nk5, ck5, zk5, rfl, i_k5, g_k5, hb⟩
  replace hB := bel_step hB hb
  replace g_a0 := Gd.step g_a0 hb
  replace g_a1 := Gd.step g_a1 hb
  replace g_a2 := Gd.step g_a2 hb
  replace g_k2 := Gd.step g_k2 hb
  replace g_k3 := Gd.step g_k3 hb
  replace g_k4 := Gd.step g_k4 hb
  clear hb
  go_wp2_with fail
  go_at_call 32
  refine (div_2 g_k5 g_a1 (by omega) (by omega) hz.out).mono ?_
  rintro e w8 ⟨v1, v2, rfl, ⟨Qqk6, nqk6, cqk6, zqk6, rfl, -, -, -⟩, ⟨Qk6, nk6, ck6, zk6, rfl, i_k6, g_k6, hb⟩⟩
  replace hB := bel_step hB hb
  replace g_a0 := Gd.step g_a0 hb
  replace g_a1 := Gd.step g_a1 hb
  replace g_a2 := Gd.step g_a2 hb
  replace g_k2 := Gd.step g_k2 hb
  replace g_k3 := Gd.step g_k3 hb
  replace g_k4 := Gd.step g_k4 hb
  replace g_k5 := Gd.step g_k5 hb
  clear hb
  rw [i_k5.out.v] at i_k6
  clear g_k5
  clear i_k5
  go_wp2_with fail
  go_at_call 11
  refine (one_r 1 (Wx _ (by omega)) _).mono ?_
  rintro e w9 ⟨v, rfl, Qk7, nk7, ck7, zk7, rfl, i_k7, g_k7, hb⟩
  replace hB := bel_step hB hb
  replace g_a0 := Gd.step g_a0 hb
  replace g_a1 := Gd.step g_a1 hb
  replace g_a2 := Gd.step g_a2 hb
  replace g_k2 := Gd.step g_k2 hb
  replace g_k3 := Gd.step g_k3 hb
  replace g_k4 := Gd.step g_k4 hb
  replace g_k6 := Gd.step g_k6 hb
  clear hb
  go_wp2_with fail
  go_at_call 19
  refine (sameM g_k2 g_k7 (by omega) (by omega) false (decide_eq_false (fun e9 => hgg.out (by rw [← i_k2.out.v, e9]; exact i_k7.out.v)))).mono ?_
  rintro e w10 ⟨rfl, hb⟩
  replace hB := bel_step hB hb
  replace g_a0 := Gd.step g_a0 hb
  replace g_a1 := Gd.step g_a1 hb
  replace g_a2 := Gd.step g_a2 hb
  replace g_k2 := Gd.step g_k2 hb
  replace g_k3 := Gd.step g_k3 hb
  replace g_k4 := Gd.step g_k4 hb
  replace g_k6 := Gd.step g_k6 hb
  replace g_k7 := Gd.step g_k7 hb
  clear hb
  clear g_k7
  clear g_k3
  clear g_k4
  clear g_k6
  go_wp2_with fail
  go_at_call 32
  refine (div_2 g_a0 g_k2 (by omega) (by omega) (by rw [i_k2.out.v]; have := gc_pos (a := V xs0) hp.out; omega)).mono ?_
  rintro e w11 ⟨v1, v2, rfl, ⟨Qqk8, nqk8, cqk8, zqk8, rfl, -, -, -⟩, ⟨Qk8, nk8, ck8, zk8, rfl, i_k8, g_k8, hb⟩⟩
  replace hB := bel_step hB hb
  replace g_a0 := Gd.step g_a0 hb
  replace g_a1 := Gd.step g_a1 hb
  replace g_a2 := Gd.step g_a2 hb
  replace g_k2 := Gd.step g_k2 hb
  clear hb
  obtain rfl : nk8 = 0 := nlen0 g_k8 i_k8 (by rw [i_k2.out.v]; exact Int.emod_eq_zero_of_dvd (gc_dvd_l p0.out))
  clear g_k8 i_k8
  go_wp2_with fail
  go_at_call 32
  refine (div_2 g_a1 g_k2 (by omega) (by omega) (by rw [i_k2.out.v]; have := gc_pos (a := V xs0) hp.out; omega)).mono ?_
  rintro e w12 ⟨v1, v2, rfl, ⟨Qqk9, nqk9, cqk9, zqk9, rfl, -, -, -⟩, ⟨Qk9, nk9, ck9, zk9, rfl, i_k9, g_k9, hb⟩⟩
  replace hB := bel_step hB hb
  replace g_a0 := Gd.step g_a0 hb
  replace g_a1 := Gd.step g_a1 hb
  replace g_a2 := Gd.step g_a2 hb
  replace g_k2 := Gd.step g_k2 hb
  clear hb
  obtain rfl : nk9 = 0 := nlen0 g_k9 i_k9 (by rw [i_k2.out.v]; exact Int.emod_eq_zero_of_dvd (gc_dvd_r (Int.le_of_lt hp.out)))
  clear g_k9 i_k9
  go_wp2_with fail
  go_at_call 32
  refine (div_2 g_a0 g_a2 (by omega) (by omega) hdd.out).mono ?_
  rintro e w13 ⟨v1, v2, rfl, ⟨Qqk10, nqk10, cqk10, zqk10, rfl, -, -, -⟩, ⟨Qk10, nk10, ck10, zk10, rfl, i_k10, g_k10, hb⟩⟩
  replace hB := bel_step hB hb
  replace g_a0 := Gd.step g_a0 hb
  replace g_a1 := Gd.step g_a1 hb
  replace g_a2 := Gd.step g_a2 hb
  replace g_k2 := Gd.step g_k2 hb
  clear hb
  have hq_k10 : nk10 ≤ 5 := g_k10.out.le
  obtain rfl : nk10 = 0 := nlen0 g_k10 i_k10 (htt.out)
  clear g_k10 i_k10
  go_wp2_with fail
  go_at_call 32
  refine (div_2 g_a1 g_a2 (by omega) (by omega) hdd.out).mono ?_
  rintro e w14 ⟨v1, v2, rfl, ⟨Qqk11, nqk11, cqk11, zqk11, rfl, -, -, -⟩, ⟨Qk11, nk11, ck11, zk11, rfl, i_k11, g_k11, hb⟩⟩
  replace hB := bel_step hB hb
  replace g_a0 := Gd.step g_a0 hb
  replace g_a1 := Gd.step g_a1 hb
  replace g_a2 := Gd.step g_a2 hb
  replace g_k2 := Gd.step g_k2 hb
  clear hb
  have hq_k11 : nk11 ≤ 5 := g_k11.out.le
  have hp_k11 : 0 < nk11 := nlenP g_k11 i_k11 (huu.out)
  clear g_k11 i_k11
  have hpp : (0 : Int) < (nk11 : Int) := by omega
  go_wp2_with fail
  go_at_call 32
  refine (div_2 g_k2 g_a2 (by omega) (by omega) hdd.out).mono ?_
  rintro e w15 ⟨v1, v2, rfl, ⟨Qqk12, nqk12, cqk12, zqk12, rfl, -, -, -⟩, ⟨Qk12, nk12, ck12, zk12, rfl, i_k12, g_k12, hb⟩⟩
  replace hB := bel_step hB hb
  replace g_a0 := Gd.step g_a0 hb
  replace g_a1 := Gd.step g_a1 hb
  replace g_a2 := Gd.step g_a2 hb
  replace g_k2 := Gd.step g_k2 hb
  clear hb
  have hq_k12 : nk12 ≤ 5 := g_k12.out.le
  clear g_k12 i_k12
  go_wp2_with fail
  go_ret
  exact ⟨rfl, hB.out⟩

theorem walk (w : World) (A0 : Option Addr) (n0 c0 : Nat) (xs0 : List Int) (A1 : Option Addr) (n1 c1 : Nat) (xs1 : List Int) (A2 : Option Addr) (n2 c2 : Nat) (xs2 : List Int)
    (hr0 : Rd w w.heap.size A0 n0 xs0) (hn0 : n0 ≤ c0) (hm0 : c0 ≤ 9223372036854775807) (hr1 : Rd w w.heap.size A1 n1 xs1) (hn1 : n1 ≤ c1) (hm1 : c1 ≤ 9223372036854775807) (hr2 : Rd w w.heap.size A2 n2 xs2) (hn2 : n2 ≤ c2) (hm2 : c2 ≤ 9223372036854775807) :
    Calls Try.prog 6 #[.slice A0 n0 c0, .slice A1 n1 c1, .slice A2 n2 c2] w fun e w' => e = .returned (.bool true) ∧ Below w.heap.size w w' := by
  by_cases h0 : n0 ≤ 5
  · by_cases h1 : n1 ≤ 5
    · by_cases h2 : n2 ≤ 5
      · by_cases hv : V xs1 = 0
        · exact walk_z w A0 n0 c0 xs0 A1 n1 c1 xs1 A2 n2 c2 xs2 hr0 hn0 hm0 hr1 hn1 hm1 hr2 hn2 hm2 h0 h1 h2 hv
        · by_cases hd : V xs2 = 0
          · by_cases hg : gc (V xs0) (V xs1) = 1
            · exact walk_cz w A0 n0 c0 xs0 A1 n1 c1 xs1 A2 n2 c2 xs2 hr0 hn0 hm0 hr1 hn1 hm1 hr2 hn2 hm2 h0 h1 h2 hv hg hd
            · exact walk_ez w A0 n0 c0 xs0 A1 n1 c1 xs1 A2 n2 c2 xs2 hr0 hn0 hm0 hr1 hn1 hm1 hr2 hn2 hm2 h0 h1 h2 hv hg hd
          · by_cases ht : V xs0 % V xs2 = 0
            · by_cases hu : V xs1 % V xs2 = 0
              · by_cases hg : gc (V xs0) (V xs1) = 1
                · exact walk_cd w A0 n0 c0 xs0 A1 n1 c1 xs1 A2 n2 c2 xs2 hr0 hn0 hm0 hr1 hn1 hm1 hr2 hn2 hm2 h0 h1 h2 hv hg hd ht hu
                · exact walk_ed w A0 n0 c0 xs0 A1 n1 c1 xs1 A2 n2 c2 xs2 hr0 hn0 hm0 hr1 hn1 hm1 hr2 hn2 hm2 h0 h1 h2 hv hg hd ht hu
              · by_cases hg : gc (V xs0) (V xs1) = 1
                · exact walk_cm w A0 n0 c0 xs0 A1 n1 c1 xs1 A2 n2 c2 xs2 hr0 hn0 hm0 hr1 hn1 hm1 hr2 hn2 hm2 h0 h1 h2 hv hg hd ht hu
                · exact walk_em w A0 n0 c0 xs0 A1 n1 c1 xs1 A2 n2 c2 xs2 hr0 hn0 hm0 hr1 hn1 hm1 hr2 hn2 hm2 h0 h1 h2 hv hg hd ht hu
            · by_cases hg : gc (V xs0) (V xs1) = 1
              · exact walk_cn w A0 n0 c0 xs0 A1 n1 c1 xs1 A2 n2 c2 xs2 hr0 hn0 hm0 hr1 hn1 hm1 hr2 hn2 hm2 h0 h1 h2 hv hg hd ht
              · exact walk_en w A0 n0 c0 xs0 A1 n1 c1 xs1 A2 n2 c2 xs2 hr0 hn0 hm0 hr1 hn1 hm1 hr2 hn2 hm2 h0 h1 h2 hv hg hd ht
      · exact walk_h1 w A0 n0 c0 xs0 A1 n1 c1 xs1 A2 n2 c2 xs2 hr0 hn0 hm0 hr1 hn1 hm1 hr2 hn2 hm2 (by omega)
    · exact walk_h1 w A0 n0 c0 xs0 A1 n1 c1 xs1 A2 n2 c2 xs2 hr0 hn0 hm0 hr1 hn1 hm1 hr2 hn2 hm2 (by omega)
  · exact walk_h1 w A0 n0 c0 xs0 A1 n1 c1 xs1 A2 n2 c2 xs2 hr0 hn0 hm0 hr1 hn1 hm1 hr2 hn2 hm2 (by omega)
end modularInverse
end Go.Proofs.Ytopajockmcgpmaa
