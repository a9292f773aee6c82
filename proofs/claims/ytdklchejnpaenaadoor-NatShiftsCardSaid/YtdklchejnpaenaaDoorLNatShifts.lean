/- The walk of NatShifts. -/
import Derived.Test.YtdklchejnpaenaaDoorUni2
namespace Go.Proofs.YtdklchejnpaenaaDoor
open Go Go.RowKit
namespace natShifts
open Wd Sti Nt
set_option linter.unusedVariables false

set_option maxRecDepth 100000 in
set_option maxHeartbeats 8000000 in
theorem walk_h (w : World) (A0 : Option Addr) (n0 c0 : Nat) (xs0 : List Int) (A1 : Option Addr) (n1 c1 : Nat) (xs1 : List Int) (a2 : Int)
    (hr0 : Rd w w.heap.size A0 n0 xs0) (hn0 : n0 ≤ c0) (hm0 : c0 ≤ 9223372036854775807) (hr1 : Rd w w.heap.size A1 n1 xs1) (hn1 : n1 ≤ c1) (hm1 : c1 ≤ 9223372036854775807) (wf2 : (Lit.int .i64 a2).wf = true) (hl : 12 < n0 ∨ 12 < n1) :
    Calls Tryd.prog 9 #[.slice A0 n0 c0, .slice A1 n1 c1, .int .i64 a2] w fun e w' => e = .returned (.bool true) ∧ Below w.heap.size w w' := by
  have r_a0 : Hid (At w A0 n0 xs0) := Lib.hid hr0
  have r_a1 : Hid (At w A1 n1 xs1) := Lib.hid hr1
  have hB : Hid (Below w.heap.size w w) := Lib.hid (Below.refl _ w)
  clear hr0 hr1
  go_enter Tryd.func9, Tryd.ntmps9
  try simp only [List.append]
  go_wp2_with fail
  try go_at_call 10
  refine (lives_c _).mono ?_
  rintro e w1 ⟨rfl, hb⟩
  have hB := bel_step hB hb
  have r_a0 := At.step r_a0 hb
  have r_a1 := At.step r_a1 hb
  clear hb
  go_wp2_with fail
  try go_at_call 26
  refine (light_u n0 c0 n1 c1 (by omega) (by omega) false (by simp; omega)).mono ?_
  rintro e w2 ⟨rfl, hb⟩
  have hB := bel_step hB hb
  have r_a0 := At.step r_a0 hb
  have r_a1 := At.step r_a1 hb
  clear hb
  go_wp2_with fail
  go_ret
  exact ⟨rfl, hB.out⟩

set_option maxRecDepth 100000 in
set_option maxHeartbeats 8000000 in
theorem walk_z0 (w : World) (A0 : Option Addr) (n0 c0 : Nat) (xs0 : List Int) (A1 : Option Addr) (n1 c1 : Nat) (xs1 : List Int) (a2 : Int)
    (hr0 : Rd w w.heap.size A0 n0 xs0) (hn0 : n0 ≤ c0) (hm0 : c0 ≤ 9223372036854775807) (hr1 : Rd w w.heap.size A1 n1 xs1) (hn1 : n1 ≤ c1) (hm1 : c1 ≤ 9223372036854775807) (wf2 : (Lit.int .i64 a2).wf = true) (h0 : n0 ≤ 12) (h1 : n1 ≤ 12) (hv0 : V xs0 = 0) :
    Calls Tryd.prog 9 #[.slice A0 n0 c0, .slice A1 n1 c1, .int .i64 a2] w fun e w' => e = .returned (.bool true) ∧ Below w.heap.size w w' := by
  obtain ⟨p1, p2⟩ := Kit.pick_lt (n := a2) (m := 12) (by decide)
  obtain ⟨k, hk⟩ : ∃ k : Nat, Kit.pick a2 12 = k := ⟨(Kit.pick a2 12).toNat, by omega⟩
  have hk12 : k < 12 := by omega
  have HK := Lib.hid hk
  clear p1 p2 hk
  obtain ⟨m, hm, hml⟩ := bits_ex hr0
  obtain ⟨n, hn, hnl⟩ := bits_ex hr1
  have HM := Lib.hid hm
  have HN := Lib.hid hn
  clear hm hn
  have r_a0 : Hid (At w A0 n0 xs0) := Lib.hid hr0
  have r_a1 : Hid (At w A1 n1 xs1) := Lib.hid hr1
  have hB : Hid (Below w.heap.size w w) := Lib.hid (Below.refl _ w)
  clear hr0 hr1
  go_enter Tryd.func9, Tryd.ntmps9
  try simp only [List.append]
  go_wp2_with fail
  try go_at_call 10
  refine (lives_c _).mono ?_
  rintro e w1 ⟨rfl, hb⟩
  have hB := bel_step hB hb
  have r_a0 := At.step r_a0 hb
  have r_a1 := At.step r_a1 hb
  clear hb
  go_wp2_with fail
  try go_at_call 26
  refine (light_u n0 c0 n1 c1 (by omega) (by omega) true (by simp; omega)).mono ?_
  rintro e w2 ⟨rfl, hb⟩
  have hB := bel_step hB hb
  have r_a0 := At.step r_a0 hb
  have r_a1 := At.step r_a1 hb
  clear hb
  go_wp2_with fail
  try go_at_call 41
  refine (pick_u a2 12 wf2 (by decide) k HK.out).mono ?_
  rintro e w3 ⟨rfl, hb⟩
  have hB := bel_step hB hb
  have r_a0 := At.step r_a0 hb
  have r_a1 := At.step r_a1 hb
  clear hb
  have hmk := make_nat k (by omega)
  have g0 : Bk ((w3.alloc (.cells (us (List.replicate k 0)) 28)).alloc (.cells (us [1]) 28)) w3.heap.size 28 (us (List.replicate k 0)) := (Bk.new _ _ _).alloc _
  have g1 : Bk ((w3.alloc (.cells (us (List.replicate k 0)) 28)).alloc (.cells (us [1]) 28)) (w3.heap.size + 1) 28 (us [1]) := Bk.new' (by simp)
  have wo : Ws [1] := fun x hx => by simp at hx; subst hx; unfold Wd.W; omega
  obtain ⟨Ao, co, wo3, hap, r_o, hn_o, hc_o, hb⟩ := append_run (k := k) (c := 1) (m := 1) (ys := [1]) (B0 := w3.heap.size) 24 g0 (by simp) (Ws.zeros _) (g1.rd0 g1.lt wo rfl) (by omega) (Nat.le_refl _)
  replace hb : Below w3.heap.size w3 wo3 := ((below_alloc _).trans ((below_alloc _).mono (by simp))).trans hb
  have r_o := Lib.hid r_o
  clear g0 g1 wo
  have hap : Sem.run Tryd.prog (Builtin.append_ #[24, 24] 24 #[.slice (some ⟨w3.heap.size, 0, none⟩) k k, .slice (some ⟨w3.heap.size + 1, 0, none⟩) 1 1]) ((w3.alloc (.cells (us (List.replicate k 0)) 28)).alloc (.cells #[.int .u64 1] 28)) = .ok (.slice Ao (k + 1) co) wo3 := hap
  have hB := bel_step hB hb
  have r_a0 := At.step r_a0 hb
  have r_a1 := At.step r_a1 hb
  clear hb
  obtain ⟨w4, rfl⟩ : ∃ W, W = wo3 := ⟨_, rfl⟩
  go_wp2_with (at_builtin; refine wpList_append_eq rfl (.tmp 24) (.tmp 25) 24 rfl _ _ rfl rfl _ _ hap ?_)
  go_wp2_with fail
  try go_at_call 19
  refine (mul_u 25 r_a0 r_o (by omega) (by omega) (by omega) (by omega) (by omega) (by omega) (by omega)).mono ?_
  rintro e w5 ⟨v, rfl, Az1, nz1, cz1, z1, rfl, i_z1, r_z1, hc_z1, hk_z1, hb⟩
  have hB := bel_step hB hb
  have r_a0 := At.step r_a0 hb
  have r_a1 := At.step r_a1 hb
  have r_o := At.step r_o hb
  clear hb
  rw [V_shift k [1], show V [1] = 1 by decide, Int.mul_one] at i_z1
  clear r_o
  clear hap
  obtain ⟨Au, cu, wu, hap, r_u, hn_u, hc_u, hb⟩ := append_run (w := w5.alloc (.cells (us (List.replicate k 0)) 28)) (k := k) (c := c0) (B0 := w5.heap.size) 24 (Bk.new _ _ _) (by simp) (Ws.zeros _) (At.step r_a0 (below_alloc _)).out (by omega) (Nat.le_refl _)
  replace hb : Below w5.heap.size w5 wu := (below_alloc _).trans hb
  have r_u := Lib.hid r_u
  have hB := bel_step hB hb
  have r_a0 := At.step r_a0 hb
  have r_a1 := At.step r_a1 hb
  have r_z1 := At.step r_z1 hb
  clear hb
  obtain ⟨w6, rfl⟩ : ∃ W, W = wu := ⟨_, rfl⟩
  go_wp2_with (at_builtin; refine wpList_append_eq rfl (.tmp 31) (.tmp 32) 24 rfl _ _ rfl rfl _ _ hap ?_)
  go_wp2_with fail
  try go_at_call 19
  refine (mul_u 24 r_a0 r_a1 (by omega) (by omega) (by omega) (by omega) (by omega) (by omega) (by omega)).mono ?_
  rintro e w7 ⟨v, rfl, Az2, nz2, cz2, z2, rfl, i_z2, r_z2, hc_z2, hk_z2, hb⟩
  have hB := bel_step hB hb
  have r_a0 := At.step r_a0 hb
  have r_a1 := At.step r_a1 hb
  have r_z1 := At.step r_z1 hb
  have r_u := At.step r_u hb
  clear hb
  clear hap hmk
  obtain ⟨kq, hkq, hkql⟩ := bits_ex r_z2.out
  rw [i_z2.out.v] at hkq
  have HQ := Lib.hid hkq
  clear hkq
  go_wp2_with fail
  try go_at_call 23
  refine (bitsv_u r_a0 (by omega) (by omega) (by omega) m HM.out).mono ?_
  rintro e w8 ⟨rfl, hb⟩
  have hB := bel_step hB hb
  have r_a0 := At.step r_a0 hb
  have r_a1 := At.step r_a1 hb
  have r_z1 := At.step r_z1 hb
  have r_u := At.step r_u hb
  have r_z2 := At.step r_z2 hb
  clear hb
  go_wp2_with fail
  try go_at_call 23
  refine (bitsv_u r_a1 (by omega) (by omega) (by omega) n HN.out).mono ?_
  rintro e w9 ⟨rfl, hb⟩
  have hB := bel_step hB hb
  have r_a0 := At.step r_a0 hb
  have r_a1 := At.step r_a1 hb
  have r_z1 := At.step r_z1 hb
  have r_u := At.step r_u hb
  have r_z2 := At.step r_z2 hb
  clear hb
  go_wp2_with fail
  try go_at_call 40
  refine (nat_u r_z1 r_u (by omega) (by omega) true (decide_eq_true (by rw [i_z1.out.v, V_shift]; exact Int.mul_comm _ _))).mono ?_
  rintro e w10 ⟨rfl, hb⟩
  have hB := bel_step hB hb
  have r_a0 := At.step r_a0 hb
  have r_a1 := At.step r_a1 hb
  have r_z1 := At.step r_z1 hb
  have r_u := At.step r_u hb
  have r_z2 := At.step r_z2 hb
  clear hb
  have hm1 : m = 0 := HM.out.zero hv0
  subst hm1
  clear r_z1
  clear r_u
  have hq0 : kq = 0 := HQ.out.zero (by rw [hv0, Int.zero_mul])
  subst hq0
  go_wp2_with fail
  try go_at_call 23
  refine (bitsv_u r_z2 (by omega) (by omega) (by omega) 0 (by rw [i_z2.out.v]; exact HQ.out)).mono ?_
  rintro e w11 ⟨rfl, hb⟩
  have hB := bel_step hB hb
  have r_a0 := At.step r_a0 hb
  have r_a1 := At.step r_a1 hb
  have r_z2 := At.step r_z2 hb
  clear hb
  go_wp2_with fail
  go_ret
  exact ⟨rfl, hB.out⟩

set_option maxRecDepth 100000 in
set_option maxHeartbeats 8000000 in
theorem walk_z1 (w : World) (A0 : Option Addr) (n0 c0 : Nat) (xs0 : List Int) (A1 : Option Addr) (n1 c1 : Nat) (xs1 : List Int) (a2 : Int)
    (hr0 : Rd w w.heap.size A0 n0 xs0) (hn0 : n0 ≤ c0) (hm0 : c0 ≤ 9223372036854775807) (hr1 : Rd w w.heap.size A1 n1 xs1) (hn1 : n1 ≤ c1) (hm1 : c1 ≤ 9223372036854775807) (wf2 : (Lit.int .i64 a2).wf = true) (h0 : n0 ≤ 12) (h1 : n1 ≤ 12) (hv0 : V xs0 ≠ 0) (hv1 : V xs1 = 0) :
    Calls Tryd.prog 9 #[.slice A0 n0 c0, .slice A1 n1 c1, .int .i64 a2] w fun e w' => e = .returned (.bool true) ∧ Below w.heap.size w w' := by
  obtain ⟨p1, p2⟩ := Kit.pick_lt (n := a2) (m := 12) (by decide)
  obtain ⟨k, hk⟩ : ∃ k : Nat, Kit.pick a2 12 = k := ⟨(Kit.pick a2 12).toNat, by omega⟩
  have hk12 : k < 12 := by omega
  have HK := Lib.hid hk
  clear p1 p2 hk
  obtain ⟨m, hm, hml⟩ := bits_ex hr0
  obtain ⟨n, hn, hnl⟩ := bits_ex hr1
  have HM := Lib.hid hm
  have HN := Lib.hid hn
  clear hm hn
  have r_a0 : Hid (At w A0 n0 xs0) := Lib.hid hr0
  have r_a1 : Hid (At w A1 n1 xs1) := Lib.hid hr1
  have hB : Hid (Below w.heap.size w w) := Lib.hid (Below.refl _ w)
  clear hr0 hr1
  go_enter Tryd.func9, Tryd.ntmps9
  try simp only [List.append]
  go_wp2_with fail
  try go_at_call 10
  refine (lives_c _).mono ?_
  rintro e w1 ⟨rfl, hb⟩
  have hB := bel_step hB hb
  have r_a0 := At.step r_a0 hb
  have r_a1 := At.step r_a1 hb
  clear hb
  go_wp2_with fail
  try go_at_call 26
  refine (light_u n0 c0 n1 c1 (by omega) (by omega) true (by simp; omega)).mono ?_
  rintro e w2 ⟨rfl, hb⟩
  have hB := bel_step hB hb
  have r_a0 := At.step r_a0 hb
  have r_a1 := At.step r_a1 hb
  clear hb
  go_wp2_with fail
  try go_at_call 41
  refine (pick_u a2 12 wf2 (by decide) k HK.out).mono ?_
  rintro e w3 ⟨rfl, hb⟩
  have hB := bel_step hB hb
  have r_a0 := At.step r_a0 hb
  have r_a1 := At.step r_a1 hb
  clear hb
  have hmk := make_nat k (by omega)
  have g0 : Bk ((w3.alloc (.cells (us (List.replicate k 0)) 28)).alloc (.cells (us [1]) 28)) w3.heap.size 28 (us (List.replicate k 0)) := (Bk.new _ _ _).alloc _
  have g1 : Bk ((w3.alloc (.cells (us (List.replicate k 0)) 28)).alloc (.cells (us [1]) 28)) (w3.heap.size + 1) 28 (us [1]) := Bk.new' (by simp)
  have wo : Ws [1] := fun x hx => by simp at hx; subst hx; unfold Wd.W; omega
  obtain ⟨Ao, co, wo3, hap, r_o, hn_o, hc_o, hb⟩ := append_run (k := k) (c := 1) (m := 1) (ys := [1]) (B0 := w3.heap.size) 24 g0 (by simp) (Ws.zeros _) (g1.rd0 g1.lt wo rfl) (by omega) (Nat.le_refl _)
  replace hb : Below w3.heap.size w3 wo3 := ((below_alloc _).trans ((below_alloc _).mono (by simp))).trans hb
  have r_o := Lib.hid r_o
  clear g0 g1 wo
  have hap : Sem.run Tryd.prog (Builtin.append_ #[24, 24] 24 #[.slice (some ⟨w3.heap.size, 0, none⟩) k k, .slice (some ⟨w3.heap.size + 1, 0, none⟩) 1 1]) ((w3.alloc (.cells (us (List.replicate k 0)) 28)).alloc (.cells #[.int .u64 1] 28)) = .ok (.slice Ao (k + 1) co) wo3 := hap
  have hB := bel_step hB hb
  have r_a0 := At.step r_a0 hb
  have r_a1 := At.step r_a1 hb
  clear hb
  obtain ⟨w4, rfl⟩ : ∃ W, W = wo3 := ⟨_, rfl⟩
  go_wp2_with (at_builtin; refine wpList_append_eq rfl (.tmp 24) (.tmp 25) 24 rfl _ _ rfl rfl _ _ hap ?_)
  go_wp2_with fail
  try go_at_call 19
  refine (mul_u 25 r_a0 r_o (by omega) (by omega) (by omega) (by omega) (by omega) (by omega) (by omega)).mono ?_
  rintro e w5 ⟨v, rfl, Az1, nz1, cz1, z1, rfl, i_z1, r_z1, hc_z1, hk_z1, hb⟩
  have hB := bel_step hB hb
  have r_a0 := At.step r_a0 hb
  have r_a1 := At.step r_a1 hb
  have r_o := At.step r_o hb
  clear hb
  rw [V_shift k [1], show V [1] = 1 by decide, Int.mul_one] at i_z1
  clear r_o
  clear hap
  obtain ⟨Au, cu, wu, hap, r_u, hn_u, hc_u, hb⟩ := append_run (w := w5.alloc (.cells (us (List.replicate k 0)) 28)) (k := k) (c := c0) (B0 := w5.heap.size) 24 (Bk.new _ _ _) (by simp) (Ws.zeros _) (At.step r_a0 (below_alloc _)).out (by omega) (Nat.le_refl _)
  replace hb : Below w5.heap.size w5 wu := (below_alloc _).trans hb
  have r_u := Lib.hid r_u
  have hB := bel_step hB hb
  have r_a0 := At.step r_a0 hb
  have r_a1 := At.step r_a1 hb
  have r_z1 := At.step r_z1 hb
  clear hb
  obtain ⟨w6, rfl⟩ : ∃ W, W = wu := ⟨_, rfl⟩
  go_wp2_with (at_builtin; refine wpList_append_eq rfl (.tmp 31) (.tmp 32) 24 rfl _ _ rfl rfl _ _ hap ?_)
  go_wp2_with fail
  try go_at_call 19
  refine (mul_u 24 r_a0 r_a1 (by omega) (by omega) (by omega) (by omega) (by omega) (by omega) (by omega)).mono ?_
  rintro e w7 ⟨v, rfl, Az2, nz2, cz2, z2, rfl, i_z2, r_z2, hc_z2, hk_z2, hb⟩
  have hB := bel_step hB hb
  have r_a0 := At.step r_a0 hb
  have r_a1 := At.step r_a1 hb
  have r_z1 := At.step r_z1 hb
  have r_u := At.step r_u hb
  clear hb
  clear hap hmk
  obtain ⟨kq, hkq, hkql⟩ := bits_ex r_z2.out
  rw [i_z2.out.v] at hkq
  have HQ := Lib.hid hkq
  clear hkq
  go_wp2_with fail
  try go_at_call 23
  refine (bitsv_u r_a0 (by omega) (by omega) (by omega) m HM.out).mono ?_
  rintro e w8 ⟨rfl, hb⟩
  have hB := bel_step hB hb
  have r_a0 := At.step r_a0 hb
  have r_a1 := At.step r_a1 hb
  have r_z1 := At.step r_z1 hb
  have r_u := At.step r_u hb
  have r_z2 := At.step r_z2 hb
  clear hb
  go_wp2_with fail
  try go_at_call 23
  refine (bitsv_u r_a1 (by omega) (by omega) (by omega) n HN.out).mono ?_
  rintro e w9 ⟨rfl, hb⟩
  have hB := bel_step hB hb
  have r_a0 := At.step r_a0 hb
  have r_a1 := At.step r_a1 hb
  have r_z1 := At.step r_z1 hb
  have r_u := At.step r_u hb
  have r_z2 := At.step r_z2 hb
  clear hb
  go_wp2_with fail
  try go_at_call 40
  refine (nat_u r_z1 r_u (by omega) (by omega) true (decide_eq_true (by rw [i_z1.out.v, V_shift]; exact Int.mul_comm _ _))).mono ?_
  rintro e w10 ⟨rfl, hb⟩
  have hB := bel_step hB hb
  have r_a0 := At.step r_a0 hb
  have r_a1 := At.step r_a1 hb
  have r_z1 := At.step r_z1 hb
  have r_u := At.step r_u hb
  have r_z2 := At.step r_z2 hb
  clear hb
  have hm1 : 1 ≤ m := (HM.out.lo hv0).1
  have hme : ((m : Int) == 0) = false := by simp; omega
  go_wp2_with fail
  try go_at_call 23
  refine (bitsv_u r_z1 (by omega) (by omega) (by omega) (m + 64 * k) (by rw [i_z1.out.v]; exact HM.out.shift k hv0)).mono ?_
  rintro e w11 ⟨rfl, hb⟩
  have hB := bel_step hB hb
  have r_a0 := At.step r_a0 hb
  have r_a1 := At.step r_a1 hb
  have r_z1 := At.step r_z1 hb
  have r_u := At.step r_u hb
  have r_z2 := At.step r_z2 hb
  clear hb
  clear r_z1
  clear r_u
  have hn1 : n = 0 := HN.out.zero hv1
  subst hn1
  have hq0 : kq = 0 := HQ.out.zero (by rw [hv1, Int.mul_zero])
  subst hq0
  go_wp2_with fail
  try go_at_call 23
  refine (bitsv_u r_z2 (by omega) (by omega) (by omega) 0 (by rw [i_z2.out.v]; exact HQ.out)).mono ?_
  rintro e w12 ⟨rfl, hb⟩
  have hB := bel_step hB hb
  have r_a0 := At.step r_a0 hb
  have r_a1 := At.step r_a1 hb
  have r_z2 := At.step r_z2 hb
  clear hb
  go_wp2_with fail
  go_ret
  exact ⟨rfl, hB.out⟩

set_option maxRecDepth 100000 in
set_option maxHeartbeats 8000000 in
theorem walk_lt (w : World) (A0 : Option Addr) (n0 c0 : Nat) (xs0 : List Int) (A1 : Option Addr) (n1 c1 : Nat) (xs1 : List Int) (a2 : Int)
    (hr0 : Rd w w.heap.size A0 n0 xs0) (hn0 : n0 ≤ c0) (hm0 : c0 ≤ 9223372036854775807) (hr1 : Rd w w.heap.size A1 n1 xs1) (hn1 : n1 ≤ c1) (hm1 : c1 ≤ 9223372036854775807) (wf2 : (Lit.int .i64 a2).wf = true) (h0 : n0 ≤ 12) (h1 : n1 ≤ 12) (hv0 : V xs0 ≠ 0) (hv1 : V xs1 ≠ 0) (p0 : 0 ≤ V xs0) (p1 : 0 ≤ V xs1) (hv : V xs0 < V xs1) :
    Calls Tryd.prog 9 #[.slice A0 n0 c0, .slice A1 n1 c1, .int .i64 a2] w fun e w' => e = .returned (.bool true) ∧ Below w.heap.size w w' := by
  obtain ⟨p1, p2⟩ := Kit.pick_lt (n := a2) (m := 12) (by decide)
  obtain ⟨k, hk⟩ : ∃ k : Nat, Kit.pick a2 12 = k := ⟨(Kit.pick a2 12).toNat, by omega⟩
  have hk12 : k < 12 := by omega
  have HK := Lib.hid hk
  clear p1 p2 hk
  obtain ⟨m, hm, hml⟩ := bits_ex hr0
  obtain ⟨n, hn, hnl⟩ := bits_ex hr1
  have HM := Lib.hid hm
  have HN := Lib.hid hn
  clear hm hn
  have r_a0 : Hid (At w A0 n0 xs0) := Lib.hid hr0
  have r_a1 : Hid (At w A1 n1 xs1) := Lib.hid hr1
  have hB : Hid (Below w.heap.size w w) := Lib.hid (Below.refl _ w)
  clear hr0 hr1
  go_enter Tryd.func9, Tryd.ntmps9
  try simp only [List.append]
  go_wp2_with fail
  try go_at_call 10
  refine (lives_c _).mono ?_
  rintro e w1 ⟨rfl, hb⟩
  have hB := bel_step hB hb
  have r_a0 := At.step r_a0 hb
  have r_a1 := At.step r_a1 hb
  clear hb
  go_wp2_with fail
  try go_at_call 26
  refine (light_u n0 c0 n1 c1 (by omega) (by omega) true (by simp; omega)).mono ?_
  rintro e w2 ⟨rfl, hb⟩
  have hB := bel_step hB hb
  have r_a0 := At.step r_a0 hb
  have r_a1 := At.step r_a1 hb
  clear hb
  go_wp2_with fail
  try go_at_call 41
  refine (pick_u a2 12 wf2 (by decide) k HK.out).mono ?_
  rintro e w3 ⟨rfl, hb⟩
  have hB := bel_step hB hb
  have r_a0 := At.step r_a0 hb
  have r_a1 := At.step r_a1 hb
  clear hb
  have hmk := make_nat k (by omega)
  have g0 : Bk ((w3.alloc (.cells (us (List.replicate k 0)) 28)).alloc (.cells (us [1]) 28)) w3.heap.size 28 (us (List.replicate k 0)) := (Bk.new _ _ _).alloc _
  have g1 : Bk ((w3.alloc (.cells (us (List.replicate k 0)) 28)).alloc (.cells (us [1]) 28)) (w3.heap.size + 1) 28 (us [1]) := Bk.new' (by simp)
  have wo : Ws [1] := fun x hx => by simp at hx; subst hx; unfold Wd.W; omega
  obtain ⟨Ao, co, wo3, hap, r_o, hn_o, hc_o, hb⟩ := append_run (k := k) (c := 1) (m := 1) (ys := [1]) (B0 := w3.heap.size) 24 g0 (by simp) (Ws.zeros _) (g1.rd0 g1.lt wo rfl) (by omega) (Nat.le_refl _)
  replace hb : Below w3.heap.size w3 wo3 := ((below_alloc _).trans ((below_alloc _).mono (by simp))).trans hb
  have r_o := Lib.hid r_o
  clear g0 g1 wo
  have hap : Sem.run Tryd.prog (Builtin.append_ #[24, 24] 24 #[.slice (some ⟨w3.heap.size, 0, none⟩) k k, .slice (some ⟨w3.heap.size + 1, 0, none⟩) 1 1]) ((w3.alloc (.cells (us (List.replicate k 0)) 28)).alloc (.cells #[.int .u64 1] 28)) = .ok (.slice Ao (k + 1) co) wo3 := hap
  have hB := bel_step hB hb
  have r_a0 := At.step r_a0 hb
  have r_a1 := At.step r_a1 hb
  clear hb
  obtain ⟨w4, rfl⟩ : ∃ W, W = wo3 := ⟨_, rfl⟩
  go_wp2_with (at_builtin; refine wpList_append_eq rfl (.tmp 24) (.tmp 25) 24 rfl _ _ rfl rfl _ _ hap ?_)
  go_wp2_with fail
  try go_at_call 19
  refine (mul_u 25 r_a0 r_o (by omega) (by omega) (by omega) (by omega) (by omega) (by omega) (by omega)).mono ?_
  rintro e w5 ⟨v, rfl, Az1, nz1, cz1, z1, rfl, i_z1, r_z1, hc_z1, hk_z1, hb⟩
  have hB := bel_step hB hb
  have r_a0 := At.step r_a0 hb
  have r_a1 := At.step r_a1 hb
  have r_o := At.step r_o hb
  clear hb
  rw [V_shift k [1], show V [1] = 1 by decide, Int.mul_one] at i_z1
  clear r_o
  clear hap
  obtain ⟨Au, cu, wu, hap, r_u, hn_u, hc_u, hb⟩ := append_run (w := w5.alloc (.cells (us (List.replicate k 0)) 28)) (k := k) (c := c0) (B0 := w5.heap.size) 24 (Bk.new _ _ _) (by simp) (Ws.zeros _) (At.step r_a0 (below_alloc _)).out (by omega) (Nat.le_refl _)
  replace hb : Below w5.heap.size w5 wu := (below_alloc _).trans hb
  have r_u := Lib.hid r_u
  have hB := bel_step hB hb
  have r_a0 := At.step r_a0 hb
  have r_a1 := At.step r_a1 hb
  have r_z1 := At.step r_z1 hb
  clear hb
  obtain ⟨w6, rfl⟩ : ∃ W, W = wu := ⟨_, rfl⟩
  go_wp2_with (at_builtin; refine wpList_append_eq rfl (.tmp 31) (.tmp 32) 24 rfl _ _ rfl rfl _ _ hap ?_)
  go_wp2_with fail
  try go_at_call 19
  refine (mul_u 24 r_a0 r_a1 (by omega) (by omega) (by omega) (by omega) (by omega) (by omega) (by omega)).mono ?_
  rintro e w7 ⟨v, rfl, Az2, nz2, cz2, z2, rfl, i_z2, r_z2, hc_z2, hk_z2, hb⟩
  have hB := bel_step hB hb
  have r_a0 := At.step r_a0 hb
  have r_a1 := At.step r_a1 hb
  have r_z1 := At.step r_z1 hb
  have r_u := At.step r_u hb
  clear hb
  clear hap hmk
  obtain ⟨kq, hkq, hkql⟩ := bits_ex r_z2.out
  rw [i_z2.out.v] at hkq
  have HQ := Lib.hid hkq
  clear hkq
  go_wp2_with fail
  try go_at_call 23
  refine (bitsv_u r_a0 (by omega) (by omega) (by omega) m HM.out).mono ?_
  rintro e w8 ⟨rfl, hb⟩
  have hB := bel_step hB hb
  have r_a0 := At.step r_a0 hb
  have r_a1 := At.step r_a1 hb
  have r_z1 := At.step r_z1 hb
  have r_u := At.step r_u hb
  have r_z2 := At.step r_z2 hb
  clear hb
  go_wp2_with fail
  try go_at_call 23
  refine (bitsv_u r_a1 (by omega) (by omega) (by omega) n HN.out).mono ?_
  rintro e w9 ⟨rfl, hb⟩
  have hB := bel_step hB hb
  have r_a0 := At.step r_a0 hb
  have r_a1 := At.step r_a1 hb
  have r_z1 := At.step r_z1 hb
  have r_u := At.step r_u hb
  have r_z2 := At.step r_z2 hb
  clear hb
  go_wp2_with fail
  try go_at_call 40
  refine (nat_u r_z1 r_u (by omega) (by omega) true (decide_eq_true (by rw [i_z1.out.v, V_shift]; exact Int.mul_comm _ _))).mono ?_
  rintro e w10 ⟨rfl, hb⟩
  have hB := bel_step hB hb
  have r_a0 := At.step r_a0 hb
  have r_a1 := At.step r_a1 hb
  have r_z1 := At.step r_z1 hb
  have r_u := At.step r_u hb
  have r_z2 := At.step r_z2 hb
  clear hb
  have hm1 : 1 ≤ m := (HM.out.lo hv0).1
  have hme : ((m : Int) == 0) = false := by simp; omega
  go_wp2_with fail
  try go_at_call 23
  refine (bitsv_u r_z1 (by omega) (by omega) (by omega) (m + 64 * k) (by rw [i_z1.out.v]; exact HM.out.shift k hv0)).mono ?_
  rintro e w11 ⟨rfl, hb⟩
  have hB := bel_step hB hb
  have r_a0 := At.step r_a0 hb
  have r_a1 := At.step r_a1 hb
  have r_z1 := At.step r_z1 hb
  have r_u := At.step r_u hb
  have r_z2 := At.step r_z2 hb
  clear hb
  clear r_z1
  clear r_u
  have hn1 : 1 ≤ n := (HN.out.lo hv1).1
  have hne : ((n : Int) == 0) = false := by simp; omega
  have HKQ := Lib.hid (HM.out.mul p0 p1 HN.out HQ.out hv0 hv1)
  go_wp2_with fail
  try go_at_call 21
  refine (cmpv_u r_a0 r_a1 (by omega) (by omega) (-1) (cmp_lt' hv)).mono ?_
  rintro e w12 ⟨rfl, hb⟩
  have hB := bel_step hB hb
  have r_a0 := At.step r_a0 hb
  have r_a1 := At.step r_a1 hb
  have r_z2 := At.step r_z2 hb
  clear hb
  rcases HKQ.out with hkq | hkq
  · have hqe : ((kq : Int) == (m : Int) + (n : Int)) = true := by simp; omega
    go_wp2_with fail
    try go_at_call 23
    refine (bitsv_u r_z2 (by omega) (by omega) (by omega) kq (by rw [i_z2.out.v]; exact HQ.out)).mono ?_
    rintro e w13 ⟨rfl, hb⟩
    have hB := bel_step hB hb
    have r_a0 := At.step r_a0 hb
    have r_a1 := At.step r_a1 hb
    have r_z2 := At.step r_z2 hb
    clear hb
    have hle : m ≤ n := by
        rcases Nat.lt_or_ge n m with h | h
        · have := HN.out.lt HM.out h; omega
        · exact h
    rcases Nat.eq_or_lt_of_le hle with hmn | hmn
    · subst hmn
      go_wp2_with fail
      try go_at_call 21
      refine (cmpv_u r_a1 r_a0 (by omega) (by omega) (1) (cmp_gt' hv)).mono ?_
      rintro e w14 ⟨rfl, hb⟩
      have hB := bel_step hB hb
      have r_a0 := At.step r_a0 hb
      have r_a1 := At.step r_a1 hb
      have r_z2 := At.step r_z2 hb
      clear hb
      go_wp2_with fail
      try go_at_call 40
      refine (nat_u r_a0 r_a1 (by omega) (by omega) false (decide_eq_false (by omega))).mono ?_
      rintro e w15 ⟨rfl, hb⟩
      have hB := bel_step hB hb
      have r_a0 := At.step r_a0 hb
      have r_a1 := At.step r_a1 hb
      have r_z2 := At.step r_z2 hb
      clear hb
      go_wp2_with fail
      go_ret
      exact ⟨rfl, hB.out⟩
    · have hmf : ((m : Int) == (n : Int)) = false := by simp; omega
      have hmd : decide (m < n) = true := by simp; omega
      go_wp2_with fail
      try go_at_call 21
      refine (cmpv_u r_a1 r_a0 (by omega) (by omega) (1) (cmp_gt' hv)).mono ?_
      rintro e w14 ⟨rfl, hb⟩
      have hB := bel_step hB hb
      have r_a0 := At.step r_a0 hb
      have r_a1 := At.step r_a1 hb
      have r_z2 := At.step r_z2 hb
      clear hb
      go_wp2_with fail
      try go_at_call 40
      refine (nat_u r_a0 r_a1 (by omega) (by omega) false (decide_eq_false (by omega))).mono ?_
      rintro e w15 ⟨rfl, hb⟩
      have hB := bel_step hB hb
      have r_a0 := At.step r_a0 hb
      have r_a1 := At.step r_a1 hb
      have r_z2 := At.step r_z2 hb
      clear hb
      go_wp2_with fail
      go_ret
      exact ⟨rfl, hB.out⟩
  · have hqe : ((kq : Int) == (m : Int) + (n : Int)) = false := by simp; omega
    have hqf : ((kq : Int) == (m : Int) + (n : Int) - 1) = true := by simp; omega
    go_wp2_with fail
    try go_at_call 23
    refine (bitsv_u r_z2 (by omega) (by omega) (by omega) kq (by rw [i_z2.out.v]; exact HQ.out)).mono ?_
    rintro e w13 ⟨rfl, hb⟩
    have hB := bel_step hB hb
    have r_a0 := At.step r_a0 hb
    have r_a1 := At.step r_a1 hb
    have r_z2 := At.step r_z2 hb
    clear hb
    go_wp2_with fail
    try go_at_call 23
    refine (bitsv_u r_z2 (by omega) (by omega) (by omega) kq (by rw [i_z2.out.v]; exact HQ.out)).mono ?_
    rintro e w14 ⟨rfl, hb⟩
    have hB := bel_step hB hb
    have r_a0 := At.step r_a0 hb
    have r_a1 := At.step r_a1 hb
    have r_z2 := At.step r_z2 hb
    clear hb
    have hle : m ≤ n := by
        rcases Nat.lt_or_ge n m with h | h
        · have := HN.out.lt HM.out h; omega
        · exact h
    rcases Nat.eq_or_lt_of_le hle with hmn | hmn
    · subst hmn
      go_wp2_with fail
      try go_at_call 21
      refine (cmpv_u r_a1 r_a0 (by omega) (by omega) (1) (cmp_gt' hv)).mono ?_
      rintro e w15 ⟨rfl, hb⟩
      have hB := bel_step hB hb
      have r_a0 := At.step r_a0 hb
      have r_a1 := At.step r_a1 hb
      have r_z2 := At.step r_z2 hb
      clear hb
      go_wp2_with fail
      try go_at_call 40
      refine (nat_u r_a0 r_a1 (by omega) (by omega) false (decide_eq_false (by omega))).mono ?_
      rintro e w16 ⟨rfl, hb⟩
      have hB := bel_step hB hb
      have r_a0 := At.step r_a0 hb
      have r_a1 := At.step r_a1 hb
      have r_z2 := At.step r_z2 hb
      clear hb
      go_wp2_with fail
      go_ret
      exact ⟨rfl, hB.out⟩
    · have hmf : ((m : Int) == (n : Int)) = false := by simp; omega
      have hmd : decide (m < n) = true := by simp; omega
      go_wp2_with fail
      try go_at_call 21
      refine (cmpv_u r_a1 r_a0 (by omega) (by omega) (1) (cmp_gt' hv)).mono ?_
      rintro e w15 ⟨rfl, hb⟩
      have hB := bel_step hB hb
      have r_a0 := At.step r_a0 hb
      have r_a1 := At.step r_a1 hb
      have r_z2 := At.step r_z2 hb
      clear hb
      go_wp2_with fail
      try go_at_call 40
      refine (nat_u r_a0 r_a1 (by omega) (by omega) false (decide_eq_false (by omega))).mono ?_
      rintro e w16 ⟨rfl, hb⟩
      have hB := bel_step hB hb
      have r_a0 := At.step r_a0 hb
      have r_a1 := At.step r_a1 hb
      have r_z2 := At.step r_z2 hb
      clear hb
      go_wp2_with fail
      go_ret
      exact ⟨rfl, hB.out⟩

set_option maxRecDepth 100000 in
set_option maxHeartbeats 8000000 in
theorem walk_eq (w : World) (A0 : Option Addr) (n0 c0 : Nat) (xs0 : List Int) (A1 : Option Addr) (n1 c1 : Nat) (xs1 : List Int) (a2 : Int)
    (hr0 : Rd w w.heap.size A0 n0 xs0) (hn0 : n0 ≤ c0) (hm0 : c0 ≤ 9223372036854775807) (hr1 : Rd w w.heap.size A1 n1 xs1) (hn1 : n1 ≤ c1) (hm1 : c1 ≤ 9223372036854775807) (wf2 : (Lit.int .i64 a2).wf = true) (h0 : n0 ≤ 12) (h1 : n1 ≤ 12) (hv0 : V xs0 ≠ 0) (hv1 : V xs1 ≠ 0) (p0 : 0 ≤ V xs0) (p1 : 0 ≤ V xs1) (hv : V xs0 = V xs1) :
    Calls Tryd.prog 9 #[.slice A0 n0 c0, .slice A1 n1 c1, .int .i64 a2] w fun e w' => e = .returned (.bool true) ∧ Below w.heap.size w w' := by
  obtain ⟨p1, p2⟩ := Kit.pick_lt (n := a2) (m := 12) (by decide)
  obtain ⟨k, hk⟩ : ∃ k : Nat, Kit.pick a2 12 = k := ⟨(Kit.pick a2 12).toNat, by omega⟩
  have hk12 : k < 12 := by omega
  have HK := Lib.hid hk
  clear p1 p2 hk
  obtain ⟨m, hm, hml⟩ := bits_ex hr0
  obtain ⟨n, hn, hnl⟩ := bits_ex hr1
  have HM := Lib.hid hm
  have HN := Lib.hid hn
  clear hm hn
  have r_a0 : Hid (At w A0 n0 xs0) := Lib.hid hr0
  have r_a1 : Hid (At w A1 n1 xs1) := Lib.hid hr1
  have hB : Hid (Below w.heap.size w w) := Lib.hid (Below.refl _ w)
  clear hr0 hr1
  go_enter Tryd.func9, Tryd.ntmps9
  try simp only [List.append]
  go_wp2_with fail
  try go_at_call 10
  refine (lives_c _).mono ?_
  rintro e w1 ⟨rfl, hb⟩
  have hB := bel_step hB hb
  have r_a0 := At.step r_a0 hb
  have r_a1 := At.step r_a1 hb
  clear hb
  go_wp2_with fail
  try go_at_call 26
  refine (light_u n0 c0 n1 c1 (by omega) (by omega) true (by simp; omega)).mono ?_
  rintro e w2 ⟨rfl, hb⟩
  have hB := bel_step hB hb
  have r_a0 := At.step r_a0 hb
  have r_a1 := At.step r_a1 hb
  clear hb
  go_wp2_with fail
  try go_at_call 41
  refine (pick_u a2 12 wf2 (by decide) k HK.out).mono ?_
  rintro e w3 ⟨rfl, hb⟩
  have hB := bel_step hB hb
  have r_a0 := At.step r_a0 hb
  have r_a1 := At.step r_a1 hb
  clear hb
  have hmk := make_nat k (by omega)
  have g0 : Bk ((w3.alloc (.cells (us (List.replicate k 0)) 28)).alloc (.cells (us [1]) 28)) w3.heap.size 28 (us (List.replicate k 0)) := (Bk.new _ _ _).alloc _
  have g1 : Bk ((w3.alloc (.cells (us (List.replicate k 0)) 28)).alloc (.cells (us [1]) 28)) (w3.heap.size + 1) 28 (us [1]) := Bk.new' (by simp)
  have wo : Ws [1] := fun x hx => by simp at hx; subst hx; unfold Wd.W; omega
  obtain ⟨Ao, co, wo3, hap, r_o, hn_o, hc_o, hb⟩ := append_run (k := k) (c := 1) (m := 1) (ys := [1]) (B0 := w3.heap.size) 24 g0 (by simp) (Ws.zeros _) (g1.rd0 g1.lt wo rfl) (by omega) (Nat.le_refl _)
  replace hb : Below w3.heap.size w3 wo3 := ((below_alloc _).trans ((below_alloc _).mono (by simp))).trans hb
  have r_o := Lib.hid r_o
  clear g0 g1 wo
  have hap : Sem.run Tryd.prog (Builtin.append_ #[24, 24] 24 #[.slice (some ⟨w3.heap.size, 0, none⟩) k k, .slice (some ⟨w3.heap.size + 1, 0, none⟩) 1 1]) ((w3.alloc (.cells (us (List.replicate k 0)) 28)).alloc (.cells #[.int .u64 1] 28)) = .ok (.slice Ao (k + 1) co) wo3 := hap
  have hB := bel_step hB hb
  have r_a0 := At.step r_a0 hb
  have r_a1 := At.step r_a1 hb
  clear hb
  obtain ⟨w4, rfl⟩ : ∃ W, W = wo3 := ⟨_, rfl⟩
  go_wp2_with (at_builtin; refine wpList_append_eq rfl (.tmp 24) (.tmp 25) 24 rfl _ _ rfl rfl _ _ hap ?_)
  go_wp2_with fail
  try go_at_call 19
  refine (mul_u 25 r_a0 r_o (by omega) (by omega) (by omega) (by omega) (by omega) (by omega) (by omega)).mono ?_
  rintro e w5 ⟨v, rfl, Az1, nz1, cz1, z1, rfl, i_z1, r_z1, hc_z1, hk_z1, hb⟩
  have hB := bel_step hB hb
  have r_a0 := At.step r_a0 hb
  have r_a1 := At.step r_a1 hb
  have r_o := At.step r_o hb
  clear hb
  rw [V_shift k [1], show V [1] = 1 by decide, Int.mul_one] at i_z1
  clear r_o
  clear hap
  obtain ⟨Au, cu, wu, hap, r_u, hn_u, hc_u, hb⟩ := append_run (w := w5.alloc (.cells (us (List.replicate k 0)) 28)) (k := k) (c := c0) (B0 := w5.heap.size) 24 (Bk.new _ _ _) (by simp) (Ws.zeros _) (At.step r_a0 (below_alloc _)).out (by omega) (Nat.le_refl _)
  replace hb : Below w5.heap.size w5 wu := (below_alloc _).trans hb
  have r_u := Lib.hid r_u
  have hB := bel_step hB hb
  have r_a0 := At.step r_a0 hb
  have r_a1 := At.step r_a1 hb
  have r_z1 := At.step r_z1 hb
  clear hb
  obtain ⟨w6, rfl⟩ : ∃ W, W = wu := ⟨_, rfl⟩
  go_wp2_with (at_builtin; refine wpList_append_eq rfl (.tmp 31) (.tmp 32) 24 rfl _ _ rfl rfl _ _ hap ?_)
  go_wp2_with fail
  try go_at_call 19
  refine (mul_u 24 r_a0 r_a1 (by omega) (by omega) (by omega) (by omega) (by omega) (by omega) (by omega)).mono ?_
  rintro e w7 ⟨v, rfl, Az2, nz2, cz2, z2, rfl, i_z2, r_z2, hc_z2, hk_z2, hb⟩
  have hB := bel_step hB hb
  have r_a0 := At.step r_a0 hb
  have r_a1 := At.step r_a1 hb
  have r_z1 := At.step r_z1 hb
  have r_u := At.step r_u hb
  clear hb
  clear hap hmk
  obtain ⟨kq, hkq, hkql⟩ := bits_ex r_z2.out
  rw [i_z2.out.v] at hkq
  have HQ := Lib.hid hkq
  clear hkq
  go_wp2_with fail
  try go_at_call 23
  refine (bitsv_u r_a0 (by omega) (by omega) (by omega) m HM.out).mono ?_
  rintro e w8 ⟨rfl, hb⟩
  have hB := bel_step hB hb
  have r_a0 := At.step r_a0 hb
  have r_a1 := At.step r_a1 hb
  have r_z1 := At.step r_z1 hb
  have r_u := At.step r_u hb
  have r_z2 := At.step r_z2 hb
  clear hb
  go_wp2_with fail
  try go_at_call 23
  refine (bitsv_u r_a1 (by omega) (by omega) (by omega) n HN.out).mono ?_
  rintro e w9 ⟨rfl, hb⟩
  have hB := bel_step hB hb
  have r_a0 := At.step r_a0 hb
  have r_a1 := At.step r_a1 hb
  have r_z1 := At.step r_z1 hb
  have r_u := At.step r_u hb
  have r_z2 := At.step r_z2 hb
  clear hb
  go_wp2_with fail
  try go_at_call 40
  refine (nat_u r_z1 r_u (by omega) (by omega) true (decide_eq_true (by rw [i_z1.out.v, V_shift]; exact Int.mul_comm _ _))).mono ?_
  rintro e w10 ⟨rfl, hb⟩
  have hB := bel_step hB hb
  have r_a0 := At.step r_a0 hb
  have r_a1 := At.step r_a1 hb
  have r_z1 := At.step r_z1 hb
  have r_u := At.step r_u hb
  have r_z2 := At.step r_z2 hb
  clear hb
  have hm1 : 1 ≤ m := (HM.out.lo hv0).1
  have hme : ((m : Int) == 0) = false := by simp; omega
  go_wp2_with fail
  try go_at_call 23
  refine (bitsv_u r_z1 (by omega) (by omega) (by omega) (m + 64 * k) (by rw [i_z1.out.v]; exact HM.out.shift k hv0)).mono ?_
  rintro e w11 ⟨rfl, hb⟩
  have hB := bel_step hB hb
  have r_a0 := At.step r_a0 hb
  have r_a1 := At.step r_a1 hb
  have r_z1 := At.step r_z1 hb
  have r_u := At.step r_u hb
  have r_z2 := At.step r_z2 hb
  clear hb
  clear r_z1
  clear r_u
  have hn1 : 1 ≤ n := (HN.out.lo hv1).1
  have hne : ((n : Int) == 0) = false := by simp; omega
  have HKQ := Lib.hid (HM.out.mul p0 p1 HN.out HQ.out hv0 hv1)
  go_wp2_with fail
  try go_at_call 21
  refine (cmpv_u r_a0 r_a1 (by omega) (by omega) (0) (cmp_eq' hv)).mono ?_
  rintro e w12 ⟨rfl, hb⟩
  have hB := bel_step hB hb
  have r_a0 := At.step r_a0 hb
  have r_a1 := At.step r_a1 hb
  have r_z2 := At.step r_z2 hb
  clear hb
  rcases HKQ.out with hkq | hkq
  · have hqe : ((kq : Int) == (m : Int) + (n : Int)) = true := by simp; omega
    go_wp2_with fail
    try go_at_call 23
    refine (bitsv_u r_z2 (by omega) (by omega) (by omega) kq (by rw [i_z2.out.v]; exact HQ.out)).mono ?_
    rintro e w13 ⟨rfl, hb⟩
    have hB := bel_step hB hb
    have r_a0 := At.step r_a0 hb
    have r_a1 := At.step r_a1 hb
    have r_z2 := At.step r_z2 hb
    clear hb
    have hmn : m = n := by have h1 := HM.out; rw [hv] at h1; exact h1.uniq HN.out
    subst hmn
    go_wp2_with fail
    try go_at_call 21
    refine (cmpv_u r_a1 r_a0 (by omega) (by omega) (0) (cmp_eq' hv.symm)).mono ?_
    rintro e w14 ⟨rfl, hb⟩
    have hB := bel_step hB hb
    have r_a0 := At.step r_a0 hb
    have r_a1 := At.step r_a1 hb
    have r_z2 := At.step r_z2 hb
    clear hb
    go_wp2_with fail
    try go_at_call 40
    refine (nat_u r_a0 r_a1 (by omega) (by omega) true (decide_eq_true hv)).mono ?_
    rintro e w15 ⟨rfl, hb⟩
    have hB := bel_step hB hb
    have r_a0 := At.step r_a0 hb
    have r_a1 := At.step r_a1 hb
    have r_z2 := At.step r_z2 hb
    clear hb
    go_wp2_with fail
    go_ret
    exact ⟨rfl, hB.out⟩
  · have hqe : ((kq : Int) == (m : Int) + (n : Int)) = false := by simp; omega
    have hqf : ((kq : Int) == (m : Int) + (n : Int) - 1) = true := by simp; omega
    go_wp2_with fail
    try go_at_call 23
    refine (bitsv_u r_z2 (by omega) (by omega) (by omega) kq (by rw [i_z2.out.v]; exact HQ.out)).mono ?_
    rintro e w13 ⟨rfl, hb⟩
    have hB := bel_step hB hb
    have r_a0 := At.step r_a0 hb
    have r_a1 := At.step r_a1 hb
    have r_z2 := At.step r_z2 hb
    clear hb
    go_wp2_with fail
    try go_at_call 23
    refine (bitsv_u r_z2 (by omega) (by omega) (by omega) kq (by rw [i_z2.out.v]; exact HQ.out)).mono ?_
    rintro e w14 ⟨rfl, hb⟩
    have hB := bel_step hB hb
    have r_a0 := At.step r_a0 hb
    have r_a1 := At.step r_a1 hb
    have r_z2 := At.step r_z2 hb
    clear hb
    have hmn : m = n := by have h1 := HM.out; rw [hv] at h1; exact h1.uniq HN.out
    subst hmn
    go_wp2_with fail
    try go_at_call 21
    refine (cmpv_u r_a1 r_a0 (by omega) (by omega) (0) (cmp_eq' hv.symm)).mono ?_
    rintro e w15 ⟨rfl, hb⟩
    have hB := bel_step hB hb
    have r_a0 := At.step r_a0 hb
    have r_a1 := At.step r_a1 hb
    have r_z2 := At.step r_z2 hb
    clear hb
    go_wp2_with fail
    try go_at_call 40
    refine (nat_u r_a0 r_a1 (by omega) (by omega) true (decide_eq_true hv)).mono ?_
    rintro e w16 ⟨rfl, hb⟩
    have hB := bel_step hB hb
    have r_a0 := At.step r_a0 hb
    have r_a1 := At.step r_a1 hb
    have r_z2 := At.step r_z2 hb
    clear hb
    go_wp2_with fail
    go_ret
    exact ⟨rfl, hB.out⟩

set_option maxRecDepth 100000 in
set_option maxHeartbeats 8000000 in
theorem walk_gt (w : World) (A0 : Option Addr) (n0 c0 : Nat) (xs0 : List Int) (A1 : Option Addr) (n1 c1 : Nat) (xs1 : List Int) (a2 : Int)
    (hr0 : Rd w w.heap.size A0 n0 xs0) (hn0 : n0 ≤ c0) (hm0 : c0 ≤ 9223372036854775807) (hr1 : Rd w w.heap.size A1 n1 xs1) (hn1 : n1 ≤ c1) (hm1 : c1 ≤ 9223372036854775807) (wf2 : (Lit.int .i64 a2).wf = true) (h0 : n0 ≤ 12) (h1 : n1 ≤ 12) (hv0 : V xs0 ≠ 0) (hv1 : V xs1 ≠ 0) (p0 : 0 ≤ V xs0) (p1 : 0 ≤ V xs1) (hv : V xs1 < V xs0) :
    Calls Tryd.prog 9 #[.slice A0 n0 c0, .slice A1 n1 c1, .int .i64 a2] w fun e w' => e = .returned (.bool true) ∧ Below w.heap.size w w' := by
  obtain ⟨p1, p2⟩ := Kit.pick_lt (n := a2) (m := 12) (by decide)
  obtain ⟨k, hk⟩ : ∃ k : Nat, Kit.pick a2 12 = k := ⟨(Kit.pick a2 12).toNat, by omega⟩
  have hk12 : k < 12 := by omega
  have HK := Lib.hid hk
  clear p1 p2 hk
  obtain ⟨m, hm, hml⟩ := bits_ex hr0
  obtain ⟨n, hn, hnl⟩ := bits_ex hr1
  have HM := Lib.hid hm
  have HN := Lib.hid hn
  clear hm hn
  have r_a0 : Hid (At w A0 n0 xs0) := Lib.hid hr0
  have r_a1 : Hid (At w A1 n1 xs1) := Lib.hid hr1
  have hB : Hid (Below w.heap.size w w) := Lib.hid (Below.refl _ w)
  clear hr0 hr1
  go_enter Tryd.func9, Tryd.ntmps9
  try simp only [List.append]
  go_wp2_with fail
  try go_at_call 10
  refine (lives_c _).mono ?_
  rintro e w1 ⟨rfl, hb⟩
  have hB := bel_step hB hb
  have r_a0 := At.step r_a0 hb
  have r_a1 := At.step r_a1 hb
  clear hb
  go_wp2_with fail
  try go_at_call 26
  refine (light_u n0 c0 n1 c1 (by omega) (by omega) true (by simp; omega)).mono ?_
  rintro e w2 ⟨rfl, hb⟩
  have hB := bel_step hB hb
  have r_a0 := At.step r_a0 hb
  have r_a1 := At.step r_a1 hb
  clear hb
  go_wp2_with fail
  try go_at_call 41
  refine (pick_u a2 12 wf2 (by decide) k HK.out).mono ?_
  rintro e w3 ⟨rfl, hb⟩
  have hB := bel_step hB hb
  have r_a0 := At.step r_a0 hb
  have r_a1 := At.step r_a1 hb
  clear hb
  have hmk := make_nat k (by omega)
  have g0 : Bk ((w3.alloc (.cells (us (List.replicate k 0)) 28)).alloc (.cells (us [1]) 28)) w3.heap.size 28 (us (List.replicate k 0)) := (Bk.new _ _ _).alloc _
  have g1 : Bk ((w3.alloc (.cells (us (List.replicate k 0)) 28)).alloc (.cells (us [1]) 28)) (w3.heap.size + 1) 28 (us [1]) := Bk.new' (by simp)
  have wo : Ws [1] := fun x hx => by simp at hx; subst hx; unfold Wd.W; omega
  obtain ⟨Ao, co, wo3, hap, r_o, hn_o, hc_o, hb⟩ := append_run (k := k) (c := 1) (m := 1) (ys := [1]) (B0 := w3.heap.size) 24 g0 (by simp) (Ws.zeros _) (g1.rd0 g1.lt wo rfl) (by omega) (Nat.le_refl _)
  replace hb : Below w3.heap.size w3 wo3 := ((below_alloc _).trans ((below_alloc _).mono (by simp))).trans hb
  have r_o := Lib.hid r_o
  clear g0 g1 wo
  have hap : Sem.run Tryd.prog (Builtin.append_ #[24, 24] 24 #[.slice (some ⟨w3.heap.size, 0, none⟩) k k, .slice (some ⟨w3.heap.size + 1, 0, none⟩) 1 1]) ((w3.alloc (.cells (us (List.replicate k 0)) 28)).alloc (.cells #[.int .u64 1] 28)) = .ok (.slice Ao (k + 1) co) wo3 := hap
  have hB := bel_step hB hb
  have r_a0 := At.step r_a0 hb
  have r_a1 := At.step r_a1 hb
  clear hb
  obtain ⟨w4, rfl⟩ : ∃ W, W = wo3 := ⟨_, rfl⟩
  go_wp2_with (at_builtin; refine wpList_append_eq rfl (.tmp 24) (.tmp 25) 24 rfl _ _ rfl rfl _ _ hap ?_)
  go_wp2_with fail
  try go_at_call 19
  refine (mul_u 25 r_a0 r_o (by omega) (by omega) (by omega) (by omega) (by omega) (by omega) (by omega)).mono ?_
  rintro e w5 ⟨v, rfl, Az1, nz1, cz1, z1, rfl, i_z1, r_z1, hc_z1, hk_z1, hb⟩
  have hB := bel_step hB hb
  have r_a0 := At.step r_a0 hb
  have r_a1 := At.step r_a1 hb
  have r_o := At.step r_o hb
  clear hb
  rw [V_shift k [1], show V [1] = 1 by decide, Int.mul_one] at i_z1
  clear r_o
  clear hap
  obtain ⟨Au, cu, wu, hap, r_u, hn_u, hc_u, hb⟩ := append_run (w := w5.alloc (.cells (us (List.replicate k 0)) 28)) (k := k) (c := c0) (B0 := w5.heap.size) 24 (Bk.new _ _ _) (by simp) (Ws.zeros _) (At.step r_a0 (below_alloc _)).out (by omega) (Nat.le_refl _)
  replace hb : Below w5.heap.size w5 wu := (below_alloc _).trans hb
  have r_u := Lib.hid r_u
  have hB := bel_step hB hb
  have r_a0 := At.step r_a0 hb
  have r_a1 := At.step r_a1 hb
  have r_z1 := At.step r_z1 hb
  clear hb
  obtain ⟨w6, rfl⟩ : ∃ W, W = wu := ⟨_, rfl⟩
  go_wp2_with (at_builtin; refine wpList_append_eq rfl (.tmp 31) (.tmp 32) 24 rfl _ _ rfl rfl _ _ hap ?_)
  go_wp2_with fail
  try go_at_call 19
  refine (mul_u 24 r_a0 r_a1 (by omega) (by omega) (by omega) (by omega) (by omega) (by omega) (by omega)).mono ?_
  rintro e w7 ⟨v, rfl, Az2, nz2, cz2, z2, rfl, i_z2, r_z2, hc_z2, hk_z2, hb⟩
  have hB := bel_step hB hb
  have r_a0 := At.step r_a0 hb
  have r_a1 := At.step r_a1 hb
  have r_z1 := At.step r_z1 hb
  have r_u := At.step r_u hb
  clear hb
  clear hap hmk
  obtain ⟨kq, hkq, hkql⟩ := bits_ex r_z2.out
  rw [i_z2.out.v] at hkq
  have HQ := Lib.hid hkq
  clear hkq
  go_wp2_with fail
  try go_at_call 23
  refine (bitsv_u r_a0 (by omega) (by omega) (by omega) m HM.out).mono ?_
  rintro e w8 ⟨rfl, hb⟩
  have hB := bel_step hB hb
  have r_a0 := At.step r_a0 hb
  have r_a1 := At.step r_a1 hb
  have r_z1 := At.step r_z1 hb
  have r_u := At.step r_u hb
  have r_z2 := At.step r_z2 hb
  clear hb
  go_wp2_with fail
  try go_at_call 23
  refine (bitsv_u r_a1 (by omega) (by omega) (by omega) n HN.out).mono ?_
  rintro e w9 ⟨rfl, hb⟩
  have hB := bel_step hB hb
  have r_a0 := At.step r_a0 hb
  have r_a1 := At.step r_a1 hb
  have r_z1 := At.step r_z1 hb
  have r_u := At.step r_u hb
  have r_z2 := At.step r_z2 hb
  clear hb
  go_wp2_with fail
  try go_at_call 40
  refine (nat_u r_z1 r_u (by omega) (by omega) true (decide_eq_true (by rw [i_z1.out.v, V_shift]; exact Int.mul_comm _ _))).mono ?_
  rintro e w10 ⟨rfl, hb⟩
  have hB := bel_step hB hb
  have r_a0 := At.step r_a0 hb
  have r_a1 := At.step r_a1 hb
  have r_z1 := At.step r_z1 hb
  have r_u := At.step r_u hb
  have r_z2 := At.step r_z2 hb
  clear hb
  have hm1 : 1 ≤ m := (HM.out.lo hv0).1
  have hme : ((m : Int) == 0) = false := by simp; omega
  go_wp2_with fail
  try go_at_call 23
  refine (bitsv_u r_z1 (by omega) (by omega) (by omega) (m + 64 * k) (by rw [i_z1.out.v]; exact HM.out.shift k hv0)).mono ?_
  rintro e w11 ⟨rfl, hb⟩
  have hB := bel_step hB hb
  have r_a0 := At.step r_a0 hb
  have r_a1 := At.step r_a1 hb
  have r_z1 := At.step r_z1 hb
  have r_u := At.step r_u hb
  have r_z2 := At.step r_z2 hb
  clear hb
  clear r_z1
  clear r_u
  have hn1 : 1 ≤ n := (HN.out.lo hv1).1
  have hne : ((n : Int) == 0) = false := by simp; omega
  have HKQ := Lib.hid (HM.out.mul p0 p1 HN.out HQ.out hv0 hv1)
  go_wp2_with fail
  try go_at_call 21
  refine (cmpv_u r_a0 r_a1 (by omega) (by omega) (1) (cmp_gt' hv)).mono ?_
  rintro e w12 ⟨rfl, hb⟩
  have hB := bel_step hB hb
  have r_a0 := At.step r_a0 hb
  have r_a1 := At.step r_a1 hb
  have r_z2 := At.step r_z2 hb
  clear hb
  rcases HKQ.out with hkq | hkq
  · have hqe : ((kq : Int) == (m : Int) + (n : Int)) = true := by simp; omega
    go_wp2_with fail
    try go_at_call 23
    refine (bitsv_u r_z2 (by omega) (by omega) (by omega) kq (by rw [i_z2.out.v]; exact HQ.out)).mono ?_
    rintro e w13 ⟨rfl, hb⟩
    have hB := bel_step hB hb
    have r_a0 := At.step r_a0 hb
    have r_a1 := At.step r_a1 hb
    have r_z2 := At.step r_z2 hb
    clear hb
    have hle : n ≤ m := by
        rcases Nat.lt_or_ge m n with h | h
        · have := HM.out.lt HN.out h; omega
        · exact h
    rcases Nat.eq_or_lt_of_le hle with hmn | hmn
    · subst hmn
      go_wp2_with fail
      try go_at_call 21
      refine (cmpv_u r_a1 r_a0 (by omega) (by omega) (-1) (cmp_lt' hv)).mono ?_
      rintro e w14 ⟨rfl, hb⟩
      have hB := bel_step hB hb
      have r_a0 := At.step r_a0 hb
      have r_a1 := At.step r_a1 hb
      have r_z2 := At.step r_z2 hb
      clear hb
      go_wp2_with fail
      try go_at_call 40
      refine (nat_u r_a0 r_a1 (by omega) (by omega) false (decide_eq_false (by omega))).mono ?_
      rintro e w15 ⟨rfl, hb⟩
      have hB := bel_step hB hb
      have r_a0 := At.step r_a0 hb
      have r_a1 := At.step r_a1 hb
      have r_z2 := At.step r_z2 hb
      clear hb
      go_wp2_with fail
      go_ret
      exact ⟨rfl, hB.out⟩
    · have hmf : ((m : Int) == (n : Int)) = false := by simp; omega
      have hmd : decide (m < n) = false := by simp; omega
      go_wp2_with fail
      try go_at_call 21
      refine (cmpv_u r_a1 r_a0 (by omega) (by omega) (-1) (cmp_lt' hv)).mono ?_
      rintro e w14 ⟨rfl, hb⟩
      have hB := bel_step hB hb
      have r_a0 := At.step r_a0 hb
      have r_a1 := At.step r_a1 hb
      have r_z2 := At.step r_z2 hb
      clear hb
      go_wp2_with fail
      try go_at_call 40
      refine (nat_u r_a0 r_a1 (by omega) (by omega) false (decide_eq_false (by omega))).mono ?_
      rintro e w15 ⟨rfl, hb⟩
      have hB := bel_step hB hb
      have r_a0 := At.step r_a0 hb
      have r_a1 := At.step r_a1 hb
      have r_z2 := At.step r_z2 hb
      clear hb
      go_wp2_with fail
      go_ret
      exact ⟨rfl, hB.out⟩
  · have hqe : ((kq : Int) == (m : Int) + (n : Int)) = false := by simp; omega
    have hqf : ((kq : Int) == (m : Int) + (n : Int) - 1) = true := by simp; omega
    go_wp2_with fail
    try go_at_call 23
    refine (bitsv_u r_z2 (by omega) (by omega) (by omega) kq (by rw [i_z2.out.v]; exact HQ.out)).mono ?_
    rintro e w13 ⟨rfl, hb⟩
    have hB := bel_step hB hb
    have r_a0 := At.step r_a0 hb
    have r_a1 := At.step r_a1 hb
    have r_z2 := At.step r_z2 hb
    clear hb
    go_wp2_with fail
    try go_at_call 23
    refine (bitsv_u r_z2 (by omega) (by omega) (by omega) kq (by rw [i_z2.out.v]; exact HQ.out)).mono ?_
    rintro e w14 ⟨rfl, hb⟩
    have hB := bel_step hB hb
    have r_a0 := At.step r_a0 hb
    have r_a1 := At.step r_a1 hb
    have r_z2 := At.step r_z2 hb
    clear hb
    have hle : n ≤ m := by
        rcases Nat.lt_or_ge m n with h | h
        · have := HM.out.lt HN.out h; omega
        · exact h
    rcases Nat.eq_or_lt_of_le hle with hmn | hmn
    · subst hmn
      go_wp2_with fail
      try go_at_call 21
      refine (cmpv_u r_a1 r_a0 (by omega) (by omega) (-1) (cmp_lt' hv)).mono ?_
      rintro e w15 ⟨rfl, hb⟩
      have hB := bel_step hB hb
      have r_a0 := At.step r_a0 hb
      have r_a1 := At.step r_a1 hb
      have r_z2 := At.step r_z2 hb
      clear hb
      go_wp2_with fail
      try go_at_call 40
      refine (nat_u r_a0 r_a1 (by omega) (by omega) false (decide_eq_false (by omega))).mono ?_
      rintro e w16 ⟨rfl, hb⟩
      have hB := bel_step hB hb
      have r_a0 := At.step r_a0 hb
      have r_a1 := At.step r_a1 hb
      have r_z2 := At.step r_z2 hb
      clear hb
      go_wp2_with fail
      go_ret
      exact ⟨rfl, hB.out⟩
    · have hmf : ((m : Int) == (n : Int)) = false := by simp; omega
      have hmd : decide (m < n) = false := by simp; omega
      go_wp2_with fail
      try go_at_call 21
      refine (cmpv_u r_a1 r_a0 (by omega) (by omega) (-1) (cmp_lt' hv)).mono ?_
      rintro e w15 ⟨rfl, hb⟩
      have hB := bel_step hB hb
      have r_a0 := At.step r_a0 hb
      have r_a1 := At.step r_a1 hb
      have r_z2 := At.step r_z2 hb
      clear hb
      go_wp2_with fail
      try go_at_call 40
      refine (nat_u r_a0 r_a1 (by omega) (by omega) false (decide_eq_false (by omega))).mono ?_
      rintro e w16 ⟨rfl, hb⟩
      have hB := bel_step hB hb
      have r_a0 := At.step r_a0 hb
      have r_a1 := At.step r_a1 hb
      have r_z2 := At.step r_z2 hb
      clear hb
      go_wp2_with fail
      go_ret
      exact ⟨rfl, hB.out⟩

set_option maxRecDepth 100000 in
set_option maxHeartbeats 8000000 in
theorem walk (w : World) (A0 : Option Addr) (n0 c0 : Nat) (xs0 : List Int) (A1 : Option Addr) (n1 c1 : Nat) (xs1 : List Int) (a2 : Int)
    (hr0 : Rd w w.heap.size A0 n0 xs0) (hn0 : n0 ≤ c0) (hm0 : c0 ≤ 9223372036854775807) (hr1 : Rd w w.heap.size A1 n1 xs1) (hn1 : n1 ≤ c1) (hm1 : c1 ≤ 9223372036854775807) (wf2 : (Lit.int .i64 a2).wf = true) :
    Calls Tryd.prog 9 #[.slice A0 n0 c0, .slice A1 n1 c1, .int .i64 a2] w fun e w' => e = .returned (.bool true) ∧ Below w.heap.size w w' := by
  have p0 := V_nonneg hr0.ws
  have p1 := V_nonneg hr1.ws
  by_cases h0 : n0 ≤ 12
  · by_cases h1 : n1 ≤ 12
    · by_cases hv0 : V xs0 = 0
      · exact walk_z0 w A0 n0 c0 xs0 A1 n1 c1 xs1 a2 hr0 hn0 hm0 hr1 hn1 hm1 wf2 h0 h1 hv0
      · by_cases hv1 : V xs1 = 0
        · exact walk_z1 w A0 n0 c0 xs0 A1 n1 c1 xs1 a2 hr0 hn0 hm0 hr1 hn1 hm1 wf2 h0 h1 hv0 hv1
        · rcases Int.lt_trichotomy (V xs0) (V xs1) with h | h | h
          · exact walk_lt w A0 n0 c0 xs0 A1 n1 c1 xs1 a2 hr0 hn0 hm0 hr1 hn1 hm1 wf2 h0 h1 hv0 hv1 p0 p1 h
          · exact walk_eq w A0 n0 c0 xs0 A1 n1 c1 xs1 a2 hr0 hn0 hm0 hr1 hn1 hm1 wf2 h0 h1 hv0 hv1 p0 p1 h
          · exact walk_gt w A0 n0 c0 xs0 A1 n1 c1 xs1 a2 hr0 hn0 hm0 hr1 hn1 hm1 wf2 h0 h1 hv0 hv1 p0 p1 h
    · exact walk_h w A0 n0 c0 xs0 A1 n1 c1 xs1 a2 hr0 hn0 hm0 hr1 hn1 hm1 wf2 (by omega)
  · exact walk_h w A0 n0 c0 xs0 A1 n1 c1 xs1 a2 hr0 hn0 hm0 hr1 hn1 hm1 wf2 (by omega)
end natShifts
end Go.Proofs.YtdklchejnpaenaaDoor
