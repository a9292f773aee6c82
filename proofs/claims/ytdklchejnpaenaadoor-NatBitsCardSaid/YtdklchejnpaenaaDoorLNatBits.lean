/- The walk of NatBits. -/
import Derived.Test.YtdklchejnpaenaaDoorBitM
import Derived.Deep.RegionLaw
namespace Go.Proofs.YtdklchejnpaenaaDoor
open Go Go.RowKit
namespace natBits
open Wd Sti Nt
set_option linter.unusedVariables false

set_option maxRecDepth 100000 in
set_option maxHeartbeats 8000000 in
theorem walk_h (w : World) (A0 : Option Addr) (n0 c0 : Nat) (xs0 : List Int) (a1 a2 : Int)
    (hr0 : Rd w w.heap.size A0 n0 xs0) (hn0 : n0 ≤ c0) (hm0 : c0 ≤ 9223372036854775807) (wf1 : (Lit.int .i64 a1).wf = true) (wf2 : (Lit.int .i64 a2).wf = true) (hl : 12 < n0) :
    Calls Tryd.prog 8 #[.slice A0 n0 c0, .int .i64 a1, .int .i64 a2] w fun e w' => e = .returned (.bool true) ∧ Below w.heap.size w w' := by
  have r_a0 : Hid (At w A0 n0 xs0) := Lib.hid hr0
  have hB : Hid (Below w.heap.size w w) := Lib.hid (Below.refl _ w)
  clear hr0
  go_enter Tryd.func8, Tryd.ntmps8
  try simp only [List.append]
  go_wp2_with fail
  try go_at_call 10
  refine (lives_c _).mono ?_
  rintro e w1 ⟨rfl, hb⟩
  have hB := bel_step hB hb
  have r_a0 := At.step r_a0 hb
  clear hb
  go_wp2_with fail
  go_ret
  exact ⟨rfl, hB.out⟩

set_option maxRecDepth 100000 in
set_option maxHeartbeats 8000000 in
theorem walk_z0 (w : World) (ad : Addr) (n0 c0 : Nat) (xs0 : List Int) (a1 a2 : Int)
    (hr0 : Rd w w.heap.size (some ad) n0 xs0) (hn0 : n0 ≤ c0) (hm0 : c0 ≤ 9223372036854775807) (wf1 : (Lit.int .i64 a1).wf = true) (wf2 : (Lit.int .i64 a2).wf = true) (h0 : n0 ≤ 12) (i k nb : Nat) (HI : Hid (Kit.pick a1 832 = i)) (hi : i < 832) (HK : Hid (Kit.pick a2 13 = k)) (hk : k < 13) (HNB : Hid (BitsR (V xs0) nb)) (hnb : nb ≤ 64 * n0) (hv0 : V xs0 = 0) (hq : (n0 : Int) ≤ (i : Int) / 64) (hw : V xs0 / 2 ^ i % 2 ≠ 1) :
    Calls Tryd.prog 8 #[.slice (some ad) n0 c0, .int .i64 a1, .int .i64 a2] w fun e w' => e = .returned (.bool true) ∧ Below w.heap.size w w' := by
  have HW : Hid (decide (V xs0 / 2 ^ i % 2 = 1) = false) := Lib.hid (decide_eq_false hw)
  have HLU := Lib.hid (low_up xs0 k (min k n0) (by rw [hr0.len]))
  obtain rfl : nb = 0 := HNB.out.zero hv0
  have r_a0 : Hid (At w (some ad) n0 xs0) := Lib.hid hr0
  have hB : Hid (Below w.heap.size w w) := Lib.hid (Below.refl _ w)
  clear hr0
  go_enter Tryd.func8, Tryd.ntmps8
  try simp only [List.append]
  go_wp2_with fail
  try go_at_call 10
  refine (lives_c _).mono ?_
  rintro e w1 ⟨rfl, hb⟩
  have hB := bel_step hB hb
  have r_a0 := At.step r_a0 hb
  clear hb
  go_wp2_with fail
  try go_at_call 41
  refine (pick_u a1 832 wf1 (by decide) i HI.out).mono ?_
  rintro e w2 ⟨rfl, hb⟩
  have hB := bel_step hB hb
  have r_a0 := At.step r_a0 hb
  clear hb
  go_wp2_with fail
  try go_at_call 23
  refine (bitsv_u r_a0 (by omega) (by omega) (by omega) 0 HNB.out).mono ?_
  rintro e w3 ⟨rfl, hb⟩
  have hB := bel_step hB hb
  have r_a0 := At.step r_a0 hb
  clear hb
  go_wp2_with fail
  try go_at_call 41
  refine (pick_u a2 13 wf2 (by decide) k HK.out).mono ?_
  rintro e w4 ⟨rfl, hb⟩
  have hB := bel_step hB hb
  have r_a0 := At.step r_a0 hb
  clear hb
  go_wp2_with fail
  try go_at_call 25
  refine (lowk_u k k r_a0 (by omega) (by omega) (by omega) (by omega) (by omega)).mono ?_
  rintro e w5 ⟨v, rfl, ⟨Az1, nz1, cz1, z1, rfl, i_z1, r_z1, hc_z1, hk_z1, hb⟩⟩
  have hB := bel_step hB hb
  have r_a0 := At.step r_a0 hb
  clear hb
  go_wp2_with fail
  have hmk := make_nat k (by omega)
  obtain ⟨M, hM⟩ : ∃ M : Nat, min k n0 = M := ⟨_, rfl⟩
  rw [hM] at HLU
  have hm1 : M ≤ n0 := by omega
  have hm2 : M ≤ k := by omega
  have hmin : min (k : Int) (n0 : Int) = (M : Int) := by omega
  clear hM
  have hb := Below.drew (Below.refl w5.heap.size w5)
  obtain ⟨Au, cu, wu, hap, r_u, hn_u, hc_u, hbb⟩ := append_run (w := w5.drew.alloc (.cells (us (List.replicate k 0)) 28)) (k := k) (m := n0 - M) (c := c0 - M) (B0 := w5.heap.size) 24 (Bk.new _ _ _) (by simp) (Ws.zeros _) (tail_rd (At.step (At.step r_a0 hb) (below_alloc _)).out hm1 hn0) (by omega) (Nat.le_refl _)
  replace hb : Below w5.heap.size w5 wu := (hb.trans (below_alloc (w := w5.drew) _)).trans hbb
  have r_u := Lib.hid r_u
  clear hbb
  have hB := bel_step hB hb
  have r_a0 := At.step r_a0 hb
  have r_z1 := At.step r_z1 hb
  clear hb
  obtain ⟨T, hT⟩ : ∃ T, (if c0 = M then some ad else some (ad.add M)) = T := ⟨_, rfl⟩
  rw [hT] at hap
  have hap : Sem.run Tryd.prog (Builtin.append_ #[24, 24] 24 #[.slice (some ⟨w5.heap.size, 0, none⟩) k k, .slice T (n0 - M) (c0 - M)]) ((w5.alloc (.cells (us (List.replicate k 0)) 28)).drew) = .ok (.slice Au (k + (n0 - M)) cu) wu := hap
  refine wp_region_any (by kernel_rfl) ?_
  change wpAny _ _ _ _ _ _ _ (World.drew _)
  refine wpAny_take (i := 0) (v := ?v0) rfl (by kernel_rfl) (by kernel_rfl) (by kernel_rfl) (fun _ _ _ h => h) (Or.inl ⟨by rfl, ?y0⟩) ?nx0
  case y0 => ((intro w; go_simp); try with_reducible rfl)
  refine wpAny_take (i := 2) (v := ?v2) rfl (by kernel_rfl) (by kernel_rfl) (by kernel_rfl) (fun _ _ _ h => h) (Or.inl ⟨by rfl, ?y2⟩) ?nx2
  case y2 => ((intro w; go_simp); try with_reducible rfl)
  refine wpAny_take (i := 3) (v := ?v3) rfl (by kernel_rfl) (by kernel_rfl) (by kernel_rfl) (fun _ _ _ h => h) (Or.inl ⟨by rfl, ?y3⟩) ?nx3
  case y3 => ((intro w; go_simp); try with_reducible rfl)
  refine wpAny_take (i := 4) (v := ?v4) rfl (by kernel_rfl) (by kernel_rfl) (by kernel_rfl) (fun _ _ _ h => h) (Or.inl ⟨by rfl, ?y4⟩) ?nx4
  case y4 => ((intro w; go_simp); try with_reducible rfl)
  refine wpAny_take (i := 5) (v := ?v5) rfl (by kernel_rfl) (by kernel_rfl) (by kernel_rfl) (fun _ _ _ h => h) (Or.inl ⟨by rfl, ?y5⟩) ?nx5
  case y5 => ((intro w; go_simp); try with_reducible rfl)
  refine wpAny_take (i := 6) (v := ?v6) rfl (by kernel_rfl) (by kernel_rfl) (by kernel_rfl) (fun _ _ _ h => h) (Or.inl ⟨by rfl, ?y6⟩) ?nx6
  case y6 => ((intro w; go_simp); try with_reducible rfl)
  refine wpAny_take (i := 7) (v := ?v7) rfl (by kernel_rfl) (by kernel_rfl) (by kernel_rfl) (fun _ _ _ h => h) (Or.inl ⟨by rfl, ?y7⟩) ?nx7
  case y7 => ((intro w; go_simp); try with_reducible rfl)
  refine wpAny_ready (rs := [1]) (by kernel_rfl) (by simp) ?_
  refine AllReady.cons rfl (fun K hK => ?_) AllReady.nil
  go_simp
  refine hK _ _ ?_
  clear hK K
  refine wpAny_ready (rs := [8]) (by kernel_rfl) (by simp) ?_
  refine AllReady.cons (o := { dst := some 56, op := .call { callee := .builtin .append, args := #[.tmp 49, .tmp 55], argTypes := #[24, 24] }, type := 24, pos := "law.go:155", after := #[{ on := 1, ground := .data }, { on := 7, ground := .data }], guard := none }) rfl (fun K hK => ?_) AllReady.nil
  refine of_wanted (by kernel_rfl) ?_
  refine op_append_eq (.tmp 49) (.tmp 55) 24 rfl _ _ rfl rfl _ _ hap ?_
  try go_simp
  refine hK _ _ ?_
  clear hK K
  refine wpAny_ready (rs := [9]) (by kernel_rfl) (by simp) ?_
  refine AllReady.cons rfl (fun K hK => ?_) AllReady.nil
  go_simp
  refine hK _ _ ?_
  clear hK K
  refine wpAny_done (by kernel_rfl) ?_ _
  obtain ⟨w6, rfl⟩ : ∃ W, W = wu := ⟨_, rfl⟩
  clear hap hmk hmin hT
  go_wp2_with fail
  try go_at_call 14
  refine (fit13_u r_a0 (by omega) (by omega) (by omega)).mono ?_
  rintro e w7 ⟨Af, zf, rfl, r_f, v_f, hb⟩
  have hB := bel_step hB hb
  have r_a0 := At.step r_a0 hb
  have r_z1 := At.step r_z1 hb
  have r_u := At.step r_u hb
  clear hb
  go_wp2_with fail
  try go_at_call 22
  refine (trim_u 12 r_a0 (by omega) (by omega) (by omega) (by omega)).mono ?_
  rintro e w8 ⟨v, rfl, ⟨Az2, nz2, cz2, z2, rfl, i_z2, r_z2, hc_z2, hk_z2, hb⟩⟩
  have hB := bel_step hB hb
  have r_a0 := At.step r_a0 hb
  have r_z1 := At.step r_z1 hb
  have r_u := At.step r_u hb
  have r_f := At.step r_f hb
  clear hb
  obtain rfl : nz2 = 0 := len_zero r_z2 i_z2 hv0
  go_wp2_with fail
  try go_at_call 40
  refine (nat_u r_f r_a0 (by omega) (by omega) true (decide_eq_true (v_f.out))).mono ?_
  rintro e w9 ⟨rfl, hb⟩
  have hB := bel_step hB hb
  have r_a0 := At.step r_a0 hb
  have r_z1 := At.step r_z1 hb
  have r_u := At.step r_u hb
  have r_f := At.step r_f hb
  have r_z2 := At.step r_z2 hb
  clear hb
  go_wp2_with fail
  try go_at_call 40
  refine (nat_u r_z2 r_a0 (by omega) (by omega) true (decide_eq_true (i_z2.out.v))).mono ?_
  rintro e w10 ⟨rfl, hb⟩
  have hB := bel_step hB hb
  have r_a0 := At.step r_a0 hb
  have r_z1 := At.step r_z1 hb
  have r_u := At.step r_u hb
  have r_f := At.step r_f hb
  have r_z2 := At.step r_z2 hb
  clear hb
  go_wp2_with fail
  try go_at_call 39
  refine (trimd_u r_z2 (by omega) true (decide_eq_true i_z2.out.tr)).mono ?_
  rintro e w11 ⟨rfl, hb⟩
  have hB := bel_step hB hb
  have r_a0 := At.step r_a0 hb
  have r_z1 := At.step r_z1 hb
  have r_u := At.step r_u hb
  have r_f := At.step r_f hb
  have r_z2 := At.step r_z2 hb
  clear hb
  clear r_f
  go_wp2_with fail
  try go_at_call 24
  refine (bitk_u i (by omega) r_a0 false HW.out).mono ?_
  rintro e w12 ⟨rfl, hb⟩
  have hB := bel_step hB hb
  have r_a0 := At.step r_a0 hb
  have r_z1 := At.step r_z1 hb
  have r_u := At.step r_u hb
  have r_z2 := At.step r_z2 hb
  clear hb
  go_wp2_with fail
  try go_at_call 18
  refine (add_u 26 r_z1 r_u (by omega) (by omega) (by omega)).mono ?_
  rintro e w13 ⟨v, rfl, ⟨Az3, nz3, cz3, z3, rfl, i_z3, r_z3, hc_z3, hk_z3, hb⟩⟩
  have hB := bel_step hB hb
  have r_a0 := At.step r_a0 hb
  have r_z1 := At.step r_z1 hb
  have r_u := At.step r_u hb
  have r_z2 := At.step r_z2 hb
  clear hb
  go_wp2_with fail
  try go_at_call 40
  refine (nat_u r_z3 r_a0 (by omega) (by omega) true (decide_eq_true (by rw [i_z3.out.v, i_z1.out.v, V_append, V_zeros, List.length_replicate]; have := HLU.out; omega))).mono ?_
  rintro e w14 ⟨rfl, hb⟩
  have hB := bel_step hB hb
  have r_a0 := At.step r_a0 hb
  have r_z1 := At.step r_z1 hb
  have r_u := At.step r_u hb
  have r_z2 := At.step r_z2 hb
  have r_z3 := At.step r_z3 hb
  clear hb
  go_wp2_with fail
  go_ret
  exact ⟨rfl, hB.out⟩

set_option maxRecDepth 100000 in
set_option maxHeartbeats 8000000 in
theorem walk_z1 (w : World) (ad : Addr) (n0 c0 : Nat) (xs0 : List Int) (a1 a2 : Int)
    (hr0 : Rd w w.heap.size (some ad) n0 xs0) (hn0 : n0 ≤ c0) (hm0 : c0 ≤ 9223372036854775807) (wf1 : (Lit.int .i64 a1).wf = true) (wf2 : (Lit.int .i64 a2).wf = true) (h0 : n0 ≤ 12) (i k nb : Nat) (HI : Hid (Kit.pick a1 832 = i)) (hi : i < 832) (HK : Hid (Kit.pick a2 13 = k)) (hk : k < 13) (HNB : Hid (BitsR (V xs0) nb)) (hnb : nb ≤ 64 * n0) (hv0 : V xs0 = 0) (hq : (i : Int) / 64 < (n0 : Int)) (hw : V xs0 / 2 ^ i % 2 ≠ 1) :
    Calls Tryd.prog 8 #[.slice (some ad) n0 c0, .int .i64 a1, .int .i64 a2] w fun e w' => e = .returned (.bool true) ∧ Below w.heap.size w w' := by
  have HW : Hid (decide (V xs0 / 2 ^ i % 2 = 1) = false) := Lib.hid (decide_eq_false hw)
  have HLU := Lib.hid (low_up xs0 k (min k n0) (by rw [hr0.len]))
  obtain rfl : nb = 0 := HNB.out.zero hv0
  have r_a0 : Hid (At w (some ad) n0 xs0) := Lib.hid hr0
  have hB : Hid (Below w.heap.size w w) := Lib.hid (Below.refl _ w)
  clear hr0
  go_enter Tryd.func8, Tryd.ntmps8
  try simp only [List.append]
  go_wp2_with fail
  try go_at_call 10
  refine (lives_c _).mono ?_
  rintro e w1 ⟨rfl, hb⟩
  have hB := bel_step hB hb
  have r_a0 := At.step r_a0 hb
  clear hb
  go_wp2_with fail
  try go_at_call 41
  refine (pick_u a1 832 wf1 (by decide) i HI.out).mono ?_
  rintro e w2 ⟨rfl, hb⟩
  have hB := bel_step hB hb
  have r_a0 := At.step r_a0 hb
  clear hb
  obtain ⟨ad', e, _, hca⟩ := r_a0.out.at_ (k := i / 64) (by omega)
  cases e
  have hbe := bit_at r_a0.out.ws i
  have hwz := r_a0.out.ws.at_ (i / 64)
  generalize Nt.at_ xs0 (i / 64) = z at *
  unfold Wd.W at hwz
  obtain ⟨hz1, hz2⟩ := hwz
  have hbit : (bits BinOp.and IntKind.u64 (z / 2 ^ (i % 64)) 1 == 1) = false := bit_ff hz1 hz2 (by rw [hbe]; exact hw)
  clear hbe
  go_wp2_with fail
  try go_at_call 23
  refine (bitsv_u r_a0 (by omega) (by omega) (by omega) 0 HNB.out).mono ?_
  rintro e w3 ⟨rfl, hb⟩
  have hB := bel_step hB hb
  have r_a0 := At.step r_a0 hb
  clear hb
  go_wp2_with fail
  try go_at_call 41
  refine (pick_u a2 13 wf2 (by decide) k HK.out).mono ?_
  rintro e w4 ⟨rfl, hb⟩
  have hB := bel_step hB hb
  have r_a0 := At.step r_a0 hb
  clear hb
  go_wp2_with fail
  try go_at_call 25
  refine (lowk_u k k r_a0 (by omega) (by omega) (by omega) (by omega) (by omega)).mono ?_
  rintro e w5 ⟨v, rfl, ⟨Az1, nz1, cz1, z1, rfl, i_z1, r_z1, hc_z1, hk_z1, hb⟩⟩
  have hB := bel_step hB hb
  have r_a0 := At.step r_a0 hb
  clear hb
  go_wp2_with fail
  have hmk := make_nat k (by omega)
  obtain ⟨M, hM⟩ : ∃ M : Nat, min k n0 = M := ⟨_, rfl⟩
  rw [hM] at HLU
  have hm1 : M ≤ n0 := by omega
  have hm2 : M ≤ k := by omega
  have hmin : min (k : Int) (n0 : Int) = (M : Int) := by omega
  clear hM
  have hb := Below.drew (Below.refl w5.heap.size w5)
  obtain ⟨Au, cu, wu, hap, r_u, hn_u, hc_u, hbb⟩ := append_run (w := w5.drew.alloc (.cells (us (List.replicate k 0)) 28)) (k := k) (m := n0 - M) (c := c0 - M) (B0 := w5.heap.size) 24 (Bk.new _ _ _) (by simp) (Ws.zeros _) (tail_rd (At.step (At.step r_a0 hb) (below_alloc _)).out hm1 hn0) (by omega) (Nat.le_refl _)
  replace hb : Below w5.heap.size w5 wu := (hb.trans (below_alloc (w := w5.drew) _)).trans hbb
  have r_u := Lib.hid r_u
  clear hbb
  have hB := bel_step hB hb
  have r_a0 := At.step r_a0 hb
  have r_z1 := At.step r_z1 hb
  clear hb
  obtain ⟨T, hT⟩ : ∃ T, (if c0 = M then some ad else some (ad.add M)) = T := ⟨_, rfl⟩
  rw [hT] at hap
  have hap : Sem.run Tryd.prog (Builtin.append_ #[24, 24] 24 #[.slice (some ⟨w5.heap.size, 0, none⟩) k k, .slice T (n0 - M) (c0 - M)]) ((w5.alloc (.cells (us (List.replicate k 0)) 28)).drew) = .ok (.slice Au (k + (n0 - M)) cu) wu := hap
  refine wp_region_any (by kernel_rfl) ?_
  change wpAny _ _ _ _ _ _ _ (World.drew _)
  refine wpAny_take (i := 0) (v := ?v0) rfl (by kernel_rfl) (by kernel_rfl) (by kernel_rfl) (fun _ _ _ h => h) (Or.inl ⟨by rfl, ?y0⟩) ?nx0
  case y0 => ((intro w; go_simp); try with_reducible rfl)
  refine wpAny_take (i := 2) (v := ?v2) rfl (by kernel_rfl) (by kernel_rfl) (by kernel_rfl) (fun _ _ _ h => h) (Or.inl ⟨by rfl, ?y2⟩) ?nx2
  case y2 => ((intro w; go_simp); try with_reducible rfl)
  refine wpAny_take (i := 3) (v := ?v3) rfl (by kernel_rfl) (by kernel_rfl) (by kernel_rfl) (fun _ _ _ h => h) (Or.inl ⟨by rfl, ?y3⟩) ?nx3
  case y3 => ((intro w; go_simp); try with_reducible rfl)
  refine wpAny_take (i := 4) (v := ?v4) rfl (by kernel_rfl) (by kernel_rfl) (by kernel_rfl) (fun _ _ _ h => h) (Or.inl ⟨by rfl, ?y4⟩) ?nx4
  case y4 => ((intro w; go_simp); try with_reducible rfl)
  refine wpAny_take (i := 5) (v := ?v5) rfl (by kernel_rfl) (by kernel_rfl) (by kernel_rfl) (fun _ _ _ h => h) (Or.inl ⟨by rfl, ?y5⟩) ?nx5
  case y5 => ((intro w; go_simp); try with_reducible rfl)
  refine wpAny_take (i := 6) (v := ?v6) rfl (by kernel_rfl) (by kernel_rfl) (by kernel_rfl) (fun _ _ _ h => h) (Or.inl ⟨by rfl, ?y6⟩) ?nx6
  case y6 => ((intro w; go_simp); try with_reducible rfl)
  refine wpAny_take (i := 7) (v := ?v7) rfl (by kernel_rfl) (by kernel_rfl) (by kernel_rfl) (fun _ _ _ h => h) (Or.inl ⟨by rfl, ?y7⟩) ?nx7
  case y7 => ((intro w; go_simp); try with_reducible rfl)
  refine wpAny_ready (rs := [1]) (by kernel_rfl) (by simp) ?_
  refine AllReady.cons rfl (fun K hK => ?_) AllReady.nil
  go_simp
  refine hK _ _ ?_
  clear hK K
  refine wpAny_ready (rs := [8]) (by kernel_rfl) (by simp) ?_
  refine AllReady.cons (o := { dst := some 56, op := .call { callee := .builtin .append, args := #[.tmp 49, .tmp 55], argTypes := #[24, 24] }, type := 24, pos := "law.go:155", after := #[{ on := 1, ground := .data }, { on := 7, ground := .data }], guard := none }) rfl (fun K hK => ?_) AllReady.nil
  refine of_wanted (by kernel_rfl) ?_
  refine op_append_eq (.tmp 49) (.tmp 55) 24 rfl _ _ rfl rfl _ _ hap ?_
  try go_simp
  refine hK _ _ ?_
  clear hK K
  refine wpAny_ready (rs := [9]) (by kernel_rfl) (by simp) ?_
  refine AllReady.cons rfl (fun K hK => ?_) AllReady.nil
  go_simp
  refine hK _ _ ?_
  clear hK K
  refine wpAny_done (by kernel_rfl) ?_ _
  obtain ⟨w6, rfl⟩ : ∃ W, W = wu := ⟨_, rfl⟩
  clear hap hmk hmin hT
  go_wp2_with fail
  try go_at_call 14
  refine (fit13_u r_a0 (by omega) (by omega) (by omega)).mono ?_
  rintro e w7 ⟨Af, zf, rfl, r_f, v_f, hb⟩
  have hB := bel_step hB hb
  have r_a0 := At.step r_a0 hb
  have r_z1 := At.step r_z1 hb
  have r_u := At.step r_u hb
  clear hb
  go_wp2_with fail
  try go_at_call 22
  refine (trim_u 12 r_a0 (by omega) (by omega) (by omega) (by omega)).mono ?_
  rintro e w8 ⟨v, rfl, ⟨Az2, nz2, cz2, z2, rfl, i_z2, r_z2, hc_z2, hk_z2, hb⟩⟩
  have hB := bel_step hB hb
  have r_a0 := At.step r_a0 hb
  have r_z1 := At.step r_z1 hb
  have r_u := At.step r_u hb
  have r_f := At.step r_f hb
  clear hb
  obtain rfl : nz2 = 0 := len_zero r_z2 i_z2 hv0
  go_wp2_with fail
  try go_at_call 40
  refine (nat_u r_f r_a0 (by omega) (by omega) true (decide_eq_true (v_f.out))).mono ?_
  rintro e w9 ⟨rfl, hb⟩
  have hB := bel_step hB hb
  have r_a0 := At.step r_a0 hb
  have r_z1 := At.step r_z1 hb
  have r_u := At.step r_u hb
  have r_f := At.step r_f hb
  have r_z2 := At.step r_z2 hb
  clear hb
  go_wp2_with fail
  try go_at_call 40
  refine (nat_u r_z2 r_a0 (by omega) (by omega) true (decide_eq_true (i_z2.out.v))).mono ?_
  rintro e w10 ⟨rfl, hb⟩
  have hB := bel_step hB hb
  have r_a0 := At.step r_a0 hb
  have r_z1 := At.step r_z1 hb
  have r_u := At.step r_u hb
  have r_f := At.step r_f hb
  have r_z2 := At.step r_z2 hb
  clear hb
  go_wp2_with fail
  try go_at_call 39
  refine (trimd_u r_z2 (by omega) true (decide_eq_true i_z2.out.tr)).mono ?_
  rintro e w11 ⟨rfl, hb⟩
  have hB := bel_step hB hb
  have r_a0 := At.step r_a0 hb
  have r_z1 := At.step r_z1 hb
  have r_u := At.step r_u hb
  have r_f := At.step r_f hb
  have r_z2 := At.step r_z2 hb
  clear hb
  clear r_f
  go_wp2_with fail
  try go_at_call 24
  refine (bitk_u i (by omega) r_a0 false HW.out).mono ?_
  rintro e w12 ⟨rfl, hb⟩
  have hB := bel_step hB hb
  have r_a0 := At.step r_a0 hb
  have r_z1 := At.step r_z1 hb
  have r_u := At.step r_u hb
  have r_z2 := At.step r_z2 hb
  clear hb
  go_wp2_with fail
  try go_at_call 18
  refine (add_u 26 r_z1 r_u (by omega) (by omega) (by omega)).mono ?_
  rintro e w13 ⟨v, rfl, ⟨Az3, nz3, cz3, z3, rfl, i_z3, r_z3, hc_z3, hk_z3, hb⟩⟩
  have hB := bel_step hB hb
  have r_a0 := At.step r_a0 hb
  have r_z1 := At.step r_z1 hb
  have r_u := At.step r_u hb
  have r_z2 := At.step r_z2 hb
  clear hb
  go_wp2_with fail
  try go_at_call 40
  refine (nat_u r_z3 r_a0 (by omega) (by omega) true (decide_eq_true (by rw [i_z3.out.v, i_z1.out.v, V_append, V_zeros, List.length_replicate]; have := HLU.out; omega))).mono ?_
  rintro e w14 ⟨rfl, hb⟩
  have hB := bel_step hB hb
  have r_a0 := At.step r_a0 hb
  have r_z1 := At.step r_z1 hb
  have r_u := At.step r_u hb
  have r_z2 := At.step r_z2 hb
  have r_z3 := At.step r_z3 hb
  clear hb
  go_wp2_with fail
  go_ret
  exact ⟨rfl, hB.out⟩

set_option maxRecDepth 100000 in
set_option maxHeartbeats 8000000 in
theorem walk_b1 (w : World) (ad : Addr) (n0 c0 : Nat) (xs0 : List Int) (a1 a2 : Int)
    (hr0 : Rd w w.heap.size (some ad) n0 xs0) (hn0 : n0 ≤ c0) (hm0 : c0 ≤ 9223372036854775807) (wf1 : (Lit.int .i64 a1).wf = true) (wf2 : (Lit.int .i64 a2).wf = true) (h0 : n0 ≤ 12) (i k nb : Nat) (HI : Hid (Kit.pick a1 832 = i)) (hi : i < 832) (HK : Hid (Kit.pick a2 13 = k)) (hk : k < 13) (HNB : Hid (BitsR (V xs0) nb)) (hnb : nb ≤ 64 * n0) (hv0 : V xs0 ≠ 0) (hq : (n0 : Int) ≤ (i : Int) / 64) (hw : V xs0 / 2 ^ i % 2 ≠ 1) (hin : nb ≤ i) :
    Calls Tryd.prog 8 #[.slice (some ad) n0 c0, .int .i64 a1, .int .i64 a2] w fun e w' => e = .returned (.bool true) ∧ Below w.heap.size w w' := by
  have HW : Hid (decide (V xs0 / 2 ^ i % 2 = 1) = false) := Lib.hid (decide_eq_false hw)
  have HLU := Lib.hid (low_up xs0 k (min k n0) (by rw [hr0.len]))
  obtain ⟨hnb1, _⟩ := HNB.out.lo hv0
  have hnz : ((nb : Int) == 0) = false := by simp; omega
  have r_a0 : Hid (At w (some ad) n0 xs0) := Lib.hid hr0
  have hB : Hid (Below w.heap.size w w) := Lib.hid (Below.refl _ w)
  clear hr0
  go_enter Tryd.func8, Tryd.ntmps8
  try simp only [List.append]
  go_wp2_with fail
  try go_at_call 10
  refine (lives_c _).mono ?_
  rintro e w1 ⟨rfl, hb⟩
  have hB := bel_step hB hb
  have r_a0 := At.step r_a0 hb
  clear hb
  go_wp2_with fail
  try go_at_call 41
  refine (pick_u a1 832 wf1 (by decide) i HI.out).mono ?_
  rintro e w2 ⟨rfl, hb⟩
  have hB := bel_step hB hb
  have r_a0 := At.step r_a0 hb
  clear hb
  go_wp2_with fail
  try go_at_call 23
  refine (bitsv_u r_a0 (by omega) (by omega) (by omega) nb HNB.out).mono ?_
  rintro e w3 ⟨rfl, hb⟩
  have hB := bel_step hB hb
  have r_a0 := At.step r_a0 hb
  clear hb
  go_wp2_with fail
  try go_at_call 41
  refine (pick_u a2 13 wf2 (by decide) k HK.out).mono ?_
  rintro e w4 ⟨rfl, hb⟩
  have hB := bel_step hB hb
  have r_a0 := At.step r_a0 hb
  clear hb
  go_wp2_with fail
  try go_at_call 25
  refine (lowk_u k k r_a0 (by omega) (by omega) (by omega) (by omega) (by omega)).mono ?_
  rintro e w5 ⟨v, rfl, ⟨Az1, nz1, cz1, z1, rfl, i_z1, r_z1, hc_z1, hk_z1, hb⟩⟩
  have hB := bel_step hB hb
  have r_a0 := At.step r_a0 hb
  clear hb
  go_wp2_with fail
  have hmk := make_nat k (by omega)
  obtain ⟨M, hM⟩ : ∃ M : Nat, min k n0 = M := ⟨_, rfl⟩
  rw [hM] at HLU
  have hm1 : M ≤ n0 := by omega
  have hm2 : M ≤ k := by omega
  have hmin : min (k : Int) (n0 : Int) = (M : Int) := by omega
  clear hM
  have hb := Below.drew (Below.refl w5.heap.size w5)
  obtain ⟨Au, cu, wu, hap, r_u, hn_u, hc_u, hbb⟩ := append_run (w := w5.drew.alloc (.cells (us (List.replicate k 0)) 28)) (k := k) (m := n0 - M) (c := c0 - M) (B0 := w5.heap.size) 24 (Bk.new _ _ _) (by simp) (Ws.zeros _) (tail_rd (At.step (At.step r_a0 hb) (below_alloc _)).out hm1 hn0) (by omega) (Nat.le_refl _)
  replace hb : Below w5.heap.size w5 wu := (hb.trans (below_alloc (w := w5.drew) _)).trans hbb
  have r_u := Lib.hid r_u
  clear hbb
  have hB := bel_step hB hb
  have r_a0 := At.step r_a0 hb
  have r_z1 := At.step r_z1 hb
  clear hb
  obtain ⟨T, hT⟩ : ∃ T, (if c0 = M then some ad else some (ad.add M)) = T := ⟨_, rfl⟩
  rw [hT] at hap
  have hap : Sem.run Tryd.prog (Builtin.append_ #[24, 24] 24 #[.slice (some ⟨w5.heap.size, 0, none⟩) k k, .slice T (n0 - M) (c0 - M)]) ((w5.alloc (.cells (us (List.replicate k 0)) 28)).drew) = .ok (.slice Au (k + (n0 - M)) cu) wu := hap
  refine wp_region_any (by kernel_rfl) ?_
  change wpAny _ _ _ _ _ _ _ (World.drew _)
  refine wpAny_take (i := 0) (v := ?v0) rfl (by kernel_rfl) (by kernel_rfl) (by kernel_rfl) (fun _ _ _ h => h) (Or.inl ⟨by rfl, ?y0⟩) ?nx0
  case y0 => ((intro w; go_simp); try with_reducible rfl)
  refine wpAny_take (i := 2) (v := ?v2) rfl (by kernel_rfl) (by kernel_rfl) (by kernel_rfl) (fun _ _ _ h => h) (Or.inl ⟨by rfl, ?y2⟩) ?nx2
  case y2 => ((intro w; go_simp); try with_reducible rfl)
  refine wpAny_take (i := 3) (v := ?v3) rfl (by kernel_rfl) (by kernel_rfl) (by kernel_rfl) (fun _ _ _ h => h) (Or.inl ⟨by rfl, ?y3⟩) ?nx3
  case y3 => ((intro w; go_simp); try with_reducible rfl)
  refine wpAny_take (i := 4) (v := ?v4) rfl (by kernel_rfl) (by kernel_rfl) (by kernel_rfl) (fun _ _ _ h => h) (Or.inl ⟨by rfl, ?y4⟩) ?nx4
  case y4 => ((intro w; go_simp); try with_reducible rfl)
  refine wpAny_take (i := 5) (v := ?v5) rfl (by kernel_rfl) (by kernel_rfl) (by kernel_rfl) (fun _ _ _ h => h) (Or.inl ⟨by rfl, ?y5⟩) ?nx5
  case y5 => ((intro w; go_simp); try with_reducible rfl)
  refine wpAny_take (i := 6) (v := ?v6) rfl (by kernel_rfl) (by kernel_rfl) (by kernel_rfl) (fun _ _ _ h => h) (Or.inl ⟨by rfl, ?y6⟩) ?nx6
  case y6 => ((intro w; go_simp); try with_reducible rfl)
  refine wpAny_take (i := 7) (v := ?v7) rfl (by kernel_rfl) (by kernel_rfl) (by kernel_rfl) (fun _ _ _ h => h) (Or.inl ⟨by rfl, ?y7⟩) ?nx7
  case y7 => ((intro w; go_simp); try with_reducible rfl)
  refine wpAny_ready (rs := [1]) (by kernel_rfl) (by simp) ?_
  refine AllReady.cons rfl (fun K hK => ?_) AllReady.nil
  go_simp
  refine hK _ _ ?_
  clear hK K
  refine wpAny_ready (rs := [8]) (by kernel_rfl) (by simp) ?_
  refine AllReady.cons (o := { dst := some 56, op := .call { callee := .builtin .append, args := #[.tmp 49, .tmp 55], argTypes := #[24, 24] }, type := 24, pos := "law.go:155", after := #[{ on := 1, ground := .data }, { on := 7, ground := .data }], guard := none }) rfl (fun K hK => ?_) AllReady.nil
  refine of_wanted (by kernel_rfl) ?_
  refine op_append_eq (.tmp 49) (.tmp 55) 24 rfl _ _ rfl rfl _ _ hap ?_
  try go_simp
  refine hK _ _ ?_
  clear hK K
  refine wpAny_ready (rs := [9]) (by kernel_rfl) (by simp) ?_
  refine AllReady.cons rfl (fun K hK => ?_) AllReady.nil
  go_simp
  refine hK _ _ ?_
  clear hK K
  refine wpAny_done (by kernel_rfl) ?_ _
  obtain ⟨w6, rfl⟩ : ∃ W, W = wu := ⟨_, rfl⟩
  clear hap hmk hmin hT
  go_wp2_with fail
  try go_at_call 14
  refine (fit13_u r_a0 (by omega) (by omega) (by omega)).mono ?_
  rintro e w7 ⟨Af, zf, rfl, r_f, v_f, hb⟩
  have hB := bel_step hB hb
  have r_a0 := At.step r_a0 hb
  have r_z1 := At.step r_z1 hb
  have r_u := At.step r_u hb
  clear hb
  go_wp2_with fail
  try go_at_call 22
  refine (trim_u 12 r_a0 (by omega) (by omega) (by omega) (by omega)).mono ?_
  rintro e w8 ⟨v, rfl, ⟨Az2, nz2, cz2, z2, rfl, i_z2, r_z2, hc_z2, hk_z2, hb⟩⟩
  have hB := bel_step hB hb
  have r_a0 := At.step r_a0 hb
  have r_z1 := At.step r_z1 hb
  have r_u := At.step r_u hb
  have r_f := At.step r_f hb
  clear hb
  obtain ⟨m, rfl⟩ : ∃ m, nz2 = m + 1 := ⟨nz2 - 1, by have := len_pos r_z2 i_z2 hv0; omega⟩
  go_wp2_with fail
  try go_at_call 40
  refine (nat_u r_f r_a0 (by omega) (by omega) true (decide_eq_true (v_f.out))).mono ?_
  rintro e w9 ⟨rfl, hb⟩
  have hB := bel_step hB hb
  have r_a0 := At.step r_a0 hb
  have r_z1 := At.step r_z1 hb
  have r_u := At.step r_u hb
  have r_f := At.step r_f hb
  have r_z2 := At.step r_z2 hb
  clear hb
  go_wp2_with fail
  try go_at_call 40
  refine (nat_u r_z2 r_a0 (by omega) (by omega) true (decide_eq_true (i_z2.out.v))).mono ?_
  rintro e w10 ⟨rfl, hb⟩
  have hB := bel_step hB hb
  have r_a0 := At.step r_a0 hb
  have r_z1 := At.step r_z1 hb
  have r_u := At.step r_u hb
  have r_f := At.step r_f hb
  have r_z2 := At.step r_z2 hb
  clear hb
  go_wp2_with fail
  try go_at_call 39
  refine (trimd_u r_z2 (by omega) true (decide_eq_true i_z2.out.tr)).mono ?_
  rintro e w11 ⟨rfl, hb⟩
  have hB := bel_step hB hb
  have r_a0 := At.step r_a0 hb
  have r_z1 := At.step r_z1 hb
  have r_u := At.step r_u hb
  have r_f := At.step r_f hb
  have r_z2 := At.step r_z2 hb
  clear hb
  clear r_f
  go_wp2_with fail
  try go_at_call 24
  refine (bitk_u i (by omega) r_a0 false HW.out).mono ?_
  rintro e w12 ⟨rfl, hb⟩
  have hB := bel_step hB hb
  have r_a0 := At.step r_a0 hb
  have r_z1 := At.step r_z1 hb
  have r_u := At.step r_u hb
  have r_z2 := At.step r_z2 hb
  clear hb
  go_wp2_with fail
  try go_at_call 24
  refine (bitp_u nb (by omega) (by omega) r_a0 true (decide_eq_true (top_bit HNB.out hv0))).mono ?_
  rintro e w13 ⟨rfl, hb⟩
  have hB := bel_step hB hb
  have r_a0 := At.step r_a0 hb
  have r_z1 := At.step r_z1 hb
  have r_u := At.step r_u hb
  have r_z2 := At.step r_z2 hb
  clear hb
  go_wp2_with fail
  try go_at_call 18
  refine (add_u 26 r_z1 r_u (by omega) (by omega) (by omega)).mono ?_
  rintro e w14 ⟨v, rfl, ⟨Az3, nz3, cz3, z3, rfl, i_z3, r_z3, hc_z3, hk_z3, hb⟩⟩
  have hB := bel_step hB hb
  have r_a0 := At.step r_a0 hb
  have r_z1 := At.step r_z1 hb
  have r_u := At.step r_u hb
  have r_z2 := At.step r_z2 hb
  clear hb
  go_wp2_with fail
  try go_at_call 40
  refine (nat_u r_z3 r_a0 (by omega) (by omega) true (decide_eq_true (by rw [i_z3.out.v, i_z1.out.v, V_append, V_zeros, List.length_replicate]; have := HLU.out; omega))).mono ?_
  rintro e w15 ⟨rfl, hb⟩
  have hB := bel_step hB hb
  have r_a0 := At.step r_a0 hb
  have r_z1 := At.step r_z1 hb
  have r_u := At.step r_u hb
  have r_z2 := At.step r_z2 hb
  have r_z3 := At.step r_z3 hb
  clear hb
  clear r_z3
  clear r_z1
  clear r_u
  obtain ⟨adt, rfl, _, hct⟩ := r_z2.out.at_ (k := m) (by omega)
  have hy := r_z2.out.ws.at_ m
  have hbl := bits_trim HNB.out i_z2.out r_z2.out.ws r_z2.out.len
  generalize Nt.at_ z2 m = y at *
  unfold Wd.W at hy
  obtain ⟨hy1, hy2⟩ := hy
  have hbe : ((nb : Int) == 64 * (m : Int) + ((Lib.bitLen y.toNat : Nat) : Int)) = true := by simp; omega
  have hme : ((m : Int) + 1 == 0) = false := by simp; omega
  have hbs : Lib.bitLen y.toNat ≤ 768 := by omega
  clear hbl
  go_wp2_with fail
  try go_at_call 42
  refine (rbits_u y hy1 hy2).mono ?_
  rintro e w16 ⟨rfl, hb⟩
  have hB := bel_step hB hb
  have r_a0 := At.step r_a0 hb
  have r_z2 := At.step r_z2 hb
  clear hb
  go_wp2_with fail
  go_ret
  exact ⟨rfl, hB.out⟩

set_option maxRecDepth 100000 in
set_option maxHeartbeats 8000000 in
theorem walk_b2 (w : World) (ad : Addr) (n0 c0 : Nat) (xs0 : List Int) (a1 a2 : Int)
    (hr0 : Rd w w.heap.size (some ad) n0 xs0) (hn0 : n0 ≤ c0) (hm0 : c0 ≤ 9223372036854775807) (wf1 : (Lit.int .i64 a1).wf = true) (wf2 : (Lit.int .i64 a2).wf = true) (h0 : n0 ≤ 12) (i k nb : Nat) (HI : Hid (Kit.pick a1 832 = i)) (hi : i < 832) (HK : Hid (Kit.pick a2 13 = k)) (hk : k < 13) (HNB : Hid (BitsR (V xs0) nb)) (hnb : nb ≤ 64 * n0) (hv0 : V xs0 ≠ 0) (hq : (i : Int) / 64 < (n0 : Int)) (hw : V xs0 / 2 ^ i % 2 = 1) (hin : i < nb) :
    Calls Tryd.prog 8 #[.slice (some ad) n0 c0, .int .i64 a1, .int .i64 a2] w fun e w' => e = .returned (.bool true) ∧ Below w.heap.size w w' := by
  have HW : Hid (decide (V xs0 / 2 ^ i % 2 = 1) = true) := Lib.hid (decide_eq_true hw)
  have HLU := Lib.hid (low_up xs0 k (min k n0) (by rw [hr0.len]))
  obtain ⟨hnb1, _⟩ := HNB.out.lo hv0
  have hnz : ((nb : Int) == 0) = false := by simp; omega
  have r_a0 : Hid (At w (some ad) n0 xs0) := Lib.hid hr0
  have hB : Hid (Below w.heap.size w w) := Lib.hid (Below.refl _ w)
  clear hr0
  go_enter Tryd.func8, Tryd.ntmps8
  try simp only [List.append]
  go_wp2_with fail
  try go_at_call 10
  refine (lives_c _).mono ?_
  rintro e w1 ⟨rfl, hb⟩
  have hB := bel_step hB hb
  have r_a0 := At.step r_a0 hb
  clear hb
  go_wp2_with fail
  try go_at_call 41
  refine (pick_u a1 832 wf1 (by decide) i HI.out).mono ?_
  rintro e w2 ⟨rfl, hb⟩
  have hB := bel_step hB hb
  have r_a0 := At.step r_a0 hb
  clear hb
  obtain ⟨ad', e, _, hca⟩ := r_a0.out.at_ (k := i / 64) (by omega)
  cases e
  have hbe := bit_at r_a0.out.ws i
  have hwz := r_a0.out.ws.at_ (i / 64)
  generalize Nt.at_ xs0 (i / 64) = z at *
  unfold Wd.W at hwz
  obtain ⟨hz1, hz2⟩ := hwz
  have hbit : (bits BinOp.and IntKind.u64 (z / 2 ^ (i % 64)) 1 == 1) = true := bit_tt hz1 hz2 (by rw [hbe]; exact hw)
  clear hbe
  go_wp2_with fail
  try go_at_call 23
  refine (bitsv_u r_a0 (by omega) (by omega) (by omega) nb HNB.out).mono ?_
  rintro e w3 ⟨rfl, hb⟩
  have hB := bel_step hB hb
  have r_a0 := At.step r_a0 hb
  clear hb
  go_wp2_with fail
  try go_at_call 41
  refine (pick_u a2 13 wf2 (by decide) k HK.out).mono ?_
  rintro e w4 ⟨rfl, hb⟩
  have hB := bel_step hB hb
  have r_a0 := At.step r_a0 hb
  clear hb
  go_wp2_with fail
  try go_at_call 25
  refine (lowk_u k k r_a0 (by omega) (by omega) (by omega) (by omega) (by omega)).mono ?_
  rintro e w5 ⟨v, rfl, ⟨Az1, nz1, cz1, z1, rfl, i_z1, r_z1, hc_z1, hk_z1, hb⟩⟩
  have hB := bel_step hB hb
  have r_a0 := At.step r_a0 hb
  clear hb
  go_wp2_with fail
  have hmk := make_nat k (by omega)
  obtain ⟨M, hM⟩ : ∃ M : Nat, min k n0 = M := ⟨_, rfl⟩
  rw [hM] at HLU
  have hm1 : M ≤ n0 := by omega
  have hm2 : M ≤ k := by omega
  have hmin : min (k : Int) (n0 : Int) = (M : Int) := by omega
  clear hM
  have hb := Below.drew (Below.refl w5.heap.size w5)
  obtain ⟨Au, cu, wu, hap, r_u, hn_u, hc_u, hbb⟩ := append_run (w := w5.drew.alloc (.cells (us (List.replicate k 0)) 28)) (k := k) (m := n0 - M) (c := c0 - M) (B0 := w5.heap.size) 24 (Bk.new _ _ _) (by simp) (Ws.zeros _) (tail_rd (At.step (At.step r_a0 hb) (below_alloc _)).out hm1 hn0) (by omega) (Nat.le_refl _)
  replace hb : Below w5.heap.size w5 wu := (hb.trans (below_alloc (w := w5.drew) _)).trans hbb
  have r_u := Lib.hid r_u
  clear hbb
  have hB := bel_step hB hb
  have r_a0 := At.step r_a0 hb
  have r_z1 := At.step r_z1 hb
  clear hb
  obtain ⟨T, hT⟩ : ∃ T, (if c0 = M then some ad else some (ad.add M)) = T := ⟨_, rfl⟩
  rw [hT] at hap
  have hap : Sem.run Tryd.prog (Builtin.append_ #[24, 24] 24 #[.slice (some ⟨w5.heap.size, 0, none⟩) k k, .slice T (n0 - M) (c0 - M)]) ((w5.alloc (.cells (us (List.replicate k 0)) 28)).drew) = .ok (.slice Au (k + (n0 - M)) cu) wu := hap
  refine wp_region_any (by kernel_rfl) ?_
  change wpAny _ _ _ _ _ _ _ (World.drew _)
  refine wpAny_take (i := 0) (v := ?v0) rfl (by kernel_rfl) (by kernel_rfl) (by kernel_rfl) (fun _ _ _ h => h) (Or.inl ⟨by rfl, ?y0⟩) ?nx0
  case y0 => ((intro w; go_simp); try with_reducible rfl)
  refine wpAny_take (i := 2) (v := ?v2) rfl (by kernel_rfl) (by kernel_rfl) (by kernel_rfl) (fun _ _ _ h => h) (Or.inl ⟨by rfl, ?y2⟩) ?nx2
  case y2 => ((intro w; go_simp); try with_reducible rfl)
  refine wpAny_take (i := 3) (v := ?v3) rfl (by kernel_rfl) (by kernel_rfl) (by kernel_rfl) (fun _ _ _ h => h) (Or.inl ⟨by rfl, ?y3⟩) ?nx3
  case y3 => ((intro w; go_simp); try with_reducible rfl)
  refine wpAny_take (i := 4) (v := ?v4) rfl (by kernel_rfl) (by kernel_rfl) (by kernel_rfl) (fun _ _ _ h => h) (Or.inl ⟨by rfl, ?y4⟩) ?nx4
  case y4 => ((intro w; go_simp); try with_reducible rfl)
  refine wpAny_take (i := 5) (v := ?v5) rfl (by kernel_rfl) (by kernel_rfl) (by kernel_rfl) (fun _ _ _ h => h) (Or.inl ⟨by rfl, ?y5⟩) ?nx5
  case y5 => ((intro w; go_simp); try with_reducible rfl)
  refine wpAny_take (i := 6) (v := ?v6) rfl (by kernel_rfl) (by kernel_rfl) (by kernel_rfl) (fun _ _ _ h => h) (Or.inl ⟨by rfl, ?y6⟩) ?nx6
  case y6 => ((intro w; go_simp); try with_reducible rfl)
  refine wpAny_take (i := 7) (v := ?v7) rfl (by kernel_rfl) (by kernel_rfl) (by kernel_rfl) (fun _ _ _ h => h) (Or.inl ⟨by rfl, ?y7⟩) ?nx7
  case y7 => ((intro w; go_simp); try with_reducible rfl)
  refine wpAny_ready (rs := [1]) (by kernel_rfl) (by simp) ?_
  refine AllReady.cons rfl (fun K hK => ?_) AllReady.nil
  go_simp
  refine hK _ _ ?_
  clear hK K
  refine wpAny_ready (rs := [8]) (by kernel_rfl) (by simp) ?_
  refine AllReady.cons (o := { dst := some 56, op := .call { callee := .builtin .append, args := #[.tmp 49, .tmp 55], argTypes := #[24, 24] }, type := 24, pos := "law.go:155", after := #[{ on := 1, ground := .data }, { on := 7, ground := .data }], guard := none }) rfl (fun K hK => ?_) AllReady.nil
  refine of_wanted (by kernel_rfl) ?_
  refine op_append_eq (.tmp 49) (.tmp 55) 24 rfl _ _ rfl rfl _ _ hap ?_
  try go_simp
  refine hK _ _ ?_
  clear hK K
  refine wpAny_ready (rs := [9]) (by kernel_rfl) (by simp) ?_
  refine AllReady.cons rfl (fun K hK => ?_) AllReady.nil
  go_simp
  refine hK _ _ ?_
  clear hK K
  refine wpAny_done (by kernel_rfl) ?_ _
  obtain ⟨w6, rfl⟩ : ∃ W, W = wu := ⟨_, rfl⟩
  clear hap hmk hmin hT
  go_wp2_with fail
  try go_at_call 14
  refine (fit13_u r_a0 (by omega) (by omega) (by omega)).mono ?_
  rintro e w7 ⟨Af, zf, rfl, r_f, v_f, hb⟩
  have hB := bel_step hB hb
  have r_a0 := At.step r_a0 hb
  have r_z1 := At.step r_z1 hb
  have r_u := At.step r_u hb
  clear hb
  go_wp2_with fail
  try go_at_call 22
  refine (trim_u 12 r_a0 (by omega) (by omega) (by omega) (by omega)).mono ?_
  rintro e w8 ⟨v, rfl, ⟨Az2, nz2, cz2, z2, rfl, i_z2, r_z2, hc_z2, hk_z2, hb⟩⟩
  have hB := bel_step hB hb
  have r_a0 := At.step r_a0 hb
  have r_z1 := At.step r_z1 hb
  have r_u := At.step r_u hb
  have r_f := At.step r_f hb
  clear hb
  obtain ⟨m, rfl⟩ : ∃ m, nz2 = m + 1 := ⟨nz2 - 1, by have := len_pos r_z2 i_z2 hv0; omega⟩
  go_wp2_with fail
  try go_at_call 40
  refine (nat_u r_f r_a0 (by omega) (by omega) true (decide_eq_true (v_f.out))).mono ?_
  rintro e w9 ⟨rfl, hb⟩
  have hB := bel_step hB hb
  have r_a0 := At.step r_a0 hb
  have r_z1 := At.step r_z1 hb
  have r_u := At.step r_u hb
  have r_f := At.step r_f hb
  have r_z2 := At.step r_z2 hb
  clear hb
  go_wp2_with fail
  try go_at_call 40
  refine (nat_u r_z2 r_a0 (by omega) (by omega) true (decide_eq_true (i_z2.out.v))).mono ?_
  rintro e w10 ⟨rfl, hb⟩
  have hB := bel_step hB hb
  have r_a0 := At.step r_a0 hb
  have r_z1 := At.step r_z1 hb
  have r_u := At.step r_u hb
  have r_f := At.step r_f hb
  have r_z2 := At.step r_z2 hb
  clear hb
  go_wp2_with fail
  try go_at_call 39
  refine (trimd_u r_z2 (by omega) true (decide_eq_true i_z2.out.tr)).mono ?_
  rintro e w11 ⟨rfl, hb⟩
  have hB := bel_step hB hb
  have r_a0 := At.step r_a0 hb
  have r_z1 := At.step r_z1 hb
  have r_u := At.step r_u hb
  have r_f := At.step r_f hb
  have r_z2 := At.step r_z2 hb
  clear hb
  clear r_f
  go_wp2_with fail
  try go_at_call 24
  refine (bitk_u i (by omega) r_a0 true HW.out).mono ?_
  rintro e w12 ⟨rfl, hb⟩
  have hB := bel_step hB hb
  have r_a0 := At.step r_a0 hb
  have r_z1 := At.step r_z1 hb
  have r_u := At.step r_u hb
  have r_z2 := At.step r_z2 hb
  clear hb
  go_wp2_with fail
  try go_at_call 24
  refine (bitp_u nb (by omega) (by omega) r_a0 true (decide_eq_true (top_bit HNB.out hv0))).mono ?_
  rintro e w13 ⟨rfl, hb⟩
  have hB := bel_step hB hb
  have r_a0 := At.step r_a0 hb
  have r_z1 := At.step r_z1 hb
  have r_u := At.step r_u hb
  have r_z2 := At.step r_z2 hb
  clear hb
  go_wp2_with fail
  try go_at_call 18
  refine (add_u 26 r_z1 r_u (by omega) (by omega) (by omega)).mono ?_
  rintro e w14 ⟨v, rfl, ⟨Az3, nz3, cz3, z3, rfl, i_z3, r_z3, hc_z3, hk_z3, hb⟩⟩
  have hB := bel_step hB hb
  have r_a0 := At.step r_a0 hb
  have r_z1 := At.step r_z1 hb
  have r_u := At.step r_u hb
  have r_z2 := At.step r_z2 hb
  clear hb
  go_wp2_with fail
  try go_at_call 40
  refine (nat_u r_z3 r_a0 (by omega) (by omega) true (decide_eq_true (by rw [i_z3.out.v, i_z1.out.v, V_append, V_zeros, List.length_replicate]; have := HLU.out; omega))).mono ?_
  rintro e w15 ⟨rfl, hb⟩
  have hB := bel_step hB hb
  have r_a0 := At.step r_a0 hb
  have r_z1 := At.step r_z1 hb
  have r_u := At.step r_u hb
  have r_z2 := At.step r_z2 hb
  have r_z3 := At.step r_z3 hb
  clear hb
  clear r_z3
  clear r_z1
  clear r_u
  obtain ⟨adt, rfl, _, hct⟩ := r_z2.out.at_ (k := m) (by omega)
  have hy := r_z2.out.ws.at_ m
  have hbl := bits_trim HNB.out i_z2.out r_z2.out.ws r_z2.out.len
  generalize Nt.at_ z2 m = y at *
  unfold Wd.W at hy
  obtain ⟨hy1, hy2⟩ := hy
  have hbe : ((nb : Int) == 64 * (m : Int) + ((Lib.bitLen y.toNat : Nat) : Int)) = true := by simp; omega
  have hme : ((m : Int) + 1 == 0) = false := by simp; omega
  have hbs : Lib.bitLen y.toNat ≤ 768 := by omega
  clear hbl
  go_wp2_with fail
  try go_at_call 42
  refine (rbits_u y hy1 hy2).mono ?_
  rintro e w16 ⟨rfl, hb⟩
  have hB := bel_step hB hb
  have r_a0 := At.step r_a0 hb
  have r_z2 := At.step r_z2 hb
  clear hb
  go_wp2_with fail
  go_ret
  exact ⟨rfl, hB.out⟩

set_option maxRecDepth 100000 in
set_option maxHeartbeats 8000000 in
theorem walk_b3 (w : World) (ad : Addr) (n0 c0 : Nat) (xs0 : List Int) (a1 a2 : Int)
    (hr0 : Rd w w.heap.size (some ad) n0 xs0) (hn0 : n0 ≤ c0) (hm0 : c0 ≤ 9223372036854775807) (wf1 : (Lit.int .i64 a1).wf = true) (wf2 : (Lit.int .i64 a2).wf = true) (h0 : n0 ≤ 12) (i k nb : Nat) (HI : Hid (Kit.pick a1 832 = i)) (hi : i < 832) (HK : Hid (Kit.pick a2 13 = k)) (hk : k < 13) (HNB : Hid (BitsR (V xs0) nb)) (hnb : nb ≤ 64 * n0) (hv0 : V xs0 ≠ 0) (hq : (i : Int) / 64 < (n0 : Int)) (hw : V xs0 / 2 ^ i % 2 ≠ 1) (hin : i < nb) :
    Calls Tryd.prog 8 #[.slice (some ad) n0 c0, .int .i64 a1, .int .i64 a2] w fun e w' => e = .returned (.bool true) ∧ Below w.heap.size w w' := by
  have HW : Hid (decide (V xs0 / 2 ^ i % 2 = 1) = false) := Lib.hid (decide_eq_false hw)
  have HLU := Lib.hid (low_up xs0 k (min k n0) (by rw [hr0.len]))
  obtain ⟨hnb1, _⟩ := HNB.out.lo hv0
  have hnz : ((nb : Int) == 0) = false := by simp; omega
  have r_a0 : Hid (At w (some ad) n0 xs0) := Lib.hid hr0
  have hB : Hid (Below w.heap.size w w) := Lib.hid (Below.refl _ w)
  clear hr0
  go_enter Tryd.func8, Tryd.ntmps8
  try simp only [List.append]
  go_wp2_with fail
  try go_at_call 10
  refine (lives_c _).mono ?_
  rintro e w1 ⟨rfl, hb⟩
  have hB := bel_step hB hb
  have r_a0 := At.step r_a0 hb
  clear hb
  go_wp2_with fail
  try go_at_call 41
  refine (pick_u a1 832 wf1 (by decide) i HI.out).mono ?_
  rintro e w2 ⟨rfl, hb⟩
  have hB := bel_step hB hb
  have r_a0 := At.step r_a0 hb
  clear hb
  obtain ⟨ad', e, _, hca⟩ := r_a0.out.at_ (k := i / 64) (by omega)
  cases e
  have hbe := bit_at r_a0.out.ws i
  have hwz := r_a0.out.ws.at_ (i / 64)
  generalize Nt.at_ xs0 (i / 64) = z at *
  unfold Wd.W at hwz
  obtain ⟨hz1, hz2⟩ := hwz
  have hbit : (bits BinOp.and IntKind.u64 (z / 2 ^ (i % 64)) 1 == 1) = false := bit_ff hz1 hz2 (by rw [hbe]; exact hw)
  clear hbe
  go_wp2_with fail
  try go_at_call 23
  refine (bitsv_u r_a0 (by omega) (by omega) (by omega) nb HNB.out).mono ?_
  rintro e w3 ⟨rfl, hb⟩
  have hB := bel_step hB hb
  have r_a0 := At.step r_a0 hb
  clear hb
  go_wp2_with fail
  try go_at_call 41
  refine (pick_u a2 13 wf2 (by decide) k HK.out).mono ?_
  rintro e w4 ⟨rfl, hb⟩
  have hB := bel_step hB hb
  have r_a0 := At.step r_a0 hb
  clear hb
  go_wp2_with fail
  try go_at_call 25
  refine (lowk_u k k r_a0 (by omega) (by omega) (by omega) (by omega) (by omega)).mono ?_
  rintro e w5 ⟨v, rfl, ⟨Az1, nz1, cz1, z1, rfl, i_z1, r_z1, hc_z1, hk_z1, hb⟩⟩
  have hB := bel_step hB hb
  have r_a0 := At.step r_a0 hb
  clear hb
  go_wp2_with fail
  have hmk := make_nat k (by omega)
  obtain ⟨M, hM⟩ : ∃ M : Nat, min k n0 = M := ⟨_, rfl⟩
  rw [hM] at HLU
  have hm1 : M ≤ n0 := by omega
  have hm2 : M ≤ k := by omega
  have hmin : min (k : Int) (n0 : Int) = (M : Int) := by omega
  clear hM
  have hb := Below.drew (Below.refl w5.heap.size w5)
  obtain ⟨Au, cu, wu, hap, r_u, hn_u, hc_u, hbb⟩ := append_run (w := w5.drew.alloc (.cells (us (List.replicate k 0)) 28)) (k := k) (m := n0 - M) (c := c0 - M) (B0 := w5.heap.size) 24 (Bk.new _ _ _) (by simp) (Ws.zeros _) (tail_rd (At.step (At.step r_a0 hb) (below_alloc _)).out hm1 hn0) (by omega) (Nat.le_refl _)
  replace hb : Below w5.heap.size w5 wu := (hb.trans (below_alloc (w := w5.drew) _)).trans hbb
  have r_u := Lib.hid r_u
  clear hbb
  have hB := bel_step hB hb
  have r_a0 := At.step r_a0 hb
  have r_z1 := At.step r_z1 hb
  clear hb
  obtain ⟨T, hT⟩ : ∃ T, (if c0 = M then some ad else some (ad.add M)) = T := ⟨_, rfl⟩
  rw [hT] at hap
  have hap : Sem.run Tryd.prog (Builtin.append_ #[24, 24] 24 #[.slice (some ⟨w5.heap.size, 0, none⟩) k k, .slice T (n0 - M) (c0 - M)]) ((w5.alloc (.cells (us (List.replicate k 0)) 28)).drew) = .ok (.slice Au (k + (n0 - M)) cu) wu := hap
  refine wp_region_any (by kernel_rfl) ?_
  change wpAny _ _ _ _ _ _ _ (World.drew _)
  refine wpAny_take (i := 0) (v := ?v0) rfl (by kernel_rfl) (by kernel_rfl) (by kernel_rfl) (fun _ _ _ h => h) (Or.inl ⟨by rfl, ?y0⟩) ?nx0
  case y0 => ((intro w; go_simp); try with_reducible rfl)
  refine wpAny_take (i := 2) (v := ?v2) rfl (by kernel_rfl) (by kernel_rfl) (by kernel_rfl) (fun _ _ _ h => h) (Or.inl ⟨by rfl, ?y2⟩) ?nx2
  case y2 => ((intro w; go_simp); try with_reducible rfl)
  refine wpAny_take (i := 3) (v := ?v3) rfl (by kernel_rfl) (by kernel_rfl) (by kernel_rfl) (fun _ _ _ h => h) (Or.inl ⟨by rfl, ?y3⟩) ?nx3
  case y3 => ((intro w; go_simp); try with_reducible rfl)
  refine wpAny_take (i := 4) (v := ?v4) rfl (by kernel_rfl) (by kernel_rfl) (by kernel_rfl) (fun _ _ _ h => h) (Or.inl ⟨by rfl, ?y4⟩) ?nx4
  case y4 => ((intro w; go_simp); try with_reducible rfl)
  refine wpAny_take (i := 5) (v := ?v5) rfl (by kernel_rfl) (by kernel_rfl) (by kernel_rfl) (fun _ _ _ h => h) (Or.inl ⟨by rfl, ?y5⟩) ?nx5
  case y5 => ((intro w; go_simp); try with_reducible rfl)
  refine wpAny_take (i := 6) (v := ?v6) rfl (by kernel_rfl) (by kernel_rfl) (by kernel_rfl) (fun _ _ _ h => h) (Or.inl ⟨by rfl, ?y6⟩) ?nx6
  case y6 => ((intro w; go_simp); try with_reducible rfl)
  refine wpAny_take (i := 7) (v := ?v7) rfl (by kernel_rfl) (by kernel_rfl) (by kernel_rfl) (fun _ _ _ h => h) (Or.inl ⟨by rfl, ?y7⟩) ?nx7
  case y7 => ((intro w; go_simp); try with_reducible rfl)
  refine wpAny_ready (rs := [1]) (by kernel_rfl) (by simp) ?_
  refine AllReady.cons rfl (fun K hK => ?_) AllReady.nil
  go_simp
  refine hK _ _ ?_
  clear hK K
  refine wpAny_ready (rs := [8]) (by kernel_rfl) (by simp) ?_
  refine AllReady.cons (o := { dst := some 56, op := .call { callee := .builtin .append, args := #[.tmp 49, .tmp 55], argTypes := #[24, 24] }, type := 24, pos := "law.go:155", after := #[{ on := 1, ground := .data }, { on := 7, ground := .data }], guard := none }) rfl (fun K hK => ?_) AllReady.nil
  refine of_wanted (by kernel_rfl) ?_
  refine op_append_eq (.tmp 49) (.tmp 55) 24 rfl _ _ rfl rfl _ _ hap ?_
  try go_simp
  refine hK _ _ ?_
  clear hK K
  refine wpAny_ready (rs := [9]) (by kernel_rfl) (by simp) ?_
  refine AllReady.cons rfl (fun K hK => ?_) AllReady.nil
  go_simp
  refine hK _ _ ?_
  clear hK K
  refine wpAny_done (by kernel_rfl) ?_ _
  obtain ⟨w6, rfl⟩ : ∃ W, W = wu := ⟨_, rfl⟩
  clear hap hmk hmin hT
  go_wp2_with fail
  try go_at_call 14
  refine (fit13_u r_a0 (by omega) (by omega) (by omega)).mono ?_
  rintro e w7 ⟨Af, zf, rfl, r_f, v_f, hb⟩
  have hB := bel_step hB hb
  have r_a0 := At.step r_a0 hb
  have r_z1 := At.step r_z1 hb
  have r_u := At.step r_u hb
  clear hb
  go_wp2_with fail
  try go_at_call 22
  refine (trim_u 12 r_a0 (by omega) (by omega) (by omega) (by omega)).mono ?_
  rintro e w8 ⟨v, rfl, ⟨Az2, nz2, cz2, z2, rfl, i_z2, r_z2, hc_z2, hk_z2, hb⟩⟩
  have hB := bel_step hB hb
  have r_a0 := At.step r_a0 hb
  have r_z1 := At.step r_z1 hb
  have r_u := At.step r_u hb
  have r_f := At.step r_f hb
  clear hb
  obtain ⟨m, rfl⟩ : ∃ m, nz2 = m + 1 := ⟨nz2 - 1, by have := len_pos r_z2 i_z2 hv0; omega⟩
  go_wp2_with fail
  try go_at_call 40
  refine (nat_u r_f r_a0 (by omega) (by omega) true (decide_eq_true (v_f.out))).mono ?_
  rintro e w9 ⟨rfl, hb⟩
  have hB := bel_step hB hb
  have r_a0 := At.step r_a0 hb
  have r_z1 := At.step r_z1 hb
  have r_u := At.step r_u hb
  have r_f := At.step r_f hb
  have r_z2 := At.step r_z2 hb
  clear hb
  go_wp2_with fail
  try go_at_call 40
  refine (nat_u r_z2 r_a0 (by omega) (by omega) true (decide_eq_true (i_z2.out.v))).mono ?_
  rintro e w10 ⟨rfl, hb⟩
  have hB := bel_step hB hb
  have r_a0 := At.step r_a0 hb
  have r_z1 := At.step r_z1 hb
  have r_u := At.step r_u hb
  have r_f := At.step r_f hb
  have r_z2 := At.step r_z2 hb
  clear hb
  go_wp2_with fail
  try go_at_call 39
  refine (trimd_u r_z2 (by omega) true (decide_eq_true i_z2.out.tr)).mono ?_
  rintro e w11 ⟨rfl, hb⟩
  have hB := bel_step hB hb
  have r_a0 := At.step r_a0 hb
  have r_z1 := At.step r_z1 hb
  have r_u := At.step r_u hb
  have r_f := At.step r_f hb
  have r_z2 := At.step r_z2 hb
  clear hb
  clear r_f
  go_wp2_with fail
  try go_at_call 24
  refine (bitk_u i (by omega) r_a0 false HW.out).mono ?_
  rintro e w12 ⟨rfl, hb⟩
  have hB := bel_step hB hb
  have r_a0 := At.step r_a0 hb
  have r_z1 := At.step r_z1 hb
  have r_u := At.step r_u hb
  have r_z2 := At.step r_z2 hb
  clear hb
  go_wp2_with fail
  try go_at_call 24
  refine (bitp_u nb (by omega) (by omega) r_a0 true (decide_eq_true (top_bit HNB.out hv0))).mono ?_
  rintro e w13 ⟨rfl, hb⟩
  have hB := bel_step hB hb
  have r_a0 := At.step r_a0 hb
  have r_z1 := At.step r_z1 hb
  have r_u := At.step r_u hb
  have r_z2 := At.step r_z2 hb
  clear hb
  go_wp2_with fail
  try go_at_call 18
  refine (add_u 26 r_z1 r_u (by omega) (by omega) (by omega)).mono ?_
  rintro e w14 ⟨v, rfl, ⟨Az3, nz3, cz3, z3, rfl, i_z3, r_z3, hc_z3, hk_z3, hb⟩⟩
  have hB := bel_step hB hb
  have r_a0 := At.step r_a0 hb
  have r_z1 := At.step r_z1 hb
  have r_u := At.step r_u hb
  have r_z2 := At.step r_z2 hb
  clear hb
  go_wp2_with fail
  try go_at_call 40
  refine (nat_u r_z3 r_a0 (by omega) (by omega) true (decide_eq_true (by rw [i_z3.out.v, i_z1.out.v, V_append, V_zeros, List.length_replicate]; have := HLU.out; omega))).mono ?_
  rintro e w15 ⟨rfl, hb⟩
  have hB := bel_step hB hb
  have r_a0 := At.step r_a0 hb
  have r_z1 := At.step r_z1 hb
  have r_u := At.step r_u hb
  have r_z2 := At.step r_z2 hb
  have r_z3 := At.step r_z3 hb
  clear hb
  clear r_z3
  clear r_z1
  clear r_u
  obtain ⟨adt, rfl, _, hct⟩ := r_z2.out.at_ (k := m) (by omega)
  have hy := r_z2.out.ws.at_ m
  have hbl := bits_trim HNB.out i_z2.out r_z2.out.ws r_z2.out.len
  generalize Nt.at_ z2 m = y at *
  unfold Wd.W at hy
  obtain ⟨hy1, hy2⟩ := hy
  have hbe : ((nb : Int) == 64 * (m : Int) + ((Lib.bitLen y.toNat : Nat) : Int)) = true := by simp; omega
  have hme : ((m : Int) + 1 == 0) = false := by simp; omega
  have hbs : Lib.bitLen y.toNat ≤ 768 := by omega
  clear hbl
  go_wp2_with fail
  try go_at_call 42
  refine (rbits_u y hy1 hy2).mono ?_
  rintro e w16 ⟨rfl, hb⟩
  have hB := bel_step hB hb
  have r_a0 := At.step r_a0 hb
  have r_z2 := At.step r_z2 hb
  clear hb
  go_wp2_with fail
  go_ret
  exact ⟨rfl, hB.out⟩

set_option maxRecDepth 100000 in
set_option maxHeartbeats 8000000 in
theorem walk_b4 (w : World) (ad : Addr) (n0 c0 : Nat) (xs0 : List Int) (a1 a2 : Int)
    (hr0 : Rd w w.heap.size (some ad) n0 xs0) (hn0 : n0 ≤ c0) (hm0 : c0 ≤ 9223372036854775807) (wf1 : (Lit.int .i64 a1).wf = true) (wf2 : (Lit.int .i64 a2).wf = true) (h0 : n0 ≤ 12) (i k nb : Nat) (HI : Hid (Kit.pick a1 832 = i)) (hi : i < 832) (HK : Hid (Kit.pick a2 13 = k)) (hk : k < 13) (HNB : Hid (BitsR (V xs0) nb)) (hnb : nb ≤ 64 * n0) (hv0 : V xs0 ≠ 0) (hq : (i : Int) / 64 < (n0 : Int)) (hw : V xs0 / 2 ^ i % 2 ≠ 1) (hin : nb ≤ i) :
    Calls Tryd.prog 8 #[.slice (some ad) n0 c0, .int .i64 a1, .int .i64 a2] w fun e w' => e = .returned (.bool true) ∧ Below w.heap.size w w' := by
  have HW : Hid (decide (V xs0 / 2 ^ i % 2 = 1) = false) := Lib.hid (decide_eq_false hw)
  have HLU := Lib.hid (low_up xs0 k (min k n0) (by rw [hr0.len]))
  obtain ⟨hnb1, _⟩ := HNB.out.lo hv0
  have hnz : ((nb : Int) == 0) = false := by simp; omega
  have r_a0 : Hid (At w (some ad) n0 xs0) := Lib.hid hr0
  have hB : Hid (Below w.heap.size w w) := Lib.hid (Below.refl _ w)
  clear hr0
  go_enter Tryd.func8, Tryd.ntmps8
  try simp only [List.append]
  go_wp2_with fail
  try go_at_call 10
  refine (lives_c _).mono ?_
  rintro e w1 ⟨rfl, hb⟩
  have hB := bel_step hB hb
  have r_a0 := At.step r_a0 hb
  clear hb
  go_wp2_with fail
  try go_at_call 41
  refine (pick_u a1 832 wf1 (by decide) i HI.out).mono ?_
  rintro e w2 ⟨rfl, hb⟩
  have hB := bel_step hB hb
  have r_a0 := At.step r_a0 hb
  clear hb
  obtain ⟨ad', e, _, hca⟩ := r_a0.out.at_ (k := i / 64) (by omega)
  cases e
  have hbe := bit_at r_a0.out.ws i
  have hwz := r_a0.out.ws.at_ (i / 64)
  generalize Nt.at_ xs0 (i / 64) = z at *
  unfold Wd.W at hwz
  obtain ⟨hz1, hz2⟩ := hwz
  have hbit : (bits BinOp.and IntKind.u64 (z / 2 ^ (i % 64)) 1 == 1) = false := bit_ff hz1 hz2 (by rw [hbe]; exact hw)
  clear hbe
  go_wp2_with fail
  try go_at_call 23
  refine (bitsv_u r_a0 (by omega) (by omega) (by omega) nb HNB.out).mono ?_
  rintro e w3 ⟨rfl, hb⟩
  have hB := bel_step hB hb
  have r_a0 := At.step r_a0 hb
  clear hb
  go_wp2_with fail
  try go_at_call 41
  refine (pick_u a2 13 wf2 (by decide) k HK.out).mono ?_
  rintro e w4 ⟨rfl, hb⟩
  have hB := bel_step hB hb
  have r_a0 := At.step r_a0 hb
  clear hb
  go_wp2_with fail
  try go_at_call 25
  refine (lowk_u k k r_a0 (by omega) (by omega) (by omega) (by omega) (by omega)).mono ?_
  rintro e w5 ⟨v, rfl, ⟨Az1, nz1, cz1, z1, rfl, i_z1, r_z1, hc_z1, hk_z1, hb⟩⟩
  have hB := bel_step hB hb
  have r_a0 := At.step r_a0 hb
  clear hb
  go_wp2_with fail
  have hmk := make_nat k (by omega)
  obtain ⟨M, hM⟩ : ∃ M : Nat, min k n0 = M := ⟨_, rfl⟩
  rw [hM] at HLU
  have hm1 : M ≤ n0 := by omega
  have hm2 : M ≤ k := by omega
  have hmin : min (k : Int) (n0 : Int) = (M : Int) := by omega
  clear hM
  have hb := Below.drew (Below.refl w5.heap.size w5)
  obtain ⟨Au, cu, wu, hap, r_u, hn_u, hc_u, hbb⟩ := append_run (w := w5.drew.alloc (.cells (us (List.replicate k 0)) 28)) (k := k) (m := n0 - M) (c := c0 - M) (B0 := w5.heap.size) 24 (Bk.new _ _ _) (by simp) (Ws.zeros _) (tail_rd (At.step (At.step r_a0 hb) (below_alloc _)).out hm1 hn0) (by omega) (Nat.le_refl _)
  replace hb : Below w5.heap.size w5 wu := (hb.trans (below_alloc (w := w5.drew) _)).trans hbb
  have r_u := Lib.hid r_u
  clear hbb
  have hB := bel_step hB hb
  have r_a0 := At.step r_a0 hb
  have r_z1 := At.step r_z1 hb
  clear hb
  obtain ⟨T, hT⟩ : ∃ T, (if c0 = M then some ad else some (ad.add M)) = T := ⟨_, rfl⟩
  rw [hT] at hap
  have hap : Sem.run Tryd.prog (Builtin.append_ #[24, 24] 24 #[.slice (some ⟨w5.heap.size, 0, none⟩) k k, .slice T (n0 - M) (c0 - M)]) ((w5.alloc (.cells (us (List.replicate k 0)) 28)).drew) = .ok (.slice Au (k + (n0 - M)) cu) wu := hap
  refine wp_region_any (by kernel_rfl) ?_
  change wpAny _ _ _ _ _ _ _ (World.drew _)
  refine wpAny_take (i := 0) (v := ?v0) rfl (by kernel_rfl) (by kernel_rfl) (by kernel_rfl) (fun _ _ _ h => h) (Or.inl ⟨by rfl, ?y0⟩) ?nx0
  case y0 => ((intro w; go_simp); try with_reducible rfl)
  refine wpAny_take (i := 2) (v := ?v2) rfl (by kernel_rfl) (by kernel_rfl) (by kernel_rfl) (fun _ _ _ h => h) (Or.inl ⟨by rfl, ?y2⟩) ?nx2
  case y2 => ((intro w; go_simp); try with_reducible rfl)
  refine wpAny_take (i := 3) (v := ?v3) rfl (by kernel_rfl) (by kernel_rfl) (by kernel_rfl) (fun _ _ _ h => h) (Or.inl ⟨by rfl, ?y3⟩) ?nx3
  case y3 => ((intro w; go_simp); try with_reducible rfl)
  refine wpAny_take (i := 4) (v := ?v4) rfl (by kernel_rfl) (by kernel_rfl) (by kernel_rfl) (fun _ _ _ h => h) (Or.inl ⟨by rfl, ?y4⟩) ?nx4
  case y4 => ((intro w; go_simp); try with_reducible rfl)
  refine wpAny_take (i := 5) (v := ?v5) rfl (by kernel_rfl) (by kernel_rfl) (by kernel_rfl) (fun _ _ _ h => h) (Or.inl ⟨by rfl, ?y5⟩) ?nx5
  case y5 => ((intro w; go_simp); try with_reducible rfl)
  refine wpAny_take (i := 6) (v := ?v6) rfl (by kernel_rfl) (by kernel_rfl) (by kernel_rfl) (fun _ _ _ h => h) (Or.inl ⟨by rfl, ?y6⟩) ?nx6
  case y6 => ((intro w; go_simp); try with_reducible rfl)
  refine wpAny_take (i := 7) (v := ?v7) rfl (by kernel_rfl) (by kernel_rfl) (by kernel_rfl) (fun _ _ _ h => h) (Or.inl ⟨by rfl, ?y7⟩) ?nx7
  case y7 => ((intro w; go_simp); try with_reducible rfl)
  refine wpAny_ready (rs := [1]) (by kernel_rfl) (by simp) ?_
  refine AllReady.cons rfl (fun K hK => ?_) AllReady.nil
  go_simp
  refine hK _ _ ?_
  clear hK K
  refine wpAny_ready (rs := [8]) (by kernel_rfl) (by simp) ?_
  refine AllReady.cons (o := { dst := some 56, op := .call { callee := .builtin .append, args := #[.tmp 49, .tmp 55], argTypes := #[24, 24] }, type := 24, pos := "law.go:155", after := #[{ on := 1, ground := .data }, { on := 7, ground := .data }], guard := none }) rfl (fun K hK => ?_) AllReady.nil
  refine of_wanted (by kernel_rfl) ?_
  refine op_append_eq (.tmp 49) (.tmp 55) 24 rfl _ _ rfl rfl _ _ hap ?_
  try go_simp
  refine hK _ _ ?_
  clear hK K
  refine wpAny_ready (rs := [9]) (by kernel_rfl) (by simp) ?_
  refine AllReady.cons rfl (fun K hK => ?_) AllReady.nil
  go_simp
  refine hK _ _ ?_
  clear hK K
  refine wpAny_done (by kernel_rfl) ?_ _
  obtain ⟨w6, rfl⟩ : ∃ W, W = wu := ⟨_, rfl⟩
  clear hap hmk hmin hT
  go_wp2_with fail
  try go_at_call 14
  refine (fit13_u r_a0 (by omega) (by omega) (by omega)).mono ?_
  rintro e w7 ⟨Af, zf, rfl, r_f, v_f, hb⟩
  have hB := bel_step hB hb
  have r_a0 := At.step r_a0 hb
  have r_z1 := At.step r_z1 hb
  have r_u := At.step r_u hb
  clear hb
  go_wp2_with fail
  try go_at_call 22
  refine (trim_u 12 r_a0 (by omega) (by omega) (by omega) (by omega)).mono ?_
  rintro e w8 ⟨v, rfl, ⟨Az2, nz2, cz2, z2, rfl, i_z2, r_z2, hc_z2, hk_z2, hb⟩⟩
  have hB := bel_step hB hb
  have r_a0 := At.step r_a0 hb
  have r_z1 := At.step r_z1 hb
  have r_u := At.step r_u hb
  have r_f := At.step r_f hb
  clear hb
  obtain ⟨m, rfl⟩ : ∃ m, nz2 = m + 1 := ⟨nz2 - 1, by have := len_pos r_z2 i_z2 hv0; omega⟩
  go_wp2_with fail
  try go_at_call 40
  refine (nat_u r_f r_a0 (by omega) (by omega) true (decide_eq_true (v_f.out))).mono ?_
  rintro e w9 ⟨rfl, hb⟩
  have hB := bel_step hB hb
  have r_a0 := At.step r_a0 hb
  have r_z1 := At.step r_z1 hb
  have r_u := At.step r_u hb
  have r_f := At.step r_f hb
  have r_z2 := At.step r_z2 hb
  clear hb
  go_wp2_with fail
  try go_at_call 40
  refine (nat_u r_z2 r_a0 (by omega) (by omega) true (decide_eq_true (i_z2.out.v))).mono ?_
  rintro e w10 ⟨rfl, hb⟩
  have hB := bel_step hB hb
  have r_a0 := At.step r_a0 hb
  have r_z1 := At.step r_z1 hb
  have r_u := At.step r_u hb
  have r_f := At.step r_f hb
  have r_z2 := At.step r_z2 hb
  clear hb
  go_wp2_with fail
  try go_at_call 39
  refine (trimd_u r_z2 (by omega) true (decide_eq_true i_z2.out.tr)).mono ?_
  rintro e w11 ⟨rfl, hb⟩
  have hB := bel_step hB hb
  have r_a0 := At.step r_a0 hb
  have r_z1 := At.step r_z1 hb
  have r_u := At.step r_u hb
  have r_f := At.step r_f hb
  have r_z2 := At.step r_z2 hb
  clear hb
  clear r_f
  go_wp2_with fail
  try go_at_call 24
  refine (bitk_u i (by omega) r_a0 false HW.out).mono ?_
  rintro e w12 ⟨rfl, hb⟩
  have hB := bel_step hB hb
  have r_a0 := At.step r_a0 hb
  have r_z1 := At.step r_z1 hb
  have r_u := At.step r_u hb
  have r_z2 := At.step r_z2 hb
  clear hb
  go_wp2_with fail
  try go_at_call 24
  refine (bitp_u nb (by omega) (by omega) r_a0 true (decide_eq_true (top_bit HNB.out hv0))).mono ?_
  rintro e w13 ⟨rfl, hb⟩
  have hB := bel_step hB hb
  have r_a0 := At.step r_a0 hb
  have r_z1 := At.step r_z1 hb
  have r_u := At.step r_u hb
  have r_z2 := At.step r_z2 hb
  clear hb
  go_wp2_with fail
  try go_at_call 18
  refine (add_u 26 r_z1 r_u (by omega) (by omega) (by omega)).mono ?_
  rintro e w14 ⟨v, rfl, ⟨Az3, nz3, cz3, z3, rfl, i_z3, r_z3, hc_z3, hk_z3, hb⟩⟩
  have hB := bel_step hB hb
  have r_a0 := At.step r_a0 hb
  have r_z1 := At.step r_z1 hb
  have r_u := At.step r_u hb
  have r_z2 := At.step r_z2 hb
  clear hb
  go_wp2_with fail
  try go_at_call 40
  refine (nat_u r_z3 r_a0 (by omega) (by omega) true (decide_eq_true (by rw [i_z3.out.v, i_z1.out.v, V_append, V_zeros, List.length_replicate]; have := HLU.out; omega))).mono ?_
  rintro e w15 ⟨rfl, hb⟩
  have hB := bel_step hB hb
  have r_a0 := At.step r_a0 hb
  have r_z1 := At.step r_z1 hb
  have r_u := At.step r_u hb
  have r_z2 := At.step r_z2 hb
  have r_z3 := At.step r_z3 hb
  clear hb
  clear r_z3
  clear r_z1
  clear r_u
  obtain ⟨adt, rfl, _, hct⟩ := r_z2.out.at_ (k := m) (by omega)
  have hy := r_z2.out.ws.at_ m
  have hbl := bits_trim HNB.out i_z2.out r_z2.out.ws r_z2.out.len
  generalize Nt.at_ z2 m = y at *
  unfold Wd.W at hy
  obtain ⟨hy1, hy2⟩ := hy
  have hbe : ((nb : Int) == 64 * (m : Int) + ((Lib.bitLen y.toNat : Nat) : Int)) = true := by simp; omega
  have hme : ((m : Int) + 1 == 0) = false := by simp; omega
  have hbs : Lib.bitLen y.toNat ≤ 768 := by omega
  clear hbl
  go_wp2_with fail
  try go_at_call 42
  refine (rbits_u y hy1 hy2).mono ?_
  rintro e w16 ⟨rfl, hb⟩
  have hB := bel_step hB hb
  have r_a0 := At.step r_a0 hb
  have r_z2 := At.step r_z2 hb
  clear hb
  go_wp2_with fail
  go_ret
  exact ⟨rfl, hB.out⟩

set_option maxRecDepth 100000 in
set_option maxHeartbeats 8000000 in
theorem walk_n (w : World) (c0 : Nat) (a1 a2 : Int)
    (hr0 : Rd w w.heap.size none 0 []) (h0 : 0 ≤ c0) (hm0 : c0 ≤ 9223372036854775807) (wf1 : (Lit.int .i64 a1).wf = true) (wf2 : (Lit.int .i64 a2).wf = true) (h0 : 0 ≤ 12) (i k nb : Nat) (HI : Hid (Kit.pick a1 832 = i)) (hi : i < 832) (HK : Hid (Kit.pick a2 13 = k)) (hk : k < 13) (HNB : Hid (BitsR (V []) nb)) (hnb : nb ≤ 64 * 0) (hv0 : V [] = 0) (hq : (0 : Int) ≤ (i : Int) / 64) (hw : V [] / 2 ^ i % 2 ≠ 1) :
    Calls Tryd.prog 8 #[.slice none 0 c0, .int .i64 a1, .int .i64 a2] w fun e w' => e = .returned (.bool true) ∧ Below w.heap.size w w' := by
  have HW : Hid (decide (V [] / 2 ^ i % 2 = 1) = false) := Lib.hid (decide_eq_false hw)
  have HLU := Lib.hid (low_up [] k (min k 0) (by rw [hr0.len]))
  obtain rfl : nb = 0 := HNB.out.zero hv0
  have r_a0 : Hid (At w none 0 []) := Lib.hid hr0
  have hB : Hid (Below w.heap.size w w) := Lib.hid (Below.refl _ w)
  clear hr0
  go_enter Tryd.func8, Tryd.ntmps8
  try simp only [List.append]
  go_wp2_with fail
  try go_at_call 10
  refine (lives_c _).mono ?_
  rintro e w1 ⟨rfl, hb⟩
  have hB := bel_step hB hb
  have r_a0 := At.step r_a0 hb
  clear hb
  go_wp2_with fail
  try go_at_call 41
  refine (pick_u a1 832 wf1 (by decide) i HI.out).mono ?_
  rintro e w2 ⟨rfl, hb⟩
  have hB := bel_step hB hb
  have r_a0 := At.step r_a0 hb
  clear hb
  go_wp2_with fail
  try go_at_call 23
  refine (bitsv_u r_a0 (by omega) (by omega) (by omega) 0 HNB.out).mono ?_
  rintro e w3 ⟨rfl, hb⟩
  have hB := bel_step hB hb
  have r_a0 := At.step r_a0 hb
  clear hb
  go_wp2_with fail
  try go_at_call 41
  refine (pick_u a2 13 wf2 (by decide) k HK.out).mono ?_
  rintro e w4 ⟨rfl, hb⟩
  have hB := bel_step hB hb
  have r_a0 := At.step r_a0 hb
  clear hb
  go_wp2_with fail
  try go_at_call 25
  refine (lowk_u k k r_a0 (by omega) (by omega) (by omega) (by omega) (by omega)).mono ?_
  rintro e w5 ⟨v, rfl, ⟨Az1, nz1, cz1, z1, rfl, i_z1, r_z1, hc_z1, hk_z1, hb⟩⟩
  have hB := bel_step hB hb
  have r_a0 := At.step r_a0 hb
  clear hb
  go_wp2_with fail
  have hmk := make_nat k (by omega)
  obtain ⟨M, hM⟩ : ∃ M : Nat, min k 0 = M := ⟨_, rfl⟩
  rw [hM] at HLU
  have hm1 : M ≤ 0 := by omega
  have hm2 : M ≤ k := by omega
  have hmin : min (k : Int) 0 = 0 := by omega
  clear hM
  obtain rfl : M = 0 := by omega
  have hb := Below.drew (Below.refl w5.heap.size w5)
  obtain ⟨Au, cu, wu, hap, r_u, hn_u, hc_u, hbb⟩ := append_run (w := w5.drew.alloc (.cells (us (List.replicate k 0)) 28)) (k := k) (m := 0) (c := c0) (ys := []) (A := none) (B0 := w5.heap.size) 24 (Bk.new _ _ _) (by simp) (Ws.zeros _) Rd.nil (by omega) (Nat.le_refl _)
  replace hb : Below w5.heap.size w5 wu := (hb.trans (below_alloc (w := w5.drew) _)).trans hbb
  have r_u := Lib.hid r_u
  clear hbb
  have hB := bel_step hB hb
  have r_a0 := At.step r_a0 hb
  have r_z1 := At.step r_z1 hb
  clear hb
  have hap : Sem.run Tryd.prog (Builtin.append_ #[24, 24] 24 #[.slice (some ⟨w5.heap.size, 0, none⟩) k k, .slice none 0 c0]) ((w5.alloc (.cells (us (List.replicate k 0)) 28)).drew) = .ok (.slice Au (k + 0) cu) wu := hap
  refine wp_region_any (by kernel_rfl) ?_
  change wpAny _ _ _ _ _ _ _ (World.drew _)
  refine wpAny_take (i := 0) (v := ?v0) rfl (by kernel_rfl) (by kernel_rfl) (by kernel_rfl) (fun _ _ _ h => h) (Or.inl ⟨by rfl, ?y0⟩) ?nx0
  case y0 => ((intro w; go_simp); try with_reducible rfl)
  refine wpAny_take (i := 2) (v := ?v2) rfl (by kernel_rfl) (by kernel_rfl) (by kernel_rfl) (fun _ _ _ h => h) (Or.inl ⟨by rfl, ?y2⟩) ?nx2
  case y2 => ((intro w; go_simp); try with_reducible rfl)
  refine wpAny_take (i := 3) (v := ?v3) rfl (by kernel_rfl) (by kernel_rfl) (by kernel_rfl) (fun _ _ _ h => h) (Or.inl ⟨by rfl, ?y3⟩) ?nx3
  case y3 => ((intro w; go_simp); try with_reducible rfl)
  refine wpAny_take (i := 4) (v := ?v4) rfl (by kernel_rfl) (by kernel_rfl) (by kernel_rfl) (fun _ _ _ h => h) (Or.inl ⟨by rfl, ?y4⟩) ?nx4
  case y4 => ((intro w; go_simp); try with_reducible rfl)
  refine wpAny_take (i := 5) (v := ?v5) rfl (by kernel_rfl) (by kernel_rfl) (by kernel_rfl) (fun _ _ _ h => h) (Or.inl ⟨by rfl, ?y5⟩) ?nx5
  case y5 => ((intro w; go_simp); try with_reducible rfl)
  refine wpAny_take (i := 6) (v := ?v6) rfl (by kernel_rfl) (by kernel_rfl) (by kernel_rfl) (fun _ _ _ h => h) (Or.inl ⟨by rfl, ?y6⟩) ?nx6
  case y6 => ((intro w; go_simp); try with_reducible rfl)
  refine wpAny_take (i := 7) (v := ?v7) rfl (by kernel_rfl) (by kernel_rfl) (by kernel_rfl) (fun _ _ _ h => h) (Or.inl ⟨by rfl, ?y7⟩) ?nx7
  case y7 => ((intro w; go_simp); try with_reducible rfl)
  refine wpAny_ready (rs := [1]) (by kernel_rfl) (by simp) ?_
  refine AllReady.cons rfl (fun K hK => ?_) AllReady.nil
  go_simp
  refine hK _ _ ?_
  clear hK K
  refine wpAny_ready (rs := [8]) (by kernel_rfl) (by simp) ?_
  refine AllReady.cons (o := { dst := some 56, op := .call { callee := .builtin .append, args := #[.tmp 49, .tmp 55], argTypes := #[24, 24] }, type := 24, pos := "law.go:155", after := #[{ on := 1, ground := .data }, { on := 7, ground := .data }], guard := none }) rfl (fun K hK => ?_) AllReady.nil
  refine of_wanted (by kernel_rfl) ?_
  refine op_append_eq (.tmp 49) (.tmp 55) 24 rfl _ _ rfl rfl _ _ hap ?_
  try go_simp
  refine hK _ _ ?_
  clear hK K
  refine wpAny_ready (rs := [9]) (by kernel_rfl) (by simp) ?_
  refine AllReady.cons rfl (fun K hK => ?_) AllReady.nil
  go_simp
  refine hK _ _ ?_
  clear hK K
  refine wpAny_done (by kernel_rfl) ?_ _
  obtain ⟨w6, rfl⟩ : ∃ W, W = wu := ⟨_, rfl⟩
  clear hap hmk hmin
  go_wp2_with fail
  try go_at_call 14
  refine (fit13_u r_a0 (by omega) (by omega) (by omega)).mono ?_
  rintro e w7 ⟨Af, zf, rfl, r_f, v_f, hb⟩
  have hB := bel_step hB hb
  have r_a0 := At.step r_a0 hb
  have r_z1 := At.step r_z1 hb
  have r_u := At.step r_u hb
  clear hb
  go_wp2_with fail
  try go_at_call 22
  refine (trim_u 12 r_a0 (by omega) (by omega) (by omega) (by omega)).mono ?_
  rintro e w8 ⟨v, rfl, ⟨Az2, nz2, cz2, z2, rfl, i_z2, r_z2, hc_z2, hk_z2, hb⟩⟩
  have hB := bel_step hB hb
  have r_a0 := At.step r_a0 hb
  have r_z1 := At.step r_z1 hb
  have r_u := At.step r_u hb
  have r_f := At.step r_f hb
  clear hb
  obtain rfl : nz2 = 0 := len_zero r_z2 i_z2 hv0
  go_wp2_with fail
  try go_at_call 40
  refine (nat_u r_f r_a0 (by omega) (by omega) true (decide_eq_true (v_f.out))).mono ?_
  rintro e w9 ⟨rfl, hb⟩
  have hB := bel_step hB hb
  have r_a0 := At.step r_a0 hb
  have r_z1 := At.step r_z1 hb
  have r_u := At.step r_u hb
  have r_f := At.step r_f hb
  have r_z2 := At.step r_z2 hb
  clear hb
  go_wp2_with fail
  try go_at_call 40
  refine (nat_u r_z2 r_a0 (by omega) (by omega) true (decide_eq_true (i_z2.out.v))).mono ?_
  rintro e w10 ⟨rfl, hb⟩
  have hB := bel_step hB hb
  have r_a0 := At.step r_a0 hb
  have r_z1 := At.step r_z1 hb
  have r_u := At.step r_u hb
  have r_f := At.step r_f hb
  have r_z2 := At.step r_z2 hb
  clear hb
  go_wp2_with fail
  try go_at_call 39
  refine (trimd_u r_z2 (by omega) true (decide_eq_true i_z2.out.tr)).mono ?_
  rintro e w11 ⟨rfl, hb⟩
  have hB := bel_step hB hb
  have r_a0 := At.step r_a0 hb
  have r_z1 := At.step r_z1 hb
  have r_u := At.step r_u hb
  have r_f := At.step r_f hb
  have r_z2 := At.step r_z2 hb
  clear hb
  clear r_f
  go_wp2_with fail
  try go_at_call 24
  refine (bitk_u i (by omega) r_a0 false HW.out).mono ?_
  rintro e w12 ⟨rfl, hb⟩
  have hB := bel_step hB hb
  have r_a0 := At.step r_a0 hb
  have r_z1 := At.step r_z1 hb
  have r_u := At.step r_u hb
  have r_z2 := At.step r_z2 hb
  clear hb
  go_wp2_with fail
  try go_at_call 18
  refine (add_u 26 r_z1 r_u (by omega) (by omega) (by omega)).mono ?_
  rintro e w13 ⟨v, rfl, ⟨Az3, nz3, cz3, z3, rfl, i_z3, r_z3, hc_z3, hk_z3, hb⟩⟩
  have hB := bel_step hB hb
  have r_a0 := At.step r_a0 hb
  have r_z1 := At.step r_z1 hb
  have r_u := At.step r_u hb
  have r_z2 := At.step r_z2 hb
  clear hb
  go_wp2_with fail
  try go_at_call 40
  refine (nat_u r_z3 r_a0 (by omega) (by omega) true (decide_eq_true (by rw [i_z3.out.v, i_z1.out.v, V_append, V_zeros, List.length_replicate]; have := HLU.out; simp only [List.drop_nil] at this ⊢; omega))).mono ?_
  rintro e w14 ⟨rfl, hb⟩
  have hB := bel_step hB hb
  have r_a0 := At.step r_a0 hb
  have r_z1 := At.step r_z1 hb
  have r_u := At.step r_u hb
  have r_z2 := At.step r_z2 hb
  have r_z3 := At.step r_z3 hb
  clear hb
  go_wp2_with fail
  go_ret
  exact ⟨rfl, hB.out⟩

set_option maxRecDepth 100000 in
set_option maxHeartbeats 8000000 in
theorem walk (w : World) (A0 : Option Addr) (n0 c0 : Nat) (xs0 : List Int) (a1 a2 : Int)
    (hr0 : Rd w w.heap.size A0 n0 xs0) (hn0 : n0 ≤ c0) (hm0 : c0 ≤ 9223372036854775807) (wf1 : (Lit.int .i64 a1).wf = true) (wf2 : (Lit.int .i64 a2).wf = true) :
    Calls Tryd.prog 8 #[.slice A0 n0 c0, .int .i64 a1, .int .i64 a2] w fun e w' => e = .returned (.bool true) ∧ Below w.heap.size w w' := by
  by_cases h0 : n0 ≤ 12
  · obtain ⟨p1, p2⟩ := Kit.pick_lt (n := a1) (m := 832) (by decide)
    obtain ⟨p3, p4⟩ := Kit.pick_lt (n := a2) (m := 13) (by decide)
    obtain ⟨i, hi⟩ : ∃ i : Nat, Kit.pick a1 832 = i := ⟨(Kit.pick a1 832).toNat, by omega⟩
    obtain ⟨k, hk⟩ : ∃ k : Nat, Kit.pick a2 13 = k := ⟨(Kit.pick a2 13).toNat, by omega⟩
    obtain ⟨nb, hm, hml⟩ := bits_ex hr0
    have h1 : i < 832 := by omega
    have h2 : k < 13 := by omega
    have HI := Lib.hid hi
    have HK := Lib.hid hk
    have HNB := Lib.hid hm
    have p0 := V_nonneg hr0.ws
    have nw : nb ≤ i → V xs0 / 2 ^ i % 2 ≠ 1 := fun h => high_bit hm p0 h
    have nl : V xs0 = 0 → V xs0 / 2 ^ i % 2 ≠ 1 := fun h => by rw [h, Int.zero_ediv]; decide
    rcases A0 with _ | ad
    · have hn : n0 = 0 := by
        rcases Nat.eq_zero_or_pos n0 with h | h
        · exact h
        · obtain ⟨_, e, _⟩ := hr0.rd h; cases e
      subst hn
      obtain rfl : xs0 = [] := List.eq_nil_of_length_eq_zero hr0.len
      exact walk_n w c0 a1 a2 hr0 hn0 hm0 wf1 wf2 h0 i k nb HI h1 HK h2 HNB hml rfl (by omega) (nl rfl)
    · by_cases hv0 : V xs0 = 0
      · by_cases hq : (n0 : Int) ≤ (i : Int) / 64
        · exact walk_z0 w ad n0 c0 xs0 a1 a2 hr0 hn0 hm0 wf1 wf2 h0 i k nb HI h1 HK h2 HNB hml hv0 hq (nl hv0)
        · exact walk_z1 w ad n0 c0 xs0 a1 a2 hr0 hn0 hm0 wf1 wf2 h0 i k nb HI h1 HK h2 HNB hml hv0 (by omega) (nl hv0)
      · by_cases hq : (n0 : Int) ≤ (i : Int) / 64
        · have hin : nb ≤ i := by omega
          exact walk_b1 w ad n0 c0 xs0 a1 a2 hr0 hn0 hm0 wf1 wf2 h0 i k nb HI h1 HK h2 HNB hml hv0 hq (nw hin) hin
        · have hq' : (i : Int) / 64 < (n0 : Int) := by omega
          by_cases hw : V xs0 / 2 ^ i % 2 = 1
          · have hin : i < nb := by
              rcases Nat.lt_or_ge i nb with h | h
              · exact h
              · exact absurd hw (nw h)
            exact walk_b2 w ad n0 c0 xs0 a1 a2 hr0 hn0 hm0 wf1 wf2 h0 i k nb HI h1 HK h2 HNB hml hv0 hq' hw hin
          · rcases Nat.lt_or_ge i nb with hin | hin
            · exact walk_b3 w ad n0 c0 xs0 a1 a2 hr0 hn0 hm0 wf1 wf2 h0 i k nb HI h1 HK h2 HNB hml hv0 hq' hw hin
            · exact walk_b4 w ad n0 c0 xs0 a1 a2 hr0 hn0 hm0 wf1 wf2 h0 i k nb HI h1 HK h2 HNB hml hv0 hq' hw hin
  · exact walk_h w A0 n0 c0 xs0 a1 a2 hr0 hn0 hm0 wf1 wf2 (by omega)
end natBits
end Go.Proofs.YtdklchejnpaenaaDoor
