/- The walk of NatNames. -/
import Derived.Test.YtdklchejnpaenaaDoorUniN
namespace Go.Proofs.YtdklchejnpaenaaDoor
open Go Go.RowKit
namespace natNames
open Wd Sti Nt
set_option linter.unusedVariables false

set_option maxRecDepth 100000 in
set_option maxHeartbeats 16000000 in
theorem walk (w : World) : Calls Tryd.prog 3 #[] w fun e w' => e = .returned (.bool true) ∧ Below w.heap.size w w' := by
  have hB : Hid (Below w.heap.size w w) := Lib.hid (Below.refl _ w)
  go_enter Tryd.func3, Tryd.ntmps3
  try simp only [List.append]
  go_wp2_with fail
  go_at_call 10
  refine (lives_c _).mono ?_
  rintro e w1 ⟨rfl, hb⟩
  replace hB := bel_step hB hb
  clear hb
  go_wp2_with fail
  go_at_call 11
  refine (n_sub _).mono ?_
  rintro e w2 ⟨rfl, hb⟩
  replace hB := bel_step hB hb
  clear hb
  go_wp2_with fail
  go_at_call 12
  refine (n_div _).mono ?_
  rintro e w3 ⟨rfl, hb⟩
  replace hB := bel_step hB hb
  clear hb
  go_wp2_with fail
  go_at_call 13
  refine (n_big1 _).mono ?_
  rintro e w4 ⟨v, rfl, Qb1, nb1, cb1, zb1, rfl, i_b1, r_b1, hc_b1, hk_b1, hb⟩
  replace hB := bel_step hB hb
  clear hb
  go_wp2_with fail
  go_at_call 13
  refine (n_big2 _).mono ?_
  rintro e w5 ⟨v, rfl, Qb2, nb2, cb2, zb2, rfl, i_b2, r_b2, hc_b2, hk_b2, hb⟩
  replace hB := bel_step hB hb
  replace r_b1 := At.step r_b1 hb
  clear hb
  have vb1 := Lib.hid i_b1.out.v
  have vb2 := Lib.hid i_b2.out.v
  go_wp2_with fail
  go_at_call 12
  refine (div_u 7 7 r_b1 r_b2 (by omega) (by omega) (by omega) (by omega) (by omega) (by omega) (by omega) (by omega) (by rw [vb2.out]; decide)).mono ?_
  rintro e w6 ⟨v1, v2, rfl, ⟨Qq, nq, cq, zq, rfl, i_q, r_q, hc_q, hk_q, hb⟩, ⟨Qr, nr, cr, zr, rfl, i_r, r_r, hc_r, hk_r, -⟩⟩
  replace hB := bel_step hB hb
  replace r_b1 := At.step r_b1 hb
  replace r_b2 := At.step r_b2 hb
  clear hb
  rw [vb1.out, vb2.out] at i_q i_r
  clear r_b1 r_b2 i_b1 i_b2 vb1 vb2
  go_wp2_with fail
  go_at_call 14
  refine (n_fit1 _).mono ?_
  rintro e w7 ⟨Qx, nx, cx, rfl, r_x, l_x, hb⟩
  replace hB := bel_step hB hb
  replace r_q := At.step r_q hb
  replace r_r := At.step r_r hb
  clear hb
  go_wp2_with fail
  go_at_call 14
  refine (n_fit2 _).mono ?_
  rintro e w8 ⟨Qf, nf, cf, rfl, hb⟩
  replace hB := bel_step hB hb
  replace r_q := At.step r_q hb
  replace r_r := At.step r_r hb
  replace r_x := At.step r_x hb
  clear hb
  go_wp2_with fail
  go_at_call 14
  refine (n_fit3 _).mono ?_
  rintro e w9 ⟨rfl, hb⟩
  replace hB := bel_step hB hb
  replace r_q := At.step r_q hb
  replace r_r := At.step r_r hb
  replace r_x := At.step r_x hb
  clear hb
  go_wp2_with fail
  go_at_call 15
  refine (n_read1 _).mono ?_
  rintro e w10 ⟨rfl, hb⟩
  replace hB := bel_step hB hb
  replace r_q := At.step r_q hb
  replace r_r := At.step r_r hb
  replace r_x := At.step r_x hb
  clear hb
  go_wp2_with fail
  go_at_call 15
  refine (n_read2 _).mono ?_
  rintro e w11 ⟨rfl, hb⟩
  replace hB := bel_step hB hb
  replace r_q := At.step r_q hb
  replace r_r := At.step r_r hb
  replace r_x := At.step r_x hb
  clear hb
  go_wp2_with fail
  go_at_call 16
  refine (times_c 8192 (by omega) _).mono ?_
  rintro e w12 ⟨t1, rfl, HT1, lt1, hb⟩
  replace hB := bel_step hB hb
  replace r_q := At.step r_q hb
  replace r_r := At.step r_r hb
  replace r_x := At.step r_x hb
  clear hb
  have hz1 : (⟨#[49]⟩ : ByteArray).size = 1 := rfl
  go_wp2_with fail
  go_at_call 15
  refine (n_read3 t1 HT1 lt1 _).mono ?_
  rintro e w13 ⟨rfl, hb⟩
  replace hB := bel_step hB hb
  replace r_q := At.step r_q hb
  replace r_r := At.step r_r hb
  replace r_x := At.step r_x hb
  clear hb
  clear HT1 lt1
  go_wp2_with fail
  go_at_call 16
  refine (times_c 9000 (by omega) _).mono ?_
  rintro e w14 ⟨t2, rfl, HT2, lt2, hb⟩
  replace hB := bel_step hB hb
  replace r_q := At.step r_q hb
  replace r_r := At.step r_r hb
  replace r_x := At.step r_x hb
  clear hb
  have hz2 : (⟨#[97]⟩ : ByteArray).size = 1 := rfl
  go_wp2_with fail
  go_at_call 15
  refine (n_read4 t2 HT2 lt2 _).mono ?_
  rintro e w15 ⟨Qm, nm, cm, rfl, r_m, l_m, hb⟩
  replace hB := bel_step hB hb
  replace r_q := At.step r_q hb
  replace r_r := At.step r_r hb
  replace r_x := At.step r_x hb
  clear hb
  clear HT2 lt2 hz1 hz2
  go_wp2_with fail
  go_at_call 13
  refine (n_big2 _).mono ?_
  rintro e w16 ⟨v, rfl, Qb3, nb3, cb3, zb3, rfl, i_b3, r_b3, hc_b3, hk_b3, hb⟩
  replace hB := bel_step hB hb
  replace r_q := At.step r_q hb
  replace r_r := At.step r_r hb
  replace r_x := At.step r_x hb
  replace r_m := At.step r_m hb
  clear hb
  go_wp2_with fail
  go_at_call 19
  refine (mul_u 12 r_q r_b3 (by omega) (by omega) (by omega) (by omega) (by omega) (by omega) (by omega)).mono ?_
  rintro e w17 ⟨v, rfl, Qp, np, cp, zp, rfl, i_p, r_p, hc_p, hk_p, hb⟩
  replace hB := bel_step hB hb
  replace r_q := At.step r_q hb
  replace r_r := At.step r_r hb
  replace r_x := At.step r_x hb
  replace r_m := At.step r_m hb
  replace r_b3 := At.step r_b3 hb
  clear hb
  go_wp2_with fail
  go_at_call 18
  refine (add_u 13 r_p r_r (by omega) (by omega) (by omega)).mono ?_
  rintro e w18 ⟨v, rfl, Qs, ns, cs, zs, rfl, i_s, r_s, hc_s, hk_s, hb⟩
  replace hB := bel_step hB hb
  replace r_q := At.step r_q hb
  replace r_r := At.step r_r hb
  replace r_x := At.step r_x hb
  replace r_m := At.step r_m hb
  replace r_b3 := At.step r_b3 hb
  replace r_p := At.step r_p hb
  clear hb
  rw [i_p.out.v, i_q.out.v, i_b3.out.v, i_r.out.v, show (1512366075204170929049582354406559215 / 68414056839 * 68414056839 + 1512366075204170929049582354406559215 % 68414056839 : Int) = 1512366075204170929049582354406559215 by decide] at i_s
  go_wp2_with fail
  go_at_call 17
  refine (n_text i_s r_s hc_s (by omega)).mono ?_
  rintro e w19 ⟨rfl, hb⟩
  replace hB := bel_step hB hb
  replace r_q := At.step r_q hb
  replace r_r := At.step r_r hb
  replace r_x := At.step r_x hb
  replace r_m := At.step r_m hb
  replace r_b3 := At.step r_b3 hb
  replace r_p := At.step r_p hb
  replace r_s := At.step r_s hb
  clear hb
  clear r_s r_p r_q r_r r_b3 i_s i_p i_q i_r i_b3
  go_wp2_with fail
  go_at_call 20
  refine (same_lit [5, 0] 2 r_x l_x rfl (Ws.of _ (by decide)) rfl (by omega)).mono ?_
  rintro e w20 ⟨rfl, hb⟩
  replace hB := bel_step hB hb
  replace r_x := At.step r_x hb
  replace r_m := At.step r_m hb
  clear hb
  clear r_x
  go_wp2_with fail
  go_at_call 20
  refine (same_lit [10] 1 r_m l_m rfl (Ws.of _ (by decide)) rfl (by omega)).mono ?_
  rintro e w21 ⟨rfl, hb⟩
  replace hB := bel_step hB hb
  replace r_m := At.step r_m hb
  clear hb
  clear r_m
  go_wp2_with fail
  go_at_call 21
  refine (n_cmp1 _).mono ?_
  rintro e w22 ⟨rfl, hb⟩
  replace hB := bel_step hB hb
  clear hb
  go_wp2_with fail
  go_at_call 21
  refine (n_cmp2 _).mono ?_
  rintro e w23 ⟨rfl, hb⟩
  replace hB := bel_step hB hb
  clear hb
  go_wp2_with fail
  go_at_call 22
  refine (n_trim _).mono ?_
  rintro e w24 ⟨Qt, ct, rfl, hb⟩
  replace hB := bel_step hB hb
  clear hb
  go_wp2_with fail
  go_at_call 23
  refine (n_bits _).mono ?_
  rintro e w25 ⟨rfl, hb⟩
  replace hB := bel_step hB hb
  clear hb
  go_wp2_with fail
  go_at_call 24
  refine (n_bit1 _).mono ?_
  rintro e w26 ⟨rfl, hb⟩
  replace hB := bel_step hB hb
  clear hb
  go_wp2_with fail
  go_at_call 24
  refine (n_bit2 _).mono ?_
  rintro e w27 ⟨rfl, hb⟩
  replace hB := bel_step hB hb
  clear hb
  go_wp2_with fail
  go_at_call 24
  refine (n_bit3 _).mono ?_
  rintro e w28 ⟨rfl, hb⟩
  replace hB := bel_step hB hb
  clear hb
  go_wp2_with fail
  go_at_call 25
  refine (n_low _).mono ?_
  rintro e w29 ⟨Ql, nl, cl, rfl, r_l, l_l, hb⟩
  replace hB := bel_step hB hb
  clear hb
  go_wp2_with fail
  go_at_call 20
  refine (same_lit [7] 1 r_l l_l rfl (Ws.of _ (by decide)) rfl (by omega)).mono ?_
  rintro e w30 ⟨rfl, hb⟩
  replace hB := bel_step hB hb
  replace r_l := At.step r_l hb
  clear hb
  clear r_l
  go_wp2_with fail
  go_at_call 17
  refine (n_text0 _).mono ?_
  rintro e w31 ⟨rfl, hb⟩
  replace hB := bel_step hB hb
  clear hb
  go_wp2_with fail
  go_at_call 18
  refine (n_add _).mono ?_
  rintro e w32 ⟨Qa, na, ca, rfl, r_a, l_a, hb⟩
  replace hB := bel_step hB hb
  clear hb
  go_wp2_with fail
  go_at_call 20
  refine (same_lit [0, 1] 2 r_a l_a rfl (Ws.of _ (by decide)) rfl (by omega)).mono ?_
  rintro e w33 ⟨rfl, hb⟩
  replace hB := bel_step hB hb
  replace r_a := At.step r_a hb
  clear hb
  clear r_a
  go_wp2_with fail
  go_ret
  exact ⟨rfl, hB.out⟩
end natNames
end Go.Proofs.YtdklchejnpaenaaDoor
