/- ScanAlone's walk, way B. -/
import Derived.Test.YtaocplcmmpbjjaaDoorOD
import Derived.Test.YtaocplcmmpbjjaaDoorLexB
import Derived.Deep.RegionHeld3
import Derived.Lib.SliceRun
import Derived.Deep.Cut
import Derived.Deep.CutRange
namespace Go.Proofs.YtaocplcmmpbjjaaDoor
open Go Go.RowKit Go.Maps Go.Shelf
namespace scanAlone
open Nt Sn
open Gr (Rdr Rws row Sh rws_rd rws_form)
set_option linter.unusedVariables false
set_option linter.unusedSimpArgs false
set_option maxRecDepth 100000 in
set_option maxHeartbeats 40000000 in
theorem walk_3B (w : World) (hT : Lib.Utf8Tabs 0 1 w) (s : ByteArray) (a b : Int) (hs : s.size ≤ 200) (ha : -9223372036854775808 ≤ a ∧ a ≤ 9223372036854775807) (hb : -9223372036854775808 ≤ b ∧ b ≤ 9223372036854775807) (hq : (scn s).2 = none) (h0 : Tx s ≠ []) (hway : ∀ (i : Nat) (x : TV), (i : Int) = Kit.pick a ((Tx s).length : Int) → (Tx s)[i]? = some x → x.t.size ≠ 1 ∧ x.k = 2) :
    Calls Tryd.prog 7 #[.string s, .int .i64 a, .int .i64 b] w fun e w' => e = .returned (.bool true) ∧ Below w.heap.size w w' := by
  have HT := Lib.hid hT
  have HL := Lib.hid (lives_l w hT)
  have e1 : ((200 : Int) < (s.size : Int)) = False := eq_false (by omega)
  have HA := Lib.hid (fun W hT => all_y (s := s) (by omega) hq W hT)
  have hlp : 0 < (Tx s).length := List.length_pos_iff.2 h0
  have hlm : (Tx s).length ≤ 201 := by have := tx_len s; omega
  obtain ⟨p1, p2⟩ := Kit.pick_lt (n := a) (m := ((Tx s).length : Int)) (by omega)
  obtain ⟨p3, p4⟩ := Kit.pick_lt (n := b) (m := ((Tx s).length : Int)) (by omega)
  obtain ⟨ia, hia⟩ : ∃ i : Nat, Kit.pick a ((Tx s).length : Int) = (i : Int) := ⟨(Kit.pick a ((Tx s).length : Int)).toNat, by omega⟩
  obtain ⟨ib, hib⟩ : ∃ i : Nat, Kit.pick b ((Tx s).length : Int) = (i : Int) := ⟨(Kit.pick b ((Tx s).length : Int)).toNat, by omega⟩
  have HPA := Lib.hid (fun W => Kit.pick_c a ((Tx s).length : Int) W (by simp [Lit.wf, IntKind.min, IntKind.max, IntKind.signed, IntKind.bits]; omega) (by simp [Lit.wf, IntKind.min, IntKind.max, IntKind.signed, IntKind.bits]; omega))
  have HPB := Lib.hid (fun W => Kit.pick_c b ((Tx s).length : Int) W (by simp [Lit.wf, IntKind.min, IntKind.max, IntKind.signed, IntKind.bits]; omega) (by simp [Lit.wf, IntKind.min, IntKind.max, IntKind.signed, IntKind.bits]; omega))
  rw [hia] at HPA
  rw [hib] at HPB
  obtain ⟨x, hx⟩ : ∃ x, (Tx s)[ia]? = some x := ⟨_, List.getElem?_eq_getElem (by omega)⟩
  obtain ⟨y, hy⟩ : ∃ y, (Tx s)[ib]? = some y := ⟨_, List.getElem?_eq_getElem (by omega)⟩
  obtain ⟨rs, hw1, hw2, hw3⟩ := tx_word s hx
  obtain ⟨qs, hv1, hv2, hv3⟩ := tx_word s hy
  have HWX := Lib.hid (And.intro hw1 (And.intro hw2 hw3))
  have HWY := Lib.hid (And.intro hv1 (And.intro hv2 hv3))
  have HX := Lib.hid hx
  have H5 := Lib.hid (hway ia x hia.symm hx)
  have HY := Lib.hid hy
  have HS := Lib.hid hs
  have hIA : (ia : Int) < ((Tx s).length : Int) := by omega
  have hIB : (ib : Int) < ((Tx s).length : Int) := by omega
  have hIA0 : (0 : Int) ≤ (ia : Int) := by omega
  have hIB0 : (0 : Int) ≤ (ib : Int) := by omega
  have hl0 : (((Tx s).length : Int) == 0) = false := by simp; exact h0
  have hl1 : (((Tx s).length : Int) = 0) = False := eq_false (by omega)
  have hl2 : (Tx s = []) = False := eq_false h0
  generalize hxs : Tx s = xs at *
  generalize hln : xs.length = n at *
  have HLN := Lib.hid hln
  clear hway hT hq h0 hs ha hb p1 p2 p3 p4 hia hib hx hy hw1 hw2 hw3 hv1 hv2 hv3 hl2 hln hxs
  go_enter Tryd.func7, Tryd.ntmps7
  try simp only [List.append]
  go_wp2_with fail
  go_at_call 8
  refine HL.out.mono ?_
  rintro e w1 ⟨rfl, hb⟩
  have HB1 := Lib.hid hb
  clear hb HL
  go_wp2_with fail
  go_at_call 9
  refine (HA.out w1 (bel_tabs HT.out HB1.out)).mono ?_
  rintro e w2 ⟨v, rfl, hr0⟩
  obtain ⟨A, m, c, rfl, hm, _, hr, hb⟩ := rowP_at hr0
  have HB2 := Lib.hid (bel_t HB1.out hb)
  obtain rfl : m = n := by rw [hm, HLN.out]
  obtain ⟨ab, ao, rfl, hab, c1, c2, c3⟩ := tv_at hr HX.out
  obtain ⟨bb, bo, hab', _, d1, d2, d3⟩ := tv_at hr HY.out
  obtain ⟨rfl, rfl⟩ : ab = bb ∧ ao = bo := by cases hab'; exact ⟨rfl, rfl⟩
  obtain ⟨xk, X, xp⟩ := x
  obtain ⟨yk, Y, yp⟩ := y
  dsimp only at c1 c2 c3 d1 d2 d3 HWX HWY H5
  have S0 : Hid (w2.drew.cell? ⟨ab, ao + ia * 3, none⟩ = some (.int .i64 (xk : Int)) ∧ w2.drew.cell? ⟨ab, ao + ia * 3 + 1, none⟩ = some (.string X) ∧ w2.drew.cell? ⟨ab, ao + ia * 3 + 2, none⟩ = some (.int .i64 (xp : Int)) ∧ w2.drew.cell? ⟨ab, ao + ib * 3, none⟩ = some (.int .i64 (yk : Int)) ∧ w2.drew.cell? ⟨ab, ao + ib * 3 + 1, none⟩ = some (.string Y) ∧ w2.drew.cell? ⟨ab, ao + ib * 3 + 2, none⟩ = some (.int .i64 (yp : Int))) := Lib.hid ⟨c1, c2, c3, d1, d2, d3⟩
  clear hb hr0 HA hm HB1 hr hab' HX HY
  go_wp2_with fail
  clear c1 c2 c3 d1 d2 d3
  go_cut [10, 11] from 40 to 53 (fun v u W => ∃ g h : Nat, v = .pointer (some ⟨g, 0, none⟩) ∧ u = .pointer (some ⟨h, 0, none⟩) ∧ Hid (Bk W g 33 #[.int .i64 (xk : Int), .string X, .int .i64 (xp : Int)] ∧ Bk W h 33 #[.int .i64 (yk : Int), .string Y, .int .i64 (yp : Int)] ∧ Below w2.heap.size w2 W))
  case first =>
    go_region_held3 (fun w' => w'.cell? ⟨ab, ao + ia * 3, none⟩ = some (.int .i64 (xk : Int)) ∧ w'.cell? ⟨ab, ao + ia * 3 + 1, none⟩ = some (.string X) ∧ w'.cell? ⟨ab, ao + ia * 3 + 2, none⟩ = some (.int .i64 (xp : Int)) ∧ w'.cell? ⟨ab, ao + ib * 3, none⟩ = some (.int .i64 (yk : Int)) ∧ w'.cell? ⟨ab, ao + ib * 3 + 1, none⟩ = some (.string Y) ∧ w'.cell? ⟨ab, ao + ib * 3 + 2, none⟩ = some (.int .i64 (yp : Int)))
      (first | exact S0.out | with_reducible exact keepA6 (by with_reducible assumption) _ | exact keepA6 S0.out _ | exact keepA6 (keepA6 S0.out _) _ | fail)
      (first | (go_at_call 18; (first | with_reducible refine (HPA.out _).mono ?_ | with_reducible refine (HPB.out _).mono ?_); rintro e w9 ⟨rfl, rfl⟩) | fail)
    all_goals (
      go_wp2_with fail
      go_meet
      case rel =>
        first
          | exact ⟨_, _, rfl, rfl, Lib.hid ⟨(Bk.new w2 _ _).alloc _, Bk.new' (by simp), bel_t (bel_t (bel_al w2 _) (bel_al _ _)) (bel_drN _ 1)⟩⟩
          | exact ⟨_, _, rfl, rfl, Lib.hid ⟨Bk.new' (by simp), (Bk.new w2 _ _).alloc _, bel_t (bel_t (bel_al w2 _) (bel_al _ _)) (bel_drN _ 1)⟩⟩)
  case rest =>
    as_aux_lemma =>
      obtain ⟨g, h, rfl, rfl, HG⟩ := hcut
      obtain ⟨hwx, hrx, hsx⟩ := HWX.out
      obtain ⟨hwy, hry, hsy⟩ := HWY.out
      have hs8 := HS.out
      have hxp : 0 < X.size := by have := wid_pos hwx hrx; rwa [bs_size] at this
      obtain ⟨o1, o2⟩ := scn_one hwx hrx
      obtain ⟨o3, o4⟩ := scn_two hwx hrx hwy hry
      have hz2 : (X ++ ⟨#[35]⟩ ++ nlB ++ Y).size = X.size + 2 + Y.size := by
        rw [← bs_size, bs_app, bs_app, bs_app, List.length_append, List.length_append, List.length_append, bs_size, bs_size]
        rfl
      have HA1 := Lib.hid (fun W hT => all_y (s := X) (by omega) o1 W hT)
      have HA2 := Lib.hid (fun W hT => all_y (s := X ++ ⟨#[35]⟩ ++ nlB ++ Y) (by omega) o3 W hT)
      rw [o2] at HA1
      rw [o4] at HA2
      unfold nlB at HA2
      have HN1 : Hid (∀ W, Calls Tryd.prog 10 #[.string X] W fun e w' => e = .returned (.tuple #[.int .u64 (((numR X).getD 0 : Nat) : Int), .bool (decide (xk = 2))]) ∧ Below W.heap.size W w') := Lib.hid (fun W => by
        have h1 : (numR X).isSome = decide (xk = 2) := by rw [numR_numN X (by omega), hrx, num_word hwx]
        have := Number_l X W
        unfold numT at this
        rw [h1] at this
        exact this)
      have HN2 : Hid (∃ B, ∀ W, Calls Tryd.prog 10 #[.string (⟨#[48]⟩ ++ X)] W fun e w' => e = .returned (.tuple #[.int .u64 (((numR X).getD 0 : Nat) : Int), .bool B]) ∧ Below W.heap.size W w') := Lib.hid ⟨_, fun W => by
        have := Number_l (⟨#[48]⟩ ++ X) W
        unfold numT at this
        rw [num_zero X (by omega)] at this
        exact this⟩
      obtain ⟨B2, hN2⟩ := HN2.out
      have HN3 := Lib.hid hN2
      clear hN2 HN2
      generalize (numR X).getD 0 = zn at *
      have k1 : (9223372036854775807 < X.size + 1) = False := eq_false (by omega)
      have k2 : (9223372036854775807 < X.size + 1 + 1) = False := eq_false (by omega)
      have k3 : (9223372036854775807 < X.size + 1 + 1 + Y.size) = False := eq_false (by omega)
      have k4 : (9223372036854775807 < X.size + 2) = False := eq_false (by omega)
      have k5 : (9223372036854775807 < X.size + 2 + Y.size) = False := eq_false (by omega)
      have k6 : (9223372036854775807 < 1 + X.size) = False := eq_false (by omega)
      have HBC := Lib.hid (bel_t HB2.out HG.out.2.2)
      have HC := Lib.hid (fun (W : World) (hb : Below wc.heap.size wc W) => (⟨Bk.cell (Bk.below HG.out.1 hb (Bk.lt HG.out.1)) 0, Bk.cell (Bk.below HG.out.1 hb (Bk.lt HG.out.1)) 1, Bk.cell (Bk.below HG.out.2.1 hb (Bk.lt HG.out.2.1)) 0, Bk.cell (Bk.below HG.out.2.1 hb (Bk.lt HG.out.2.1)) 1⟩ : W.cell? ⟨g, 0, none⟩ = some (.int .i64 (xk : Int)) ∧ W.cell? ⟨g, 1, none⟩ = some (.string X) ∧ W.cell? ⟨h, 0, none⟩ = some (.int .i64 (yk : Int)) ∧ W.cell? ⟨h, 1, none⟩ = some (.string Y)))
      obtain ⟨g0, g1, h0, h1⟩ := HC.out wc (Below.refl _ _)
      obtain ⟨z, hz⟩ : ∃ z : Nat, X.size + 2 = z := ⟨_, rfl⟩
      rw [hz] at HA2
      have HZ := Lib.hid hz
      clear hwx hrx hsx hwy hry hsy o1 o2 o3 o4 hz2 hz hxp hs8 S0
      go_wp2_with fail
      go_at_call 9
      refine (HA1.out wc (bel_tabs HT.out HBC.out)).mono ?_
      rintro e w3 ⟨v, rfl, hr0⟩
      obtain ⟨A1, n1, c1, rfl, hn1, hc1, hr1, hb⟩ := rowP_at hr0
      obtain rfl : n1 = 1 := hn1
      have HB3 := Lib.hid hb
      have HR3 := Lib.hid hr1
      clear hr0 hr1 HA1 g0 g1 h0 h1
      obtain ⟨g0, g1, h0, h1⟩ := HC.out w3 hb
      clear hb
      go_wp2_with fail
      go_at_call 9
      refine (HA2.out w3 (bel_tabs HT.out (bel_t HBC.out HB3.out))).mono ?_
      rintro e w4 ⟨v, rfl, hr0⟩
      obtain ⟨A2, n2, c2, rfl, hn2, hc2, hr2, hb⟩ := rowP_at hr0
      obtain rfl : n2 = 2 := hn2
      have HB4 := Lib.hid (bel_t HB3.out hb)
      have HR4 := Lib.hid ((HR3.out.below hb).more hb.size)
      have HQ4 := Lib.hid hr2
      clear hr0 hr2 HA2 g0 g1 h0 h1 HR3 HB3 hb k1 k2 k3 k4 k5
      obtain ⟨g0, g1, h0, h1⟩ := HC.out w4 HB4.out
      go_wp2_with fail
      go_at_call 10
      refine (HN1.out w4).mono ?_
      rintro e w5 ⟨rfl, hb⟩
      have HB5 := Lib.hid (bel_t HB4.out hb)
      have HR5 := Lib.hid ((HR4.out.below hb).more hb.size)
      have HQ5 := Lib.hid ((HQ4.out.below hb).more hb.size)
      clear hb g0 g1 h0 h1 HR4 HQ4 HB4 HN1
      obtain ⟨g0, g1, h0, h1⟩ := HC.out w5 HB5.out
      go_wp2_with fail
      go_at_call 10
      refine (HN3.out w5).mono ?_
      rintro e w6 ⟨rfl, hb⟩
      have HB6 := Lib.hid (bel_t HB5.out hb)
      have HR6 := (HR5.out.below hb).more hb.size
      have HQ6 := (HQ5.out.below hb).more hb.size
      clear hb g0 g1 h0 h1 HR5 HQ5 HB5 HN3 k6
      obtain ⟨g0, g1, h0, h1⟩ := HC.out w6 HB6.out
      obtain ⟨b1, f1, rfl, _, r0, r1, r2⟩ := tv_at HR6 (j := 0) rfl
      obtain ⟨b2, f2, rfl, _, q0, q1, q2⟩ := tv_at HQ6 (j := 0) rfl
      obtain ⟨b3, f3, hb3, _, p0, p1, p2⟩ := tv_at HQ6 (j := 1) rfl
      obtain ⟨rfl, rfl⟩ : b2 = b3 ∧ f2 = f3 := by cases hb3; exact ⟨rfl, rfl⟩
      dsimp only at r0 r1 r2 q0 q1 q2 p0 p1 p2
      rw [Nat.zero_mul, Nat.add_zero] at r0 r1 r2 q0 q1 q2
      rw [Nat.one_mul] at p0 p1 p2
      have p1' : w6.cell? ⟨b2, f2 + 4, none⟩ = some (.string Y) := p1
      have p2' : w6.cell? ⟨b2, f2 + 5, none⟩ = some (.int .i64 (z : Int)) := p2
      have s1 : (X.size : Int) + 2 = (z : Int) := by have := HZ.out; omega
      have s2 : IntKind.i64.wrap (z : Int) = (z : Int) := IntWalk.i64_in _ (by have := HZ.out; have := HS.out; have := HWX.out.2.2; omega)
      have hne2 : ∀ Y, (Go.Op.equalIn 10000 33 (.agg #[.int .i64 (xk : Int), .string X, .int .i64 0]) (.agg #[.int .i64 (xk : Int), .string X, .int .i64 0])).run Tryd.prog Y = .ok true Y := fun Y => by
        have := tokEq ⟨xk, X, 0⟩ ⟨xk, X, 0⟩ Y
        rwa [decide_eq_true rfl] at this
      have HFI := Lib.hid (bel_t HBC.out HB6.out)
      clear HQ6 HR6 hb3 HC HG HB6
      obtain ⟨hz1, rfl⟩ := H5.out
      have l1 : ((X.size : Int) == 1) = false := by simp; omega
      have l2 : ((X.size : Int) = 1) = False := eq_false (by omega)
      have l3 : (X.size = 1) = False := eq_false hz1
      clear hz1 H5 HT HS HZ HWX HWY HBC HB2
      go_wp2_with fail
      as_aux_lemma =>
        refine wp_region_quiet_lit (by kernel_rfl) (LexB.lexB_of _ _ (by kernel_rfl) (by kernel_rfl) (by kernel_rfl)) ?_
        iterate 15 (with_reducible refine wpQuiet_step (fun K hK => ?_); go_simp; with_reducible refine hK _ ?_; clear hK K)
        as_aux_lemma =>
          iterate 15 (with_reducible refine wpQuiet_step (fun K hK => ?_); go_simp; with_reducible refine hK _ ?_; clear hK K)
          as_aux_lemma =>
            iterate 15 (with_reducible refine wpQuiet_step (fun K hK => ?_); go_simp; with_reducible refine hK _ ?_; clear hK K)
            as_aux_lemma =>
              iterate 15 (with_reducible refine wpQuiet_step (fun K hK => ?_); go_simp; with_reducible refine hK _ ?_; clear hK K)
              as_aux_lemma =>
                iterate 15 (with_reducible refine wpQuiet_step (fun K hK => ?_); go_simp; with_reducible refine hK _ ?_; clear hK K)
                as_aux_lemma =>
                  iterate 15 (with_reducible refine wpQuiet_step (fun K hK => ?_); go_simp; with_reducible refine hK _ ?_; clear hK K)
                  as_aux_lemma =>
                    iterate 10 (with_reducible refine wpQuiet_step (fun K hK => ?_); go_simp; with_reducible refine hK _ ?_; clear hK K)
                    refine wpQuiet_nil ?_
                    rintro _ ⟨nq, rfl⟩
                    go_wp2_with fail
                    go_ret
                    exact ⟨rfl, bel_t HFI.out (bel_drN w6 _)⟩
end scanAlone
end Go.Proofs.YtaocplcmmpbjjaaDoor
