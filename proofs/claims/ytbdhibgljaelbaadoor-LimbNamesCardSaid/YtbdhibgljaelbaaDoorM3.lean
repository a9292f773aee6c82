/- The landed package limb: events. -/
import Derived.Test.YtbdhibgljaelbaaDoorM2
namespace Go.Proofs.YtbdhibgljaelbaaDoor
open Go Go.RowKit Go.Sort Go.Shelf
namespace Lb
open Wd Nt Gr
set_option linter.unusedVariables false
set_option linter.unusedSimpArgs false
theorem fr_push {W : World} {B g2 t e : Nat} {v : Value} {fr : List (Nat × Nat)} (ho : FrW W B v fr) (hs : Bk W g2 100 #[.int .u64 (t : Int), .int .u64 (e : Int)]) (hk : fr.length ≤ 100000) (hB : B ≤ W.heap.size) :
    ∃ A c w', (Builtin.append_ #[101, 101] 101 #[v, .slice (some ⟨g2, 0, none⟩) 1 1]).run Tryd.prog W = .ok (.slice A (fr.length + 1) c) w' ∧ FrW w' B (.slice A (fr.length + 1) c) ((t, e) :: fr) ∧ W.grownBy w' v.ownBlock := by
  obtain ⟨i, hi, hz, h2, h3⟩ := info_parts info_body
  have hl : fr.reverse.length = fr.length := List.length_reverse
  obtain ⟨A, c, w', h4, h5, h6, _⟩ := app_one (z := ((t, e) : Nat × Nat)) 101 101 i _ 16 Tryd.underlying101 hi hz h2 h3 rfl ho hs (by rw [hl]; omega) (by rw [hl]; simp only [maxLen]; omega) hB
  rw [hl] at h4 h5
  refine ⟨A, c, w', h4, ?_, h6⟩
  unfold FrW
  rw [List.reverse_cons]
  exact h5
theorem fr_lit (w : World) {B : Nat} (hB : B ≤ w.heap.size) : FrW (w.alloc (.cells #[.int .u64 1, .int .u64 0] 100)) B (.slice (some ⟨w.heap.size, 0, none⟩) 1 1) [(1, 0)] :=
  World.ownsRow_lit w #[.int .u64 1, .int .u64 0] 1 hB (by decide) rfl
theorem evO_16 {fr : List (Nat × Nat)} {o : Op} (h : o.k = 16) : evO fr o = (o.im.toNat, 1) :: fr := by unfold evO; rw [if_pos h]
theorem evO_17 {t e t' e' : Nat} {r : List (Nat × Nat)} {o : Op} (h : o.k = 17) : evO ((t, e) :: (t', e') :: r) o = (t', capN (e' + capN (e * t))) :: r := by unfold evO; rw [if_neg (by omega), if_pos h]
theorem evO_pl {t e : Nat} {r : List (Nat × Nat)} {o : Op} (h : o.k ≠ 16) (h' : o.k ≠ 17) : evO ((t, e) :: r) o = (t, capN (e + 1)) :: r := by unfold evO; rw [if_neg h, if_neg h']
theorem i64n {n : Nat} (h : n ≤ 1000000) : IntKind.i64.wrap (n : Int) = (n : Int) := IntWalk.i64_in _ (by omega)
set_option maxRecDepth 100000 in
set_option maxHeartbeats 8000000 in
theorem events_l (p : Pg) (H : Ok p) (hp : p.wf) (X : Option Addr) (d : Nat) (w : World) (hX : Rdr w w.heap.size X p.op.length p.op) :
    Calls Tryd.prog 36 #[.slice X p.op.length d] w fun e w' => e = .returned (.int .u64 ((evP p.op : Nat) : Int)) ∧ Below w.heap.size w w' := by
  have HZ := Lib.hid (ref_zero H.ref)
  have hml : (p.op.length : Int) ≤ 65536 := by have := HZ.out.2.2.1; omega
  have HX := Lib.hid hX
  have HP := Lib.hid H
  clear hX H
  have HFR0 := Lib.hid (fr_lit w (Nat.le_refl _))
  have HB0 := Lib.hid (bel_al (w := w) (.cells #[.int .u64 1, .int .u64 0] 100))
  obtain ⟨n, hn⟩ : ∃ n, p.op.length = n := ⟨_, rfl⟩
  have HN := Lib.hid hn
  rw [hn] at hml ⊢
  have hn6 : n ≤ 65536 := by omega
  go_enter Tryd.func36, Tryd.ntmps36
  go_wp2_with fail
  go_loopw [13, 3] (fun i v W => ∃ (k : Nat), k ≤ n ∧ i = .int .i64 (k : Int) ∧ Hid (FrW W w.heap.size v (eAt p.op k)) ∧ Hid (Below w.heap.size w W)) (fun i _ _ => n - (intOf i).toNat)
  case atStart => exact ⟨0, Nat.zero_le _, rfl, HFR0, HB0⟩
  case round =>
    obtain ⟨k, hk, rfl, HF, HB⟩ := hrel
    clear HFR0 HB0
    rcases Nat.lt_or_ge k n with hlt | hge
    · have hki : (k : Int) < (n : Int) := by omega
      have hkl : k < p.op.length := by rw [HN.out]; exact hlt
      obtain ⟨oo, hoo⟩ : ∃ o, p.op[k]? = some o := ⟨_, List.getElem?_eq_getElem hkl⟩
      have HS1 := Lib.hid (eAt_succ hoo)
      have HWF := Lib.hid (hp.op oo (List.mem_of_getElem? hoo))
      have HIM := Lib.hid (fun h => HP.out.imm hoo h)
      have HLP := Lib.hid (fun h => HP.out.lpne hoo h)
      have HEL := Lib.hid (HP.out.elen k (Nat.le_of_lt hkl))
      have HD8 := Lib.hid (HP.out.dep8 k (Nat.le_of_lt hkl))
      have HOK := Lib.hid (HP.out.frOk k (Nat.le_of_lt hkl))
      obtain ⟨bx, ox, hX, hbx, o0, o1, o2, o3, o4, o5, o6, o7⟩ := op_at (HX.out.below HB.out) hoo
      subst hX
      clear hoo
      have HBS := Lib.hid HB.out.size
      obtain ⟨im, him⟩ : ∃ im : Nat, oo.im = (im : Int) := ⟨oo.im.toNat, by have := HWF.out.im.1; omega⟩
      have HIM2 : Hid (oo.im.toNat = im) := Lib.hid (by rw [him]; rfl)
      rw [him] at o7
      obtain ⟨fr2, hfr⟩ : ∃ f, eAt p.op (k + 1) = f := ⟨_, rfl⟩
      rw [hfr] at HS1
      have HFR := Lib.hid hfr
      clear hfr
      generalize eAt p.op k = fr at *
      have h16 := fun h => @evO_16 fr oo h
      have HE16 : Hid (oo.k = 16 → fr2 = (im, 1) :: fr) := Lib.hid (fun h => by rw [HS1.out, h16 h, HIM2.out])
      clear h16
      have HE17 : Hid (∀ t e t' e' r, fr = (t, e) :: (t', e') :: r → oo.k = 17 → fr2 = (t', capN (e' + capN (e * t))) :: r) := Lib.hid (fun t e t' e' r h1 h2 => by rw [HS1.out, h1, evO_17 h2])
      have HEPL : Hid (∀ t e r, fr = (t, e) :: r → oo.k ≠ 16 → oo.k ≠ 17 → fr2 = (t, capN (e + 1)) :: r) := Lib.hid (fun t e r h1 h2 h3 => by rw [HS1.out, h1, evO_pl h2 h3])
      have HPOS : Hid (oo.k = 17 → 2 ≤ fr.length) := Lib.hid (fun h => by
        have h1 := List.length_pos_iff.2 (HLP.out h)
        have h2 := HEL.out
        omega)
      have HLEN : Hid (1 ≤ fr.length ∧ fr.length ≤ 9) := Lib.hid (by have h2 := HEL.out; have h3 := HD8.out; omega)
      clear HS1 him HIM2 HLP HEL HD8 HIM
      generalize oo.k = ok at *
      generalize oo.d = od at *
      generalize oo.e = oe at *
      generalize oo.a = oa at *
      generalize oo.b = ob at *
      generalize oo.c = oc at *
      generalize oo.bf = obf at *
      obtain ⟨t, e, r, rfl⟩ : ∃ t e r, fr = (t, e) :: r := by
        match fr, HLEN.out.1 with
        | (t, e) :: r, _ => exact ⟨t, e, r, rfl⟩
      obtain ⟨gl, c, rfl, hB1, hgl, hrc, k0, k1, kf⟩ := fr_open HF.out
      have hr8 : r.length ≤ 8 := by have := HLEN.out.2; simp at this; omega
      have HB1 := Lib.hid (bel_al' HB.out (.cells #[.int .i64 ok, .int .i64 od, .int .i64 oe, .int .i64 oa, .int .i64 ob, .int .i64 oc, .int .i64 obf, .int .u64 (im : Int)] 33))
      have HK1 := Lib.hid (Bk.new wr 33 #[.int .i64 ok, .int .i64 od, .int .i64 oe, .int .i64 oa, .int .i64 ob, .int .i64 oc, .int .i64 obf, .int .u64 (im : Int)])
      have HF1 : Hid (FrW (wr.alloc (.cells #[.int .i64 ok, .int .i64 od, .int .i64 oe, .int .i64 oa, .int .i64 ob, .int .i64 oc, .int .i64 obf, .int .u64 (im : Int)] 33)) w.heap.size (.slice (some ⟨gl, 0, none⟩) (r.length + 1) c) ((t, e) :: r)) := Lib.hid (own_below HF.out (bel_al _))
      have ew : IntKind.i64.wrap (((r.length : Nat) : Int) + 1 - 1) = ((r.length : Nat) : Int) := by rw [show ((r.length : Nat) : Int) + 1 - 1 = ((r.length : Nat) : Int) by omega]; exact i64n (by omega)
      have hnn : ((r.length : Nat) : Int) < ((r.length : Nat) : Int) + 1 := by omega
      have hn0 : (0 : Int) ≤ ((r.length : Nat) : Int) := by omega
      have HET := Lib.hid (HOK.out (t, e) (by simp))
      by_cases h16 : ok = 16
      · subst h16
        have hfr2 := HE16.out (by first | exact rfl | trivial)
        have HF2 := Lib.hid hfr2
        have hz0 : w.heap.size ≤ (wr.alloc (.cells #[.int .i64 16, .int .i64 od, .int .i64 oe, .int .i64 oa, .int .i64 ob, .int .i64 oc, .int .i64 obf, .int .u64 (im : Int)] 33)).heap.size := HB1.out.size
        obtain ⟨A, c2, w5, hap, hown5, hgr5⟩ := fr_push (W := ((wr.alloc (.cells #[.int .i64 16, .int .i64 od, .int .i64 oe, .int .i64 oa, .int .i64 ob, .int .i64 oc, .int .i64 obf, .int .u64 (im : Int)] 33)).alloc (.cells #[.int .u64 (im : Int), .int .u64 1] 100))) (B := w.heap.size) (g2 := wr.heap.size + 1) (t := im) (e := 1) (own_below HF1.out (bel_al _)) (Bk.new' (by simp)) (by simp; omega) (by rw [World.size_alloc]; exact Nat.le_succ_of_le hz0)
        have HB5 : Hid (Below w.heap.size w w5) := Lib.hid (own_grown (own_below HF1.out (bel_al (.cells #[.int .u64 (im : Int), .int .u64 1] 100))) hgr5 (bel_al' HB1.out _) (Nat.le_refl _) (by rw [World.size_alloc]; exact Nat.le_succ_of_le hz0))
        have HF5 := Lib.hid hown5
        rw [← hfr2] at HF5
        clear hown5 hgr5 hfr2 hz0
        go_wp2_with (first | (at_builtin; refine wpList_append_eq rfl _ _ 101 rfl _ _ rfl rfl _ _ hap ?_) | fail)
        go_roundw
        case rel => exact ⟨k + 1, by omega, by go_num, Lib.hid (by rw [HFR.out]; exact HF5.out), HB5⟩
        case measure => (simp [intOf] <;> omega)
      have n16 : (ok == 16) = false := by rw [beq_eq_false_iff_ne]; exact h16
      by_cases h17 : ok = 17
      · subst h17
        obtain ⟨t', e2, r2, rfl⟩ : ∃ t' e2 r2, r = (t', e2) :: r2 := by
          match r, HPOS.out (by first | exact rfl | trivial) with
          | (t', e2) :: r2, _ => exact ⟨t', e2, r2, rfl⟩
          | [], h => exact absurd h (by simp)
        have HF2 := Lib.hid (HE17.out t e t' e2 r2 rfl (by first | exact rfl | trivial))
        obtain ⟨j0, j1⟩ := fr_outer HF.out
        have HET2 := Lib.hid (HOK.out (t', e2) (by simp))
        have HEND := Lib.hid (fun (W : World) (h : FrW W w.heap.size (.slice (some ⟨gl, 0, none⟩) (r2.length + 2) c) ((t, e) :: (t', e2) :: r2)) => fr_end (u := capN (e2 + capN (e * t))) h)
        have HFQ : Hid (FrW wr w.heap.size (.slice (some ⟨gl, 0, none⟩) (r2.length + 2) c) ((t, e) :: (t', e2) :: r2)) := Lib.hid HF.out
        rw [List.length_cons] at k0 k1 hrc hr8 ew hnn hn0 ⊢
        rw [← HF2.out, ← HFR.out] at HEND
        clear HF HF1 HE16 HE17 HEPL HPOS HLEN HOK HF2 n16
        generalize r2.length = q at *
        have ew2 : IntKind.i64.wrap (((q + 1 : Nat) : Int) - 1) = (q : Int) := by rw [show ((q + 1 : Nat) : Int) - 1 = (q : Int) by omega]; exact i64n (by omega)
        have ew3 : IntKind.i64.wrap ((q : Int) + 1 + 1 - 1) = (q : Int) + 1 := by rw [show (q : Int) + 1 + 1 - 1 = ((q + 1 : Nat) : Int) by omega, i64n (by omega)]; omega
        have ew4 : IntKind.i64.wrap ((q : Int) + 1 - 1) = (q : Int) := by rw [show (q : Int) + 1 - 1 = (q : Int) by omega]; exact i64n (by omega)
        have ew5 : IntKind.i64.wrap (q : Int) = (q : Int) := i64n (by omega)
        have bq1 : (q : Int) + 1 < (q : Int) + 1 + 1 := by omega
        have bq2 : (q : Int) < (q : Int) + 1 + 1 := by omega
        have bq3 : (0 : Int) ≤ (q : Int) + 1 := by omega
        have bq4 : (0 : Int) ≤ (q : Int) := by omega
        have bq5 : (q : Int) + 1 ≤ (c : Int) := by omega
        obtain ⟨W1, hW1⟩ : ∃ W1, W1 = wr.alloc (.cells #[.int .i64 17, .int .i64 od, .int .i64 oe, .int .i64 oa, .int .i64 ob, .int .i64 oc, .int .i64 obf, .int .u64 (im : Int)] 33) := ⟨_, rfl⟩
        have HFQ1 : Hid (FrW W1 w.heap.size (.slice (some ⟨gl, 0, none⟩) (q + 2) c) ((t, e) :: (t', e2) :: r2)) := Lib.hid (by rw [hW1]; exact own_below HFQ.out (bel_al _))
        have hgl1 : gl < W1.heap.size := by rw [hW1, World.size_alloc]; omega
        have d0 : W1.drew.cell? ⟨gl, (q + 1) * 2, none⟩ = some (.int .u64 (t : Int)) := by rw [hW1]; exact ((bel_al (w := wr) _).cell (p := ⟨gl, (q + 1) * 2, none⟩) hgl).trans k0
        have d1 : W1.drew.cell? ⟨gl, (q + 1) * 2 + 1, none⟩ = some (.int .u64 (e : Int)) := by rw [hW1]; exact ((bel_al (w := wr) _).cell (p := ⟨gl, (q + 1) * 2 + 1, none⟩) hgl).trans k1
        have d3 : W1.drew.cell? ⟨gl, q * 2 + 1, none⟩ = some (.int .u64 (e2 : Int)) := by rw [hW1]; exact ((bel_al (w := wr) _).cell (p := ⟨gl, q * 2 + 1, none⟩) hgl).trans j1
        have HW1 := Lib.hid hW1
        rw [← hW1] at HB1 HK1
        clear hW1
        go_wp2_with fail
        rw [← HW1.out]
        have e0 : W1.cell? ⟨gl, (q + 1) * 2, none⟩ = some (.int .u64 (t : Int)) := d0
        have e1 : W1.cell? ⟨gl, (q + 1) * 2 + 1, none⟩ = some (.int .u64 (e : Int)) := d1
        go_region_law (fail)
        all_goals (
          have HB2 : Hid (Below w.heap.size w (W1.alloc (.cells #[.int .u64 (t : Int), .int .u64 (e : Int)] 100)).drew) := Lib.hid (bel_al' (below_drewN HB1.out 1) _)
          have HFQ2 : Hid (FrW (W1.alloc (.cells #[.int .u64 (t : Int), .int .u64 (e : Int)] 100)).drew w.heap.size (.slice (some ⟨gl, 0, none⟩) (q + 2) c) ((t, e) :: (t', e2) :: r2)) := Lib.hid (own_below (World.ownsRow.drew HFQ1.out) (bel_al _))
          have HK2 : Hid (Bk (W1.alloc (.cells #[.int .u64 (t : Int), .int .u64 (e : Int)] 100)).drew W1.heap.size 100 #[.int .u64 (t : Int), .int .u64 (e : Int)]) := Lib.hid (Bk.new W1.drew _ _)
          obtain ⟨W2, hW2⟩ : ∃ W2, W2 = (W1.alloc (.cells #[.int .u64 (t : Int), .int .u64 (e : Int)] 100)).drew := ⟨_, rfl⟩
          have x3 : W2.drew.cell? ⟨gl, q * 2 + 1, none⟩ = some (.int .u64 (e2 : Int)) := by rw [hW2]; exact ((bel_al (w := W1.drew) _).cell (p := ⟨gl, q * 2 + 1, none⟩) hgl1).trans d3
          rw [← hW2] at HB2 HFQ2 HK2
          have HW2 := Lib.hid hW2
          clear hW2
          have x0 : W2.drew.cell? ⟨W1.heap.size, 0, none⟩ = some (.int .u64 (t : Int)) := HK2.out.cell 0
          have x1 : W2.drew.cell? ⟨W1.heap.size, 1, none⟩ = some (.int .u64 (e : Int)) := HK2.out.cell 1
          have K1 := times_l e t HET.out.2 HET.out.1 W2.drew
          have K2 := plus_l e2 (capN (e * t)) HET2.out.2 (capN_le _) W2.drew
          have HEN := Lib.hid (HEND.out W2.drew (World.ownsRow.drew HFQ2.out))
          have HB5 : Hid (Below w.heap.size w (W2.drew.setCell ⟨gl, q * 2 + 1, none⟩ (.int .u64 ((capN (e2 + capN (e * t)) : Nat) : Int)))) := Lib.hid ((below_drewN HB2.out 1).setCell (p := ⟨gl, q * 2 + 1, none⟩) hB1 _)
          have f3 : W2.drew.frozen? ⟨gl, q * 2 + 1, none⟩ = false := by
            have h := HFQ2.out
            rw [(rws_rd h).1] at h
            exact World.ownsRow.frozenAt (World.ownsRow.drew h) _
          generalize capN (e2 + capN (e * t)) = u at *
          generalize capN (e * t) = u1 at *
          clear d0 d1 d3 HEND
          go_wp2_with fail
          rw [← HW2.out]
          refine wp_region_still_tail 13 (by kernel_rfl) (by kernel_rfl) ?_
          simp only [List.take_succ_cons, List.take_zero, List.drop_succ_cons, List.drop_zero]
          iterate 9 still_step
          still_call K1
          still_call K2
          iterate 2 still_step
          refine wpStill_nil ?_
          clear K1 K2
          go_wp2_with fail
          go_roundw
          case rel => exact ⟨k + 1, by omega, by go_num, HEN, HB5⟩
          case measure => (simp [intOf] <;> omega))
      have n17 : (ok == 17) = false := by rw [beq_eq_false_iff_ne]; exact h17
      have HF2 := Lib.hid (HEPL.out t e r rfl h16 h17)
      have HPL := Lib.hid (fun W => plus_l e 1 HET.out.2 (by omega) W)
      clear h16 h17
      go_wp2_with fail
      go_at_call 62
      refine (HPL.out _).mono ?_
      rintro e' w5 ⟨rfl, rfl⟩
      have HF5 := Lib.hid (fr_put (u := capN (e + 1)) HF.out)
      rw [← HF2.out, ← HFR.out] at HF5
      have HB5 := Lib.hid (HB.out.setCell (p := ⟨gl, r.length * 2 + 1, none⟩) hB1 (.int .u64 ((capN (e + 1) : Nat) : Int)))
      go_wp2_with fail
      go_roundw
      case rel => exact ⟨k + 1, by omega, by go_num, Lib.hid (own_below HF5.out (bel_al _)), Lib.hid (bel_al' HB5.out _)⟩
      case measure => (simp [intOf] <;> omega)
    · obtain rfl : k = n := by omega
      have HE1 : Hid ((eAt p.op k).length = 1) := Lib.hid (by
        have h := HP.out.elen p.op.length (Nat.le_refl _)
        rw [HP.out.fin, HN.out] at h
        exact h)
      have HV : Hid (evP p.op = ((eAt p.op k).getLast?.getD (1, 0)).2) := Lib.hid (by
        unfold evP eAt
        rw [← HN.out, List.take_length])
      generalize eAt p.op k = fr at *
      obtain ⟨x, hx⟩ : ∃ x, fr = [x] := by
        match fr, HE1.out with
        | [x], _ => exact ⟨x, rfl⟩
      subst hx
      obtain ⟨t, e⟩ := x
      obtain ⟨gl, c, rfl, h1, h2, h3, k0, k1, kf⟩ := fr_open HF.out
      have HV2 : Hid (evP p.op = e) := Lib.hid HV.out
      have k1' : wr.cell? ⟨gl, 1, none⟩ = some (.int .u64 (e : Int)) := k1
      clear k0 k1
      go_wp2_with fail
      go_ret
      exact ⟨by rw [HV2.out]; rfl, HB.out⟩
end Lb
end Go.Proofs.YtbdhibgljaelbaaDoor
