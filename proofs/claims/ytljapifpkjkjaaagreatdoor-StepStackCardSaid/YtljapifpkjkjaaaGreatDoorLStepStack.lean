/- StepStack's walk. -/
import Derived.Test.YtljapifpkjkjaaaGreatDoorS19
namespace Go.Proofs.YtljapifpkjkjaaaGreatDoor
open Go Go.RowKit Go.Shelf
namespace stepStack
open Wd Nt Mm Is Sp
set_option linter.unusedVariables false
set_option linter.unusedSimpArgs false
variable {R : World → Nat → Nat → Value → List Reg → Prop}
theorem set_self (s : Stt) (d : Nat) (v : Int) : (s.set d v).r d = v := if_pos rfl
theorem set_ne (s : Stt) (d : Nat) (v : Int) {k : Nat} (h : ¬ k = d) : (s.set d v).r k = s.r k := if_neg h
theorem stk_facts {a b : Int} {x y : Nat} (x4 : ¬ x = 4) (y4 : ¬ y = 4) (hxy : ¬ x = y) (s n1 n2 n3 n4 : Stt) (hs : s = (stS.set x a).set y b)
    (h1 : n1 = (nextS s).set 4 72) (h2 : n2 = (nextS n1).set 4 64) (h3 : n3 = ((nextS n2).set 4 (64 + 8)).set x b) (h4 : n4 = ((nextS n3).set 4 (72 + 8)).set y a) :
    n4.r x = b ∧ n4.r y = a ∧ n4.r 4 = 80 ∧ n4.pc = 1004 := by
  have y4' : ¬ 4 = y := fun e => y4 e.symm
  subst hs h1 h2 h3 h4
  refine ⟨?_, ?_, ?_, rfl⟩
  · rw [set_ne _ _ _ hxy]
    show (((nextS _).set 4 _)).r x = b
    rw [set_ne _ _ _ x4]
    exact set_self _ _ _
  · exact set_self _ _ _
  · rw [set_ne _ _ _ y4']
    exact set_self _ _ _
theorem fact_s {a b : Int} {x y : Nat} (x4 : ¬ x = 4) (y4 : ¬ y = 4) (hxy : ¬ x = y) : ((stS.set x a).set y b).r 4 = 72 + 8 ∧ ((stS.set x a).set y b).r x = a ∧ ((stS.set x a).set y b).r y = b := by
  refine ⟨?_, ?_, set_self _ _ _⟩
  · rw [set_ne _ _ _ (fun e => y4 e.symm), set_ne _ _ _ (fun e => x4 e.symm)]; rfl
  · rw [set_ne _ _ _ hxy]; exact set_self _ _ _
theorem env_stk (mc : MemD R) {w y : World} {p : Value} {M : List Reg} {B E : Nat} (hT : Tab w) (hb : Below w.heap.size w y) (hr : R y B E p M) (hB : w.heap.size ≤ B) : Env R w B E p M [] y :=
  ⟨hr, hT.keep hb, hB, (mc.shape hr).2.2.2.2.1, Nat.lt_of_lt_of_le hT.lt hB, hb, (fun p hp => by cases hp), List.nodup_nil⟩
set_option maxRecDepth 100000 in
set_option maxHeartbeats 4000000 in
theorem walk_ (mc : MemD R) (w : World) (hT : Tab w) (a b x0 y0 : Int) (ha : W a) (hb : W b) (hx0 : (Lit.int .i64 x0).wf = true) (hy0 : (Lit.int .i64 y0).wf = true) : Calls Tryz.prog 8 #[.int .u64 a, .int .u64 b, .int .i64 x0, .int .i64 y0] w fun e w' => e = .returned (.bool true) ∧ Below w.heap.size w w' := by
  have HLV := Lib.hid (slives_c mc w hT)
  have HT := Lib.hid hT
  have pl1 := Kit.pick_lt (n := x0) (m := 16) (by decide)
  have pl2 := Kit.pick_lt (n := y0) (m := 16) (by decide)
  obtain ⟨x, hx⟩ : ∃ x : Nat, Kit.pick x0 16 = (x : Int) := ⟨(Kit.pick x0 16).toNat, by omega⟩
  obtain ⟨y, hy⟩ : ∃ y : Nat, Kit.pick y0 16 = (y : Int) := ⟨(Kit.pick y0 16).toNat, by omega⟩
  have KP : Hid (∀ W z, (Lit.int .i64 z).wf = true → Calls Tryz.prog 27 #[.int .i64 z, .int .i64 16] W fun e w' => e = .returned (.int .i64 (Kit.pick z 16)) ∧ W = w') := Lib.hid (fun W z hz => Kit.pick_c z 16 W hz (by decide))
  have HX0 := Lib.hid hx0
  have HY0 := Lib.hid hy0
  have HPX := Lib.hid hx
  have HPY := Lib.hid hy
  have hx16 : x < 16 := by omega
  have hy16 : y < 16 := by omega
  have HA := Lib.hid ha
  have HBb := Lib.hid hb
  clear hT pl1 pl2 hx hy hx0 hy0 ha hb
  go_enter Tryz.func8, Tryz.ntmps8
  go_upto_region 4 with (first | (go_at_call 9; refine HLV.out.mono ?_; rintro e y1 ⟨rfl, hb⟩; have HB := Lib.hid hb; clear hb) | (go_at_call 27; refine (KP.out _ _ (by first | exact HX0.out | exact HY0.out)).mono ?_; rintro e y2 ⟨rfl, rfl⟩) | fail)
  rw [HPX.out, HPY.out]
  have HT1 := Lib.hid (HT.out.keep HB.out)
  clear HLV HT KP HX0 HY0 HPX HPY
  have hxi : (x : Int) < 16 := by omega
  have hyi : (y : Int) < 16 := by omega
  by_cases c : x = 4 ∨ y = 4 ∨ x = y
  · by_cases c1 : x = 4
    · subst c1
      go_wp2_with fail
      go_ret
      exact ⟨rfl, HB.out⟩
    · have e1 : ((x : Int) == 4) = false := by rw [beq_eq_false_iff_ne]; omega
      have e1b : ¬ ((x : Int) = 4) := by omega
      by_cases c2 : y = 4
      · subst c2
        go_wp2_with fail
        go_ret
        exact ⟨rfl, HB.out⟩
      · have e2 : ((y : Int) == 4) = false := by rw [beq_eq_false_iff_ne]; omega
        have e2b : ¬ ((y : Int) = 4) := by omega
        obtain rfl : x = y := by omega
        go_wp2_with fail
        go_ret
        exact ⟨rfl, HB.out⟩
  have x4 : ¬ x = 4 := by omega
  have y4 : ¬ y = 4 := by omega
  have hxy : ¬ x = y := by omega
  have HX4 := Lib.hid x4
  have HY4 := Lib.hid y4
  have HXY := Lib.hid hxy
  have HX16 := Lib.hid hx16
  have HY16 := Lib.hid hy16
  have e1 : ((x : Int) == 4) = false := by rw [beq_eq_false_iff_ne]; omega
  have e1b : ¬ ((x : Int) = 4) := by omega
  have e2 : ((y : Int) == 4) = false := by rw [beq_eq_false_iff_ne]; omega
  have e2b : ¬ ((y : Int) = 4) := by omega
  have e3 : ((x : Int) == (y : Int)) = false := by rw [beq_eq_false_iff_ne]; omega
  have e3b : ¬ ((x : Int) = (y : Int)) := by omega
  clear c
  have KS := Lib.hid (stack_c mc y1)
  go_upto_region 7 with (first | (go_at_call 10; refine KS.out.mono ?_; rintro e y2 ⟨D, B, E, rfl, hr, hb, hlo⟩; have HE := Lib.hid (env_stk mc HT1.out hb hr hlo); clear hb hr hlo) | (refine wpList_store_row rfl 26 (.tmp 9) (.tmp 42) rfl y2.heap.size stS.vs rfl rfl 26 s0.vs (Bk.new y2 26 s0.vs) i20 rfl stS.vs_one ?_; rw [World.setRow_alloc_new]) | fail)
  clear KS HT1 e1 e1b e2 e2b e3 e3b x4 y4
  have HEa := Lib.hid (HE.out.alloc mc stS)
  generalize y2.heap.size = h0 at *
  generalize World.alloc _ _ = W00 at *
  clear HE
  have HEb := Lib.hid (HEa.out.reg mc 0 rfl hx16 a)
  have HEc := Lib.hid (HEb.out.reg mc 0 rfl hy16 b)
  have c1 : W00.cell? ⟨h0, x, none⟩ = some (.int .u64 (stS.r x)) := ((HEa.out.at_ 0 rfl).cell x).trans (stS.vs_r hx16)
  have f1 := (HEa.out.at_ 0 rfl).frozen x
  have c2 : (W00.setCell ⟨h0, x, none⟩ (.int .u64 a)).cell? ⟨h0, y, none⟩ = some (.int .u64 ((stS.set x a).r y)) := ((HEb.out.at_ 0 rfl).cell y).trans ((stS.set x a).vs_r hy16)
  have f2 := (HEb.out.at_ 0 rfl).frozen y
  have HS0 := Lib.hid (Stt.set_wf (Stt.set_wf stS_wf x HA.out) y HBb.out)
  have HFS := Lib.hid (fact_s (a := a) (b := b) HX4.out HY4.out HXY.out)
  have HSS : Hid (((stS.set x a).set y b) = (stS.set x a).set y b) := Lib.hid rfl
  go_upto_region 8 with fail
  clear c1 f1 c2 f2 HEa HEb hxy hx16 hy16
  obtain ⟨s, HS⟩ : ∃ s : Stt, Hid (s = (stS.set x a).set y b) := ⟨_, Lib.hid rfl⟩
  have HE0 : Hid (Env R y1 B E (.pointer (some D)) [stR] [(h0, s)] _) := Lib.hid (by rw [HS.out]; exact HEc.out)
  have HWS : Hid s.wf := Lib.hid (by rw [HS.out]; exact HS0.out)
  have HR4 : Hid (s.r 4 = 72 + 8 ∧ s.r x = a ∧ s.r y = b) := Lib.hid (by rw [HS.out]; exact HFS.out)
  clear HEc HS0 HFS HSS
  generalize World.setCell _ _ _ = W0 at *
  have HO1 := Lib.hid (stR_one.put 72 a)
  have HO2 := Lib.hid (HO1.out.put 64 b)
  have HV1 := Lib.hid (word_near HO1.out (p := 64) HBb.out (by decide) (by decide))
  have HV2 : Hid (wordN ((stR.put 72 a).put 64 b).bytes (72 - 64 : Int).toNat 8 = a) := Lib.hid ((word_apart HO1.out (p := 64) (q := 72) (by decide) (by decide) (by decide) (by decide) (.inl (by decide))).trans (word_near stR_one (p := 72) HA.out (by decide) (by decide)))
  have HV3 : Hid (wordN ((stR.put 72 a).put 64 b).bytes (80 - 64 : Int).toNat 8 = 0) := Lib.hid (((word_apart HO1.out (p := 64) (q := 80) (by decide) (by decide) (by decide) (by decide) (.inl (by decide))).trans (word_apart stR_one (p := 72) (q := 80) (by decide) (by decide) (by decide) (by decide) (.inl (by decide)))).trans (word_zs 32 _ 8))
  obtain ⟨r1, HQ1⟩ : ∃ r1 : Reg, Hid (r1 = stR.put 72 a) := ⟨_, Lib.hid rfl⟩
  obtain ⟨r2, HQ2⟩ : ∃ r2 : Reg, Hid (r2 = r1.put 64 b) := ⟨_, Lib.hid rfl⟩
  rw [← HQ1.out] at HO1 HO2 HV1 HV2 HV3
  rw [← HQ2.out] at HO2 HV1 HV2 HV3
  have hx100 : 0 ≤ (x : Int) ∧ (x : Int) ≤ 100 := by omega
  have hy100 : 0 ≤ (y : Int) ∧ (y : Int) ≤ 100 := by omega
  have HX100 := Lib.hid hx100
  have HY100 := Lib.hid hy100
  clear hx100 hy100
  have KD := Lib.hid (do_l mc (Lib.hid HE0.out.mem) s HWS.out (rr2 28 0 x) (rr2_wf (by decide) (by decide) HX100.out) 1 HE0.out.tab HE0.out.tb)
  have HP := Lib.hid (fun n l M' z' (h : DoO s (rr2 28 0 x) 1 [stR] n l M' z') => (show z' = 0 ∧ M' = [r1] ∧ n = (nextS s).set 4 72 from by have q := do_push h HX16.out stR_one HR4.out.1 (by decide) (by decide); rw [HR4.out.2.1, ← HQ1.out] at q; exact q))
  go_upto_region 9 with (first | (refine wpList_load_row rfl 26 (.tmp 9) rfl h0 rfl 26 s.vs (0, 0) _ (HE0.out.at_ 0 rfl) Tryz.underlying26 rfl i20 ?_) | (go_at_call 11; refine KD.out.mono ?_; rintro e z1 ⟨hk, n1, l1, M', x, A1, k1, c1, rfl, hd, hn, hr, hR, hkc, hc3, hlo⟩; obtain ⟨rfl, rfl, hn'⟩ := HP.out _ _ _ _ hd; have HD1 := Lib.hid (HE0.out.store hk hr); have HN1 := Lib.hid hn'; have HW1 := Lib.hid hn; clear hk hd hn hr hkc hc3 hlo hn' hR KD HP HE0) | (refine wpList_store_row rfl 26 (.tmp 9) (.tmp 58) rfl h0 n1.vs rfl rfl 26 s.vs (HD1.out.at_ 0 rfl) i20 rfl n1.vs_one ?_) | fail)
  have HE1 := Lib.hid (HD1.out.row mc 0 rfl n1)
  generalize World.setRow _ _ _ = W1 at *
  clear HD1
  have HR5 : Hid (n1.r 4 = 64 + 8 ∧ n1.r y = b) := Lib.hid (by rw [HN1.out]; exact ⟨rfl, by rw [set_ne _ _ _ HY4.out]; exact HR4.out.2.2⟩)
  have KD := Lib.hid (do_l mc (Lib.hid HE1.out.mem) n1 HW1.out (rr2 28 0 y) (rr2_wf (by decide) (by decide) HY100.out) 1 HE1.out.tab HE1.out.tb)
  have HP := Lib.hid (fun n l M' z' (h : DoO n1 (rr2 28 0 y) 1 [r1] n l M' z') => (show z' = 0 ∧ M' = [r2] ∧ n = (nextS n1).set 4 64 from by have q := do_push h HY16.out HO1.out HR5.out.1 (by decide) (by decide); rw [HR5.out.2, ← HQ2.out] at q; exact q))
  go_upto_region 10 with (first | (refine wpList_load_row rfl 26 (.tmp 9) rfl h0 rfl 26 n1.vs (0, 0) _ (HE1.out.at_ 0 rfl) Tryz.underlying26 rfl i20 ?_) | (go_at_call 11; refine KD.out.mono ?_; rintro e z2 ⟨hk, n2, l2, M', x, A2, k2, c2, rfl, hd, hn, hr, hR, hkc, hc3, hlo⟩; obtain ⟨rfl, rfl, hn'⟩ := HP.out _ _ _ _ hd; have HD2 := Lib.hid (HE1.out.store hk hr); have HN2 := Lib.hid hn'; have HW2 := Lib.hid hn; clear hk hd hn hr hkc hc3 hlo hn' hR KD HP HE1) | (refine wpList_store_row rfl 26 (.tmp 9) (.tmp 67) rfl h0 n2.vs rfl rfl 26 n1.vs (HD2.out.at_ 0 rfl) i20 rfl n2.vs_one ?_) | fail)
  have HE2 := Lib.hid (HD2.out.row mc 0 rfl n2)
  generalize World.setRow _ _ _ = W2 at *
  clear HD2
  have HR6 : Hid (n2.r 4 = 64) := Lib.hid (by rw [HN2.out]; rfl)
  have KL := Lib.hid (mc.load 64 (Lib.hid HE2.out.mem) (by unfold Wd.W; decide))
  have HL1 := Lib.hid (fun v z' (h : LoadO [r2] 64 v z') => (show v = b ∧ z' = 0 from by have q := HO2.out.load (by decide) (by decide) h; rw [HV1.out] at q; exact q))
  go_upto_region 11 with (first | (go_at_call 31; refine KL.out.mono ?_; rintro e zl ⟨hb, v, z', rfl, hl⟩; obtain ⟨rfl, rfl⟩ := HL1.out _ _ hl; have HEl := Lib.hid (HE2.out.kp mc hb); clear hb hl) | fail)
  clear KL HL1 HE2
  have KD := Lib.hid (do_l mc (Lib.hid HEl.out.mem) n2 HW2.out (rr2 29 x 0) (rr2_wf (by decide) HX100.out (by decide)) 1 HEl.out.tab HEl.out.tb)
  have HP := Lib.hid (fun n l M' z' (h : DoO n2 (rr2 29 x 0) 1 [r2] n l M' z') => (show z' = 0 ∧ M' = [r2] ∧ n = ((nextS n2).set 4 (64 + 8)).set x v from by have q := do_pop h HX16.out HO2.out HR6.out (by decide) (by decide); rw [HV1.out] at q; exact q))
  go_upto_region 12 with (first | (refine wpList_load_row rfl 26 (.tmp 9) rfl h0 rfl 26 n2.vs (0, 0) _ (HEl.out.at_ 0 rfl) Tryz.underlying26 rfl i20 ?_) | (go_at_call 11; refine KD.out.mono ?_; rintro e z3 ⟨hk, n3, l3, M', x, A3, k3, c3, rfl, hd, hn, hr, hR, hkc, hc3, hlo⟩; obtain ⟨rfl, rfl, hn'⟩ := HP.out _ _ _ _ hd; have HD3 := Lib.hid (HEl.out.store hk hr); have HN3 := Lib.hid hn'; have HW3 := Lib.hid hn; clear hk hd hn hr hkc hc3 hlo hn' hR KD HP HEl) | (refine wpList_store_row rfl 26 (.tmp 9) (.tmp 81) rfl h0 n3.vs rfl rfl 26 n2.vs (HD3.out.at_ 0 rfl) i20 rfl n3.vs_one ?_) | fail)
  have HE3 := Lib.hid (HD3.out.row mc 0 rfl n3)
  generalize World.setRow _ _ _ = W3 at *
  clear HD3
  have HR7 : Hid (n3.r 4 = 72) := Lib.hid (by rw [HN3.out]; rw [set_ne _ _ _ (fun e => HX4.out e.symm)]; exact set_self _ _ _)
  have KD := Lib.hid (do_l mc (Lib.hid HE3.out.mem) n3 HW3.out (rr2 29 y 0) (rr2_wf (by decide) HY100.out (by decide)) 1 HE3.out.tab HE3.out.tb)
  have HP := Lib.hid (fun n l M' z' (h : DoO n3 (rr2 29 y 0) 1 [r2] n l M' z') => (show z' = 0 ∧ M' = [r2] ∧ n = ((nextS n3).set 4 (72 + 8)).set y a from by have q := do_pop h HY16.out HO2.out HR7.out (by decide) (by decide); rw [HV2.out] at q; exact q))
  go_upto_region 13 with (first | (refine wpList_load_row rfl 26 (.tmp 9) rfl h0 rfl 26 n3.vs (0, 0) _ (HE3.out.at_ 0 rfl) Tryz.underlying26 rfl i20 ?_) | (go_at_call 11; refine KD.out.mono ?_; rintro e z4 ⟨hk, n4, l4, M', x, A4, k4, c4, rfl, hd, hn, hr, hR, hkc, hc3, hlo⟩; obtain ⟨rfl, rfl, hn'⟩ := HP.out _ _ _ _ hd; have HD4 := Lib.hid (HE3.out.store hk hr); have HN4 := Lib.hid hn'; have HW4 := Lib.hid hn; clear hk hd hn hr hkc hc3 hlo hn' hR KD HP HE3) | (refine wpList_store_row rfl 26 (.tmp 9) (.tmp 90) rfl h0 n4.vs rfl rfl 26 n3.vs (HD4.out.at_ 0 rfl) i20 rfl n4.vs_one ?_) | fail)
  have HE4 := Lib.hid (HD4.out.row mc 0 rfl n4)
  generalize World.setRow _ _ _ = W4 at *
  clear HD4
  have KL := Lib.hid (mc.load 80 (Lib.hid HE4.out.mem) (by unfold Wd.W; decide))
  have HL1 := Lib.hid (fun v z' (h : LoadO [r2] 80 v z') => (show v = 0 ∧ z' = 0 from by have q := HO2.out.load (by decide) (by decide) h; rw [HV3.out] at q; exact q))
  go_upto_region 14 with (first | (go_at_call 31; refine KL.out.mono ?_; rintro e zm ⟨hb, v2, z', rfl, hl⟩; obtain ⟨rfl, rfl⟩ := HL1.out _ _ hl; have HEm := Lib.hid (HE4.out.kp mc hb); clear hb hl) | fail)
  obtain ⟨q1, q2, q3, q4⟩ := stk_facts HX4.out HY4.out HXY.out s n1 n2 n3 n4 HS.out HN1.out HN2.out HN3.out HN4.out
  have a1 : zm.cell? ⟨h0, x, none⟩ = some (.int .u64 v) := by rw [← q1]; exact ((HEm.out.at_ 0 rfl).cell x).trans (n4.vs_r HX16.out)
  have a2 : zm.cell? ⟨h0, y, none⟩ = some (.int .u64 a) := by rw [← q2]; exact ((HEm.out.at_ 0 rfl).cell y).trans (n4.vs_r HY16.out)
  have a3 : zm.cell? ⟨h0, 4, none⟩ = some (.int .u64 80) := by rw [← q3]; exact (HEm.out.at_ 0 rfl).cell 4
  have a4 : zm.cell? ⟨h0, 16, none⟩ = some (.int .u64 1004) := by rw [← q4]; exact (HEm.out.at_ 0 rfl).cell 16
  have HBE := Lib.hid (HEm.out.below)
  clear HEm q1 q2 q3 q4 KL HL1 HV1 HV2 HV3 HO1 HO2 HQ1 HQ2 HR4 HR5 HR6 HR7 HN1 HN2 HN3 HN4 HE4
  go_wp2_with fail
  go_ret
  exact ⟨rfl, bel_tr HB.out HBE.out⟩
end stepStack
end Go.Proofs.YtljapifpkjkjaaaGreatDoor
