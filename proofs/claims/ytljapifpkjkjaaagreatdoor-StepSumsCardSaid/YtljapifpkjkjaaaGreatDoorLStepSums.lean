/- StepSums' walk. -/
import Derived.Test.YtljapifpkjkjaaaGreatDoorS16
namespace Go.Proofs.YtljapifpkjkjaaaGreatDoor
open Go Go.RowKit Go.Shelf
namespace stepSums
open Wd Nt Mm Is Sp
set_option linter.unusedVariables false
set_option linter.unusedSimpArgs false
variable {R : World → Nat → Nat → Value → List Reg → Prop}
set_option maxRecDepth 100000 in
set_option maxHeartbeats 4000000 in
theorem walk_ (mc : MemD R) (w : World) (hT : Tab w) (a b c d : Int) (cr : Bool) (ha : W a) (hb : W b) (hc : W c) (hd : W d) : Calls Tryz.prog 7 #[.int .u64 a, .int .u64 b, .int .u64 c, .int .u64 d, .bool cr] w fun e w' => e = .returned (.bool true) ∧ Below w.heap.size w w' := by
  have HLV := Lib.hid (slives_c mc w hT)
  have HT := Lib.hid hT
  have HWS := Lib.hid (sum0_wf ha hb hc hd cr)
  have HF := Lib.hid (sum_facts ha hb hc hd cr)
  clear hT ha hb hc hd
  go_enter Tryz.func7, Tryz.ntmps7
  go_upto_region 3 with (first | (go_at_call 9; refine HLV.out.mono ?_; rintro e y ⟨rfl, hb⟩; have HB := Lib.hid hb; clear hb) | fail)
  have KN := Lib.hid (new_nil mc y)
  have HT1 := Lib.hid (HT.out.keep HB.out)
  clear HLV HT
  go_upto_region 6 with (first | (go_at_call 16; refine KN.out.mono ?_; rintro e y2 ⟨D, rfl, hr, hb⟩; have HE := Lib.hid (env_new mc HT1.out hb hr); clear hb hr) | (refine built_s _ _ (onlyC_built cr) #[(2, .tmp 37)] (some 38) rfl rfl rfl (by kernel_rfl) ?_) | (refine wpList_store_row rfl 26 (.tmp 13) (.tmp 38) rfl y2.heap.size _ rfl rfl 26 s0.vs (Bk.new y2 26 s0.vs) i20 (onlyC_size cr) (onlyC_one cr) ?_; rw [World.setRow_alloc_new]) | fail)
  clear KN HT1
  have HE0 := Lib.hid (HE.out.alloc mc (sum0 a b c d cr))
  change Code.wp _ _ _ _ (y2.alloc (.cells (sum0 a b c d cr).vs 26))
  generalize y2.heap.size = h0 at *
  generalize World.alloc _ _ = W0 at *
  clear HE
  generalize sum0 a b c d cr = s at *
  have KD := Lib.hid (do_l mc (Lib.hid HE0.out.mem) s HWS.out (rr2 7 0 3) (rr2_wf (by decide) (by decide) (by decide)) 3 HE0.out.tab HE0.out.tb)
  have HP := Lib.hid (fun n l M' x h => do_plain (s := s) (i := rr2 7 0 3) (size := 3) (n := n) (l := l) (M := []) (M' := M') (x := x) h rfl rfl)
  go_upto_region 7 with (first | (refine wpList_load_row rfl 26 (.tmp 13) rfl h0 rfl 26 s.vs (0, 0) _ (HE0.out.at_ 0 rfl) Tryz.underlying26 rfl i20 ?_) | (go_at_call 11; refine KD.out.mono ?_; rintro e z1 ⟨hk, n1, l1, M', x, A1, k1, c1, rfl, hd, hn, hr, hR, hkc, hc3, hlo⟩; obtain ⟨rfl, rfl, hn', hl'⟩ := HP.out _ _ _ _ hd; have HD1 := Lib.hid (HE0.out.store hk hr); have HN1 := Lib.hid hn'; have HW1 := Lib.hid hn; clear hk hd hn hr hkc hc3 hlo hn' hl' hR KD HP HE0) | (refine wpList_store_row rfl 26 (.tmp 14) (.tmp 56) rfl z1.heap.size n1.vs rfl rfl 26 s0.vs (Bk.new z1 26 s0.vs) i20 rfl n1.vs_one ?_; rw [World.setRow_alloc_new]) | fail)
  have HE1 := Lib.hid (HD1.out.alloc mc n1)
  generalize z1.heap.size = h1 at *
  generalize World.alloc _ _ = W1 at *
  clear HD1
  have KD := Lib.hid (do_l mc (Lib.hid HE1.out.mem) n1 HW1.out (rr2 7 1 6) (rr2_wf (by decide) (by decide) (by decide)) 3 HE1.out.tab HE1.out.tb)
  have HP := Lib.hid (fun n l M' x h => do_plain (s := n1) (i := rr2 7 1 6) (size := 3) (n := n) (l := l) (M := []) (M' := M') (x := x) h rfl rfl)
  go_upto_region 8 with (first | (refine wpList_load_row rfl 26 (.tmp 14) rfl h1 rfl 26 n1.vs (0, 0) _ (HE1.out.at_ 0 rfl) Tryz.underlying26 rfl i20 ?_) | (go_at_call 11; refine KD.out.mono ?_; rintro e z2 ⟨hk, n2, l2, M', x, A2, k2, c2, rfl, hd, hn, hr, hR, hkc, hc3, hlo⟩; obtain ⟨rfl, rfl, hn', hl'⟩ := HP.out _ _ _ _ hd; have HD2 := Lib.hid (HE1.out.store hk hr); have HN2 := Lib.hid hn'; have HW2 := Lib.hid hn; clear hk hd hn hr hkc hc3 hlo hn' hl' hR KD HP HE1) | (refine wpList_store_row rfl 26 (.tmp 14) (.tmp 64) rfl h1 n2.vs rfl rfl 26 n1.vs (HD2.out.at_ 0 rfl) i20 rfl n2.vs_one ?_) | fail)
  have HE2 := Lib.hid (HD2.out.row mc 0 rfl n2)
  generalize World.setRow _ _ _ = W2 at *
  clear HD2
  go_upto_region 9 with (first | (refine wpList_load_row rfl 26 (.tmp 14) rfl h1 rfl 26 n2.vs (0, 0) _ (HE2.out.at_ 0 rfl) Tryz.underlying26 rfl i20 ?_) | (refine wpList_store_row rfl 26 (.tmp 19) (.tmp 67) rfl W2.heap.size n2.vs rfl rfl 26 s0.vs (Bk.new W2 26 s0.vs) i20 rfl n2.vs_one ?_; rw [World.setRow_alloc_new]) | fail)
  have HE3 := Lib.hid (HE2.out.alloc mc n2)
  clear HE2
  generalize W2.heap.size = hu at *
  generalize World.alloc _ _ = V1 at *
  have c17 : V1.cell? ⟨hu, 17, none⟩ = some (.bool n2.cf) := (HE3.out.at_ 0 rfl).cell 17
  have f17 := (HE3.out.at_ 0 rfl).frozen 17
  go_upto_region 10 with fail
  have HE4 := Lib.hid (HE3.out.put mc 0 (n := { n2 with cf := cr }) rfl (kp_cell V1 hu 17 (.bool cr)) ((HE3.out.at_ 0 rfl).set_ 17 (.bool cr)))
  have HWU := Lib.hid (show ({ n2 with cf := cr } : Stt).wf from ⟨HW2.out.r, HW2.out.pc⟩)
  clear c17 f17 HE3
  generalize World.setCell _ _ _ = V2 at *
  obtain ⟨u, HU⟩ : ∃ u : Stt, Hid (u = { n2 with cf := cr }) := ⟨_, Lib.hid rfl⟩
  rw [← HU.out] at HE4 HWU
  have KD := Lib.hid (do_l mc (Lib.hid HE4.out.mem) u HWU.out (rr2 9 0 3) (rr2_wf (by decide) (by decide) (by decide)) 3 HE4.out.tab HE4.out.tb)
  have HP := Lib.hid (fun n l M' x h => do_plain (s := u) (i := rr2 9 0 3) (size := 3) (n := n) (l := l) (M := []) (M' := M') (x := x) h rfl rfl)
  go_upto_region 11 with (first | (refine wpList_load_row rfl 26 (.tmp 19) rfl hu rfl 26 u.vs (0, 0) _ (HE4.out.at_ 0 rfl) Tryz.underlying26 rfl i20 ?_) | (go_at_call 11; refine KD.out.mono ?_; rintro e z3 ⟨hk, n3, l3, M', x, A3, k3, c3, rfl, hd, hn, hr, hR, hkc, hc3, hlo⟩; obtain ⟨rfl, rfl, hn', hl'⟩ := HP.out _ _ _ _ hd; have HD3 := Lib.hid (HE4.out.store hk hr); have HN3 := Lib.hid hn'; have HW3 := Lib.hid hn; clear hk hd hn hr hkc hc3 hlo hn' hl' hR KD HP HE4) | (refine wpList_store_row rfl 26 (.tmp 19) (.tmp 75) rfl hu n3.vs rfl rfl 26 u.vs (HD3.out.at_ 0 rfl) i20 rfl n3.vs_one ?_) | fail)
  have HE5 := Lib.hid (HD3.out.row mc 0 rfl n3)
  generalize World.setRow _ _ _ = W3 at *
  clear HD3
  have KD := Lib.hid (do_l mc (Lib.hid HE5.out.mem) n3 HW3.out (rr2 9 1 6) (rr2_wf (by decide) (by decide) (by decide)) 3 HE5.out.tab HE5.out.tb)
  have HP := Lib.hid (fun n l M' x h => do_plain (s := n3) (i := rr2 9 1 6) (size := 3) (n := n) (l := l) (M := []) (M' := M') (x := x) h rfl rfl)
  go_upto_region 12 with (first | (refine wpList_load_row rfl 26 (.tmp 19) rfl hu rfl 26 n3.vs (0, 0) _ (HE5.out.at_ 0 rfl) Tryz.underlying26 rfl i20 ?_) | (go_at_call 11; refine KD.out.mono ?_; rintro e z4 ⟨hk, n4, l4, M', x, A4, k4, c4, rfl, hd, hn, hr, hR, hkc, hc3, hlo⟩; obtain ⟨rfl, rfl, hn', hl'⟩ := HP.out _ _ _ _ hd; have HD4 := Lib.hid (HE5.out.store hk hr); have HN4 := Lib.hid hn'; have HW4 := Lib.hid hn; clear hk hd hn hr hkc hc3 hlo hn' hl' hR KD HP HE5) | (refine wpList_store_row rfl 26 (.tmp 19) (.tmp 83) rfl hu n4.vs rfl rfl 26 n3.vs (HD4.out.at_ 0 rfl) i20 rfl n4.vs_one ?_) | fail)
  have HE6 := Lib.hid (HD4.out.row mc 0 rfl n4)
  generalize World.setRow _ _ _ = W4 at *
  clear HD4
  have KD := Lib.hid (do_l mc (Lib.hid HE6.out.mem) s HWS.out (rr2 20 0 3) (rr2_wf (by decide) (by decide) (by decide)) 6 HE6.out.tab HE6.out.tb)
  have HP := Lib.hid (fun n l M' x h => do_plain (s := s) (i := rr2 20 0 3) (size := 6) (n := n) (l := l) (M := []) (M' := M') (x := x) h rfl rfl)
  go_upto_region 13 with (first | (refine wpList_load_row rfl 26 (.tmp 13) rfl h0 rfl 26 s.vs (0, 0) _ (HE6.out.at_ 2 rfl) Tryz.underlying26 rfl i20 ?_) | (go_at_call 11; refine KD.out.mono ?_; rintro e z5 ⟨hk, n5, l5, M', x, A5, k5, c5, rfl, hd, hn, hr, hR, hkc, hc3, hlo⟩; obtain ⟨rfl, rfl, hn', hl'⟩ := HP.out _ _ _ _ hd; have HD5 := Lib.hid (HE6.out.store hk hr); have HN5 := Lib.hid hn'; have HW5 := Lib.hid hn; clear hk hd hn hr hkc hc3 hlo hn' hl' hR KD HP HE6) | (refine wpList_store_row rfl 26 (.tmp 24) (.tmp 91) rfl z5.heap.size n5.vs rfl rfl 26 s0.vs (Bk.new z5 26 s0.vs) i20 rfl n5.vs_one ?_; rw [World.setRow_alloc_new]) | fail)
  have HE7 := Lib.hid (HD5.out.alloc mc n5)
  generalize z5.heap.size = h5 at *
  generalize World.alloc _ _ = W5 at *
  clear HD5
  go_upto_region 14 with (first | (refine wpList_load_row rfl 26 (.tmp 13) rfl h0 rfl 26 s.vs (0, 0) _ (HE7.out.at_ 3 rfl) Tryz.underlying26 rfl i20 ?_) | (refine wpList_store_row rfl 26 (.tmp 27) (.tmp 94) rfl W5.heap.size s.vs rfl rfl 26 s0.vs (Bk.new W5 26 s0.vs) i20 rfl s.vs_one ?_; rw [World.setRow_alloc_new]) | fail)
  have HE8 := Lib.hid (HE7.out.alloc mc s)
  clear HE7
  generalize W5.heap.size = hz at *
  generalize World.alloc _ _ = V3 at *
  have c17 : V3.cell? ⟨hz, 17, none⟩ = some (.bool s.cf) := (HE8.out.at_ 0 rfl).cell 17
  have f17 := (HE8.out.at_ 0 rfl).frozen 17
  have c18 : V3.cell? ⟨hz, 18, none⟩ = some (.bool s.ov) := (HE8.out.at_ 0 rfl).cell 18
  have f18 := (HE8.out.at_ 0 rfl).frozen 18
  go_upto_region 15 with fail
  have HE9 := Lib.hid (HE8.out.put mc 0 (n := { s with ov := cr }) rfl (kp_cell V3 hz 18 (.bool cr)) ((HE8.out.at_ 0 rfl).set_ 18 (.bool cr)))
  clear c17 f17 c18 f18 HE8
  generalize World.setCell V3 _ _ = V4 at *
  have HE10 := Lib.hid (HE9.out.put mc 0 (n := { s with ov := cr, cf := false }) rfl (kp_cell V4 hz 17 (.bool false)) ((HE9.out.at_ 0 rfl).set_ 17 (.bool false)))
  clear HE9
  generalize World.setCell _ _ _ = V5 at *
  have HWZ := Lib.hid (show ({ s with ov := cr, cf := false } : Stt).wf from ⟨HWS.out.r, HWS.out.pc⟩)
  obtain ⟨z, HZ⟩ : ∃ z : Stt, Hid (z = { s with ov := cr, cf := false }) := ⟨_, Lib.hid rfl⟩
  rw [← HZ.out] at HE10 HWZ
  have KD := Lib.hid (do_l mc (Lib.hid HE10.out.mem) z HWZ.out (rr2 21 0 3) (rr2_wf (by decide) (by decide) (by decide)) 6 HE10.out.tab HE10.out.tb)
  have HP := Lib.hid (fun n l M' x h => do_plain (s := z) (i := rr2 21 0 3) (size := 6) (n := n) (l := l) (M := []) (M' := M') (x := x) h rfl rfl)
  go_upto_region 16 with (first | (refine wpList_load_row rfl 26 (.tmp 27) rfl hz rfl 26 z.vs (0, 0) _ (HE10.out.at_ 0 rfl) Tryz.underlying26 rfl i20 ?_) | (go_at_call 11; refine KD.out.mono ?_; rintro e z6 ⟨hk, n6, l6, M', x, A6, k6, c6, rfl, hd, hn, hr, hR, hkc, hc3, hlo⟩; obtain ⟨rfl, rfl, hn', hl'⟩ := HP.out _ _ _ _ hd; have HD6 := Lib.hid (HE10.out.store hk hr); have HN6 := Lib.hid hn'; have HW6 := Lib.hid hn; clear hk hd hn hr hkc hc3 hlo hn' hl' hR KD HP HE10) | (refine wpList_store_row rfl 26 (.tmp 28) (.tmp 103) rfl z6.heap.size n6.vs rfl rfl 26 s0.vs (Bk.new z6 26 s0.vs) i20 rfl n6.vs_one ?_; rw [World.setRow_alloc_new]) | fail)
  have HE11 := Lib.hid (HD6.out.alloc mc n6)
  generalize z6.heap.size = h6 at *
  generalize World.alloc _ _ = W6 at *
  clear HD6
  obtain ⟨q1, q2, q3, q4, q5, q6, q7⟩ := HF.out n1 n2 n3 n4 n5 n6 HN1.out HN2.out (by rw [HN3.out, HU.out]) HN4.out HN5.out (by rw [HN6.out, HZ.out])
  have hrr := rs_r q1
  have u0 : W6.cell? ⟨hu, 0, none⟩ = some (.int .u64 (s.r 0)) := by rw [← hrr 0 (by omega)]; exact (HE11.out.at_ 3 rfl).cell 0
  have t0 : W6.cell? ⟨h0, 0, none⟩ = some (.int .u64 (s.r 0)) := (HE11.out.at_ 5 rfl).cell 0
  have u1 : W6.cell? ⟨hu, 1, none⟩ = some (.int .u64 (s.r 1)) := by rw [← hrr 1 (by omega)]; exact (HE11.out.at_ 3 rfl).cell 1
  have t1 : W6.cell? ⟨h0, 1, none⟩ = some (.int .u64 (s.r 1)) := (HE11.out.at_ 5 rfl).cell 1
  have u2 : W6.cell? ⟨hu, 2, none⟩ = some (.int .u64 (s.r 2)) := by rw [← hrr 2 (by omega)]; exact (HE11.out.at_ 3 rfl).cell 2
  have t2 : W6.cell? ⟨h0, 2, none⟩ = some (.int .u64 (s.r 2)) := (HE11.out.at_ 5 rfl).cell 2
  have u3 : W6.cell? ⟨hu, 3, none⟩ = some (.int .u64 (s.r 3)) := by rw [← hrr 3 (by omega)]; exact (HE11.out.at_ 3 rfl).cell 3
  have t3 : W6.cell? ⟨h0, 3, none⟩ = some (.int .u64 (s.r 3)) := (HE11.out.at_ 5 rfl).cell 3
  have u4 : W6.cell? ⟨hu, 4, none⟩ = some (.int .u64 (s.r 4)) := by rw [← hrr 4 (by omega)]; exact (HE11.out.at_ 3 rfl).cell 4
  have t4 : W6.cell? ⟨h0, 4, none⟩ = some (.int .u64 (s.r 4)) := (HE11.out.at_ 5 rfl).cell 4
  have u5 : W6.cell? ⟨hu, 5, none⟩ = some (.int .u64 (s.r 5)) := by rw [← hrr 5 (by omega)]; exact (HE11.out.at_ 3 rfl).cell 5
  have t5 : W6.cell? ⟨h0, 5, none⟩ = some (.int .u64 (s.r 5)) := (HE11.out.at_ 5 rfl).cell 5
  have u6 : W6.cell? ⟨hu, 6, none⟩ = some (.int .u64 (s.r 6)) := by rw [← hrr 6 (by omega)]; exact (HE11.out.at_ 3 rfl).cell 6
  have t6 : W6.cell? ⟨h0, 6, none⟩ = some (.int .u64 (s.r 6)) := (HE11.out.at_ 5 rfl).cell 6
  have u7 : W6.cell? ⟨hu, 7, none⟩ = some (.int .u64 (s.r 7)) := by rw [← hrr 7 (by omega)]; exact (HE11.out.at_ 3 rfl).cell 7
  have t7 : W6.cell? ⟨h0, 7, none⟩ = some (.int .u64 (s.r 7)) := (HE11.out.at_ 5 rfl).cell 7
  have u8 : W6.cell? ⟨hu, 8, none⟩ = some (.int .u64 (s.r 8)) := by rw [← hrr 8 (by omega)]; exact (HE11.out.at_ 3 rfl).cell 8
  have t8 : W6.cell? ⟨h0, 8, none⟩ = some (.int .u64 (s.r 8)) := (HE11.out.at_ 5 rfl).cell 8
  have u9 : W6.cell? ⟨hu, 9, none⟩ = some (.int .u64 (s.r 9)) := by rw [← hrr 9 (by omega)]; exact (HE11.out.at_ 3 rfl).cell 9
  have t9 : W6.cell? ⟨h0, 9, none⟩ = some (.int .u64 (s.r 9)) := (HE11.out.at_ 5 rfl).cell 9
  have u10 : W6.cell? ⟨hu, 10, none⟩ = some (.int .u64 (s.r 10)) := by rw [← hrr 10 (by omega)]; exact (HE11.out.at_ 3 rfl).cell 10
  have t10 : W6.cell? ⟨h0, 10, none⟩ = some (.int .u64 (s.r 10)) := (HE11.out.at_ 5 rfl).cell 10
  have u11 : W6.cell? ⟨hu, 11, none⟩ = some (.int .u64 (s.r 11)) := by rw [← hrr 11 (by omega)]; exact (HE11.out.at_ 3 rfl).cell 11
  have t11 : W6.cell? ⟨h0, 11, none⟩ = some (.int .u64 (s.r 11)) := (HE11.out.at_ 5 rfl).cell 11
  have u12 : W6.cell? ⟨hu, 12, none⟩ = some (.int .u64 (s.r 12)) := by rw [← hrr 12 (by omega)]; exact (HE11.out.at_ 3 rfl).cell 12
  have t12 : W6.cell? ⟨h0, 12, none⟩ = some (.int .u64 (s.r 12)) := (HE11.out.at_ 5 rfl).cell 12
  have u13 : W6.cell? ⟨hu, 13, none⟩ = some (.int .u64 (s.r 13)) := by rw [← hrr 13 (by omega)]; exact (HE11.out.at_ 3 rfl).cell 13
  have t13 : W6.cell? ⟨h0, 13, none⟩ = some (.int .u64 (s.r 13)) := (HE11.out.at_ 5 rfl).cell 13
  have u14 : W6.cell? ⟨hu, 14, none⟩ = some (.int .u64 (s.r 14)) := by rw [← hrr 14 (by omega)]; exact (HE11.out.at_ 3 rfl).cell 14
  have t14 : W6.cell? ⟨h0, 14, none⟩ = some (.int .u64 (s.r 14)) := (HE11.out.at_ 5 rfl).cell 14
  have u15 : W6.cell? ⟨hu, 15, none⟩ = some (.int .u64 (s.r 15)) := by rw [← hrr 15 (by omega)]; exact (HE11.out.at_ 3 rfl).cell 15
  have t15 : W6.cell? ⟨h0, 15, none⟩ = some (.int .u64 (s.r 15)) := (HE11.out.at_ 5 rfl).cell 15
  obtain ⟨r, hr, hri⟩ := regIn HWS.out HWS.out W6
  rw [hri.2 rfl] at hr
  unfold Stt.rs at hr
  clear hrr
  have a1 : W6.cell? ⟨hu, 17, none⟩ = some (.bool n2.cf) := by rw [← q2]; exact (HE11.out.at_ 3 rfl).cell 17
  have a2 : W6.cell? ⟨h1, 17, none⟩ = some (.bool n2.cf) := (HE11.out.at_ 4 rfl).cell 17
  have a3 : W6.cell? ⟨h5, 0, none⟩ = some (.int .u64 (n2.r 0)) := by rw [← q3]; exact (HE11.out.at_ 2 rfl).cell 0
  have a4 : W6.cell? ⟨h1, 0, none⟩ = some (.int .u64 (n2.r 0)) := (HE11.out.at_ 4 rfl).cell 0
  have a5 : W6.cell? ⟨h6, 0, none⟩ = some (.int .u64 (n2.r 0)) := by rw [← q3, ← q4]; exact (HE11.out.at_ 0 rfl).cell 0
  have a6 : W6.cell? ⟨h5, 17, none⟩ = some (.bool n6.ov) := by rw [← q5]; exact (HE11.out.at_ 2 rfl).cell 17
  have a7 : W6.cell? ⟨h6, 18, none⟩ = some (.bool n6.ov) := (HE11.out.at_ 0 rfl).cell 18
  have a8 : W6.cell? ⟨h6, 17, none⟩ = some (.bool false) := by rw [← q6]; exact (HE11.out.at_ 0 rfl).cell 17
  have a9 : W6.cell? ⟨h5, 18, none⟩ = some (.bool s.ov) := by rw [← q7]; exact (HE11.out.at_ 2 rfl).cell 18
  have a10 : W6.cell? ⟨h0, 18, none⟩ = some (.bool s.ov) := (HE11.out.at_ 5 rfl).cell 18
  have HBE := Lib.hid (HE11.out.below)
  clear HE11 HF q1 q2 q3 q4 q5 q6 q7 hri
  generalize s.r 0 = p0 at *
  generalize s.r 1 = p1 at *
  generalize s.r 2 = p2 at *
  generalize s.r 3 = p3 at *
  generalize s.r 4 = p4 at *
  generalize s.r 5 = p5 at *
  generalize s.r 6 = p6 at *
  generalize s.r 7 = p7 at *
  generalize s.r 8 = p8 at *
  generalize s.r 9 = p9 at *
  generalize s.r 10 = p10 at *
  generalize s.r 11 = p11 at *
  generalize s.r 12 = p12 at *
  generalize s.r 13 = p13 at *
  generalize s.r 14 = p14 at *
  generalize s.r 15 = p15 at *
  generalize n2.cf = b2 at *
  generalize n2.r 0 = v2 at *
  generalize n6.ov = o6 at *
  generalize s.ov = os at *
  go_wp2_with fail
  
  go_ret
  exact ⟨rfl, bel_tr HB.out HBE.out⟩
end stepSums
end Go.Proofs.YtljapifpkjkjaaaGreatDoor
