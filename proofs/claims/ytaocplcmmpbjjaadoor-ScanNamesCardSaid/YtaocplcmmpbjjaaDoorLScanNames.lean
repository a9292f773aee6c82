/- ScanNames' walk. -/
import Derived.Test.YtaocplcmmpbjjaaDoorOE
namespace Go.Proofs.YtaocplcmmpbjjaaDoor
open Go Go.RowKit Go.Maps Go.Shelf
namespace scanNames
open Nt Sn
open Gr (Rdr Rws row Sh rws_rd rws_form)
set_option linter.unusedVariables false
set_option linter.unusedSimpArgs false
set_option maxRecDepth 100000 in
set_option maxHeartbeats 8000000 in
theorem walk_ (w : World) (hT : Lib.Utf8Tabs 0 1 w) :
    Calls Tryd.prog 3 #[] w fun e w' => e = .returned (.bool true) ∧ Below w.heap.size w w' := by
  have HT := Lib.hid hT
  have HL := Lib.hid (lives_l w hT)
  have H1 := Lib.hid (fun W hT => all_is (xs := []) n1_a (by rw [n1_a]; rfl) (by decide) W hT)
  have H2 := Lib.hid (fun W hT => all_is n2_a n2_t (by decide) W hT)
  unfold n1 at H1
  unfold n2 at H2
  have M1 := Lib.hid (fun W => num_is m1_a W)
  have M2 := Lib.hid (fun W => num_is m2_a W)
  have M3 := Lib.hid (fun W => num_is m3_a W)
  unfold numT at M1 M2 M3
  have F3 := Lib.hid (fun W hT => fails_l n3_a (by decide) W hT)
  have F4 := Lib.hid (fun W hT => fails_l n4_a (by decide) W hT)
  have F5 := Lib.hid (fun W hT => fails_l n5_a (by decide) W hT)
  have F6 := Lib.hid (fun W hT => fails_l n6_a (by decide) W hT)
  have F7 := Lib.hid (fun (z : ByteArray) (h : z.data.toList = List.replicate 65537 97) W hT => fails_l (n7_a h).2 (by rw [(n7_a h).1]; decide) W hT)
  have TI := Lib.hid (fun W => times_l 97 65537 (by decide) W)
  have K1 := Lib.hid (fun W => kmul_l W)
  have K2 := Lib.hid (fun W => mul_l W)
  have L1 := Lib.hid (fun W => let_is (c := 95) (b := true) (by kernel_rfl) (by decide) W)
  have L2 := Lib.hid (fun W => let_is (c := 128) (b := true) (by kernel_rfl) (by decide) W)
  have L3 := Lib.hid (fun W => let_is (c := 49) (b := false) (by kernel_rfl) (by decide) W)
  have L4 := Lib.hid (fun W => let_is (c := 55296) (b := false) (by kernel_rfl) (by decide) W)
  have L5 := Lib.hid (fun W => let_is (c := 1114112) (b := false) (by kernel_rfl) (by decide) W)
  clear hT
  go_enter Tryd.func3, Tryd.ntmps3
  try simp only [List.append]
  go_wp2_with fail
  go_at_call 8
  refine (HL.out).mono ?_
  rintro e w1 ⟨rfl, hb⟩
  have HB1 := Lib.hid hb
  clear hb HL
  go_wp2_with fail
  go_at_call 9
  refine (H1.out w1 (bel_tabs HT.out HB1.out)).mono ?_
  rintro e w2 ⟨v, rfl, hr0⟩
  obtain ⟨A, n, c, rfl, hn, _, _, hb⟩ := rowP_at hr0
  obtain rfl : n = 0 := hn
  have HB2 := Lib.hid (bel_t HB1.out hb)
  clear hb hr0 H1 HB1
  go_wp2_with fail
  go_at_call 9
  refine (H2.out w2 (bel_tabs HT.out HB2.out)).mono ?_
  rintro e w3 ⟨v, rfl, hr0⟩
  obtain ⟨B, m, d, rfl, hm, hmd, hr, hb⟩ := rowP_at hr0
  obtain rfl : m = 1 := hm
  have HB3 := Lib.hid (bel_t HB2.out hb)
  have HR3 := Lib.hid hr
  clear hb hr hr0 H2 HB2
  go_wp2_with fail
  go_at_call 10
  refine (M1.out w3).mono ?_
  rintro e w4 ⟨rfl, hb⟩
  have HB4 := Lib.hid (bel_t HB3.out hb)
  have HR4 := Lib.hid ((HR3.out.below hb).more hb.size)
  clear hb M1 HB3 HR3
  go_wp2_with fail
  go_at_call 10
  refine (M2.out w4).mono ?_
  rintro e w5 ⟨rfl, hb⟩
  have HB5 := Lib.hid (bel_t HB4.out hb)
  have HR5 := Lib.hid ((HR4.out.below hb).more hb.size)
  clear hb M2 HB4 HR4
  go_wp2_with fail
  go_at_call 10
  refine (M3.out w5).mono ?_
  rintro e w6 ⟨rfl, hb⟩
  have HB6 := Lib.hid (bel_t HB5.out hb)
  have HR6 := Lib.hid ((HR5.out.below hb).more hb.size)
  clear hb M3 HB5 HR5
  go_wp2_with fail
  go_at_call 11
  refine (F3.out w6 (bel_tabs HT.out HB6.out)).mono ?_
  rintro e w7 ⟨rfl, hb⟩
  have HB7 := Lib.hid (bel_t HB6.out hb)
  have HR7 := Lib.hid ((HR6.out.below hb).more hb.size)
  clear hb F3 HB6 HR6
  go_wp2_with fail
  go_at_call 11
  refine (F4.out w7 (bel_tabs HT.out HB7.out)).mono ?_
  rintro e w8 ⟨rfl, hb⟩
  have HB8 := Lib.hid (bel_t HB7.out hb)
  have HR8 := Lib.hid ((HR7.out.below hb).more hb.size)
  clear hb F4 HB7 HR7
  go_wp2_with fail
  go_at_call 11
  refine (F5.out w8 (bel_tabs HT.out HB8.out)).mono ?_
  rintro e w9 ⟨rfl, hb⟩
  have HB9 := Lib.hid (bel_t HB8.out hb)
  have HR9 := Lib.hid ((HR8.out.below hb).more hb.size)
  clear hb F5 HB8 HR8
  go_wp2_with fail
  go_at_call 11
  refine (F6.out w9 (bel_tabs HT.out HB9.out)).mono ?_
  rintro e w10 ⟨rfl, hb⟩
  have HB10 := Lib.hid (bel_t HB9.out hb)
  have HR10 := Lib.hid ((HR9.out.below hb).more hb.size)
  clear hb F6 HB9 HR9
  go_wp2_with fail
  go_at_call 12
  refine (TI.out w10).mono ?_
  rintro e w11 ⟨z, rfl, hz, _, hb⟩
  have HB11 := Lib.hid (bel_t HB10.out hb)
  have HR11 := Lib.hid ((HR10.out.below hb).more hb.size)
  clear hb TI HB10 HR10
  go_wp2_with fail
  go_at_call 11
  refine (F7.out z hz.out w11 (bel_tabs HT.out HB11.out)).mono ?_
  rintro e w12 ⟨rfl, hb⟩
  have HB12 := Lib.hid (bel_t HB11.out hb)
  have HR12 := Lib.hid ((HR11.out.below hb).more hb.size)
  clear hb F7 HB11 HR11
  obtain ⟨bb, bo, rfl, _, _, c1, _⟩ := tv_at HR12.out (j := 0) rfl
  dsimp only at c1
  rw [Nat.zero_mul, Nat.add_zero] at c1
  go_wp2_with fail
  clear c1
  go_at_call 13
  refine (K1.out _).mono ?_
  rintro e w' ⟨rfl, h⟩
  obtain rfl := h.symm
  clear h
  clear K1
  go_wp2_with fail
  go_at_call 13
  refine (K2.out _).mono ?_
  rintro e w' ⟨rfl, h⟩
  obtain rfl := h.symm
  clear h
  clear K2
  go_wp2_with fail
  go_at_call 14
  refine (L1.out _).mono ?_
  rintro e w' ⟨rfl, h⟩
  obtain rfl := h.symm
  clear h
  clear L1
  go_wp2_with fail
  go_at_call 14
  refine (L2.out _).mono ?_
  rintro e w' ⟨rfl, h⟩
  obtain rfl := h.symm
  clear h
  clear L2
  go_wp2_with fail
  go_at_call 14
  refine (L3.out _).mono ?_
  rintro e w' ⟨rfl, h⟩
  obtain rfl := h.symm
  clear h
  clear L3
  go_wp2_with fail
  go_at_call 14
  refine (L4.out _).mono ?_
  rintro e w' ⟨rfl, h⟩
  obtain rfl := h.symm
  clear h
  clear L4
  go_wp2_with fail
  go_at_call 14
  refine (L5.out _).mono ?_
  rintro e w' ⟨rfl, h⟩
  obtain rfl := h.symm
  clear h
  clear L5
  go_wp2_with fail
  have T1 := text_l (some ⟨bb, bo, none⟩) 1 d _ w12 HR12.out (by decide) (by decide)
  rw [show txt [⟨1, ⟨#[120]⟩, 5⟩] = ⟨#[120]⟩ from by kernel_rfl] at T1
  have T1 := Lib.hid T1
  go_at_call 15
  refine T1.out.mono ?_
  rintro e w13 ⟨rfl, hb⟩
  have HB13 := Lib.hid (bel_t HB12.out hb)
  have HR13 := Lib.hid ((HR12.out.below hb).more hb.size)
  clear hb  HB12 HR12
  go_wp2_with fail
  go_at_call 15
  refine (text_l none 0 0 [] w13 ⟨rfl, fun h => absurd h (by decide)⟩ (by decide) (by decide)).mono ?_
  rintro e w14 ⟨rfl, hb⟩
  have HB14 := Lib.hid (bel_t HB13.out hb)
  clear hb HB13 HR13
  have ht : (txt []).toList.isEmpty = true := by kernel_rfl
  go_wp2_with fail
  go_ret
  exact ⟨rfl, HB14.out⟩
end scanNames
end Go.Proofs.YtaocplcmmpbjjaaDoor
