/- LimbNames: the chapter's example comes out as it tells. -/
import Derived.Test.YtbdhibgljaelbaaDoorNA
import Derived.Test.YtbdhibgljaelbaaDoorN3
import Derived.BigQuiet
import Derived.Deep.RegionHeld3
import Derived.Deep.RegionLaw
import Derived.Deep.CutRange
namespace Go.Proofs.YtbdhibgljaelbaaDoor
open Go Go.RowKit Go.Sort Go.Shelf
namespace limbNames
open Wd Nt Gr Lb
set_option linter.unusedVariables false
set_option linter.unusedSimpArgs false
/-- what the last region needs -/
structure Fx (w W : World) (L : List Bx) (Ao : Option Addr) (hso : List Hr) (Av : Option Addr) : Prop where
  e : Env w W L
  o : HrW W W.heap.size Ao 1 hso
  v : Rdr W W.heap.size Av 9 ([(0, -1), (1, 0), (0, -1), (1, 1), (3, -1), (4, -1), (5, -1), (6, 0), (7, 1)] : List Ev)
section
variable {w W W' : World} {L : List Bx} {Ao : Option Addr} {hso : List Hr} {Av : Option Addr}
theorem Fx.below (h : Fx w W L Ao hso Av) (hb : Below W.heap.size W W') : Fx w W' L Ao hso Av := ⟨h.e.below hb, (h.o.below hb).more hb.size, (h.v.below hb).more hb.size⟩
theorem Fx.al (h : Fx w W L Ao hso Av) (o : Obj) : Fx w (W.alloc o) L Ao hso Av := h.below (bel_al _)
theorem Fx.dr (h : Fx w W L Ao hso Av) : Fx w W.drew L Ao hso Av := h.below (below_drewN (Below.refl _ _) 1)
end
set_option maxRecDepth 100000 in
set_option maxHeartbeats 40000000 in
theorem walk_ (w : World) (hT : TabF w) : Calls Tryd.prog 3 #[] w fun e w' => e = .returned (.bool true) ∧ Below w.heap.size w w' := by
  have HL := Lib.hid (fun (W : World) (hb : Below w.heap.size w W) => lives_l W (hT.keep hb))
  have HTK := Lib.hid (fun (W : World) (hb : Below w.heap.size w W) => hT.keep hb)
  have HEX := Lib.hid (fun W => lex2_l W)
  have HOP := Lib.hid (fun k d e a b c im W => lop2_l k d e a b c im W)
  have HEND := Lib.hid (fun W => lend2_l W)
  have HW := Lib.hid (fun (os : List Lb.Op) (A : Option Addr) (n c m : Nat) (W : World) (h : Rdr W W.heap.size A n os) (hn : n ≤ 1000) (hm : 3 + n = m) => lwith_l os A n c m W h hn hm)
  unfold WithA at HW
  have HCK := Lib.hid (fun (p : Pg) (hp : p.wf) (k : Nat) (er : Int) (hc : chkP p = (k, er)) (A X : Option Addr) (c d : Nat) (W : World) (hb : Below w.heap.size w W) (hA : Rdr W W.heap.size A p.bf.length p.bf) (hX : Rdr W W.heap.size X p.op.length p.op) => lchecks_l p hp hc A X c d W (hT.keep hb) hA hX)
  have HRUN := Lib.hid (fun (p : Pg) (hp : p.wf) (A X Y : Option Addr) (c d m q : Nat) (hs : List Hr) (W : World) (hb : Below w.heap.size w W) (hA : Rdr W W.heap.size A p.bf.length p.bf) (hX : Rdr W W.heap.size X p.op.length p.op) (hH : HrW W W.heap.size Y m hs) (hm : m ≤ 1000000) => run_l p hp A X Y c d m q hs W (hT.keep hb) hA hX hH hm)
  have HSTP := Lib.hid (fun (p : Pg) (hp : p.wf) (A X : Option Addr) (c d : Nat) (W : World) (hb : Below w.heap.size w W) (hA : Rdr W W.heap.size A p.bf.length p.bf) (hX : Rdr W W.heap.size X p.op.length p.op) => steps_l p hp A X c d W (hT.keep hb) hA hX)
  have HENS := Lib.hid (fun (p : Pg) (hp : p.wf) (A X : Option Addr) (c d : Nat) (W : World) (hb : Below w.heap.size w W) (hA : Rdr W W.heap.size A p.bf.length p.bf) (hX : Rdr W W.heap.size X p.op.length p.op) => endsX_l p hp A X c d W (hT.keep hb) hA hX)
  clear hT
  have HE0 : Hid (Env w w []) := Lib.hid ⟨Below.refl _ _, fun x hx => by cases hx⟩
  go_enter Tryd.func3, Tryd.ntmps3
  simp only [List.append]
  go_wp2_with fail
  go_at_call 6
  refine (HL.out _ HE0.out.b).mono ?_
  rintro e w1 ⟨rfl, hb⟩
  have HE1 := Lib.hid (HE0.out.below hb)
  clear hb HE0
  go_wp2_with fail
  go_at_call 7
  refine (HEX.out _).mono ?_
  rintro e w2 ⟨⟨gA1, c1, gX1, d1, rfl, hA1, hX1⟩, hb⟩
  go_upto_region 4 with fail
  have hbx : Below w1.heap.size w1 (w2.alloc (.cells #[.int .i64 2, .slice (some ⟨gA1, 0, none⟩) 1 c1, .slice (some ⟨gX1, 0, none⟩) 3 d1] 26)) := bel_al' hb _
  have hk := Bk.new w2 26 #[.int .i64 2, .slice (some ⟨gA1, 0, none⟩) 1 c1, .slice (some ⟨gX1, 0, none⟩) 3 d1]
  have hA1' := own_below hA1 (bel_al (.cells #[.int .i64 2, .slice (some ⟨gA1, 0, none⟩) 1 c1, .slice (some ⟨gX1, 0, none⟩) 3 d1] 26))
  have hX1' := own_below hX1 (bel_al (.cells #[.int .i64 2, .slice (some ⟨gA1, 0, none⟩) 1 c1, .slice (some ⟨gX1, 0, none⟩) 3 d1] 26))
  have hsz := hb.size
  obtain ⟨W3, hW3⟩ : ∃ W3, W3 = w2.alloc (.cells #[.int .i64 2, .slice (some ⟨gA1, 0, none⟩) 1 c1, .slice (some ⟨gX1, 0, none⟩) 3 d1] 26) := ⟨_, rfl⟩
  rw [← hW3] at hbx hk hA1' hX1'
  rw [← hW3]
  obtain ⟨g1, hg1⟩ : ∃ g, w2.heap.size = g := ⟨_, rfl⟩
  rw [hg1] at hk hsz ⊢
  clear hW3 hg1 hA1 hX1 hb
  have HK := Lib.hid hk
  have a0 := hk.cell 0
  have f0 := hk.frozen 0
  have l0 := hk.lt
  have HBX := Lib.hid hbx
  have HAX := Lib.hid hA1'
  have HXX := Lib.hid hX1'
  clear hk hbx hA1' hX1'
  go_upto_region 5 with fail
  obtain ⟨W4, hW4⟩ : ∃ W, W = W3.setCell ⟨g1, 0, none⟩ (.int .i64 65) := ⟨_, rfl⟩
  rw [← hW4]
  have HE4 : Hid (Env w W4 [⟨g1, bigP, some ⟨gA1, 0, none⟩, c1, some ⟨gX1, 0, none⟩, d1⟩]) := Lib.hid (by
    rw [hW4]
    exact (HE1.out.below (HBX.out.setCell (p := ⟨g1, 0, none⟩) hsz _)).add ⟨HK.out.set_ 0 _, (rws_rd (xs := [exB]) (own_far HAX.out HK.out (show (29 : TypeId) ≠ 26 by decide))).2.1, (rws_rd (xs := [exO1, exO2, endO]) (own_far HXX.out HK.out (show (33 : TypeId) ≠ 26 by decide))).2.1⟩)
  clear hW4 HK HBX HAX HXX a0 f0 l0 hsz HE1
  go_wp2_with fail
  go_at_call 7
  refine (HEX.out _).mono ?_
  rintro e w5 ⟨⟨gA2, c2, gX2, d2, rfl, hA2, hX2⟩, hb⟩
  go_upto_region 6 with fail
  have hbx : Below W4.heap.size W4 (w5.alloc (.cells #[.int .i64 2, .slice (some ⟨gA2, 0, none⟩) 1 c2, .slice (some ⟨gX2, 0, none⟩) 3 d2] 26)) := bel_al' hb _
  have hk := Bk.new w5 26 #[.int .i64 2, .slice (some ⟨gA2, 0, none⟩) 1 c2, .slice (some ⟨gX2, 0, none⟩) 3 d2]
  have hA1' := own_below hA2 (bel_al (.cells #[.int .i64 2, .slice (some ⟨gA2, 0, none⟩) 1 c2, .slice (some ⟨gX2, 0, none⟩) 3 d2] 26))
  have hX1' := own_below hX2 (bel_al (.cells #[.int .i64 2, .slice (some ⟨gA2, 0, none⟩) 1 c2, .slice (some ⟨gX2, 0, none⟩) 3 d2] 26))
  obtain ⟨W6, hW6⟩ : ∃ W3, W3 = w5.alloc (.cells #[.int .i64 2, .slice (some ⟨gA2, 0, none⟩) 1 c2, .slice (some ⟨gX2, 0, none⟩) 3 d2] 26) := ⟨_, rfl⟩
  rw [← hW6] at hbx hk hA1' hX1'
  rw [← hW6]
  obtain ⟨g2, hg2⟩ : ∃ g, w5.heap.size = g := ⟨_, rfl⟩
  rw [hg2] at hk ⊢
  clear hW6 hg2 hA2 hX2 hb
  have HK := Lib.hid hk
  have a1 := hk.cell 1
  have HBX := Lib.hid hbx
  have HAX := Lib.hid hA1'
  have HXX := Lib.hid hX1'
  have hlo := (ownLt hA1').1
  have l0 := (ownLt hA1').2
  obtain ⟨cs, hcs⟩ := ownBlk hA1'
  have HCS := Lib.hid hcs
  have hne : g2 ≠ gA2 := bk_ne hk hcs (by decide)
  obtain ⟨_, _, e0, _, s0, s1, s2⟩ := bf_at (rws_rd (xs := [exB]) hA1').2.1 (show [exB][0]? = some exB from rfl)
  cases e0
  have f1 : W6.frozen? ⟨gA2, 1, none⟩ = false := hcs.frozen 1
  have s1' : W6.cell? ⟨gA2, 1, none⟩ = some (.int .i64 2) := s1
  clear hk hbx hA1' hX1' hcs s0 s1 s2
  go_upto_region 7 with fail
  obtain ⟨W7, hW7⟩ : ∃ W, W = W6.setCell ⟨gA2, 1, none⟩ (.int .i64 1) := ⟨_, rfl⟩
  rw [← hW7]
  have HE7 : Hid (Env w W7 [⟨g2, inP, some ⟨gA2, 0, none⟩, c2, some ⟨gX2, 0, none⟩, d2⟩, ⟨g1, bigP, some ⟨gA1, 0, none⟩, c1, some ⟨gX1, 0, none⟩, d1⟩]) := Lib.hid (by
    rw [hW7]
    have hput := own_put (T := Bf) (j := 0) (d := 1) (y := ⟨2, 1, false⟩) (u := .int .i64 1) HAX.out rfl (show [exB][0]? = some exB from rfl) (by decide) rfl
    exact (HE4.out.below (HBX.out.setCell (p := ⟨gA2, 1, none⟩) hlo _)).add ⟨HK.out.far (p := ⟨gA2, 1, none⟩) hne _, (rws_rd (xs := [(⟨2, 1, false⟩ : Bf)]) hput).2.1, (rws_rd (xs := [exO1, exO2, endO]) (own_far HXX.out HCS.out (show (33 : TypeId) ≠ 29 by decide))).2.1⟩)
  clear hW7 HK HBX HAX HXX HCS a1 f1 l0 hlo hne s1' HE4
  go_wp2_with fail
  go_at_call 9
  refine (HOP.out _ _ _ _ _ _ _ _).mono ?_
  rintro e wo2 ⟨rfl, hb⟩
  have hc3 : Below W7.heap.size W7 wo2 := hb
  clear hb
  go_wp2_with fail
  go_at_call 9
  refine (HOP.out _ _ _ _ _ _ _ _).mono ?_
  rintro e wo4 ⟨rfl, hb⟩
  have hc5 : Below W7.heap.size W7 wo4 := bel_tr hc3 hb
  clear hb hc3
  go_wp2_with fail
  go_at_call 10
  refine (HEND.out _).mono ?_
  rintro e wo6 ⟨rfl, hb⟩
  have hc7 : Below W7.heap.size W7 wo6 := bel_tr hc5 hb
  clear hb hc5
  have hbl : Below W7.heap.size W7 (wo6.alloc (.cells #[.int .i64 1, .int .i64 0, .int .i64 (-1), .int .i64 (-1), .int .i64 (-1), .int .i64 (-1), .int .i64 0, .int .u64 3, .int .i64 16, .int .i64 0, .int .i64 (-1), .int .i64 (-1), .int .i64 (-1), .int .i64 (-1), .int .i64 0, .int .u64 2, .int .i64 17, .int .i64 (-1), .int .i64 (-1), .int .i64 (-1), .int .i64 (-1), .int .i64 (-1), .int .i64 0, .int .u64 0] 33)) := bel_al' hc7 _
  have HWI := Lib.hid (HW.out oMade (some ⟨wo6.heap.size, 0, none⟩) 3 3 6 (wo6.alloc (.cells #[.int .i64 1, .int .i64 0, .int .i64 (-1), .int .i64 (-1), .int .i64 (-1), .int .i64 (-1), .int .i64 0, .int .u64 3, .int .i64 16, .int .i64 0, .int .i64 (-1), .int .i64 (-1), .int .i64 (-1), .int .i64 (-1), .int .i64 0, .int .u64 2, .int .i64 17, .int .i64 (-1), .int .i64 (-1), .int .i64 (-1), .int .i64 (-1), .int .i64 (-1), .int .i64 0, .int .u64 0] 33)) (bk_rdr (xs := oMade) (t := 33) (Bk.new _ _ _) (by rw [World.size_alloc]; omega)) (by omega) rfl)
  clear hc7
  go_wp2_with fail
  go_at_call 8
  refine (HWI.out).mono ?_
  rintro e ww8 ⟨hb, A3, c3, X3, d3, rfl, hA, hX⟩
  have hbw : Below W7.heap.size W7 ww8 := bel_tr hbl hb
  clear hb hbl HWI
  go_upto_region 8 with fail
  have HN : Hid (Env w (ww8.alloc (.cells #[.int .i64 2, .slice A3 1 c3, .slice X3 6 d3] 26)) (⟨ww8.heap.size, wP oMade, A3, c3, X3, d3⟩ :: [⟨g2, inP, some ⟨gA2, 0, none⟩, c2, some ⟨gX2, 0, none⟩, d2⟩, ⟨g1, bigP, some ⟨gA1, 0, none⟩, c1, some ⟨gX1, 0, none⟩, d1⟩])) := Lib.hid (HE7.out.box hbw (wP oMade) A3 c3 X3 d3 hA hX)
  obtain ⟨Wb10, hW⟩ : ∃ W, W = ww8.alloc (.cells #[.int .i64 2, .slice A3 1 c3, .slice X3 6 d3] 26) := ⟨_, rfl⟩
  have hbb : Below W7.heap.size W7 Wb10 := by rw [hW]; exact bel_al' hbw _
  rw [← hW] at HN
  rw [← hW]
  obtain ⟨g3, hg⟩ : ∃ g, ww8.heap.size = g := ⟨_, rfl⟩
  rw [hg] at HN ⊢
  have HE9 := HN
  clear hW hg HN hA hX HE7
  clear hbw hbb
  go_wp2_with fail
  go_at_call 9
  refine (HOP.out _ _ _ _ _ _ _ _).mono ?_
  rintro e wo11 ⟨rfl, hb⟩
  have hc12 : Below Wb10.heap.size Wb10 wo11 := hb
  clear hb
  go_wp2_with fail
  go_at_call 9
  refine (HOP.out _ _ _ _ _ _ _ _).mono ?_
  rintro e wo13 ⟨rfl, hb⟩
  have hc14 : Below Wb10.heap.size Wb10 wo13 := bel_tr hc12 hb
  clear hb hc12
  go_wp2_with fail
  go_at_call 10
  refine (HEND.out _).mono ?_
  rintro e wo15 ⟨rfl, hb⟩
  have hc16 : Below Wb10.heap.size Wb10 wo15 := bel_tr hc14 hb
  clear hb hc14
  have hbl : Below Wb10.heap.size Wb10 (wo15.alloc (.cells #[.int .i64 16, .int .i64 1, .int .i64 (-1), .int .i64 (-1), .int .i64 (-1), .int .i64 (-1), .int .i64 0, .int .u64 2, .int .i64 1, .int .i64 1, .int .i64 (-1), .int .i64 (-1), .int .i64 (-1), .int .i64 (-1), .int .i64 0, .int .u64 2, .int .i64 17, .int .i64 (-1), .int .i64 (-1), .int .i64 (-1), .int .i64 (-1), .int .i64 (-1), .int .i64 0, .int .u64 0] 33)) := bel_al' hc16 _
  have HWI := Lib.hid (HW.out oOwn (some ⟨wo15.heap.size, 0, none⟩) 3 3 6 (wo15.alloc (.cells #[.int .i64 16, .int .i64 1, .int .i64 (-1), .int .i64 (-1), .int .i64 (-1), .int .i64 (-1), .int .i64 0, .int .u64 2, .int .i64 1, .int .i64 1, .int .i64 (-1), .int .i64 (-1), .int .i64 (-1), .int .i64 (-1), .int .i64 0, .int .u64 2, .int .i64 17, .int .i64 (-1), .int .i64 (-1), .int .i64 (-1), .int .i64 (-1), .int .i64 (-1), .int .i64 0, .int .u64 0] 33)) (bk_rdr (xs := oOwn) (t := 33) (Bk.new _ _ _) (by rw [World.size_alloc]; omega)) (by omega) rfl)
  clear hc16
  go_wp2_with fail
  go_at_call 8
  refine (HWI.out).mono ?_
  rintro e ww17 ⟨hb, A4, c4, X4, d4, rfl, hA, hX⟩
  have hbw : Below Wb10.heap.size Wb10 ww17 := bel_tr hbl hb
  clear hb hbl HWI
  go_upto_region 9 with fail
  have HN : Hid (Env w (ww17.alloc (.cells #[.int .i64 2, .slice A4 1 c4, .slice X4 6 d4] 26)) (⟨ww17.heap.size, wP oOwn, A4, c4, X4, d4⟩ :: [⟨g3, wP oMade, A3, c3, X3, d3⟩, ⟨g2, inP, some ⟨gA2, 0, none⟩, c2, some ⟨gX2, 0, none⟩, d2⟩, ⟨g1, bigP, some ⟨gA1, 0, none⟩, c1, some ⟨gX1, 0, none⟩, d1⟩])) := Lib.hid (HE9.out.box hbw (wP oOwn) A4 c4 X4 d4 hA hX)
  obtain ⟨Wb19, hW⟩ : ∃ W, W = ww17.alloc (.cells #[.int .i64 2, .slice A4 1 c4, .slice X4 6 d4] 26) := ⟨_, rfl⟩
  have hbb : Below Wb10.heap.size Wb10 Wb19 := by rw [hW]; exact bel_al' hbw _
  rw [← hW] at HN
  rw [← hW]
  obtain ⟨g4, hg⟩ : ∃ g, ww17.heap.size = g := ⟨_, rfl⟩
  rw [hg] at HN ⊢
  have HE18 := HN
  clear hW hg HN hA hX HE9
  clear hbw hbb
  go_upto_region 10 with fail
  have HB := Lib.hid (HE18.out)
  have HN0 : Hid (NestI Wb19 (Wb19.alloc (.cells #[.int .i64 9, .slice none 0 0, .slice none 0 0] 26)) Wb19.heap.size 0 none 0) := Lib.hid ⟨bel_al _, Nat.le_refl _, Bk.new _ _ _, World.ownsRow_nil _ _ _ _⟩
  obtain ⟨W9, hW⟩ : ∃ W, W = Wb19.alloc (.cells #[.int .i64 9, .slice none 0 0, .slice none 0 0] 26) := ⟨_, rfl⟩
  rw [← hW] at HN0
  rw [← hW]
  obtain ⟨g5, hg⟩ : ∃ g, Wb19.heap.size = g := ⟨_, rfl⟩
  rw [hg] at HN0 ⊢
  clear hW HE18
  go_wp2_with fail
  go_loopw [6] (fun i W => ∃ k : Nat, k ≤ 9 ∧ i = .int .i64 (k : Int) ∧ Hid (∃ X d, NestI Wb19 W g5 k X d)) (fun i _ => 9 - (intOf i).toNat)
  case atStart => exact ⟨0, Nat.zero_le _, rfl, Lib.hid ⟨_, _, HN0.out⟩⟩
  case round =>
    obtain ⟨k, hk, rfl, HX⟩ := hrel
    clear HN0
    obtain ⟨X5, d5, hN⟩ := HX.out
    have HN := Lib.hid hN
    clear HX hN
    rcases Nat.lt_or_ge k 9 with hlt | hge
    · have hki : (k : Int) < 9 := by omega
      have hk0 : (0 : Int) ≤ (k : Int) := by omega
      have ew : IntKind.i64.wrap ((k : Int) + 1) = ((k + 1 : Nat) : Int) := by rw [show (k : Int) + 1 = ((k + 1 : Nat) : Int) by omega]; exact IntWalk.i64_in _ (by omega)
      have KEY := Lib.hid (fun w22 hb22 => HN.out.app (by omega) w22 hb22)
      obtain ⟨a0, a1, a2⟩ := Gr.c3 HN.out.bk
      have hgw := HN.out.bk.lt
      clear HN HB
      go_upto_region 13 with fail
      go_region_law (first
          | (refine step_append_eq rfl _ _ 24 rfl _ _ rfl rfl _ _ hap ?_)
          | ((try go_simp); go_at_call 9; refine (HOP.out _ _ _ _ _ _ _ _).mono ?_; rintro e w22 ⟨rfl, h22⟩; obtain ⟨A9, c9, w9, hap, ⟨z0, z1, z2, z3, z4⟩, HNN⟩ := KEY.out w22 (bel_tr (below_drewN (Below.refl _ _) 1) h22); clear h22)
          | fail)
      all_goals (
        have HNX : Hid (∃ X d, NestI _ _ g5 (k + 1) X d) := Lib.hid ⟨_, _, HNN⟩
        clear KEY a0 a1 a2 hgw HNN
        go_wp2_with fail
        go_roundw
        case rel => exact ⟨k + 1, by omega, by first | rfl | go_num, HNX⟩
        case measure => (simp [intOf] <;> omega))
    · have hk9 : k = 9 := by omega
      have hki : ¬ (k : Int) < 9 := by omega
      have HN9 : Hid (NestI Wb19 wr g5 9 X5 d5) := Lib.hid (by rw [← hk9]; exact HN.out)
      clear hk hge hk9 HN
      have HN := HN9
      clear HN9
      obtain ⟨gX5, rfl, hgX5, -, -, hdd5⟩ := own_blk HN.out.os (by rw [nestO_len]; decide)
      have HE9 : Hid (Env w wr (⟨g5, nestP, none, 0, some ⟨gX5, 0, none⟩, d5⟩ :: [⟨g4, wP oOwn, A4, c4, X4, d4⟩, ⟨g3, wP oMade, A3, c3, X3, d3⟩, ⟨g2, inP, some ⟨gA2, 0, none⟩, c2, some ⟨gX2, 0, none⟩, d2⟩, ⟨g1, bigP, some ⟨gA1, 0, none⟩, c1, some ⟨gX1, 0, none⟩, d1⟩])) := Lib.hid ((HB.out.below HN.out.b).add ⟨HN.out.bk, Rdr.nil, (rws_rd HN.out.os).2.1⟩)
      have HX5 := Lib.hid HN.out.os
      clear HN HB
      obtain ⟨a0, a1, a2⟩ : wr.cell? ⟨g5, 0, none⟩ = some (.int .i64 9) ∧ wr.cell? ⟨g5, 1, none⟩ = some (.slice none 0 0) ∧ wr.cell? ⟨g5, 2, none⟩ = some (.slice (some ⟨gX5, 0, none⟩) 9 d5) := (HE9.out.at 0 rfl).t
      have hd8 : (8 : Int) ≤ (d5 : Int) := by omega
      have hd9 : (9 : Int) ≤ (d5 : Int) := by omega
      go_upto_region 15 with fail
      have HD0 : Hid (Bk (wr.alloc (.cells #[.int .i64 9, .slice none 0 0, .slice (some ⟨gX5, 0, none⟩) 9 d5] 26)) wr.heap.size 26 #[.int .i64 9, .slice none 0 0, .slice (some ⟨gX5, 0, none⟩) 9 d5]) := Lib.hid (Bk.new _ _ _)
      obtain ⟨W10, hW⟩ : ∃ W, W = wr.alloc (.cells #[.int .i64 9, .slice none 0 0, .slice (some ⟨gX5, 0, none⟩) 9 d5] 26) := ⟨_, rfl⟩
      have HB10 : Hid (Below wr.heap.size wr W10) := Lib.hid (by rw [hW]; exact bel_al _)
      have HR10 : Hid (Rdr W10 wr.heap.size (some ⟨gX5, 0, none⟩) 9 (nestO 9)) := Lib.hid (by have h := (rws_rd HX5.out).2.1; exact h.below HB10.out)
      rw [← hW] at HD0
      rw [← hW]
      obtain ⟨g7, hg7⟩ : ∃ g, wr.heap.size = g := ⟨_, rfl⟩
      have HG7 := Lib.hid hg7
      rw [hg7] at HD0 ⊢
      have l7 := HD0.out.lt
      have y0 := HD0.out.cell 2
      have f0 := HD0.out.frozen 2
      have b0 : W10.cell? ⟨g5, 0, none⟩ = some (.int .i64 9) := ((HE9.out.below HB10.out).at 0 rfl).t.1
      have b2 : W10.cell? ⟨g5, 2, none⟩ = some (.slice (some ⟨gX5, 0, none⟩) 9 d5) := ((HE9.out.below HB10.out).at 0 rfl).t.2.2
      clear hW a0 a1 a2 hg7
      go_upto_region 16 with fail
      have HI0 : Hid (DeepI wr (W10.setCell ⟨g7, 2, none⟩ (.slice (some ⟨gX5, 0, none⟩) 8 d5)) g7 8 0 (some ⟨gX5, 0, none⟩) d5) := Lib.hid ⟨HB10.out.setCell (p := ⟨g7, 2, none⟩) (Nat.le_of_eq HG7.out) _, Nat.le_of_eq HG7.out, HD0.out.set_ 2 _, by
        have h9 : nestO 9 = nestO 8 ++ [⟨16, 8, -1, -1, -1, -1, 0, 1048576⟩] := nestO_succ 8
        have h8 : deepO 0 = nestO 8 := by unfold deepO; simp
        rw [h8]
        refine ⟨nestO_len 8, fun _ => ⟨gX5, 0, rfl, ?_, fun j x hj dd v hv => ?_⟩⟩
        · obtain ⟨b, o, e, hb, _⟩ := HR10.out.rd (by omega)
          cases e
          have := HB10.out.size
          rw [World.size_setCell]
          omega
        · obtain ⟨b, o, e, hb, hc⟩ := HR10.out.rd (by omega)
          cases e
          have hj9 : (nestO 9)[j]? = some x := by rw [h9, List.getElem?_append_left (List.getElem?_eq_some_iff.1 hj).1]; exact hj
          have hne : gX5 ≠ g7 := by rw [← HG7.out]; exact Nat.ne_of_lt hb
          exact (Below.cell ((Below.refl wr.heap.size W10).setCell (p := ⟨g7, 2, none⟩) (Nat.le_of_eq HG7.out) _) (p := ⟨gX5, _, none⟩) hb).trans (hc j x hj9 dd v hv), rfl⟩
      obtain ⟨W11, hW⟩ : ∃ W, W = W10.setCell ⟨g7, 2, none⟩ (.slice (some ⟨gX5, 0, none⟩) 8 d5) := ⟨_, rfl⟩
      rw [← hW] at HI0
      rw [← hW]
      clear hW HD0 HB10 HR10 HX5 l7 y0 f0 b0 b2 hd8 hd9 HG7
      go_wp2_with fail
      go_loopw [8] (fun i W => ∃ k : Nat, k ≤ 8 ∧ i = .int .i64 (k : Int) ∧ Hid (∃ n X d, DeepI wr W g7 n k X d)) (fun i _ => 8 - (intOf i).toNat)
      case atStart => exact ⟨0, Nat.zero_le _, rfl, Lib.hid ⟨_, _, _, HI0.out⟩⟩
      case round =>
        obtain ⟨k, hk, rfl, HX⟩ := hrel
        clear HI0
        obtain ⟨n7, X7, d7, hN⟩ := HX.out
        have HN := Lib.hid hN
        clear HX hN
        rcases Nat.lt_or_ge k 8 with hlt | hge
        · have hki : (k : Int) < 8 := by omega
          have hk0 : (0 : Int) ≤ (k : Int) := by omega
          have ew : IntKind.i64.wrap ((k : Int) + 1) = ((k + 1 : Nat) : Int) := by rw [show (k : Int) + 1 = ((k + 1 : Nat) : Int) by omega]; exact IntWalk.i64_in _ (by omega)
          have hn := HN.out.hn
          have hn4 : n7 ≤ 100 := by omega
          clear hn
          have HOW := Lib.hid (ownO_c X7 n7 d7 (deepO k) _ HN.out.os (by omega))
          unfold OwnA at HOW
          obtain ⟨a0, a1, a2⟩ := Gr.c3 HN.out.bk
          rw [show (deepO k).length = n7 by rw [deepO_len, HN.out.hn]] at HOW
          clear HE9
          go_wp2_with fail
          go_at_call 11
          refine HOW.out.mono ?_
          rintro e w20 ⟨hb20, g, c, rfl, hr20⟩
          go_wp2_with fail
          go_at_call 10
          refine (HEND.out _).mono ?_
          rintro e w21 ⟨rfl, hb21⟩
          obtain ⟨A9, c9, w9, hap, ⟨z0, z1, z2⟩, hNN⟩ := HN.out.app (by omega) (bel_tr hb20 hb21) (own_below hr20 hb21)
          have y2 := (HN.out.bk.below (bel_tr hb20 hb21) HN.out.bk.lt).cell 2
          have yl := (HN.out.bk.below (bel_tr hb20 hb21) HN.out.bk.lt).lt
          have HNN : Hid (∃ n X d, DeepI _ _ g7 n (k + 1) X d) := Lib.hid ⟨_, _, _, hNN⟩
          clear hb20 hb21 hr20 hNN HN HOW a0 a1 a2
          go_wp2_with (first | (at_builtin; refine wpList_append_eq rfl _ _ 24 rfl _ _ rfl rfl _ _ hap ?_) | fail)
          go_roundw
          case rel => exact ⟨k + 1, by omega, by first | rfl | go_num, HNN⟩
          case measure => (simp [intOf] <;> omega)
        · have hk9 : k = 8 := by omega
          have hki : ¬ (k : Int) < 8 := by omega
          have HN8 : Hid (DeepI _ wr g7 16 8 X7 d7) := Lib.hid (by
            have h := HN.out
            have h2 := h.hn
            rw [hk9] at h
            rw [show n7 = 16 by omega] at h
            exact h)
          clear hk hge hk9 HN
          have HN := HN8
          clear HN8
          have HE12 : Hid (Env w wr (⟨g7, deepP, none, 0, X7, d7⟩ :: [⟨g5, nestP, none, 0, some ⟨gX5, 0, none⟩, d5⟩, ⟨g4, wP oOwn, A4, c4, X4, d4⟩, ⟨g3, wP oMade, A3, c3, X3, d3⟩, ⟨g2, inP, some ⟨gA2, 0, none⟩, c2, some ⟨gX2, 0, none⟩, d2⟩, ⟨g1, bigP, some ⟨gA1, 0, none⟩, c1, some ⟨gX1, 0, none⟩, d1⟩])) := Lib.hid ((HE9.out.below HN.out.b).add ⟨HN.out.bk, Rdr.nil, HN.out.os⟩)
          clear HN HE9
          obtain ⟨a0, a1, a2⟩ : wr.cell? ⟨g1, 0, none⟩ = some (.int .i64 65) ∧ wr.cell? ⟨g1, 1, none⟩ = some (.slice (some ⟨gA1, 0, none⟩) 1 c1) ∧ wr.cell? ⟨g1, 2, none⟩ = some (.slice (some ⟨gX1, 0, none⟩) 3 d1) := (HE12.out.at 5 rfl).t
          have HCI := Lib.hid (show Calls Tryd.prog 12 #[.agg #[.int .i64 65, .slice (some ⟨gA1, 0, none⟩) 1 c1, .slice (some ⟨gX1, 0, none⟩) 3 d1], .int .i64 0, .int .i64 3] wr (fun e w' => e = .returned (.bool true) ∧ Below wr.heap.size wr w') from HCK.out bigP wf_big 0 3 c_big (some ⟨gA1, 0, none⟩) (some ⟨gX1, 0, none⟩) c1 d1 wr HE12.out.b (HE12.out.at 5 rfl).bs (HE12.out.at 5 rfl).os)
          go_wp2_with fail
          go_at_call 12
          refine (HCI.out).mono ?_
          rintro e wk20 ⟨rfl, hb⟩
          clear HCI a0 a1 a2
          have HE21 := Lib.hid (HE12.out.below hb)
          clear hb HE12
          obtain ⟨a0, a1, a2⟩ : wk20.cell? ⟨g2, 0, none⟩ = some (.int .i64 2) ∧ wk20.cell? ⟨g2, 1, none⟩ = some (.slice (some ⟨gA2, 0, none⟩) 1 c2) ∧ wk20.cell? ⟨g2, 2, none⟩ = some (.slice (some ⟨gX2, 0, none⟩) 3 d2) := (HE21.out.at 4 rfl).t
          have HCI := Lib.hid (show Calls Tryd.prog 12 #[.agg #[.int .i64 2, .slice (some ⟨gA2, 0, none⟩) 1 c2, .slice (some ⟨gX2, 0, none⟩) 3 d2], .int .i64 1, .int .i64 2] wk20 (fun e w' => e = .returned (.bool true) ∧ Below wk20.heap.size wk20 w') from HCK.out inP wf_in 1 2 c_in (some ⟨gA2, 0, none⟩) (some ⟨gX2, 0, none⟩) c2 d2 wk20 HE21.out.b (HE21.out.at 4 rfl).bs (HE21.out.at 4 rfl).os)
          go_wp2_with fail
          go_at_call 12
          refine (HCI.out).mono ?_
          rintro e wk22 ⟨rfl, hb⟩
          clear HCI a0 a1 a2
          have HE23 := Lib.hid (HE21.out.below hb)
          clear hb HE21
          go_wp2_with fail
          go_at_call 9
          refine (HOP.out _ _ _ _ _ _ _ _).mono ?_
          rintro e wo24 ⟨rfl, hb⟩
          have hc25 : Below wk22.heap.size wk22 wo24 := hb
          clear hb
          have hbl : Below wk22.heap.size wk22 (wo24.alloc (.cells #[.int .i64 2, .int .i64 1, .int .i64 (-1), .int .i64 0, .int .i64 (-1), .int .i64 (-1), .int .i64 0, .int .u64 0] 33)) := bel_al' hc25 _
          have HWI := Lib.hid (HW.out oM1 (some ⟨wo24.heap.size, 0, none⟩) 1 1 4 (wo24.alloc (.cells #[.int .i64 2, .int .i64 1, .int .i64 (-1), .int .i64 0, .int .i64 (-1), .int .i64 (-1), .int .i64 0, .int .u64 0] 33)) (bk_rdr (xs := oM1) (t := 33) (Bk.new _ _ _) (by rw [World.size_alloc]; omega)) (by omega) rfl)
          clear hc25
          go_wp2_with fail
          go_at_call 8
          refine (HWI.out).mono ?_
          rintro e ww26 ⟨hb, A21, c21, X21, d21, rfl, hA, hX⟩
          have hbw : Below wk22.heap.size wk22 ww26 := bel_tr hbl hb
          clear hb hbl HWI
          have HE27 := Lib.hid (HE23.out.below hbw)
          clear hbw HE23
          have HCI := Lib.hid (show Calls Tryd.prog 12 #[.agg #[.int .i64 2, .slice A21 1 c21, .slice X21 4 d21], .int .i64 3, .int .i64 5] ww26 (fun e w' => e = .returned (.bool true) ∧ Below ww26.heap.size ww26 w') from HCK.out (wP oM1) wf_m1 3 5 c_m1 A21 X21 c21 d21 ww26 HE27.out.b hA hX)
          clear hA hX
          go_wp2_with fail
          go_at_call 12
          refine (HCI.out).mono ?_
          rintro e wk28 ⟨rfl, hb⟩
          clear HCI
          have HE29 := Lib.hid (HE27.out.below hb)
          clear hb HE27
          go_wp2_with fail
          go_at_call 10
          refine (HEND.out _).mono ?_
          rintro e wo30 ⟨rfl, hb⟩
          have hc31 : Below wk28.heap.size wk28 wo30 := hb
          clear hb
          have hbl : Below wk28.heap.size wk28 (wo30.alloc (.cells #[.int .i64 17, .int .i64 (-1), .int .i64 (-1), .int .i64 (-1), .int .i64 (-1), .int .i64 (-1), .int .i64 0, .int .u64 0] 33)) := bel_al' hc31 _
          have HWI := Lib.hid (HW.out oM2 (some ⟨wo30.heap.size, 0, none⟩) 1 1 4 (wo30.alloc (.cells #[.int .i64 17, .int .i64 (-1), .int .i64 (-1), .int .i64 (-1), .int .i64 (-1), .int .i64 (-1), .int .i64 0, .int .u64 0] 33)) (bk_rdr (xs := oM2) (t := 33) (Bk.new _ _ _) (by rw [World.size_alloc]; omega)) (by omega) rfl)
          clear hc31
          go_wp2_with fail
          go_at_call 8
          refine (HWI.out).mono ?_
          rintro e ww32 ⟨hb, A22, c22, X22, d22, rfl, hA, hX⟩
          have hbw : Below wk28.heap.size wk28 ww32 := bel_tr hbl hb
          clear hb hbl HWI
          have HE33 := Lib.hid (HE29.out.below hbw)
          clear hbw HE29
          have HCI := Lib.hid (show Calls Tryd.prog 12 #[.agg #[.int .i64 2, .slice A22 1 c22, .slice X22 4 d22], .int .i64 3, .int .i64 9] ww32 (fun e w' => e = .returned (.bool true) ∧ Below ww32.heap.size ww32 w') from HCK.out (wP oM2) wf_m2 3 9 c_m2 A22 X22 c22 d22 ww32 HE33.out.b hA hX)
          clear hA hX
          go_wp2_with fail
          go_at_call 12
          refine (HCI.out).mono ?_
          rintro e wk34 ⟨rfl, hb⟩
          clear HCI
          have HE35 := Lib.hid (HE33.out.below hb)
          clear hb HE33
          obtain ⟨a0, a1, a2⟩ : wk34.cell? ⟨g3, 0, none⟩ = some (.int .i64 2) ∧ wk34.cell? ⟨g3, 1, none⟩ = some (.slice A3 1 c3) ∧ wk34.cell? ⟨g3, 2, none⟩ = some (.slice X3 6 d3) := (HE35.out.at 3 rfl).t
          have HCI := Lib.hid (show Calls Tryd.prog 12 #[.agg #[.int .i64 2, .slice A3 1 c3, .slice X3 6 d3], .int .i64 4, .int .i64 9] wk34 (fun e w' => e = .returned (.bool true) ∧ Below wk34.heap.size wk34 w') from HCK.out (wP oMade) wf_made 4 9 c_made A3 X3 c3 d3 wk34 HE35.out.b (HE35.out.at 3 rfl).bs (HE35.out.at 3 rfl).os)
          go_wp2_with fail
          go_at_call 12
          refine (HCI.out).mono ?_
          rintro e wk36 ⟨rfl, hb⟩
          clear HCI a0 a1 a2
          have HE37 := Lib.hid (HE35.out.below hb)
          clear hb HE35
          obtain ⟨a0, a1, a2⟩ : wk36.cell? ⟨g4, 0, none⟩ = some (.int .i64 2) ∧ wk36.cell? ⟨g4, 1, none⟩ = some (.slice A4 1 c4) ∧ wk36.cell? ⟨g4, 2, none⟩ = some (.slice X4 6 d4) := (HE37.out.at 2 rfl).t
          have HCI := Lib.hid (show Calls Tryd.prog 12 #[.agg #[.int .i64 2, .slice A4 1 c4, .slice X4 6 d4], .int .i64 4, .int .i64 9] wk36 (fun e w' => e = .returned (.bool true) ∧ Below wk36.heap.size wk36 w') from HCK.out (wP oOwn) wf_own 4 9 c_own A4 X4 c4 d4 wk36 HE37.out.b (HE37.out.at 2 rfl).bs (HE37.out.at 2 rfl).os)
          go_wp2_with fail
          go_at_call 12
          refine (HCI.out).mono ?_
          rintro e wk38 ⟨rfl, hb⟩
          clear HCI a0 a1 a2
          have HE39 := Lib.hid (HE37.out.below hb)
          clear hb HE37
          obtain ⟨a0, a1, a2⟩ : wk38.cell? ⟨g5, 0, none⟩ = some (.int .i64 9) ∧ wk38.cell? ⟨g5, 1, none⟩ = some (.slice none 0 0) ∧ wk38.cell? ⟨g5, 2, none⟩ = some (.slice (some ⟨gX5, 0, none⟩) 9 d5) := (HE39.out.at 1 rfl).t
          have HCI := Lib.hid (show Calls Tryd.prog 12 #[.agg #[.int .i64 9, .slice none 0 0, .slice (some ⟨gX5, 0, none⟩) 9 d5], .int .i64 8, .int .i64 10] wk38 (fun e w' => e = .returned (.bool true) ∧ Below wk38.heap.size wk38 w') from HCK.out nestP wf_nest 8 10 c_nest none (some ⟨gX5, 0, none⟩) 0 d5 wk38 HE39.out.b (HE39.out.at 1 rfl).bs (HE39.out.at 1 rfl).os)
          go_wp2_with fail
          go_at_call 12
          refine (HCI.out).mono ?_
          rintro e wk40 ⟨rfl, hb⟩
          clear HCI a0 a1 a2
          have HE41 := Lib.hid (HE39.out.below hb)
          clear hb HE39
          go_wp2_with fail
          go_at_call 9
          refine (HOP.out _ _ _ _ _ _ _ _).mono ?_
          rintro e wo42 ⟨rfl, hb⟩
          have hc43 : Below wk40.heap.size wk40 wo42 := hb
          clear hb
          have hbl : Below wk40.heap.size wk40 (wo42.alloc (.cells #[.int .i64 16, .int .i64 1, .int .i64 (-1), .int .i64 (-1), .int .i64 (-1), .int .i64 (-1), .int .i64 0, .int .u64 2] 33)) := bel_al' hc43 _
          have HWI := Lib.hid (HW.out oM3 (some ⟨wo42.heap.size, 0, none⟩) 1 1 4 (wo42.alloc (.cells #[.int .i64 16, .int .i64 1, .int .i64 (-1), .int .i64 (-1), .int .i64 (-1), .int .i64 (-1), .int .i64 0, .int .u64 2] 33)) (bk_rdr (xs := oM3) (t := 33) (Bk.new _ _ _) (by rw [World.size_alloc]; omega)) (by omega) rfl)
          clear hc43
          go_wp2_with fail
          go_at_call 8
          refine (HWI.out).mono ?_
          rintro e ww44 ⟨hb, A23, c23, X23, d23, rfl, hA, hX⟩
          have hbw : Below wk40.heap.size wk40 ww44 := bel_tr hbl hb
          clear hb hbl HWI
          have HE45 := Lib.hid (HE41.out.below hbw)
          clear hbw HE41
          have HCI := Lib.hid (show Calls Tryd.prog 12 #[.agg #[.int .i64 2, .slice A23 1 c23, .slice X23 4 d23], .int .i64 4, .int .i64 9] ww44 (fun e w' => e = .returned (.bool true) ∧ Below ww44.heap.size ww44 w') from HCK.out (wP oM3) wf_m3 4 9 c_m3 A23 X23 c23 d23 ww44 HE45.out.b hA hX)
          clear hA hX
          go_wp2_with fail
          go_at_call 12
          refine (HCI.out).mono ?_
          rintro e wk46 ⟨rfl, hb⟩
          clear HCI
          have HE47 := Lib.hid (HE45.out.below hb)
          clear hb HE45
          go_wp2_with fail
          go_at_call 9
          refine (HOP.out _ _ _ _ _ _ _ _).mono ?_
          rintro e wo48 ⟨rfl, hb⟩
          have hc49 : Below wk46.heap.size wk46 wo48 := hb
          clear hb
          have hbl : Below wk46.heap.size wk46 (wo48.alloc (.cells #[.int .i64 1, .int .i64 1, .int .i64 (-1), .int .i64 0, .int .i64 (-1), .int .i64 (-1), .int .i64 0, .int .u64 2] 33)) := bel_al' hc49 _
          have HWI := Lib.hid (HW.out oM4 (some ⟨wo48.heap.size, 0, none⟩) 1 1 4 (wo48.alloc (.cells #[.int .i64 1, .int .i64 1, .int .i64 (-1), .int .i64 0, .int .i64 (-1), .int .i64 (-1), .int .i64 0, .int .u64 2] 33)) (bk_rdr (xs := oM4) (t := 33) (Bk.new _ _ _) (by rw [World.size_alloc]; omega)) (by omega) rfl)
          clear hc49
          go_wp2_with fail
          go_at_call 8
          refine (HWI.out).mono ?_
          rintro e ww50 ⟨hb, A24, c24, X24, d24, rfl, hA, hX⟩
          have hbw : Below wk46.heap.size wk46 ww50 := bel_tr hbl hb
          clear hb hbl HWI
          have HE51 := Lib.hid (HE47.out.below hbw)
          clear hbw HE47
          have HCI := Lib.hid (show Calls Tryd.prog 12 #[.agg #[.int .i64 2, .slice A24 1 c24, .slice X24 4 d24], .int .i64 3, .int .i64 2] ww50 (fun e w' => e = .returned (.bool true) ∧ Below ww50.heap.size ww50 w') from HCK.out (wP oM4) wf_m4 3 2 c_m4 A24 X24 c24 d24 ww50 HE51.out.b hA hX)
          clear hA hX
          go_wp2_with fail
          go_at_call 12
          refine (HCI.out).mono ?_
          rintro e wk52 ⟨rfl, hb⟩
          clear HCI
          have HE53 := Lib.hid (HE51.out.below hb)
          clear hb HE51
          go_wp2_with fail
          go_at_call 9
          refine (HOP.out _ _ _ _ _ _ _ _).mono ?_
          rintro e wo54 ⟨rfl, hb⟩
          have hc55 : Below wk52.heap.size wk52 wo54 := hb
          clear hb
          have hbl : Below wk52.heap.size wk52 (wo54.alloc (.cells #[.int .i64 14, .int .i64 1, .int .i64 (-1), .int .i64 (-1), .int .i64 (-1), .int .i64 (-1), .int .i64 0, .int .u64 2] 33)) := bel_al' hc55 _
          have HWI := Lib.hid (HW.out oM5 (some ⟨wo54.heap.size, 0, none⟩) 1 1 4 (wo54.alloc (.cells #[.int .i64 14, .int .i64 1, .int .i64 (-1), .int .i64 (-1), .int .i64 (-1), .int .i64 (-1), .int .i64 0, .int .u64 2] 33)) (bk_rdr (xs := oM5) (t := 33) (Bk.new _ _ _) (by rw [World.size_alloc]; omega)) (by omega) rfl)
          clear hc55
          go_wp2_with fail
          go_at_call 8
          refine (HWI.out).mono ?_
          rintro e ww56 ⟨hb, A25, c25, X25, d25, rfl, hA, hX⟩
          have hbw : Below wk52.heap.size wk52 ww56 := bel_tr hbl hb
          clear hb hbl HWI
          have HE57 := Lib.hid (HE53.out.below hbw)
          clear hbw HE53
          have HCI := Lib.hid (show Calls Tryd.prog 12 #[.agg #[.int .i64 2, .slice A25 1 c25, .slice X25 4 d25], .int .i64 3, .int .i64 2] ww56 (fun e w' => e = .returned (.bool true) ∧ Below ww56.heap.size ww56 w') from HCK.out (wP oM5) wf_m5 3 2 c_m5 A25 X25 c25 d25 ww56 HE57.out.b hA hX)
          clear hA hX
          go_wp2_with fail
          go_at_call 12
          refine (HCI.out).mono ?_
          rintro e wk58 ⟨rfl, hb⟩
          clear HCI
          have HE59 := Lib.hid (HE57.out.below hb)
          clear hb HE57
          clear HCK
          go_wp2_with fail
          go_at_call 9
          refine (HOP.out _ _ _ _ _ _ _ _).mono ?_
          rintro e wo60 ⟨rfl, hb⟩
          have hc61 : Below wk58.heap.size wk58 wo60 := hb
          clear hb
          go_wp2_with fail
          go_at_call 9
          refine (HOP.out _ _ _ _ _ _ _ _).mono ?_
          rintro e wo62 ⟨rfl, hb⟩
          have hc63 : Below wk58.heap.size wk58 wo62 := bel_tr hc61 hb
          clear hb hc61
          go_wp2_with fail
          go_at_call 9
          refine (HOP.out _ _ _ _ _ _ _ _).mono ?_
          rintro e wo64 ⟨rfl, hb⟩
          have hc65 : Below wk58.heap.size wk58 wo64 := bel_tr hc63 hb
          clear hb hc63
          go_wp2_with fail
          go_at_call 9
          refine (HOP.out _ _ _ _ _ _ _ _).mono ?_
          rintro e wo66 ⟨rfl, hb⟩
          have hc67 : Below wk58.heap.size wk58 wo66 := bel_tr hc65 hb
          clear hb hc65
          go_wp2_with fail
          go_at_call 9
          refine (HOP.out _ _ _ _ _ _ _ _).mono ?_
          rintro e wo68 ⟨rfl, hb⟩
          have hc69 : Below wk58.heap.size wk58 wo68 := bel_tr hc67 hb
          clear hb hc67
          have hbl : Below wk58.heap.size wk58 (wo68.alloc (.cells #[.int .i64 1, .int .i64 0, .int .i64 (-1), .int .i64 (-1), .int .i64 (-1), .int .i64 (-1), .int .i64 0, .int .u64 18446744073709551615, .int .i64 1, .int .i64 1, .int .i64 (-1), .int .i64 (-1), .int .i64 (-1), .int .i64 (-1), .int .i64 0, .int .u64 1, .int .i64 11, .int .i64 0, .int .i64 1, .int .i64 0, .int .i64 1, .int .i64 1, .int .i64 0, .int .u64 0, .int .i64 15, .int .i64 (-1), .int .i64 (-1), .int .i64 1, .int .i64 0, .int .i64 (-1), .int .i64 0, .int .u64 18446744073709551615, .int .i64 15, .int .i64 (-1), .int .i64 (-1), .int .i64 (-1), .int .i64 1, .int .i64 (-1), .int .i64 0, .int .u64 1] 33)) := bel_al' hc69 _
          have HWI := Lib.hid (HW.out oP (some ⟨wo68.heap.size, 0, none⟩) 5 5 8 (wo68.alloc (.cells #[.int .i64 1, .int .i64 0, .int .i64 (-1), .int .i64 (-1), .int .i64 (-1), .int .i64 (-1), .int .i64 0, .int .u64 18446744073709551615, .int .i64 1, .int .i64 1, .int .i64 (-1), .int .i64 (-1), .int .i64 (-1), .int .i64 (-1), .int .i64 0, .int .u64 1, .int .i64 11, .int .i64 0, .int .i64 1, .int .i64 0, .int .i64 1, .int .i64 1, .int .i64 0, .int .u64 0, .int .i64 15, .int .i64 (-1), .int .i64 (-1), .int .i64 1, .int .i64 0, .int .i64 (-1), .int .i64 0, .int .u64 18446744073709551615, .int .i64 15, .int .i64 (-1), .int .i64 (-1), .int .i64 (-1), .int .i64 1, .int .i64 (-1), .int .i64 0, .int .u64 1] 33)) (bk_rdr (xs := oP) (t := 33) (Bk.new _ _ _) (by rw [World.size_alloc]; omega)) (by omega) rfl)
          clear hc69
          go_wp2_with fail
          go_at_call 8
          refine (HWI.out).mono ?_
          rintro e ww70 ⟨hb, A6, c6, X6, d6, rfl, hA, hX⟩
          have hbw : Below wk58.heap.size wk58 ww70 := bel_tr hbl hb
          clear hb hbl HWI
          go_upto_region 22 with fail
          have HN : Hid (Env w (ww70.alloc (.cells #[.int .i64 2, .slice A6 1 c6, .slice X6 8 d6] 26)) (⟨ww70.heap.size, wP oP, A6, c6, X6, d6⟩ :: [⟨g7, deepP, none, 0, X7, d7⟩, ⟨g5, nestP, none, 0, some ⟨gX5, 0, none⟩, d5⟩, ⟨g4, wP oOwn, A4, c4, X4, d4⟩, ⟨g3, wP oMade, A3, c3, X3, d3⟩, ⟨g2, inP, some ⟨gA2, 0, none⟩, c2, some ⟨gX2, 0, none⟩, d2⟩, ⟨g1, bigP, some ⟨gA1, 0, none⟩, c1, some ⟨gX1, 0, none⟩, d1⟩])) := Lib.hid (HE59.out.box hbw (wP oP) A6 c6 X6 d6 hA hX)
          obtain ⟨Wb72, hW⟩ : ∃ W, W = ww70.alloc (.cells #[.int .i64 2, .slice A6 1 c6, .slice X6 8 d6] 26) := ⟨_, rfl⟩
          have hbb : Below wk58.heap.size wk58 Wb72 := by rw [hW]; exact bel_al' hbw _
          rw [← hW] at HN
          rw [← hW]
          obtain ⟨g6, hg⟩ : ∃ g, ww70.heap.size = g := ⟨_, rfl⟩
          rw [hg] at HN ⊢
          have HE71 := HN
          clear hW hg HN hA hX HE59
          clear hbw hbb
          obtain ⟨a0, a1, a2⟩ : Wb72.cell? ⟨g6, 0, none⟩ = some (.int .i64 2) ∧ Wb72.cell? ⟨g6, 1, none⟩ = some (.slice A6 1 c6) ∧ Wb72.cell? ⟨g6, 2, none⟩ = some (.slice X6 8 d6) := (HE71.out.at 0 rfl).t
          have H7 := Lib.hid (lit_u Wb72 [0, 0] Wb72.heap.size rfl (by intro x hx; simp only [List.mem_cons, List.not_mem_nil, or_false, or_self] at hx; subst hx; unfold Wd.W; decide) (by decide))
          have HRI := Lib.hid (fun (o o' : Obj) (hh : HrW ((Wb72.alloc o).alloc o') (Wb72.heap.size + 2) (some ⟨Wb72.heap.size + 1, 0, none⟩) 1 [⟨some ⟨Wb72.heap.size, 0, none⟩, 2, 2, [0, 0]⟩]) => (show Calls Tryd.prog 13 #[.agg #[.int .i64 2, .slice A6 1 c6, .slice X6 8 d6], .slice (some ⟨Wb72.heap.size + 1, 0, none⟩) 1 1] ((Wb72.alloc o).alloc o') (fun e w' => RunA (wP oP) [[0, 0]] ((Wb72.alloc o).alloc o').heap.size e w' ∧ Below ((Wb72.alloc o).alloc o').heap.size ((Wb72.alloc o).alloc o') w') from HRUN.out (wP oP) wf_p A6 X6 (some ⟨Wb72.heap.size + 1, 0, none⟩) c6 d6 1 1 _ ((Wb72.alloc o).alloc o') (bel_tr HE71.out.b (bel_al' (bel_al o) o')) (((HE71.out.at 0 rfl).bs.below (bel_al' (bel_al o) o')).more (bel_al' (bel_al o) o').size) (((HE71.out.at 0 rfl).os.below (bel_al' (bel_al o) o')).more (bel_al' (bel_al o) o').size) (hh.more (by simp)) (by decide)))
          go_wp2_with fail
          go_at_call 13
          refine (HRI.out _ _ H7.out).mono ?_
          rintro e wr73 ⟨⟨vo, vl, r, rfl, hr, ho, hv⟩, hb0⟩
          have hb : Below Wb72.heap.size Wb72 wr73 := bel_tr (bel_al' (bel_al _) _) hb0
          clear HRI H7 a0 a1 a2 hb0
          obtain rfl := r_p hr
          obtain ⟨Ao, co, hso, rfl, hoh, hoy, hoc⟩ := ho.hr (by intro y hy; simp only [List.mem_cons, List.not_mem_nil, or_false] at hy; subst hy; decide)
          obtain ⟨Av, cv, rfl, hcv⟩ := rws_form hv
          have HO0 := Lib.hid hoh
          have HV0 := Lib.hid (rws_rd hv).2.1
          have HOY := Lib.hid hoy
          clear hr ho hv hoh hoy hoc hcv
          dsimp only [List.length_cons, List.length_nil] at HO0 HV0
          have HE74 := Lib.hid (HE71.out.below hb)
          clear hb HE71
          go_wp2_with fail
          go_at_call 9
          refine (HOP.out _ _ _ _ _ _ _ _).mono ?_
          rintro e wo75 ⟨rfl, hb⟩
          have hc76 : Below wr73.heap.size wr73 wo75 := hb
          clear hb
          go_wp2_with fail
          go_at_call 9
          refine (HOP.out _ _ _ _ _ _ _ _).mono ?_
          rintro e wo77 ⟨rfl, hb⟩
          have hc78 : Below wr73.heap.size wr73 wo77 := bel_tr hc76 hb
          clear hb hc76
          have hbl : Below wr73.heap.size wr73 (wo77.alloc (.cells #[.int .i64 1, .int .i64 0, .int .i64 (-1), .int .i64 (-1), .int .i64 (-1), .int .i64 (-1), .int .i64 0, .int .u64 2, .int .i64 14, .int .i64 1, .int .i64 (-1), .int .i64 0, .int .i64 (-1), .int .i64 (-1), .int .i64 0, .int .u64 0] 33)) := bel_al' hc78 _
          have HWI := Lib.hid (HW.out oQ (some ⟨wo77.heap.size, 0, none⟩) 2 2 5 (wo77.alloc (.cells #[.int .i64 1, .int .i64 0, .int .i64 (-1), .int .i64 (-1), .int .i64 (-1), .int .i64 (-1), .int .i64 0, .int .u64 2, .int .i64 14, .int .i64 1, .int .i64 (-1), .int .i64 0, .int .i64 (-1), .int .i64 (-1), .int .i64 0, .int .u64 0] 33)) (bk_rdr (xs := oQ) (t := 33) (Bk.new _ _ _) (by rw [World.size_alloc]; omega)) (by omega) rfl)
          clear hc78
          go_wp2_with fail
          go_at_call 8
          refine (HWI.out).mono ?_
          rintro e ww79 ⟨hb, A8, c8, X8, d8, rfl, hA, hX⟩
          have hbw : Below wr73.heap.size wr73 ww79 := bel_tr hbl hb
          clear hb hbl HWI
          go_upto_region 24 with fail
          have HN : Hid (Env w (ww79.alloc (.cells #[.int .i64 2, .slice A8 1 c8, .slice X8 5 d8] 26)) (⟨ww79.heap.size, wP oQ, A8, c8, X8, d8⟩ :: [⟨g6, wP oP, A6, c6, X6, d6⟩, ⟨g7, deepP, none, 0, X7, d7⟩, ⟨g5, nestP, none, 0, some ⟨gX5, 0, none⟩, d5⟩, ⟨g4, wP oOwn, A4, c4, X4, d4⟩, ⟨g3, wP oMade, A3, c3, X3, d3⟩, ⟨g2, inP, some ⟨gA2, 0, none⟩, c2, some ⟨gX2, 0, none⟩, d2⟩, ⟨g1, bigP, some ⟨gA1, 0, none⟩, c1, some ⟨gX1, 0, none⟩, d1⟩])) := Lib.hid (HE74.out.box hbw (wP oQ) A8 c8 X8 d8 hA hX)
          obtain ⟨Wb81, hW⟩ : ∃ W, W = ww79.alloc (.cells #[.int .i64 2, .slice A8 1 c8, .slice X8 5 d8] 26) := ⟨_, rfl⟩
          have hbb : Below wr73.heap.size wr73 Wb81 := by rw [hW]; exact bel_al' hbw _
          rw [← hW] at HN
          rw [← hW]
          obtain ⟨g8, hg⟩ : ∃ g, ww79.heap.size = g := ⟨_, rfl⟩
          rw [hg] at HN ⊢
          have HE80 := HN
          clear hW hg HN hA hX HE74
          have HO82 := Lib.hid ((HO0.out.below hbb).more hbb.size)
          clear HO0
          have HV83 := Lib.hid ((HV0.out.below hbb).more hbb.size)
          clear HV0
          clear hbw hbb
          obtain ⟨a0, a1, a2⟩ : Wb81.cell? ⟨g8, 0, none⟩ = some (.int .i64 2) ∧ Wb81.cell? ⟨g8, 1, none⟩ = some (.slice A8 1 c8) ∧ Wb81.cell? ⟨g8, 2, none⟩ = some (.slice X8 5 d8) := (HE80.out.at 0 rfl).t
          have H7 := Lib.hid (lit_u Wb81 [0, 0] Wb81.heap.size rfl (by intro x hx; simp only [List.mem_cons, List.not_mem_nil, or_false, or_self] at hx; subst hx; unfold Wd.W; decide) (by decide))
          have HRI := Lib.hid (fun (o o' : Obj) (hh : HrW ((Wb81.alloc o).alloc o') (Wb81.heap.size + 2) (some ⟨Wb81.heap.size + 1, 0, none⟩) 1 [⟨some ⟨Wb81.heap.size, 0, none⟩, 2, 2, [0, 0]⟩]) => (show Calls Tryd.prog 13 #[.agg #[.int .i64 2, .slice A8 1 c8, .slice X8 5 d8], .slice (some ⟨Wb81.heap.size + 1, 0, none⟩) 1 1] ((Wb81.alloc o).alloc o') (fun e w' => RunA (wP oQ) [[0, 0]] ((Wb81.alloc o).alloc o').heap.size e w' ∧ Below ((Wb81.alloc o).alloc o').heap.size ((Wb81.alloc o).alloc o') w') from HRUN.out (wP oQ) wf_q A8 X8 (some ⟨Wb81.heap.size + 1, 0, none⟩) c8 d8 1 1 _ ((Wb81.alloc o).alloc o') (bel_tr HE80.out.b (bel_al' (bel_al o) o')) (((HE80.out.at 0 rfl).bs.below (bel_al' (bel_al o) o')).more (bel_al' (bel_al o) o').size) (((HE80.out.at 0 rfl).os.below (bel_al' (bel_al o) o')).more (bel_al' (bel_al o) o').size) (hh.more (by simp)) (by decide)))
          go_wp2_with fail
          go_at_call 13
          refine (HRI.out _ _ H7.out).mono ?_
          rintro e wr84 ⟨⟨vo, vl, r, rfl, hr, ho, hv⟩, hb0⟩
          have hb : Below Wb81.heap.size Wb81 wr84 := bel_tr (bel_al' (bel_al _) _) hb0
          clear HRI H7 a0 a1 a2 hb0
          obtain ⟨h11, h5, h0⟩ := r_q hr
          obtain ⟨ro, re, rr⟩ := r
          dsimp only at h11 h5 h0 hv ho ⊢
          subst h11
          subst h0
          obtain ⟨Av2, cv2, rfl, hcv⟩ := rws_form hv
          rw [h5]
          clear hr ho hv hcv h5
          have HE85 := Lib.hid (HE80.out.below hb)
          have HO86 := Lib.hid ((HO82.out.below hb).more hb.size)
          clear HO82
          have HV87 := Lib.hid ((HV83.out.below hb).more hb.size)
          clear HV83
          clear hb HE80
          obtain ⟨a0, a1, a2⟩ : wr84.cell? ⟨g8, 0, none⟩ = some (.int .i64 2) ∧ wr84.cell? ⟨g8, 1, none⟩ = some (.slice A8 1 c8) ∧ wr84.cell? ⟨g8, 2, none⟩ = some (.slice X8 5 d8) := (HE85.out.at 0 rfl).t
          have H7 := Lib.hid (lit_u wr84 [0] wr84.heap.size rfl (by intro x hx; simp only [List.mem_cons, List.not_mem_nil, or_false, or_self] at hx; subst hx; unfold Wd.W; decide) (by decide))
          have HRI := Lib.hid (fun (o o' : Obj) (hh : HrW ((wr84.alloc o).alloc o') (wr84.heap.size + 2) (some ⟨wr84.heap.size + 1, 0, none⟩) 1 [⟨some ⟨wr84.heap.size, 0, none⟩, 1, 1, [0]⟩]) => (show Calls Tryd.prog 13 #[.agg #[.int .i64 2, .slice A8 1 c8, .slice X8 5 d8], .slice (some ⟨wr84.heap.size + 1, 0, none⟩) 1 1] ((wr84.alloc o).alloc o') (fun e w' => RunA (wP oQ) [[0]] ((wr84.alloc o).alloc o').heap.size e w' ∧ Below ((wr84.alloc o).alloc o').heap.size ((wr84.alloc o).alloc o') w') from HRUN.out (wP oQ) wf_q A8 X8 (some ⟨wr84.heap.size + 1, 0, none⟩) c8 d8 1 1 _ ((wr84.alloc o).alloc o') (bel_tr HE85.out.b (bel_al' (bel_al o) o')) (((HE85.out.at 0 rfl).bs.below (bel_al' (bel_al o) o')).more (bel_al' (bel_al o) o').size) (((HE85.out.at 0 rfl).os.below (bel_al' (bel_al o) o')).more (bel_al' (bel_al o) o').size) (hh.more (by simp)) (by decide)))
          go_wp2_with fail
          go_at_call 13
          refine (HRI.out _ _ H7.out).mono ?_
          rintro e wr88 ⟨⟨vo, vl, r, rfl, hr, ho, hv⟩, hb0⟩
          have hb : Below wr84.heap.size wr84 wr88 := bel_tr (bel_al' (bel_al _) _) hb0
          clear HRI H7 a0 a1 a2 hb0
          obtain rfl := r_q1 hr
          clear hr ho hv
          have HE89 := Lib.hid (HE85.out.below hb)
          have HO90 := Lib.hid ((HO86.out.below hb).more hb.size)
          clear HO86
          have HV91 := Lib.hid ((HV87.out.below hb).more hb.size)
          clear HV87
          clear hb HE85
          obtain ⟨a0, a1, a2⟩ : wr88.cell? ⟨g7, 0, none⟩ = some (.int .i64 9) ∧ wr88.cell? ⟨g7, 1, none⟩ = some (.slice none 0 0) ∧ wr88.cell? ⟨g7, 2, none⟩ = some (.slice X7 16 d7) := (HE89.out.at 2 rfl).t
          have HRI := Lib.hid (show Calls Tryd.prog 13 #[.agg #[.int .i64 9, .slice none 0 0, .slice X7 16 d7], .slice none 0 0] wr88 (fun e w' => RunA deepP (hrYs []) wr88.heap.size e w' ∧ Below wr88.heap.size wr88 w') from HRUN.out deepP wf_deep none X7 none 0 d7 0 0 [] wr88 HE89.out.b (HE89.out.at 2 rfl).bs (HE89.out.at 2 rfl).os ⟨Rdr.nil, fun x hx => by cases hx⟩ (by decide))
          go_wp2_with fail
          go_at_call 13
          refine (HRI.out).mono ?_
          rintro e wr92 ⟨⟨vo, vl, r, rfl, hr, ho, hv⟩, hb⟩
          clear HRI a0 a1 a2
          obtain rfl := r_deep hr
          clear hr ho hv HRUN
          have HE93 := Lib.hid (HE89.out.below hb)
          have HO94 := Lib.hid ((HO90.out.below hb).more hb.size)
          clear HO90
          have HV95 := Lib.hid ((HV91.out.below hb).more hb.size)
          clear HV91
          clear hb HE89
          obtain ⟨eb, eo, rfl, _, _, _⟩ := ev_at HV95.out (show ([(0, -1), (1, 0), (0, -1), (1, 1), (3, -1), (4, -1), (5, -1), (6, 0), (7, 1)] : List Ev)[7]? = some (7 - 1, 0) from rfl)
          have HF0 : Hid (Fx w wr92 [⟨g8, wP oQ, A8, c8, X8, d8⟩, ⟨g6, wP oP, A6, c6, X6, d6⟩, ⟨g7, deepP, none, 0, X7, d7⟩, ⟨g5, nestP, none, 0, some ⟨gX5, 0, none⟩, d5⟩, ⟨g4, wP oOwn, A4, c4, X4, d4⟩, ⟨g3, wP oMade, A3, c3, X3, d3⟩, ⟨g2, inP, some ⟨gA2, 0, none⟩, c2, some ⟨gX2, 0, none⟩, d2⟩, ⟨g1, bigP, some ⟨gA1, 0, none⟩, c1, some ⟨gX1, 0, none⟩, d1⟩] Ao hso (some ⟨eb, eo, none⟩)) := Lib.hid ⟨HE93.out, HO94.out, HV95.out⟩
          have HFD : Hid (Fx w wr92.drew [⟨g8, wP oQ, A8, c8, X8, d8⟩, ⟨g6, wP oP, A6, c6, X6, d6⟩, ⟨g7, deepP, none, 0, X7, d7⟩, ⟨g5, nestP, none, 0, some ⟨gX5, 0, none⟩, d5⟩, ⟨g4, wP oOwn, A4, c4, X4, d4⟩, ⟨g3, wP oMade, A3, c3, X3, d3⟩, ⟨g2, inP, some ⟨gA2, 0, none⟩, c2, some ⟨gX2, 0, none⟩, d2⟩, ⟨g1, bigP, some ⟨gA1, 0, none⟩, c1, some ⟨gX1, 0, none⟩, d1⟩] Ao hso (some ⟨eb, eo, none⟩)) := Lib.hid (HF0.out.below (below_drewN (Below.refl _ _) 1))
          have HTT := Lib.hid (fun (w' : World) (h : Fx w w' [⟨g8, wP oQ, A8, c8, X8, d8⟩, ⟨g6, wP oP, A6, c6, X6, d6⟩, ⟨g7, deepP, none, 0, X7, d7⟩, ⟨g5, nestP, none, 0, some ⟨gX5, 0, none⟩, d5⟩, ⟨g4, wP oOwn, A4, c4, X4, d4⟩, ⟨g3, wP oMade, A3, c3, X3, d3⟩, ⟨g2, inP, some ⟨gA2, 0, none⟩, c2, some ⟨gX2, 0, none⟩, d2⟩, ⟨g1, bigP, some ⟨gA1, 0, none⟩, c1, some ⟨gX1, 0, none⟩, d1⟩] Ao hso (some ⟨eb, eo, none⟩)) => (show w'.cell? ⟨g7, 0, none⟩ = some (.int .i64 9) ∧ w'.cell? ⟨g7, 1, none⟩ = some (.slice none 0 0) ∧ w'.cell? ⟨g7, 2, none⟩ = some (.slice X7 16 d7) ∧ w'.cell? ⟨g6, 0, none⟩ = some (.int .i64 2) ∧ w'.cell? ⟨g6, 1, none⟩ = some (.slice A6 1 c6) ∧ w'.cell? ⟨g6, 2, none⟩ = some (.slice X6 8 d6) ∧ w'.cell? ⟨g8, 0, none⟩ = some (.int .i64 2) ∧ w'.cell? ⟨g8, 1, none⟩ = some (.slice A8 1 c8) ∧ w'.cell? ⟨g8, 2, none⟩ = some (.slice X8 5 d8) ∧ w'.cell? ⟨eb, eo + 15, none⟩ = some (.int .i64 0) ∧ Fx w w' [⟨g8, wP oQ, A8, c8, X8, d8⟩, ⟨g6, wP oP, A6, c6, X6, d6⟩, ⟨g7, deepP, none, 0, X7, d7⟩, ⟨g5, nestP, none, 0, some ⟨gX5, 0, none⟩, d5⟩, ⟨g4, wP oOwn, A4, c4, X4, d4⟩, ⟨g3, wP oMade, A3, c3, X3, d3⟩, ⟨g2, inP, some ⟨gA2, 0, none⟩, c2, some ⟨gX2, 0, none⟩, d2⟩, ⟨g1, bigP, some ⟨gA1, 0, none⟩, c1, some ⟨gX1, 0, none⟩, d1⟩] Ao hso (some ⟨eb, eo, none⟩) from ⟨(h.e.at 2 rfl).t.1, (h.e.at 2 rfl).t.2.1, (h.e.at 2 rfl).t.2.2, (h.e.at 1 rfl).t.1, (h.e.at 1 rfl).t.2.1, (h.e.at 1 rfl).t.2.2, (h.e.at 0 rfl).t.1, (h.e.at 0 rfl).t.2.1, (h.e.at 0 rfl).t.2.2, by
            obtain ⟨_, _, e0, _, _, x1⟩ := ev_at h.v (show ([(0, -1), (1, 0), (0, -1), (1, 1), (3, -1), (4, -1), (5, -1), (6, 0), (7, 1)] : List Ev)[7]? = some (7 - 1, 0) from rfl)
            cases e0
            exact x1, h⟩))
          have hu1 : ∀ x ∈ ([1, 1] : List Int), Wd.W x := by intro x hx; simp only [List.mem_cons, List.not_mem_nil, or_false, or_self] at hx; subst hx; unfold Wd.W; decide
          have H11 := Lib.hid (lit_u wr92 [1, 1] wr92.heap.size rfl hu1 (by decide))
          have KR := Lib.hid (fun (Y : Option Addr) (g : Nat) (W : World) (hF : Fx w W [⟨g8, wP oQ, A8, c8, X8, d8⟩, ⟨g6, wP oP, A6, c6, X6, d6⟩, ⟨g7, deepP, none, 0, X7, d7⟩, ⟨g5, nestP, none, 0, some ⟨gX5, 0, none⟩, d5⟩, ⟨g4, wP oOwn, A4, c4, X4, d4⟩, ⟨g3, wP oMade, A3, c3, X3, d3⟩, ⟨g2, inP, some ⟨gA2, 0, none⟩, c2, some ⟨gX2, 0, none⟩, d2⟩, ⟨g1, bigP, some ⟨gA1, 0, none⟩, c1, some ⟨gX1, 0, none⟩, d1⟩] Ao hso (some ⟨eb, eo, none⟩)) (hh : HrW W W.heap.size Y 1 [⟨some ⟨g, 0, none⟩, 2, 2, [1, 1]⟩]) => (show Calls Tryd.prog 14 #[.slice Ao 1 co, .slice Y 1 1] W (fun e w' => e = .returned (.bool true) ∧ Fx w w' [⟨g8, wP oQ, A8, c8, X8, d8⟩, ⟨g6, wP oP, A6, c6, X6, d6⟩, ⟨g7, deepP, none, 0, X7, d7⟩, ⟨g5, nestP, none, 0, some ⟨gX5, 0, none⟩, d5⟩, ⟨g4, wP oOwn, A4, c4, X4, d4⟩, ⟨g3, wP oMade, A3, c3, X3, d3⟩, ⟨g2, inP, some ⟨gA2, 0, none⟩, c2, some ⟨gX2, 0, none⟩, d2⟩, ⟨g1, bigP, some ⟨gA1, 0, none⟩, c1, some ⟨gX1, 0, none⟩, d1⟩] Ao hso (some ⟨eb, eo, none⟩)) from by
            have h := rows_u Ao Y 1 co 1 1 _ _ hso _ W hF.o hh (by decide) (by decide) (fun x hx => by
                have h1 : x.ys ∈ hrYs hso := List.mem_map.2 ⟨x, hx, rfl⟩
                rw [HOY.out] at h1
                have h2 := (hF.o.each x hx).1.len
                obtain h3 := List.mem_singleton.1 h1
                rw [h3] at h2
                have h4 : x.n = 2 := h2.symm
                omega) (fun x hx => by
                obtain rfl := List.mem_singleton.1 hx
                show (2 : Nat) ≤ 1000000
                decide)
            rw [HOY.out] at h
            exact h.mono (fun e w' hh => ⟨hh.1.trans (by rw [decide_eq_true (by rfl)]), by obtain ⟨q, hq⟩ := hh.2; rw [hq]; exact hF.below (below_drewN (Below.refl _ _) _)⟩)))
          have KS1 := Lib.hid (fun (W : World) (hF : Fx w W [⟨g8, wP oQ, A8, c8, X8, d8⟩, ⟨g6, wP oP, A6, c6, X6, d6⟩, ⟨g7, deepP, none, 0, X7, d7⟩, ⟨g5, nestP, none, 0, some ⟨gX5, 0, none⟩, d5⟩, ⟨g4, wP oOwn, A4, c4, X4, d4⟩, ⟨g3, wP oMade, A3, c3, X3, d3⟩, ⟨g2, inP, some ⟨gA2, 0, none⟩, c2, some ⟨gX2, 0, none⟩, d2⟩, ⟨g1, bigP, some ⟨gA1, 0, none⟩, c1, some ⟨gX1, 0, none⟩, d1⟩] Ao hso (some ⟨eb, eo, none⟩)) => (show Calls Tryd.prog 15 #[.agg #[.int .i64 9, .slice none 0 0, .slice X7 16 d7]] W (fun e w' => e = .returned (.int .i64 1125899906842624) ∧ Fx w w' [⟨g8, wP oQ, A8, c8, X8, d8⟩, ⟨g6, wP oP, A6, c6, X6, d6⟩, ⟨g7, deepP, none, 0, X7, d7⟩, ⟨g5, nestP, none, 0, some ⟨gX5, 0, none⟩, d5⟩, ⟨g4, wP oOwn, A4, c4, X4, d4⟩, ⟨g3, wP oMade, A3, c3, X3, d3⟩, ⟨g2, inP, some ⟨gA2, 0, none⟩, c2, some ⟨gX2, 0, none⟩, d2⟩, ⟨g1, bigP, some ⟨gA1, 0, none⟩, c1, some ⟨gX1, 0, none⟩, d1⟩] Ao hso (some ⟨eb, eo, none⟩)) from by
            have h := HSTP.out deepP wf_deep none X7 0 d7 W hF.e.b (hF.e.at 2 rfl).bs (hF.e.at 2 rfl).os
            rw [s_deep] at h
            exact h.mono (fun e w' hh => ⟨hh.1, hF.below hh.2⟩)))
          have KX := Lib.hid (fun (W : World) (hF : Fx w W [⟨g8, wP oQ, A8, c8, X8, d8⟩, ⟨g6, wP oP, A6, c6, X6, d6⟩, ⟨g7, deepP, none, 0, X7, d7⟩, ⟨g5, nestP, none, 0, some ⟨gX5, 0, none⟩, d5⟩, ⟨g4, wP oOwn, A4, c4, X4, d4⟩, ⟨g3, wP oMade, A3, c3, X3, d3⟩, ⟨g2, inP, some ⟨gA2, 0, none⟩, c2, some ⟨gX2, 0, none⟩, d2⟩, ⟨g1, bigP, some ⟨gA1, 0, none⟩, c1, some ⟨gX1, 0, none⟩, d1⟩] Ao hso (some ⟨eb, eo, none⟩)) => (show Calls Tryd.prog 7 #[] W (fun r w' => (∃ gA c gX d, r = .returned (.agg #[.int .i64 2, .slice (some ⟨gA, 0, none⟩) 1 c, .slice (some ⟨gX, 0, none⟩) 3 d]) ∧ Rdr w' w'.heap.size (some ⟨gA, 0, none⟩) 1 [exB] ∧ Rdr w' w'.heap.size (some ⟨gX, 0, none⟩) 3 [exO1, exO2, endO]) ∧ Fx w w' [⟨g8, wP oQ, A8, c8, X8, d8⟩, ⟨g6, wP oP, A6, c6, X6, d6⟩, ⟨g7, deepP, none, 0, X7, d7⟩, ⟨g5, nestP, none, 0, some ⟨gX5, 0, none⟩, d5⟩, ⟨g4, wP oOwn, A4, c4, X4, d4⟩, ⟨g3, wP oMade, A3, c3, X3, d3⟩, ⟨g2, inP, some ⟨gA2, 0, none⟩, c2, some ⟨gX2, 0, none⟩, d2⟩, ⟨g1, bigP, some ⟨gA1, 0, none⟩, c1, some ⟨gX1, 0, none⟩, d1⟩] Ao hso (some ⟨eb, eo, none⟩) ∧ Below W.heap.size W w') from (HEX.out W).mono (fun r w' h => by
            obtain ⟨⟨gA, c, gX, d, h1, hA, hX⟩, hb⟩ := h
            exact ⟨⟨gA, c, gX, d, h1, (rws_rd (xs := [exB]) hA).2.1, (rws_rd (xs := [exO1, exO2, endO]) hX).2.1⟩, hF.below hb, hb⟩)))
          have KS2 := Lib.hid (fun (gA c gX d : Nat) (W : World) (hF : Fx w W [⟨g8, wP oQ, A8, c8, X8, d8⟩, ⟨g6, wP oP, A6, c6, X6, d6⟩, ⟨g7, deepP, none, 0, X7, d7⟩, ⟨g5, nestP, none, 0, some ⟨gX5, 0, none⟩, d5⟩, ⟨g4, wP oOwn, A4, c4, X4, d4⟩, ⟨g3, wP oMade, A3, c3, X3, d3⟩, ⟨g2, inP, some ⟨gA2, 0, none⟩, c2, some ⟨gX2, 0, none⟩, d2⟩, ⟨g1, bigP, some ⟨gA1, 0, none⟩, c1, some ⟨gX1, 0, none⟩, d1⟩] Ao hso (some ⟨eb, eo, none⟩)) (hA : Rdr W W.heap.size (some ⟨gA, 0, none⟩) 1 [exB]) (hX : Rdr W W.heap.size (some ⟨gX, 0, none⟩) 3 [exO1, exO2, endO]) => (show Calls Tryd.prog 15 #[.agg #[.int .i64 2, .slice (some ⟨gA, 0, none⟩) 1 c, .slice (some ⟨gX, 0, none⟩) 3 d]] W (fun e w' => e = .returned (.int .i64 4) ∧ Fx w w' [⟨g8, wP oQ, A8, c8, X8, d8⟩, ⟨g6, wP oP, A6, c6, X6, d6⟩, ⟨g7, deepP, none, 0, X7, d7⟩, ⟨g5, nestP, none, 0, some ⟨gX5, 0, none⟩, d5⟩, ⟨g4, wP oOwn, A4, c4, X4, d4⟩, ⟨g3, wP oMade, A3, c3, X3, d3⟩, ⟨g2, inP, some ⟨gA2, 0, none⟩, c2, some ⟨gX2, 0, none⟩, d2⟩, ⟨g1, bigP, some ⟨gA1, 0, none⟩, c1, some ⟨gX1, 0, none⟩, d1⟩] Ao hso (some ⟨eb, eo, none⟩)) from by
            have h := HSTP.out exP exP_wf (some ⟨gA, 0, none⟩) (some ⟨gX, 0, none⟩) c d W hF.e.b hA hX
            rw [s_ex] at h
            exact h.mono (fun e w' hh => ⟨hh.1, hF.below hh.2⟩)))
          have KE := Lib.hid (fun (gA c gX d : Nat) (W : World) (hF : Fx w W [⟨g8, wP oQ, A8, c8, X8, d8⟩, ⟨g6, wP oP, A6, c6, X6, d6⟩, ⟨g7, deepP, none, 0, X7, d7⟩, ⟨g5, nestP, none, 0, some ⟨gX5, 0, none⟩, d5⟩, ⟨g4, wP oOwn, A4, c4, X4, d4⟩, ⟨g3, wP oMade, A3, c3, X3, d3⟩, ⟨g2, inP, some ⟨gA2, 0, none⟩, c2, some ⟨gX2, 0, none⟩, d2⟩, ⟨g1, bigP, some ⟨gA1, 0, none⟩, c1, some ⟨gX1, 0, none⟩, d1⟩] Ao hso (some ⟨eb, eo, none⟩)) (hA : Rdr W W.heap.size (some ⟨gA, 0, none⟩) 1 [exB]) (hX : Rdr W W.heap.size (some ⟨gX, 0, none⟩) 3 [exO1, exO2, endO]) => (show Calls Tryd.prog 17 #[.agg #[.int .i64 2, .slice (some ⟨gA, 0, none⟩) 1 c, .slice (some ⟨gX, 0, none⟩) 3 d]] W (fun e w' => (∃ A c, e = .returned (.slice A 3 c) ∧ Rdr w' w'.heap.size A 3 [(2 : Int), -1, 0]) ∧ Fx w w' [⟨g8, wP oQ, A8, c8, X8, d8⟩, ⟨g6, wP oP, A6, c6, X6, d6⟩, ⟨g7, deepP, none, 0, X7, d7⟩, ⟨g5, nestP, none, 0, some ⟨gX5, 0, none⟩, d5⟩, ⟨g4, wP oOwn, A4, c4, X4, d4⟩, ⟨g3, wP oMade, A3, c3, X3, d3⟩, ⟨g2, inP, some ⟨gA2, 0, none⟩, c2, some ⟨gX2, 0, none⟩, d2⟩, ⟨g1, bigP, some ⟨gA1, 0, none⟩, c1, some ⟨gX1, 0, none⟩, d1⟩] Ao hso (some ⟨eb, eo, none⟩) ∧ Below W.heap.size W w') from by
            have h := HENS.out exP exP_wf (some ⟨gA, 0, none⟩) (some ⟨gX, 0, none⟩) c d W hF.e.b hA hX
            rw [n_ex] at h
            exact h.mono (fun e w' hh => by
              obtain ⟨⟨v, h1, hv⟩, hb⟩ := hh
              obtain ⟨A, c, rfl, _⟩ := rws_form hv
              exact ⟨⟨A, c, h1, (rws_rd hv).2.1⟩, hF.below hb, hb⟩)))
          have KI := Lib.hid (fun (A B : Option Addr) (c : Nat) (W : World) (hF : Fx w W [⟨g8, wP oQ, A8, c8, X8, d8⟩, ⟨g6, wP oP, A6, c6, X6, d6⟩, ⟨g7, deepP, none, 0, X7, d7⟩, ⟨g5, nestP, none, 0, some ⟨gX5, 0, none⟩, d5⟩, ⟨g4, wP oOwn, A4, c4, X4, d4⟩, ⟨g3, wP oMade, A3, c3, X3, d3⟩, ⟨g2, inP, some ⟨gA2, 0, none⟩, c2, some ⟨gX2, 0, none⟩, d2⟩, ⟨g1, bigP, some ⟨gA1, 0, none⟩, c1, some ⟨gX1, 0, none⟩, d1⟩] Ao hso (some ⟨eb, eo, none⟩)) (hA : Rdr W W.heap.size A 3 [(2 : Int), -1, 0]) (hB : Rdr W W.heap.size B 3 [(2 : Int), -1, 0]) => (show Calls Tryd.prog 16 #[.slice A 3 c, .slice B 3 3] W (fun e w' => e = .returned (.bool true) ∧ Fx w w' [⟨g8, wP oQ, A8, c8, X8, d8⟩, ⟨g6, wP oP, A6, c6, X6, d6⟩, ⟨g7, deepP, none, 0, X7, d7⟩, ⟨g5, nestP, none, 0, some ⟨gX5, 0, none⟩, d5⟩, ⟨g4, wP oOwn, A4, c4, X4, d4⟩, ⟨g3, wP oMade, A3, c3, X3, d3⟩, ⟨g2, inP, some ⟨gA2, 0, none⟩, c2, some ⟨gX2, 0, none⟩, d2⟩, ⟨g1, bigP, some ⟨gA1, 0, none⟩, c1, some ⟨gX1, 0, none⟩, d1⟩] Ao hso (some ⟨eb, eo, none⟩)) from by
            have h := same_i A B 3 c 3 3 _ _ [2, -1, 0] [2, -1, 0] W hA hB (by omega) (by omega)
            rw [decide_eq_true rfl] at h
            exact h.mono (fun e w' hh => ⟨hh.1, by obtain ⟨q, hq⟩ := hh.2; rw [hq]; exact hF.below (below_drewN (Below.refl _ _) _)⟩)))
          have KC := Lib.hid (fun (W : World) (hF : Fx w W [⟨g8, wP oQ, A8, c8, X8, d8⟩, ⟨g6, wP oP, A6, c6, X6, d6⟩, ⟨g7, deepP, none, 0, X7, d7⟩, ⟨g5, nestP, none, 0, some ⟨gX5, 0, none⟩, d5⟩, ⟨g4, wP oOwn, A4, c4, X4, d4⟩, ⟨g3, wP oMade, A3, c3, X3, d3⟩, ⟨g2, inP, some ⟨gA2, 0, none⟩, c2, some ⟨gX2, 0, none⟩, d2⟩, ⟨g1, bigP, some ⟨gA1, 0, none⟩, c1, some ⟨gX1, 0, none⟩, d1⟩] Ao hso (some ⟨eb, eo, none⟩)) => (show Calls Tryd.prog 19 #[.agg #[.int .i64 2, .slice A6 1 c6, .slice X6 8 d6]] W (fun e w' => Fx w w' [⟨g8, wP oQ, A8, c8, X8, d8⟩, ⟨g6, wP oP, A6, c6, X6, d6⟩, ⟨g7, deepP, none, 0, X7, d7⟩, ⟨g5, nestP, none, 0, some ⟨gX5, 0, none⟩, d5⟩, ⟨g4, wP oOwn, A4, c4, X4, d4⟩, ⟨g3, wP oMade, A3, c3, X3, d3⟩, ⟨g2, inP, some ⟨gA2, 0, none⟩, c2, some ⟨gX2, 0, none⟩, d2⟩, ⟨g1, bigP, some ⟨gA1, 0, none⟩, c1, some ⟨gX1, 0, none⟩, d1⟩] Ao hso (some ⟨eb, eo, none⟩) ∧ ∃ A c X d, e = .returned (.agg #[.int .i64 2, .slice A 1 c, .slice X 8 d]) ∧ Rdr w' w'.heap.size A 1 [exB] ∧ Rdr w' w'.heap.size X 8 (wP oP).op) from (copy_l (wP oP) A6 X6 c6 d6 W (hF.e.at 1 rfl).bs (hF.e.at 1 rfl).os (by decide) (by decide)).mono (fun e w' h => by
            obtain ⟨h1, A, c, X, d, h2, h3, h4⟩ := h
            exact ⟨hF.below h1, A, c, X, d, h2, (rws_rd h3).2.1, (rws_rd h4).2.1⟩)))
          have KP := Lib.hid (fun (A X : Option Addr) (c d : Nat) (W : World) (hF : Fx w W [⟨g8, wP oQ, A8, c8, X8, d8⟩, ⟨g6, wP oP, A6, c6, X6, d6⟩, ⟨g7, deepP, none, 0, X7, d7⟩, ⟨g5, nestP, none, 0, some ⟨gX5, 0, none⟩, d5⟩, ⟨g4, wP oOwn, A4, c4, X4, d4⟩, ⟨g3, wP oMade, A3, c3, X3, d3⟩, ⟨g2, inP, some ⟨gA2, 0, none⟩, c2, some ⟨gX2, 0, none⟩, d2⟩, ⟨g1, bigP, some ⟨gA1, 0, none⟩, c1, some ⟨gX1, 0, none⟩, d1⟩] Ao hso (some ⟨eb, eo, none⟩)) (hA : Rdr W W.heap.size A 1 [exB]) (hX : Rdr W W.heap.size X 8 (wP oP).op) => (show Calls Tryd.prog 18 #[.agg #[.int .i64 2, .slice A 1 c, .slice X 8 d], .agg #[.int .i64 2, .slice A6 1 c6, .slice X6 8 d6]] W (fun e w' => e = .returned (.bool true) ∧ Fx w w' [⟨g8, wP oQ, A8, c8, X8, d8⟩, ⟨g6, wP oP, A6, c6, X6, d6⟩, ⟨g7, deepP, none, 0, X7, d7⟩, ⟨g5, nestP, none, 0, some ⟨gX5, 0, none⟩, d5⟩, ⟨g4, wP oOwn, A4, c4, X4, d4⟩, ⟨g3, wP oMade, A3, c3, X3, d3⟩, ⟨g2, inP, some ⟨gA2, 0, none⟩, c2, some ⟨gX2, 0, none⟩, d2⟩, ⟨g1, bigP, some ⟨gA1, 0, none⟩, c1, some ⟨gX1, 0, none⟩, d1⟩] Ao hso (some ⟨eb, eo, none⟩)) from (psame_l (wP oP) (wP oP) A X A6 X6 c d c6 d6 W hA hX (hF.e.at 1 rfl).bs (hF.e.at 1 rfl).os ⟨by decide, by decide, by decide, by decide⟩).mono (fun e w' h => by
            obtain ⟨⟨r, rfl, hr⟩, hb⟩ := h
            rw [show r = true from by first | exact hr.2 rfl | exact hr.2 trivial]
            exact ⟨rfl, hF.below hb⟩)))
          have KQ := Lib.hid (fun (W : World) (hF : Fx w W [⟨g8, wP oQ, A8, c8, X8, d8⟩, ⟨g6, wP oP, A6, c6, X6, d6⟩, ⟨g7, deepP, none, 0, X7, d7⟩, ⟨g5, nestP, none, 0, some ⟨gX5, 0, none⟩, d5⟩, ⟨g4, wP oOwn, A4, c4, X4, d4⟩, ⟨g3, wP oMade, A3, c3, X3, d3⟩, ⟨g2, inP, some ⟨gA2, 0, none⟩, c2, some ⟨gX2, 0, none⟩, d2⟩, ⟨g1, bigP, some ⟨gA1, 0, none⟩, c1, some ⟨gX1, 0, none⟩, d1⟩] Ao hso (some ⟨eb, eo, none⟩)) => (show Calls Tryd.prog 18 #[.agg #[.int .i64 2, .slice A6 1 c6, .slice X6 8 d6], .agg #[.int .i64 2, .slice A8 1 c8, .slice X8 5 d8]] W (fun e w' => e = .returned (.bool false) ∧ Fx w w' [⟨g8, wP oQ, A8, c8, X8, d8⟩, ⟨g6, wP oP, A6, c6, X6, d6⟩, ⟨g7, deepP, none, 0, X7, d7⟩, ⟨g5, nestP, none, 0, some ⟨gX5, 0, none⟩, d5⟩, ⟨g4, wP oOwn, A4, c4, X4, d4⟩, ⟨g3, wP oMade, A3, c3, X3, d3⟩, ⟨g2, inP, some ⟨gA2, 0, none⟩, c2, some ⟨gX2, 0, none⟩, d2⟩, ⟨g1, bigP, some ⟨gA1, 0, none⟩, c1, some ⟨gX1, 0, none⟩, d1⟩] Ao hso (some ⟨eb, eo, none⟩)) from (psame_l (wP oP) (wP oQ) A6 X6 A8 X8 c6 d6 c8 d8 W (hF.e.at 1 rfl).bs (hF.e.at 1 rfl).os (hF.e.at 0 rfl).bs (hF.e.at 0 rfl).os ⟨by decide, by decide, by decide, by decide⟩).mono (fun e w' h => by
            obtain ⟨⟨r, rfl, hr⟩, hb⟩ := h
            have hne : ¬ (wP oP = wP oQ) := fun e => absurd (congrArg (fun p : Pg => p.op.length) e) (by decide)
            rw [show r = false from Bool.eq_false_iff.2 (fun e => hne (hr.1 e))]
            exact ⟨rfl, hF.below hb⟩)))
          clear HSTP HENS HEX HL HTK HOP HEND HW HE93 HO94 HV95 HOY hu1
          go_upto_region 27 with fail
          go_region_held3 (fun w' => w'.cell? ⟨g7, 0, none⟩ = some (.int .i64 9) ∧ w'.cell? ⟨g7, 1, none⟩ = some (.slice none 0 0) ∧ w'.cell? ⟨g7, 2, none⟩ = some (.slice X7 16 d7) ∧ w'.cell? ⟨g6, 0, none⟩ = some (.int .i64 2) ∧ w'.cell? ⟨g6, 1, none⟩ = some (.slice A6 1 c6) ∧ w'.cell? ⟨g6, 2, none⟩ = some (.slice X6 8 d6) ∧ w'.cell? ⟨g8, 0, none⟩ = some (.int .i64 2) ∧ w'.cell? ⟨g8, 1, none⟩ = some (.slice A8 1 c8) ∧ w'.cell? ⟨g8, 2, none⟩ = some (.slice X8 5 d8) ∧ w'.cell? ⟨eb, eo + 15, none⟩ = some (.int .i64 0) ∧ Fx w w' [⟨g8, wP oQ, A8, c8, X8, d8⟩, ⟨g6, wP oP, A6, c6, X6, d6⟩, ⟨g7, deepP, none, 0, X7, d7⟩, ⟨g5, nestP, none, 0, some ⟨gX5, 0, none⟩, d5⟩, ⟨g4, wP oOwn, A4, c4, X4, d4⟩, ⟨g3, wP oMade, A3, c3, X3, d3⟩, ⟨g2, inP, some ⟨gA2, 0, none⟩, c2, some ⟨gX2, 0, none⟩, d2⟩, ⟨g1, bigP, some ⟨gA1, 0, none⟩, c1, some ⟨gX1, 0, none⟩, d1⟩] Ao hso (some ⟨eb, eo, none⟩))
            (first | with_reducible exact HTT.out _ hFJ | with_reducible exact HTT.out _ hFI | with_reducible exact HTT.out _ hFH | with_reducible exact HTT.out _ hFG | with_reducible exact HTT.out _ hFF | with_reducible exact HTT.out _ (hFF.al _) | with_reducible exact HTT.out _ hFE | with_reducible exact HTT.out _ (hFE.al _) | with_reducible exact HTT.out _ hFD | with_reducible exact HTT.out _ (hFD.al _) | with_reducible exact HTT.out _ hFC | with_reducible exact HTT.out _ hFB | with_reducible exact HTT.out _ hFA | with_reducible exact HTT.out _ HFD.out | with_reducible exact HTT.out _ (HF0.out.al _).dr | with_reducible exact HTT.out _ ((HF0.out.al _).al _).dr | fail)
            (first
              | (have hq := hFI; clear hq; go_at_call 18; refine (KQ.out _ hFI).mono ?_; rintro e wJ ⟨rfl, hFJ⟩)
              | (have hq := hFH; clear hq; go_at_call 18; refine (KP.out _ _ _ _ _ hFH hpA hpX).mono ?_; rintro e wI ⟨rfl, hFI⟩)
              | (have hq := hFG; clear hq; go_at_call 19; refine (KC.out _ hFG).mono ?_; rintro e wH ⟨hFH, A93, c93, X93, d93, rfl, hpA, hpX⟩)
              | (have hq := hlit2; clear hq; go_at_call 16; refine (KI.out _ _ _ _ hFF hnR hlit2).mono ?_; rintro e wG ⟨rfl, hFG⟩)
              | (have hq := hFF; clear hq; go_at_call 16; refine (KI.out _ _ _ _ (hFF.al _) ((hnR.below (bel_al _)).more (bel_al _).size) (bk_rdr (xs := [(2 : Int), -1, 0]) (t := 3) (Bk.new _ _ _) (by rw [World.size_alloc]; omega))).mono ?_; rintro e wG ⟨rfl, hFG⟩)
              | (have hq := hlitE; clear hq; go_at_call 17; refine (KE.out _ _ _ _ _ hFE heA heX).mono ?_; rintro e wF ⟨⟨An, cn, rfl, hnR⟩, hFF, hbF⟩; have hlit2 := (hlitE.below hbF).more hbF.size)
              | (have hq := hFE; clear hq; go_at_call 17; refine (KE.out _ _ _ _ _ hFE heA heX).mono ?_; rintro e wF ⟨⟨An, cn, rfl, hnR⟩, hFF, hbF⟩)
              | (have hq := hFE; clear hq; go_at_call 17; have hbE := bel_al (w := wE) (.cells #[.int .i64 2, .int .i64 (-1), .int .i64 0] 3); refine (KE.out _ _ _ _ _ (hFE.al (.cells #[.int .i64 2, .int .i64 (-1), .int .i64 0] 3)) ((heA.below hbE).more hbE.size) ((heX.below hbE).more hbE.size)).mono ?_; rintro e wF ⟨⟨An, cn, rfl, hnR⟩, hFF, hbF⟩; have hlit2 := ((bk_rdr (xs := [(2 : Int), -1, 0]) (t := 3) (Bk.new wE _ _) (by rw [World.size_alloc]; omega) : Rdr (wE.alloc (.cells #[.int .i64 2, .int .i64 (-1), .int .i64 0] 3)) (wE.alloc (.cells #[.int .i64 2, .int .i64 (-1), .int .i64 0] 3)).heap.size (some ⟨wE.heap.size, 0, none⟩) 3 [(2 : Int), -1, 0]).below hbF).more hbF.size)
              | (have hq := hFD; clear hq; go_at_call 7; refine (KX.out _ hFD).mono ?_; rintro e wE ⟨⟨gA92, c92, gX92, d92, rfl, heA, heX⟩, hFE, hbE0⟩)
              | (have hq := hFD; clear hq; go_at_call 7; refine (KX.out _ (hFD.al (.cells #[.int .i64 2, .int .i64 (-1), .int .i64 0] 3))).mono ?_; rintro e wE ⟨⟨gA92, c92, gX92, d92, rfl, heA, heX⟩, hFE, hbE0⟩; have hlitE := ((bk_rdr (xs := [(2 : Int), -1, 0]) (t := 3) (Bk.new wD _ _) (by rw [World.size_alloc]; omega) : Rdr (wD.alloc (.cells #[.int .i64 2, .int .i64 (-1), .int .i64 0] 3)) (wD.alloc (.cells #[.int .i64 2, .int .i64 (-1), .int .i64 0] 3)).heap.size (some ⟨wD.heap.size, 0, none⟩) 3 [(2 : Int), -1, 0]).below hbE0).more hbE0.size)
              | (have hq := hFC; clear hq; go_at_call 15; refine (KS2.out _ _ _ _ _ hFC hcA hcX).mono ?_; rintro e wD ⟨rfl, hFD⟩)
              | (have hq := hFB; clear hq; go_at_call 7; refine (KX.out _ hFB).mono ?_; rintro e wC ⟨⟨gA91, c91, gX91, d91, rfl, hcA, hcX⟩, hFC, hbC0⟩)
              | (have hq := hFA; clear hq; go_at_call 15; refine (KS1.out _ hFA).mono ?_; rintro e wB ⟨rfl, hFB⟩)
              | (go_at_call 14; refine (KR.out _ _ _ ((HF0.out.al _).al _).dr ((H11.out.more (by simp)).below (below_drewN (Below.refl _ _) 1))).mono ?_; rintro e wA ⟨rfl, hFA⟩)
              | fail)
          all_goals (
            have HBF := Lib.hid hFJ.e.b
            clear hFA hFB hFC hFD hFE hFF hFG hFH hFI hFJ
            go_wp2_with fail
            go_ret
            exact ⟨rfl, HBF.out⟩)
end limbNames
end Go.Proofs.YtbdhibgljaelbaaDoor
