/- SecrecyNames: the chapter's example comes out as it tells. -/
import Derived.Test.YtjdpbelfagkaiaaDoorG2
import Derived.Test.YtjdpbelfagkaiaaDoorN3
import Derived.BigQuiet
namespace Go.Proofs.YtjdpbelfagkaiaaDoor
open Go Go.RowKit Go.Sort Go.Shelf
namespace secrecyNames
open Wd Nt Gr Lb
set_option linter.unusedVariables false
set_option linter.unusedSimpArgs false
/-- a program in a block, its rows its own; the rest is as it was -/
structure PgK (w W : World) (g : Nat) (p : Pg) (A : Option Addr) (c : Nat) (X : Option Addr) (d : Nat) : Prop where
  k : Bk W g 26 #[.int .i64 p.rg, .slice A p.bf.length c, .slice X p.op.length d]
  bs : Rdr W W.heap.size A p.bf.length p.bf
  os : Rdr W W.heap.size X p.op.length p.op
  b : Below w.heap.size w W
theorem PgK.below {w W W' : World} {g : Nat} {p : Pg} {A X : Option Addr} {c d : Nat} (h : PgK w W g p A c X d) (hb : Below W.heap.size W W') : PgK w W' g p A c X d :=
  ⟨h.k.below hb h.k.lt, (h.bs.below hb).more hb.size, (h.os.below hb).more hb.size, bel_tr h.b hb⟩
theorem _root_.Go.Proofs.YtjdpbelfagkaiaaDoor.Gr.Rdr.keep_ne {T : Type} [Sh T] {w : World} {B g n a i : Nat} {xs : List T} (h : Rdr w B (some ⟨g, 0, none⟩) n xs) (hne : g ≠ a) (u : Value) : Rdr (w.setCell ⟨a, i, none⟩ u) B (some ⟨g, 0, none⟩) n xs :=
  ⟨h.len, fun h0 => by
    obtain ⟨b, o, e, hb, hc⟩ := h.rd h0
    cases e
    refine ⟨g, 0, rfl, hb, fun j x hj d v hv => ?_⟩
    have h1 : (w.setCell ⟨a, i, none⟩ u).heap[g]? = w.heap[g]? := Below.heap_setCell w ⟨a, i, none⟩ u g (by show g ≠ a; exact hne)
    have h2 := hc j x hj d v hv
    unfold World.cell? at h2 ⊢
    rw [h1]
    exact h2⟩
/-- a row of operations, written out, put into a program -/
theorem PgK.lit {w W : World} {g gA c : Nat} {X0 : Option Addr} {m0 d0 : Nat} {xs : List Lb.Op} (hk : Bk W g 26 #[.int .i64 3, .slice (some ⟨gA, 0, none⟩) 2 c, .slice X0 m0 d0]) (hA : Rdr W W.heap.size (some ⟨gA, 0, none⟩) 2 sxB) (hA2 : ∃ cs, Bk W gA 29 cs) (hb : Below w.heap.size w W) (hg : w.heap.size ≤ g) (n : Nat) (hn : xs.length = n) (cs : Array Value) (hcs : cs = (row xs).toArray) :
    PgK w ((W.setCell ⟨g, 2, none⟩ (.slice (some ⟨W.heap.size, 0, none⟩) n n)).alloc (.cells cs 33)) g ⟨3, sxB, xs⟩ (some ⟨gA, 0, none⟩) c (some ⟨W.heap.size, 0, none⟩) n := by
  subst hcs hn
  obtain ⟨ca, hca⟩ := hA2
  have hne : gA ≠ g := bk_ne hca hk (by decide)
  have hx : Bk ((W.setCell ⟨g, 2, none⟩ (.slice (some ⟨W.heap.size, 0, none⟩) xs.length xs.length)).alloc (.cells (row xs).toArray 33)) W.heap.size 33 (row xs).toArray := Bk.new' (by rw [World.size_setCell])
  have hA' := (hA.keep_ne (i := 2) hne (.slice (some ⟨W.heap.size, 0, none⟩) xs.length xs.length))
  refine ⟨(hk.set_ 2 _).alloc _, ?_, bk_rdr hx (by rw [World.size_alloc, World.size_setCell]; omega), bel_al' (hb.setCell (p := ⟨g, 2, none⟩) hg _) _⟩
  have h3 : Rdr ((W.setCell ⟨g, 2, none⟩ (.slice (some ⟨W.heap.size, 0, none⟩) xs.length xs.length)).alloc (.cells (row xs).toArray 33)) W.heap.size (some ⟨gA, 0, none⟩) 2 sxB := by
    exact hA'.below ((bel_al (w := W.setCell ⟨g, 2, none⟩ (.slice (some ⟨W.heap.size, 0, none⟩) xs.length xs.length)) (.cells (row xs).toArray 33)).mono (by rw [World.size_setCell]; exact Nat.le_refl _))
  exact h3.more (by rw [World.size_alloc, World.size_setCell]; omega)
set_option maxRecDepth 100000 in
set_option maxHeartbeats 16000000 in
theorem walk_ (w : World) (hT : TabF w) : Calls Tryd.prog 8 #[] w fun e w' => e = .returned (.bool true) ∧ Below w.heap.size w w' := by
  have HL := Lib.hid (fun (W : World) (hb : Below w.heap.size w W) => slives_l W (hT.keep hb))
  have HTK := Lib.hid (fun (W : World) (hb : Below w.heap.size w W) => hT.keep hb)
  have HEX := Lib.hid (fun W => sexample_l W)
  have HOP := Lib.hid (fun k d a b bf im W => sop_l k d a b bf im W)
  unfold Op.vs at HOP
  dsimp only at HOP
  simp only [List.toArray] at HOP
  have HC1 := Lib.hid (fun (A X : Option Addr) (c d g : Nat) (W : World) (h : PgK w W g nP1 A c X d) => scheck_s nP1 nP1_wf A X c d W (HTK.out W h.b) h.bs h.os)
  have HC2 := Lib.hid (fun (A X : Option Addr) (c d g : Nat) (W : World) (h : PgK w W g nP2 A c X d) => scheck_s nP2 nP2_wf A X c d W (HTK.out W h.b) h.bs h.os)
  have HC4 := Lib.hid (fun (A X : Option Addr) (c d g : Nat) (W : World) (h : PgK w W g nP4 A c X d) => scheck_s nP4 nP4_wf A X c d W (HTK.out W h.b) h.bs h.os)
  unfold pgV at *
  simp only [show sxP.rg = 3 from rfl, show sxP.bf.length = 2 from rfl, show sxP.op.length = 2 from rfl] at HEX
  simp only [show nP1.rg = 3 from rfl, show nP1.bf.length = 2 from rfl, show nP1.op.length = 2 from rfl] at HC1
  simp only [show nP2.rg = 3 from rfl, show nP2.bf.length = 2 from rfl, show nP2.op.length = 4 from rfl] at HC2
  simp only [show nP4.rg = 3 from rfl, show nP4.bf.length = 2 from rfl, show nP4.op.length = 3 from rfl] at HC4
  clear hT
  go_enter Tryd.func8, Tryd.ntmps8
  go_wp2_with fail
  go_at_call 39
  refine (HL.out _ (Below.refl _ _)).mono ?_
  rintro e w1 ⟨rfl, hb⟩
  have HB1 := Lib.hid hb
  clear hb HL
  go_wp2_with fail
  go_at_call 40
  refine (HEX.out w1).mono ?_
  rintro e w2 ⟨⟨A, X, c, d, rfl, hA, hX⟩, hb⟩
  obtain ⟨gA, rfl, hgA, -, -, -⟩ := own_blk hA (by decide)
  obtain ⟨gX, rfl, hgX, hgX2, -, -⟩ := own_blk hX (by decide)
  have HB2 := Lib.hid (bel_tr HB1.out hb)
  have hs1 := HB1.out.size
  have HA2 := Lib.hid (own_mono (B' := w.heap.size) hA hs1)
  have HX2 := Lib.hid (own_mono (B' := w.heap.size) hX hs1)
  clear hb hA hX HB1 hgA hgX hs1
  go_upto_region 4 with fail
  have HK3 := Lib.hid (Bk.new w2 26 #[.int .i64 3, .slice (some ⟨gA, 0, none⟩) 2 c, .slice (some ⟨gX, 0, none⟩) 2 d])
  obtain ⟨W3, hW3⟩ : ∃ W3, W3 = w2.alloc (.cells #[.int .i64 3, .slice (some ⟨gA, 0, none⟩) 2 c, .slice (some ⟨gX, 0, none⟩) 2 d] 26) := ⟨_, rfl⟩
  have HB3 : Hid (Below w.heap.size w W3) := Lib.hid (by rw [hW3]; exact bel_al' HB2.out _)
  have HA3 := Lib.hid (own_below HA2.out (bel_al (.cells #[.int .i64 3, .slice (some ⟨gA, 0, none⟩) 2 c, .slice (some ⟨gX, 0, none⟩) 2 d] 26)))
  have HX3 := Lib.hid (own_below HX2.out (bel_al (.cells #[.int .i64 3, .slice (some ⟨gA, 0, none⟩) 2 c, .slice (some ⟨gX, 0, none⟩) 2 d] 26)))
  obtain ⟨g1, hg1⟩ : ∃ g1, w2.heap.size = g1 := ⟨_, rfl⟩
  rw [← hW3] at HA3 HX3 HK3
  rw [← hW3]
  rw [hg1] at HK3 ⊢
  rw [hg1] at hgX2
  clear hW3 hg1 HB2 HA2 HX2
  obtain ⟨a0, a1, a2⟩ := c3 HK3.out
  go_cut [] from 17 to 20 (fun W => Hid (PgK w W g1 nP1 (some ⟨gA, 0, none⟩) c (some ⟨gX, 0, none⟩) d))
  case first =>
    have hg1W := HK3.out.lt
    have KEY : Hid (∀ w8, w8 = W3.drew.alloc (.cells { toList := [.int .i64 15, .int .i64 (-1), .int .i64 (-1), .int .i64 (-1), .int .i64 0, .int .i64 (-1), .int .i64 1, .int .u64 0] } 33) →
        (w8.cell? ⟨g1, 2, none⟩ = some (.slice (some ⟨gX, 0, none⟩) 2 d) ∧ w8.cell? ⟨gX, 8, none⟩ = some (.int .i64 14) ∧ w8.cell? ⟨gX, 9, none⟩ = some (.int .i64 1) ∧ w8.cell? ⟨gX, 10, none⟩ = some (.int .i64 (-1)) ∧ w8.cell? ⟨gX, 11, none⟩ = some (.int .i64 0) ∧ w8.cell? ⟨gX, 12, none⟩ = some (.int .i64 (-1)) ∧ w8.cell? ⟨gX, 13, none⟩ = some (.int .i64 (-1)) ∧ w8.cell? ⟨gX, 14, none⟩ = some (.int .i64 0) ∧ w8.cell? ⟨gX, 15, none⟩ = some (.int .u64 0)) ∧
        (∀ i, w8.frozen? ⟨gX, i, none⟩ = false) ∧
        PgK w ((((((((w8.setCell ⟨gX, 8, none⟩ (.int .i64 15)).setCell ⟨gX, 9, none⟩ (.int .i64 (-1))).setCell ⟨gX, 10, none⟩ (.int .i64 (-1))).setCell ⟨gX, 11, none⟩ (.int .i64 (-1))).setCell ⟨gX, 12, none⟩ (.int .i64 0)).setCell ⟨gX, 13, none⟩ (.int .i64 (-1))).setCell ⟨gX, 14, none⟩ (.int .i64 1)).setCell ⟨gX, 15, none⟩ (.int .u64 0)) g1 nP1 (some ⟨gA, 0, none⟩) c (some ⟨gX, 0, none⟩) d) := Lib.hid (fun w8 h8 => by
      have hb : Below W3.heap.size W3 w8 := by rw [h8]; exact bel_al' (x := W3.drew) (below_drewN (Below.refl _ _) 1) _
      have hX8 := own_below HX3.out hb
      have hA8 := own_below HA3.out hb
      have hK8 := HK3.out.below hb HK3.out.lt
      obtain ⟨_, _, e0, _, t0, t1, t2, t3, t4, t5, t6, t7⟩ := op_at (rws_rd (T := Lb.Op) hX8).2.1 (show sxP.op[1]? = some sxO2 from rfl)
      cases e0
      have hput := own_put8 (j := 1) (y := nO 15 (-1) (-1) 0 1 0) hX8 rfl (show sxP.op[1]? = some sxO2 from rfl)
      have hlo := (ownLt hX8).1
      obtain ⟨cs, hcx⟩ := ownBlk hX8
      have hne1 : g1 ≠ gX := bk_ne hK8 hcx (by decide)
      have kp : ∀ {W : World} {i : Nat} {u : Value}, Bk W g1 26 #[.int .i64 3, .slice (some ⟨gA, 0, none⟩) 2 c, .slice (some ⟨gX, 0, none⟩) 2 d] → Bk (W.setCell ⟨gX, i, none⟩ u) g1 26 #[.int .i64 3, .slice (some ⟨gA, 0, none⟩) 2 c, .slice (some ⟨gX, 0, none⟩) 2 d] := fun h => h.far (p := ⟨gX, _, none⟩) hne1 _
      obtain ⟨ca, hca⟩ := ownBlk hA8
      have hne2 : gA ≠ gX := bk_ne hca hcx (by decide)
      have ka : ∀ {W : World} {i : Nat} {u : Value}, W.ownsRow w.heap.size 29 (Sh.k Bf) (.slice (some ⟨gA, 0, none⟩) 2 c) 2 (row sxP.bf) → (W.setCell ⟨gX, i, none⟩ u).ownsRow w.heap.size 29 (Sh.k Bf) (.slice (some ⟨gA, 0, none⟩) 2 c) 2 (row sxP.bf) := fun h => h.kept (row := some gX) (only_setCell _ _ _ _) (.inr (by simp [Value.ownBlock]; exact hne2))
      have kb : ∀ {W : World} {i : Nat} {u : Value}, Below w.heap.size w W → Below w.heap.size w (W.setCell ⟨gX, i, none⟩ u) := fun h => h.setCell (p := ⟨gX, _, none⟩) hlo _
      refine ⟨⟨hK8.cell 2, t0, t1, t2, t3, t4, t5, t6, t7⟩, fun i => World.ownsRow.frozenAt hX8 i, ⟨kp (kp (kp (kp (kp (kp (kp (kp hK8))))))), ?_, ?_, kb (kb (kb (kb (kb (kb (kb (kb (bel_tr HB3.out hb)))))))) ⟩⟩
      · exact (rws_rd (T := Bf) (xs := sxB) (ka (ka (ka (ka (ka (ka (ka (ka hA8)))))))) ).2.1
      · exact (rws_rd (T := Lb.Op) hput).2.1)
    clear HC1 HC2 HC4 HEX HTK
    go_region_law (first | ((try go_simp); go_at_call 41; refine (HOP.out _ _ _ _ _ _ _).mono ?_; rintro e w8 ⟨rfl, h8⟩; obtain ⟨⟨y0, y1, y2, y3, y4, y5, y6, y7, y8⟩, yf, HPK⟩ := KEY.out w8 h8; clear h8; have f8 := yf 8; have f9 := yf 9; have f10 := yf 10; have f11 := yf 11; have f12 := yf 12; have f13 := yf 13; have f14 := yf 14; have f15 := yf 15; clear yf) | fail)
    all_goals (
      go_wp2_with fail
      go_meet
      case rel => exact Lib.hid HPK)
  case rest =>
    have HP1 := hcut
    clear hcut a0 a1 a2
    obtain ⟨a0, a1, a2⟩ : wc.cell? ⟨g1, 0, none⟩ = some (.int .i64 3) ∧ wc.cell? ⟨g1, 1, none⟩ = some (.slice (some ⟨gA, 0, none⟩) 2 c) ∧ wc.cell? ⟨g1, 2, none⟩ = some (.slice (some ⟨gX, 0, none⟩) 2 d) := c3 HP1.out.k
    go_wp2_with fail
    go_at_call 42
    refine (HC1.out _ _ _ _ _ _ HP1.out).mono ?_
    rintro e w5 ⟨⟨r, rfl, hr⟩, hb⟩
    obtain rfl := n1_is hr
    have HB5 := Lib.hid (bel_tr HP1.out.b hb)
    clear hb hr HP1 a0 a1 a2 HC1 HB3 HA3 HX3 HK3
    go_wp2_with fail
    go_at_call 40
    refine (HEX.out w5).mono ?_
    rintro e w6 ⟨⟨A4, X4, c4, d4, rfl, hA4, hX4⟩, hb6⟩
    obtain ⟨gA4, rfl, hgA4, -, -, -⟩ := own_blk hA4 (by decide)
    have HB6 := Lib.hid (bel_tr HB5.out hb6)
    have hs5 := HB5.out.size
    have hs56 := hb6.size
    have HA6 := Lib.hid hA4
    clear hb6 hA4 hX4 HB5 hgA4
    go_upto_region 7 with fail
    have HK7 := Lib.hid (Bk.new w6 26 #[.int .i64 3, .slice (some ⟨gA4, 0, none⟩) 2 c4, .slice X4 2 d4])
    obtain ⟨W7, hW7⟩ : ∃ W7, W7 = w6.alloc (.cells #[.int .i64 3, .slice (some ⟨gA4, 0, none⟩) 2 c4, .slice X4 2 d4] 26) := ⟨_, rfl⟩
    have HB7 : Hid (Below w.heap.size w W7) := Lib.hid (by rw [hW7]; exact bel_al' HB6.out _)
    have HA7 := Lib.hid (own_below HA6.out (bel_al (.cells #[.int .i64 3, .slice (some ⟨gA4, 0, none⟩) 2 c4, .slice X4 2 d4] 26)))
    obtain ⟨g4, hg4⟩ : ∃ g4, w6.heap.size = g4 := ⟨_, rfl⟩
    rw [← hW7] at HA7 HK7
    rw [← hW7]
    have HG4 : Hid (w.heap.size ≤ g4) := Lib.hid (by omega)
    rw [hg4] at HK7 ⊢
    clear hW7 hg4 HB6 HA6 hs5 hs56
    go_wp2_with fail
    go_at_call 41
    refine (HOP.out _ _ _ _ _ _ _).mono ?_
    rintro e w8 ⟨rfl, h8⟩
    have hb8 : Below W7.heap.size W7 w8 := by rw [h8]; exact bel_al _
    clear h8
    go_wp2_with fail
    go_at_call 41
    refine (HOP.out _ _ _ _ _ _ _).mono ?_
    rintro e w9 ⟨rfl, h9⟩
    have hb9 : Below W7.heap.size W7 w9 := by rw [h9]; exact bel_al' hb8 _
    clear h9 hb8
    go_wp2_with fail
    go_at_call 41
    refine (HOP.out _ _ _ _ _ _ _).mono ?_
    rintro e w10 ⟨rfl, h10⟩
    have hb10 : Below W7.heap.size W7 w10 := by rw [h10]; exact bel_al' hb9 _
    clear h10 hb9
    go_wp2_with fail
    go_at_call 41
    refine (HOP.out _ _ _ _ _ _ _).mono ?_
    rintro e w11 ⟨rfl, h11⟩
    have hb11 : Below W7.heap.size W7 w11 := by rw [h11]; exact bel_al' hb10 _
    clear h11 hb10
    have HK11 := Lib.hid (HK7.out.below hb11 HK7.out.lt)
    have HA11 := Lib.hid (own_below HA7.out hb11)
    have HB11 := Lib.hid (bel_tr HB7.out hb11)
    clear hb11 HK7 HA7 HB7
    obtain ⟨a0, a1, a2⟩ := c3 HK11.out
    have f2 := HK11.out.frozen 2
    have hgw := HK11.out.lt
    go_upto_region 8 with fail
    have HLT := Lib.hid (PgK.lit (xs := nP2.op) HK11.out (rws_rd (T := Bf) (xs := sxB) HA11.out).2.1 (ownBlk HA11.out) HB11.out HG4.out 4 rfl _ rfl)
    obtain ⟨W12, hW12⟩ : ∃ W12, W12 = (w11.setCell ⟨g4, 2, none⟩ (.slice (some ⟨w11.heap.size, 0, none⟩) 4 4)).alloc (.cells #[.int .i64 1, .int .i64 1, .int .i64 (-1), .int .i64 (-1), .int .i64 (-1), .int .i64 (-1), .int .i64 0, .int .u64 1, .int .i64 14, .int .i64 0, .int .i64 (-1), .int .i64 1, .int .i64 (-1), .int .i64 (-1), .int .i64 1, .int .u64 0, .int .i64 14, .int .i64 2, .int .i64 (-1), .int .i64 0, .int .i64 (-1), .int .i64 (-1), .int .i64 0, .int .u64 0, .int .i64 3, .int .i64 0, .int .i64 (-1), .int .i64 0, .int .i64 1, .int .i64 (-1), .int .i64 0, .int .u64 0] 33) := ⟨_, rfl⟩
    have HQ12 : Hid (PgK w W12 g4 nP2 (some ⟨gA4, 0, none⟩) c4 (some ⟨w11.heap.size, 0, none⟩) 4) := Lib.hid (by rw [hW12]; exact HLT.out)
    rw [← hW12]
    obtain ⟨gX4, hgX4⟩ : ∃ g, w11.heap.size = g := ⟨_, rfl⟩
    rw [hgX4] at HQ12 ⊢
    clear hW12 hgX4 HLT HK11 HA11 HB11 HG4 a0 a1 a2 f2 hgw
    obtain ⟨a0, a1, a2⟩ : W12.cell? ⟨g4, 0, none⟩ = some (.int .i64 3) ∧ W12.cell? ⟨g4, 1, none⟩ = some (.slice (some ⟨gA4, 0, none⟩) 2 c4) ∧ W12.cell? ⟨g4, 2, none⟩ = some (.slice (some ⟨gX4, 0, none⟩) 4 4) := c3 HQ12.out.k
    go_wp2_with fail
    go_at_call 42
    refine (HC2.out _ _ _ _ _ _ HQ12.out).mono ?_
    rintro e w13 ⟨⟨r, rfl, hr⟩, hb⟩
    obtain rfl := n2_is hr
    have HQ13 := Lib.hid (HQ12.out.below hb)
    have HBw13 := Lib.hid (bel_tr HQ12.out.b hb)
    clear hb hr HQ12 a0 a1 a2 HC2
    go_wp2_with fail
    go_at_call 40
    refine (HEX.out w13).mono ?_
    rintro e wx7 ⟨⟨A7, X7, c7, d7, rfl, hA7, hX7⟩, hbx7⟩
    obtain ⟨gA7, rfl, hgA7, -, -, -⟩ := own_blk hA7 (by decide)
    obtain ⟨gX7, rfl, hgX7, -, -, -⟩ := own_blk hX7 (by decide)
    have HBx7 := Lib.hid (bel_tr HBw13.out hbx7)
    have hsp7 := HBw13.out.size
    have hsq7 := hbx7.size
    have HAx7 := Lib.hid hA7
    have HXx7 := Lib.hid hX7
    have HBBx7 := Lib.hid hbx7
    clear hbx7 hA7 hX7 HBw13 hgA7 hgX7
    go_upto_region 10 with fail
    have HK7 := Lib.hid (Bk.new wx7 26 #[.int .i64 3, .slice (some ⟨gA7, 0, none⟩) 2 c7, .slice (some ⟨gX7, 0, none⟩) 2 d7])
    obtain ⟨W7, hW7⟩ : ∃ W, W = wx7.alloc (.cells #[.int .i64 3, .slice (some ⟨gA7, 0, none⟩) 2 c7, .slice (some ⟨gX7, 0, none⟩) 2 d7] 26) := ⟨_, rfl⟩
    have HB7 : Hid (Below w.heap.size w W7) := Lib.hid (by rw [hW7]; exact bel_al' HBx7.out _)
    have HA7 := Lib.hid (own_below HAx7.out (bel_al (.cells #[.int .i64 3, .slice (some ⟨gA7, 0, none⟩) 2 c7, .slice (some ⟨gX7, 0, none⟩) 2 d7] 26)))
    have HX7 := Lib.hid (own_below HXx7.out (bel_al (.cells #[.int .i64 3, .slice (some ⟨gA7, 0, none⟩) 2 c7, .slice (some ⟨gX7, 0, none⟩) 2 d7] 26)))
    have HBB7 : Hid (Below w13.heap.size w13 W7) := Lib.hid (by rw [hW7]; exact bel_al' HBBx7.out _)
    obtain ⟨g7, hg7⟩ : ∃ g, wx7.heap.size = g := ⟨_, rfl⟩
    rw [← hW7] at HA7 HX7 HK7
    rw [← hW7]
    have HG7 : Hid (w13.heap.size ≤ g7 ∧ w.heap.size ≤ w13.heap.size) := Lib.hid ⟨by omega, by omega⟩
    rw [hg7] at HK7 ⊢
    clear hW7 hg7 HBx7 HAx7 HXx7 hsp7 hsq7 HBBx7
    have KEY7 : Hid (∀ w22, Below W7.heap.size W7 w22 → ∃ A9 c9 w9, (Builtin.append_ #[24, 24] 24 #[.slice (some ⟨gX7, 0, none⟩) 1 d7, .slice (some ⟨w22.heap.size, 0, none⟩) 2 2]).run Tryd.prog (w22.alloc (.cells #[.int .i64 2, .int .i64 1, .int .i64 (-1), .int .i64 0, .int .i64 (-1), .int .i64 (-1), .int .i64 0, .int .u64 0, .int .i64 1, .int .i64 0, .int .i64 (-1), .int .i64 (-1), .int .i64 (-1), .int .i64 (-1), .int .i64 0, .int .u64 0] 33)) = .ok (.slice A9 3 c9) w9 ∧
        w9.cell? ⟨g7, 2, none⟩ = some (.slice (some ⟨gX7, 0, none⟩) 2 d7) ∧ w9.frozen? ⟨g7, 2, none⟩ = false ∧ w22.cell? ⟨g7, 2, none⟩ = some (.slice (some ⟨gX7, 0, none⟩) 2 d7) ∧ g7 < w22.heap.size ∧
        PgK w (w9.setCell ⟨g7, 2, none⟩ (.slice A9 3 c9)) g7 nP3 (some ⟨gA7, 0, none⟩) c7 A9 c9 ∧ Below w13.heap.size w13 (w9.setCell ⟨g7, 2, none⟩ (.slice A9 3 c9))) := Lib.hid (fun w22 hb22 => by
      obtain ⟨i, hi, hz, q2, q3⟩ := info_parts info_lop
      have hG := HG7.out
      have hG1 := hG.1
      have hG2 := hG.2
      have hb23 : Below W7.heap.size W7 (w22.alloc (.cells #[.int .i64 2, .int .i64 1, .int .i64 (-1), .int .i64 0, .int .i64 (-1), .int .i64 (-1), .int .i64 0, .int .u64 0, .int .i64 1, .int .i64 0, .int .i64 (-1), .int .i64 (-1), .int .i64 (-1), .int .i64 (-1), .int .i64 0, .int .u64 0] 33)) := bel_al' hb22 _
      have hsz := HBB7.out.size
      have hsz2 := hb22.size
      have hlit : Bk (w22.alloc (.cells #[.int .i64 2, .int .i64 1, .int .i64 (-1), .int .i64 0, .int .i64 (-1), .int .i64 (-1), .int .i64 0, .int .u64 0, .int .i64 1, .int .i64 0, .int .i64 (-1), .int .i64 (-1), .int .i64 (-1), .int .i64 (-1), .int .i64 0, .int .u64 0] 33)) w22.heap.size 33 (row [nO 2 1 0 (-1) 0 0, nO 1 0 (-1) (-1) 0 0]).toArray := Bk.new _ _ _
      have hrd := bk_rdr (B := w22.heap.size + 1) hlit (by omega)
      have hown : Rws 33 w13.heap.size (.slice (some ⟨gX7, 0, none⟩) 1 d7) [sxO1] (w22.alloc (.cells #[.int .i64 2, .int .i64 1, .int .i64 (-1), .int .i64 0, .int .i64 (-1), .int .i64 (-1), .int .i64 0, .int .u64 0, .int .i64 1, .int .i64 0, .int .i64 (-1), .int .i64 (-1), .int .i64 (-1), .int .i64 (-1), .int .i64 0, .int .u64 0] 33)) := own_init (T := Lb.Op) (m := 1) (xs := sxP.op) (own_below HX7.out hb23) rfl
      obtain ⟨v9, w9, hap, h9, hgr9, _⟩ := app_run (c := 2) 24 33 24 i _ 64 Tryd.underlying24 hi hz q2 q3 rfl (by omega) hown hrd (by simp) (by simp) (by simp only [World.size_alloc]; omega)
      obtain ⟨A9, c9, rfl, hc9⟩ := rws_form h9
      have hk9 := own_other hown (HK7.out.below hb23 HK7.out.lt) (show (33 : TypeId) ≠ 26 by decide) hgr9
      have ha9 := own_own (own_below HA7.out hb23) hown (show (29 : TypeId) ≠ 33 by decide) hgr9
      have hbb := own_grown (C := w13.heap.size) hown hgr9 (bel_tr HBB7.out hb23) (Nat.le_refl _) (by simp only [World.size_alloc]; omega)
      have hb9 := own_grown (C := w.heap.size) (own_mono (B' := w.heap.size) hown hG.2) hgr9 (bel_tr HB7.out hb23) (Nat.le_refl _) (by simp only [World.size_alloc]; omega)
      refine ⟨A9, c9, w9, hap, hk9.cell 2, hk9.frozen 2, (HK7.out.below hb22 HK7.out.lt).cell 2, (HK7.out.below hb22 HK7.out.lt).lt, ⟨hk9.set_ 2 _, ?_, ?_, hb9.setCell (p := ⟨g7, 2, none⟩) (Nat.le_trans hG2 hG1) _⟩, hbb.setCell (p := ⟨g7, 2, none⟩) hG.1 _⟩
      · exact (rws_rd (T := Bf) (xs := sxB) (own_far (i := 2) (u := .slice A9 3 c9) ha9 hk9 (show (29 : TypeId) ≠ 26 by decide))).2.1
      · exact (rws_rd (T := Lb.Op) (own_far (i := 2) (u := .slice A9 3 c9) h9 hk9 (show (33 : TypeId) ≠ 26 by decide))).2.1)
    obtain ⟨a0, a1, a2⟩ := c3 HK7.out
    have hd7 : (1 : Int) ≤ (d7 : Int) := by have := (rws_form (T := Lb.Op) HX7.out).choose_spec.choose_spec; have := (rws_rd (T := Lb.Op) HX7.out).2.2.1; omega
    have hg7W := HK7.out.lt
    go_wp2_with fail
    go_cut [] from 39 to 46 (fun W => ∃ A9 c9, Hid (PgK w W g7 nP3 (some ⟨gA7, 0, none⟩) c7 A9 c9) ∧ Hid (Below w13.heap.size w13 W))
    case first =>
      clear HC4 HEX HTK
      have Y1 := Lib.hid (fun (W : World) (h : Below W7.heap.size W7 W) => (show W.cell? ⟨g7, 2, none⟩ = some (.slice (some ⟨gX7, 0, none⟩) 2 d7) ∧ g7 < W.heap.size from ⟨(HK7.out.below h HK7.out.lt).cell 2, (HK7.out.below h HK7.out.lt).lt⟩))
      go_region_law (first
        | (refine step_append_eq rfl _ _ 24 rfl _ _ rfl rfl _ _ hap ?_)
        | (have hq := hc1; clear hq; (try go_simp); go_at_call 41; refine (HOP.out _ _ _ _ _ _ _).mono ?_; rintro e w22 ⟨rfl, h22⟩; obtain ⟨A9, c9, w9, hap, z0, z1, z2, z3, HPK, HBB⟩ := KEY7.out w22 (by rw [h22]; exact bel_al' hc1 _); clear h22)
        | ((try go_simp); go_at_call 41; refine (HOP.out _ _ _ _ _ _ _).mono ?_; rintro e w21 ⟨rfl, h21⟩; have hc1 : Below W7.heap.size W7 w21 := (by rw [h21]; exact bel_al' (x := W7.drew) (below_drewN (Below.refl _ _) 1) _); obtain ⟨y2, y3⟩ := Y1.out w21 hc1; clear h21)
        | fail)
      all_goals (
        go_wp2_with fail
        go_meet
        case rel => exact ⟨A9, c9, Lib.hid HPK, Lib.hid HBB⟩)
    case rest =>
      obtain ⟨A9, c9, HR9, HBB9⟩ := hcut
      have HQ9 := Lib.hid (HQ13.out.below HBB9.out)
      have HBwc : Hid (Below w.heap.size w wc) := Lib.hid HR9.out.b
      clear HQ13 HBB9 KEY7 HK7 HA7 HX7 HB7 HBB7 HG7 a0 a1 a2 hd7 hg7W
      go_wp2_with fail
      go_at_call 40
      refine (HEX.out wc).mono ?_
      rintro e wx8 ⟨⟨A8, X8, c8, d8, rfl, hA8, hX8⟩, hbx8⟩
      obtain ⟨gA8, rfl, hgA8, -, -, -⟩ := own_blk hA8 (by decide)
      obtain ⟨gX8, rfl, hgX8, -, -, -⟩ := own_blk hX8 (by decide)
      have HBx8 := Lib.hid (bel_tr HBwc.out hbx8)
      have hsp8 := HBwc.out.size
      have hsq8 := hbx8.size
      have HAx8 := Lib.hid hA8
      have HXx8 := Lib.hid hX8
      have HBBx8 := Lib.hid hbx8
      clear hbx8 hA8 hX8 HBwc hgA8 hgX8
      go_upto_region 12 with fail
      have HK8 := Lib.hid (Bk.new wx8 26 #[.int .i64 3, .slice (some ⟨gA8, 0, none⟩) 2 c8, .slice (some ⟨gX8, 0, none⟩) 2 d8])
      obtain ⟨W8, hW8⟩ : ∃ W, W = wx8.alloc (.cells #[.int .i64 3, .slice (some ⟨gA8, 0, none⟩) 2 c8, .slice (some ⟨gX8, 0, none⟩) 2 d8] 26) := ⟨_, rfl⟩
      have HB8 : Hid (Below w.heap.size w W8) := Lib.hid (by rw [hW8]; exact bel_al' HBx8.out _)
      have HA8 := Lib.hid (own_below HAx8.out (bel_al (.cells #[.int .i64 3, .slice (some ⟨gA8, 0, none⟩) 2 c8, .slice (some ⟨gX8, 0, none⟩) 2 d8] 26)))
      have HX8 := Lib.hid (own_below HXx8.out (bel_al (.cells #[.int .i64 3, .slice (some ⟨gA8, 0, none⟩) 2 c8, .slice (some ⟨gX8, 0, none⟩) 2 d8] 26)))
      have HBB8 : Hid (Below wc.heap.size wc W8) := Lib.hid (by rw [hW8]; exact bel_al' HBBx8.out _)
      obtain ⟨g8, hg8⟩ : ∃ g, wx8.heap.size = g := ⟨_, rfl⟩
      rw [← hW8] at HA8 HX8 HK8
      rw [← hW8]
      have HG8 : Hid (wc.heap.size ≤ g8 ∧ w.heap.size ≤ wc.heap.size) := Lib.hid ⟨by omega, by omega⟩
      rw [hg8] at HK8 ⊢
      clear hW8 hg8 HBx8 HAx8 HXx8 hsp8 hsq8 HBBx8
      have hbz8_0 := Below.refl W8.heap.size W8
      go_wp2_with fail
      go_at_call 41
      refine (HOP.out _ _ _ _ _ _ _).mono ?_
      rintro e wo8_1 ⟨rfl, ho8_1⟩
      have hbz8_1 : Below W8.heap.size W8 wo8_1 := by rw [ho8_1]; exact bel_al' hbz8_0 _
      clear ho8_1 hbz8_0
      go_wp2_with fail
      go_at_call 41
      refine (HOP.out _ _ _ _ _ _ _).mono ?_
      rintro e wo8_2 ⟨rfl, ho8_2⟩
      have hbz8_2 : Below W8.heap.size W8 wo8_2 := by rw [ho8_2]; exact bel_al' hbz8_1 _
      clear ho8_2 hbz8_1
      go_wp2_with fail
      go_at_call 41
      refine (HOP.out _ _ _ _ _ _ _).mono ?_
      rintro e wo8_3 ⟨rfl, ho8_3⟩
      have hbz8_3 : Below W8.heap.size W8 wo8_3 := by rw [ho8_3]; exact bel_al' hbz8_2 _
      clear ho8_3 hbz8_2
      have HKo8 := Lib.hid (HK8.out.below hbz8_3 HK8.out.lt)
      have HAo8 := Lib.hid (own_below HA8.out hbz8_3)
      have HBo8 := Lib.hid (bel_tr HB8.out hbz8_3)
      have HBBo8 := Lib.hid (bel_tr HBB8.out hbz8_3)
      clear hbz8_3 HK8 HA8 HB8 HX8 HBB8
      obtain ⟨a0, a1, a2⟩ := c3 HKo8.out
      have f2 := HKo8.out.frozen 2
      have hgw := HKo8.out.lt
      have HLT := Lib.hid (PgK.lit (xs := nP4.op) HKo8.out (rws_rd (T := Bf) (xs := sxB) HAo8.out).2.1 (ownBlk HAo8.out) HBo8.out (Nat.le_trans HG8.out.2 HG8.out.1) 3 rfl _ rfl)
      have HBL : Hid (Below wc.heap.size wc ((wo8_3.setCell ⟨g8, 2, none⟩ (.slice (some ⟨wo8_3.heap.size, 0, none⟩) 3 3)).alloc (.cells (row nP4.op).toArray 33))) := Lib.hid (bel_al' (HBBo8.out.setCell (p := ⟨g8, 2, none⟩) HG8.out.1 _) _)
      go_upto_region 13 with fail
      obtain ⟨W15, hW15⟩ : ∃ W15, W15 = (wo8_3.setCell ⟨g8, 2, none⟩ (.slice (some ⟨wo8_3.heap.size, 0, none⟩) 3 3)).alloc (.cells #[.int .i64 16, .int .i64 0, .int .i64 (-1), .int .i64 (-1), .int .i64 (-1), .int .i64 (-1), .int .i64 0, .int .u64 2, .int .i64 17, .int .i64 (-1), .int .i64 (-1), .int .i64 (-1), .int .i64 (-1), .int .i64 (-1), .int .i64 0, .int .u64 0, .int .i64 14, .int .i64 0, .int .i64 (-1), .int .i64 (-1), .int .i64 (-1), .int .i64 (-1), .int .i64 0, .int .u64 0] 33) := ⟨_, rfl⟩
      have HS15 : Hid (PgK w W15 g8 nP4 (some ⟨gA8, 0, none⟩) c8 (some ⟨wo8_3.heap.size, 0, none⟩) 3) := Lib.hid (by rw [hW15]; exact HLT.out)
      have HBB15 : Hid (Below wc.heap.size wc W15) := Lib.hid (by rw [hW15]; exact HBL.out)
      rw [← hW15]
      obtain ⟨gX8', hgX8⟩ : ∃ g, wo8_3.heap.size = g := ⟨_, rfl⟩
      rw [hgX8] at HS15 ⊢
      clear hW15 hgX8 HLT HBL HKo8 HAo8 HBo8 HBBo8 HG8 a0 a1 a2 f2 hgw
      obtain ⟨a0, a1, a2⟩ : W15.cell? ⟨g8, 0, none⟩ = some (.int .i64 3) ∧ W15.cell? ⟨g8, 1, none⟩ = some (.slice (some ⟨gA8, 0, none⟩) 2 c8) ∧ W15.cell? ⟨g8, 2, none⟩ = some (.slice (some ⟨gX8', 0, none⟩) 3 3) := c3 HS15.out.k
      have HQ15 := Lib.hid (HQ9.out.below HBB15.out)
      have HR15 := Lib.hid (HR9.out.below HBB15.out)
      go_wp2_with fail
      go_at_call 42
      refine (HC4.out _ _ _ _ _ _ HS15.out).mono ?_
      rintro e w16 ⟨⟨r, rfl, hr⟩, hb⟩
      obtain rfl := n4_is hr
      have HQ16 := Lib.hid (HQ15.out.below hb)
      have HR16 := Lib.hid (HR15.out.below hb)
      clear hb hr HQ9 HR9 HS15 HBB15 HQ15 HR15 a0 a1 a2 HC4 HEX HOP
      go_upto_region 15 with fail
      have HL1 := Lib.hid (lit_u2 w16 [1, 2] [3, 4] (by intro x hx; simp only [List.mem_cons, List.not_mem_nil, or_false] at hx; rcases hx with rfl | rfl <;> (unfold W; decide)) (by intro x hx; simp only [List.mem_cons, List.not_mem_nil, or_false] at hx; rcases hx with rfl | rfl <;> (unfold W; decide)) (by simp) (by simp))
      obtain ⟨V1, hV1⟩ : ∃ V, V = ((w16.alloc (.cells #[.int .u64 1, .int .u64 2] 31)).alloc (.cells #[.int .u64 3, .int .u64 4] 31)).alloc (.cells #[.slice (some ⟨w16.heap.size, 0, none⟩) 2 2, .slice (some ⟨w16.heap.size + 1, 0, none⟩) 2 2] 43) := ⟨_, rfl⟩
      have HBv1 : Hid (Below w16.heap.size w16 V1) := Lib.hid (by rw [hV1]; exact bel_al' (bel_al' (bel_al _) _) _)
      have hsv1 : V1.heap.size = w16.heap.size + 3 := by rw [hV1]; simp only [World.size_alloc]
      have HH1 : Hid (HrW V1 V1.heap.size (some ⟨w16.heap.size + 2, 0, none⟩) 2 [⟨some ⟨w16.heap.size, 0, none⟩, 2, 2, [1, 2]⟩, ⟨some ⟨w16.heap.size + 1, 0, none⟩, 2, 2, [3, 4]⟩]) := Lib.hid (by rw [hsv1, hV1]; exact HL1.out)
      rw [← hV1]
      clear hV1 HL1 hsv1
      obtain ⟨b1, hb1⟩ : ∃ b, w16.heap.size + 2 = b := ⟨_, rfl⟩
      rw [hb1] at HH1 ⊢
      clear hb1
      have HQ17 := Lib.hid (HQ16.out.below HBv1.out)
      have HR17 := Lib.hid (HR16.out.below HBv1.out)
      clear HQ16 HR16 HBv1
      go_upto_region 16 with fail
      have HL2 := Lib.hid (lit_u2 V1 [9, 9] [3, 4] (by intro x hx; simp only [List.mem_cons, List.not_mem_nil, or_false] at hx; rcases hx with rfl | rfl <;> (unfold W; decide)) (by intro x hx; simp only [List.mem_cons, List.not_mem_nil, or_false] at hx; rcases hx with rfl | rfl <;> (unfold W; decide)) (by simp) (by simp))
      obtain ⟨V2, hV2⟩ : ∃ V, V = ((V1.alloc (.cells #[.int .u64 9, .int .u64 9] 31)).alloc (.cells #[.int .u64 3, .int .u64 4] 31)).alloc (.cells #[.slice (some ⟨V1.heap.size, 0, none⟩) 2 2, .slice (some ⟨V1.heap.size + 1, 0, none⟩) 2 2] 43) := ⟨_, rfl⟩
      have HBv2 : Hid (Below V1.heap.size V1 V2) := Lib.hid (by rw [hV2]; exact bel_al' (bel_al' (bel_al _) _) _)
      have hsv2 : V2.heap.size = V1.heap.size + 3 := by rw [hV2]; simp only [World.size_alloc]
      have HH2 : Hid (HrW V2 V2.heap.size (some ⟨V1.heap.size + 2, 0, none⟩) 2 [⟨some ⟨V1.heap.size, 0, none⟩, 2, 2, [9, 9]⟩, ⟨some ⟨V1.heap.size + 1, 0, none⟩, 2, 2, [3, 4]⟩]) := Lib.hid (by rw [hsv2, hV2]; exact HL2.out)
      rw [← hV2]
      clear hV2 HL2 hsv2
      obtain ⟨b2, hb2⟩ : ∃ b, V1.heap.size + 2 = b := ⟨_, rfl⟩
      rw [hb2] at HH2 ⊢
      clear hb2
      have HQ18 := Lib.hid (HQ17.out.below HBv2.out)
      have HR18 := Lib.hid (HR17.out.below HBv2.out)
      have HH12 := Lib.hid ((HH1.out.below HBv2.out).more HBv2.out.size)
      clear HQ17 HR17 HH1 HBv2
      go_upto_region 17 with fail
      have HL3 := Lib.hid (lit_u2 V2 [1, 2] [3, 5] (by intro x hx; simp only [List.mem_cons, List.not_mem_nil, or_false] at hx; rcases hx with rfl | rfl <;> (unfold W; decide)) (by intro x hx; simp only [List.mem_cons, List.not_mem_nil, or_false] at hx; rcases hx with rfl | rfl <;> (unfold W; decide)) (by simp) (by simp))
      obtain ⟨V3, hV3⟩ : ∃ V, V = ((V2.alloc (.cells #[.int .u64 1, .int .u64 2] 31)).alloc (.cells #[.int .u64 3, .int .u64 5] 31)).alloc (.cells #[.slice (some ⟨V2.heap.size, 0, none⟩) 2 2, .slice (some ⟨V2.heap.size + 1, 0, none⟩) 2 2] 43) := ⟨_, rfl⟩
      have HBv3 : Hid (Below V2.heap.size V2 V3) := Lib.hid (by rw [hV3]; exact bel_al' (bel_al' (bel_al _) _) _)
      have hsv3 : V3.heap.size = V2.heap.size + 3 := by rw [hV3]; simp only [World.size_alloc]
      have HH3 : Hid (HrW V3 V3.heap.size (some ⟨V2.heap.size + 2, 0, none⟩) 2 [⟨some ⟨V2.heap.size, 0, none⟩, 2, 2, [1, 2]⟩, ⟨some ⟨V2.heap.size + 1, 0, none⟩, 2, 2, [3, 5]⟩]) := Lib.hid (by rw [hsv3, hV3]; exact HL3.out)
      rw [← hV3]
      clear hV3 HL3 hsv3
      obtain ⟨b3, hb3⟩ : ∃ b, V2.heap.size + 2 = b := ⟨_, rfl⟩
      rw [hb3] at HH3 ⊢
      clear hb3
      have HQ19 := Lib.hid (HQ18.out.below HBv3.out)
      have HR19 := Lib.hid (HR18.out.below HBv3.out)
      have HH13 := Lib.hid ((HH12.out.below HBv3.out).more HBv3.out.size)
      have HH23 := Lib.hid ((HH2.out.below HBv3.out).more HBv3.out.size)
      clear HQ18 HR18 HH12 HH2 HBv3
      obtain ⟨a0, a1, a2⟩ : V3.cell? ⟨g7, 0, none⟩ = some (.int .i64 3) ∧ V3.cell? ⟨g7, 1, none⟩ = some (.slice (some ⟨gA7, 0, none⟩) 2 c7) ∧ V3.cell? ⟨g7, 2, none⟩ = some (.slice A9 3 c9) := c3 HR19.out.k
      have HS3 := Lib.hid (fun W (hb : Below V3.heap.size V3 W) => secret_s nP3 nP3_wf (some ⟨gA7, 0, none⟩) A9 c7 c9 W (HTK.out W (bel_tr HR19.out.b hb)) (HR19.out.below hb).bs (HR19.out.below hb).os)
      unfold pgV at HS3
      simp only [show nP3.rg = 3 from rfl, show nP3.bf.length = 2 from rfl, show nP3.op.length = 3 from rfl] at HS3
      go_wp2_with fail
      go_at_call 44
      refine (HS3.out _ (Below.refl _ _)).mono ?_
      rintro e w20 ⟨⟨v, l, rfl, hv, hl⟩, hb⟩
      obtain rfl := n3_is hl
      obtain ⟨Av, cv, rfl, hcv⟩ := rws_form hv
      have HB20 := Lib.hid hb
      have HV20 := Lib.hid (rws_rd hv).2.1
      clear hb hv hl hcv HS3 a0 a1 a2
      have hlb : Bk (w20.alloc (.cells #[.bool true, .bool true, .bool false] 4)) w20.heap.size 4 (row [true, true, false]).toArray := Bk.new _ _ _
      have KS := Lib.hid (same_b Av (some ⟨w20.heap.size, 0, none⟩) 3 cv 3 3 _ _ [true, true, false] [true, true, false] (w20.alloc (.cells #[.bool true, .bool true, .bool false] 4)) (HV20.out.below (bel_al _)) (bk_rdr (B := w20.heap.size + 1) hlb (by omega)) (by omega) (by omega))
      rw [decide_eq_true rfl] at KS
      clear hlb HV20
      go_wp2_with fail
      go_at_call 43
      refine KS.out.mono ?_
      rintro e w21 ⟨rfl, q21, hw21⟩
      have HB21 : Hid (Below V3.heap.size V3 w21) := Lib.hid (by rw [hw21]; exact below_drewN (bel_al' HB20.out _) _)
      clear hw21 KS HB20
      have HQ21 := Lib.hid (HQ19.out.below HB21.out)
      obtain ⟨b0, b1, b2⟩ : w21.cell? ⟨g4, 0, none⟩ = some (.int .i64 3) ∧ w21.cell? ⟨g4, 1, none⟩ = some (.slice (some ⟨gA4, 0, none⟩) 2 c4) ∧ w21.cell? ⟨g4, 2, none⟩ = some (.slice (some ⟨gX4, 0, none⟩) 4 4) := c3 HQ21.out.k
      have HPU := Lib.hid (fun (Y Z : Option Addr) (m2 q2 : Nat) (gs : List Hr) W (hQ : PgK w W g4 nP2 (some ⟨gA4, 0, none⟩) c4 (some ⟨gX4, 0, none⟩) 4) (hs : List Hr) (q : Nat) (hY : HrW W W.heap.size Y 2 hs) (hZ : HrW W W.heap.size Z m2 gs) (h6 : ∀ x ∈ hs, x.n ≤ 1000000) (g6 : ∀ x ∈ gs, x.n ≤ 1000000) (hm2 : m2 ≤ 1000000) => public_s nP2 nP2_wf (some ⟨gA4, 0, none⟩) (some ⟨gX4, 0, none⟩) Y Z c4 4 2 q m2 q2 hs gs W (HTK.out W hQ.b) hQ.bs hQ.os hY hZ (by omega) hm2 h6 g6)
      unfold pgV at HPU
      simp only [show nP2.rg = 3 from rfl, show nP2.bf.length = 2 from rfl, show nP2.op.length = 4 from rfl] at HPU
      have HYw := Lib.hid (fun W (hb : Below V3.heap.size V3 W) => (HH13.out.below hb).more hb.size)
      have HZ2 := Lib.hid (fun W (hb : Below V3.heap.size V3 W) => (HH23.out.below hb).more hb.size)
      have HZ3 := Lib.hid (fun W (hb : Below V3.heap.size V3 W) => (HH3.out.below hb).more hb.size)
      have m2 : ∀ (a b : Hr), a.n = 2 → b.n = 2 → ∀ x ∈ [a, b], x.n ≤ 1000000 := fun a b h1 h2 x hx => by
        simp only [List.mem_cons, List.not_mem_nil, or_false] at hx
        rcases hx with rfl | rfl <;> omega
      clear HH13 HH23 HH3 HR19
      go_wp2_with fail
      go_at_call 45
      refine (HPU.out _ _ _ _ _ _ HQ21.out _ _ (HYw.out _ HB21.out) (HZ2.out _ HB21.out) (m2 _ _ rfl rfl) (m2 _ _ rfl rfl) (by omega)).mono ?_
      rintro e w22 ⟨he, hb⟩
      have he2 : e = .returned (.bool true) := he.trans (congrArg (fun b => Ending.returned (.bool b)) nPub1)
      subst he2
      have HB22 := Lib.hid (bel_tr HB21.out hb)
      have HQ22 := Lib.hid (HQ21.out.below hb)
      clear hb he HQ21 HB21 b0 b1 b2
      obtain ⟨b0, b1, b2⟩ : w22.cell? ⟨g4, 0, none⟩ = some (.int .i64 3) ∧ w22.cell? ⟨g4, 1, none⟩ = some (.slice (some ⟨gA4, 0, none⟩) 2 c4) ∧ w22.cell? ⟨g4, 2, none⟩ = some (.slice (some ⟨gX4, 0, none⟩) 4 4) := c3 HQ22.out.k
      go_wp2_with fail
      go_at_call 45
      refine (HPU.out _ _ _ _ _ _ HQ22.out _ _ (HYw.out _ HB22.out) (HZ3.out _ HB22.out) (m2 _ _ rfl rfl) (m2 _ _ rfl rfl) (by omega)).mono ?_
      rintro e w23 ⟨he, hb⟩
      have he2 : e = .returned (.bool false) := he.trans (congrArg (fun b => Ending.returned (.bool b)) nPub2)
      subst he2
      have HB23 := Lib.hid (bel_tr HB22.out hb)
      have HQ23 := Lib.hid (HQ22.out.below hb)
      clear hb he HQ22 HB22 b0 b1 b2
      obtain ⟨b0, b1, b2⟩ : w23.cell? ⟨g4, 0, none⟩ = some (.int .i64 3) ∧ w23.cell? ⟨g4, 1, none⟩ = some (.slice (some ⟨gA4, 0, none⟩) 2 c4) ∧ w23.cell? ⟨g4, 2, none⟩ = some (.slice (some ⟨gX4, 0, none⟩) 4 4) := c3 HQ23.out.k
      go_wp2_with fail
      go_at_call 45
      refine (HPU.out _ none 0 0 [] _ HQ23.out _ _ (HYw.out _ HB23.out) ⟨Rdr.nil, fun x hx => by cases hx⟩ (m2 _ _ rfl rfl) (fun x hx => by cases hx) (by omega)).mono ?_
      rintro e w24 ⟨he, hb⟩
      have he2 : e = .returned (.bool false) := he.trans (congrArg (fun b => Ending.returned (.bool b)) nPub3)
      subst he2
      have HB24 := Lib.hid (bel_tr HQ23.out.b hb)
      clear hb he HQ23 HB23 b0 b1 b2 HPU HYw HZ2 HZ3 m2
      have HS5 := Lib.hid (secret_s nP5 nP5_wf none none 0 0 w24 (HTK.out w24 HB24.out) Rdr.nil Rdr.nil)
      unfold pgV at HS5
      simp only [show nP5.rg = -1 from rfl, show nP5.bf.length = 0 from rfl, show nP5.op.length = 0 from rfl] at HS5
      go_wp2_with fail
      go_at_call 44
      refine HS5.out.mono ?_
      rintro e w25 ⟨⟨v, l, rfl, hv, hl⟩, hb⟩
      obtain rfl := n5_is hl
      obtain ⟨Av5, cv5, rfl, hcv⟩ := rws_form hv
      have HB25 := Lib.hid (bel_tr HB24.out hb)
      clear hb hv hl hcv HS5 HB24
      simp only [List.length_nil]
      go_wp2_with fail
      go_ret
      exact ⟨rfl, HB25.out⟩
end secrecyNames
end Go.Proofs.YtjdpbelfagkaiaaDoor
