/- LightProg, and what it tells of a program. | SecrecyLess: with a buffer less that is secret no register more is secret; with none no register is, and all may be. -/
import Derived.Test.YtjdpbelfagkaiaaDoorN1
import Derived.Test.YtjdpbelfagkaiaaDoorSC
import Derived.Test.YtjdpbelfagkaiaaDoorF4
import Derived.Test.YtjdpbelfagkaiaaDoorF1
import Derived.Test.YtjdpbelfagkaiaaDoorR5
import Derived.BigQuiet
namespace Go.Proofs.YtjdpbelfagkaiaaDoor
open Go Go.RowKit Go.Sort Go.Shelf
namespace Lb
open Wd Nt Gr
set_option linter.unusedVariables false
set_option linter.unusedSimpArgs false
/-- with what it tells of the program -/
def LgP2 (p : Pg) (most : Int) (w : World) (e : Ending) (w' : World) : Prop := (∃ b, e = .returned (.bool b) ∧ (b = true → p.rg ≤ 100 ∧ p.bf.length ≤ 40 ∧ (p.op.length : Int) ≤ most)) ∧ Below w.heap.size w w'
set_option maxRecDepth 100000 in
set_option maxHeartbeats 4000000 in
theorem lightProg2_l (p : Pg) (hp : p.wf) (A X : Option Addr) (c d : Nat) (most : Int) (w : World) (hR : Rdr w w.heap.size A p.bf.length p.bf) :
    Calls Tryd.prog 26 #[pgV p A c X d, .int .i64 most] w (LgP2 p most w) := by
  unfold pgV at *
  have HB := Lib.hid (bel_al (w := w) (.cells #[.int .i64 p.rg, .slice A p.bf.length c, .slice X p.op.length d] 26))
  have HK := Lib.hid (Bk.new w 26 #[.int .i64 p.rg, .slice A p.bf.length c, .slice X p.op.length d])
  have HR := Lib.hid (hR.below HB.out)
  clear hR
  obtain ⟨W0, hW0⟩ : ∃ W0, W0 = w.alloc (.cells #[.int .i64 p.rg, .slice A p.bf.length c, .slice X p.op.length d] 26) := ⟨_, rfl⟩
  have HW0 := Lib.hid hW0
  rw [← hW0] at HB HK HR
  clear hW0
  go_enter Tryd.func26, Tryd.ntmps26
  go_wp2_with fail
  go_loopw [5, 6] (fun n i W => ∃ (k : Nat) (z : Int), k ≤ p.bf.length ∧ k ≤ 41 ∧ n = .int .i64 z ∧ i = .int .i64 (k : Int) ∧ Hid (W = W0)) (fun _ i _ => 41 - (intOf i).toNat)
  case atStart => exact ⟨0, 0, by omega, by omega, rfl, rfl, Lib.hid HW0.out.symm⟩
  case round =>
    obtain ⟨k, z, hk, hk41, rfl, rfl, HW⟩ := hrel
    have hw := HW.out
    rw [← hw] at HB HK HR
    clear hw
    obtain ⟨a0, a1, a2⟩ := c3 HK.out
    rcases Nat.lt_or_ge k p.bf.length with hlt | hge
    · have hki : (k : Int) < (p.bf.length : Int) := by omega
      have hk0 : (0 : Int) ≤ (k : Int) := by omega
      rcases Nat.lt_or_ge 40 k with h40 | h40
      · have h4 : ¬ (k : Int) ≤ 40 := by omega
        have g2 : ¬ (p.bf.length : Int) ≤ 40 := by omega
        (by_cases g1 : p.rg ≤ 100 <;> (go_wp2_with fail; go_ret; exact ⟨⟨_, rfl, fun h => by first | (cases h; done) | exact ⟨g1, by omega, g3⟩⟩, HB.out⟩))
      · have h4 : (k : Int) ≤ 40 := by omega
        obtain ⟨b, o, rfl, hblt, s0, s1, s2⟩ := bf_at HR.out (bfAt_some hlt)
        have ew : IntKind.i64.wrap ((k : Int) + 1) = ((k + 1 : Nat) : Int) := by rw [show (k : Int) + 1 = ((k + 1 : Nat) : Int) by omega]; exact IntWalk.i64_in _ (by omega)
        generalize bfAt p.bf (k : Int) = bb at *
        obtain ⟨sz, kd, sec⟩ := bb
        dsimp only at *
        by_cases h5 : 0 < sz
        · by_cases h6 : sz ≤ 65536
          · go_wp2_with fail
            go_roundw
            case rel => exact ⟨k + 1, _, by omega, by omega, rfl, by first | rfl | go_num, HW⟩
            case measure => (simp [intOf] <;> omega)
          · go_wp2_with fail
            go_roundw
            case rel => exact ⟨k + 1, _, by omega, by omega, rfl, by first | rfl | go_num, HW⟩
            case measure => (simp [intOf] <;> omega)
        · go_wp2_with fail
          go_roundw
          case rel => exact ⟨k + 1, _, by omega, by omega, rfl, by first | rfl | go_num, HW⟩
          case measure => (simp [intOf] <;> omega)
    · have hki : ¬ (k : Int) < (p.bf.length : Int) := by omega
      rcases Nat.lt_or_ge 40 p.bf.length with h40 | h40
      · have g2 : ¬ (p.bf.length : Int) ≤ 40 := by omega
        (by_cases g1 : p.rg ≤ 100 <;> (go_wp2_with fail; go_ret; exact ⟨⟨_, rfl, fun h => by first | (cases h; done) | exact ⟨g1, by omega, g3⟩⟩, HB.out⟩))
      · have g2 : (p.bf.length : Int) ≤ 40 := by omega
        (by_cases g1 : p.rg ≤ 100 <;> by_cases g3 : (p.op.length : Int) ≤ most <;> by_cases g4 : z ≤ 600 <;> (go_wp2_with fail; go_ret; exact ⟨⟨_, rfl, fun h => by first | (cases h; done) | exact ⟨g1, by omega, g3⟩⟩, HB.out⟩))
end Lb
end Go.Proofs.YtjdpbelfagkaiaaDoor
namespace Go.Proofs.YtjdpbelfagkaiaaDoor
open Go Go.RowKit Go.Sort Go.Shelf
namespace secrecyLess
open Wd Nt Gr Lb
set_option linter.unusedVariables false
set_option linter.unusedSimpArgs false
theorem two_T {w W : World} {p : Pg} {A X : Option Addr} {c d : Nat} {bq br : List Bf} {g7 gA cA gX cX g8 hA dA hX dX : Nat} (h : Two w W p A c X d bq br g7 gA cA gX cX g8 hA dA hX dX) (h1 : bq.length = p.bf.length) (h2 : br.length = p.bf.length) :
    W.cell? ⟨w.heap.size, 0, none⟩ = some (.int .i64 p.rg) ∧ W.cell? ⟨w.heap.size, 1, none⟩ = some (.slice A p.bf.length c) ∧ W.cell? ⟨w.heap.size, 2, none⟩ = some (.slice X p.op.length d) ∧
    W.cell? ⟨g7, 0, none⟩ = some (.int .i64 p.rg) ∧ W.cell? ⟨g7, 1, none⟩ = some (.slice (some ⟨gA, 0, none⟩) p.bf.length cA) ∧ W.cell? ⟨g7, 2, none⟩ = some (.slice (some ⟨gX, 0, none⟩) p.op.length cX) ∧
    W.cell? ⟨g8, 0, none⟩ = some (.int .i64 p.rg) ∧ W.cell? ⟨g8, 1, none⟩ = some (.slice (some ⟨hA, 0, none⟩) p.bf.length dA) ∧ W.cell? ⟨g8, 2, none⟩ = some (.slice (some ⟨hX, 0, none⟩) p.op.length dX) ∧ Two w W p A c X d bq br g7 gA cA gX cX g8 hA dA hX dX := by
  have k8 := h.r.k.cell 1
  have k7 := h.q.k.cell 1
  rw [h2] at k8
  rw [h1] at k7
  exact ⟨h.box.cell 0, h.box.cell 1, h.box.cell 2, h.q.k.cell 0, k7, h.q.k.cell 2, h.r.k.cell 0, k8, h.r.k.cell 2, h⟩
set_option maxRecDepth 100000 in
set_option maxHeartbeats 16000000 in
theorem walk_ (w : World) (hT : TabF w) (p : Pg) (A X : Option Addr) (c d : Nat) (z : Int) (hp : p.wf) (hR : Rdr w w.heap.size A p.bf.length p.bf) (hX : Rdr w w.heap.size X p.op.length p.op)
    (hpc : p.bf.length ≤ c ∧ c ≤ 9223372036854775807) (hpd : p.op.length ≤ d ∧ d ≤ 9223372036854775807) (hz : I64 z) :
    Calls Tryd.prog 10 #[pgV p A c X d, .int .i64 z] w fun e w' => e = .returned (.bool true) ∧ Below w.heap.size w w' := by
  have HL := Lib.hid (fun (W : World) (hb : Below w.heap.size w W) => slives_l W (hT.keep hb))
  have HCR := Lib.hid (fun (W : World) (hb : Below w.heap.size w W) => check_r p hp A X c d W ((hR.below hb).more hb.size) ((hX.below hb).more hb.size))
  have HLP := Lib.hid (fun (W : World) (hb : Below w.heap.size w W) => lightProg2_l p hp A X c d 60 W ((hR.below hb).more hb.size))
  have HOP := Lib.hid (fun (h1 : p.bf.length ≤ 100000) (h2 : p.op.length ≤ 100000) (W : World) (hb : Below w.heap.size w W) => ownProg_l p A X c d W ((hR.below hb).more hb.size) ((hX.below hb).more hb.size) h1 h2)
  have HSP := Lib.hid (fun (W : World) (hb : Below w.heap.size w W) => secret_s p hp A X c d W (hT.keep hb) ((hR.below hb).more hb.size) ((hX.below hb).more hb.size))
  have HPK := Lib.hid (fun (m : Int) (hm : I64 m) W => Kit.pick_c z m W hz.lit hm.lit)
  have HTK := Lib.hid (fun (W : World) (hb : Below w.heap.size w W) => hT.keep hb)
  have HCK : Hid (∀ n : Nat, chkP p = (n, 0) → p.bf.length ≤ 32 ∧ p.op.length ≤ 65536 ∧ 0 ≤ p.rg ∧ p.rg ≤ 64) := Lib.hid (fun n h => by
    have := ref_zero (ok_of (p := p) (by rw [h])).ref
    exact ⟨by omega, by omega, this.2.2.2.1, this.1⟩)
  have HPW := Lib.hid hp
  unfold pgV at *
  clear hT hR hX hpc hpd hz hp
  have HB0 := Lib.hid (bel_al (w := w) (.cells #[.int .i64 p.rg, .slice A p.bf.length c, .slice X p.op.length d] 26))
  have HK0 := Lib.hid (Bk.new w 26 #[.int .i64 p.rg, .slice A p.bf.length c, .slice X p.op.length d])
  obtain ⟨ck, hck⟩ : ∃ ck, chkP p = ck := ⟨_, rfl⟩
  have HE := Lib.hid hck
  rw [hck] at HCR HCK
  clear hck
  obtain ⟨k1, k2⟩ := ck
  dsimp only at HCR
  unfold OwnP at HOP
  unfold pgV at HOP
  go_enter Tryd.func10, Tryd.ntmps10
  go_wp2_with fail
  go_at_call 39
  refine (HL.out _ HB0.out).mono ?_
  rintro e w1 ⟨rfl, hb⟩
  have HB1 := Lib.hid (bel_tr HB0.out hb)
  have HK1 := Lib.hid (HK0.out.below hb HK0.out.lt)
  clear hb HL HB0 HK0
  obtain ⟨a0, a1, a2⟩ := c3 HK1.out
  go_wp2_with fail
  go_at_call 29
  refine (HCR.out _ HB1.out).mono ?_
  rintro e w2 ⟨rfl, hb⟩
  have HB2 := Lib.hid (bel_tr HB1.out hb)
  have HK2 := Lib.hid (HK1.out.below hb HK1.out.lt)
  clear hb HCR HB1 HK1 a0 a1 a2
  obtain ⟨a0, a1, a2⟩ := c3 HK2.out
  go_wp2_with fail
  go_at_call 26
  refine (HLP.out _ HB2.out).mono ?_
  rintro e w3 ⟨⟨b1, rfl, hb1⟩, hb⟩
  have HB3 := Lib.hid (bel_tr HB2.out hb)
  have HK3 := Lib.hid (HK2.out.below hb HK2.out.lt)
  clear hb HLP HB2 HK2 a0 a1 a2
  cases b1
  · go_wp2_with fail
    go_ret
    exact ⟨rfl, HB3.out⟩
  by_cases h0 : k2 = 0
  case neg =>
    have hne : (k2 != 0) = true := by simpa using h0
    clear h0
    go_wp2_with fail
    go_ret
    exact ⟨rfl, HB3.out⟩
  subst h0
  obtain ⟨l1, l2, l3, l4⟩ := HCK.out k1 rfl
  have HOP3 := Lib.hid (fun W hb => HOP.out (by omega) (by omega) W hb)
  clear HOP HCK hb1
  obtain ⟨a0, a1, a2⟩ := c3 HK3.out
  go_wp2_with fail
  go_cut [7, 8] from 30 to 33 (fun v7 v8 W => ∃ g7 gA cA gX cX g8 hA dA hX dX : Nat, v7 = .pointer (some ⟨g7, 0, none⟩) ∧ v8 = .pointer (some ⟨g8, 0, none⟩) ∧ Hid (Two w W p A c X d p.bf p.bf g7 gA cA gX cX g8 hA dA hX dX))
  case first =>
    have S0 : Hid (w3.drew.cell? ⟨w.heap.size, 0, none⟩ = some (.int .i64 p.rg) ∧ w3.drew.cell? ⟨w.heap.size, 1, none⟩ = some (.slice A p.bf.length c) ∧ w3.drew.cell? ⟨w.heap.size, 2, none⟩ = some (.slice X p.op.length d) ∧ Below w.heap.size w w3.drew) := Lib.hid ⟨a0, a1, a2, HB3.out.drew⟩
    have HK3D := Lib.hid (show Bk w3.drew w.heap.size 26 #[.int .i64 p.rg, .slice A p.bf.length c, .slice X p.op.length d] from HK3.out)
    have hg3 : w.heap.size < w3.heap.size := World.block_lt_of_cell? w3 _ a1
    clear HSP HTK
    have hg33 : w.heap.size < w3.heap.size + 1 := Nat.lt_succ_of_lt hg3
    go_region_held3 (fun w' => w'.cell? ⟨w.heap.size, 0, none⟩ = some (.int .i64 p.rg) ∧ w'.cell? ⟨w.heap.size, 1, none⟩ = some (.slice A p.bf.length c) ∧ w'.cell? ⟨w.heap.size, 2, none⟩ = some (.slice X p.op.length d) ∧ Below w.heap.size w w')
      (first | with_reducible exact keepV6 hS6 hg5 hg55 | with_reducible exact keepV6 hS6 hg55 hg5 | with_reducible exact keepV6 hS6 hg3 hg5 | with_reducible exact keepV6 hS6 hg5 hg3 | with_reducible exact keepV6 hS6 hg3 hg33 | with_reducible exact keepV6 hS6 hg33 hg3 | with_reducible exact keepV3 hS6 hg5 | with_reducible exact keepV3 hS6 hg55 | with_reducible exact keepV3 hS6 hg3 | with_reducible exact keepV3 hS6 hg33 | with_reducible exact keepA3 (keepV3 hS6 hg5) _ | with_reducible exact keepA3 (keepV3 hS6 hg55) _ | with_reducible exact keepA3 (keepV3 hS6 hg3) _ | with_reducible exact keepA3 (keepV3 hS6 hg33) _ | with_reducible exact keepA3 (keepA3 hS6 _) _ | with_reducible exact keepA3 hS6 _ | with_reducible exact hS6 | with_reducible exact keepA3 (keepA3 hS5 _) _ | with_reducible exact keepA3 hS5 _ | with_reducible exact hS5 | with_reducible exact S0.out | with_reducible exact keepAD3 (by with_reducible assumption) _ | fail)
      (first
        | (have hq := hb5; clear hq; go_at_call 33; refine (HOP3.out _ (held4 (by with_reducible assumption))).mono ?_; rintro e w6 ⟨hb6, gA6, c6, gX6, d6, rfl, hA6, hX6⟩; have hS6 := keepB3 (by with_reducible assumption) hb6; have hg6 : w.heap.size < w6.heap.size := World.block_lt_of_cell? w6 _ hS6.1;
           (first | (have z60 : Zp w6 w3.heap.size := zp_3 hb6 (by first | with_reducible exact z50 | with_reducible exact zp_2 _ z50 | with_reducible exact zp_2 _ (zp_2 _ z50) | fail); obtain ⟨y00, y01, y02, y03, y04, y05, y06, y07, y08, y09⟩ := zp_all hg3 z60) | skip);
           (first | (have z61 : Zp w6 (w3.heap.size + 1) := zp_3 hb6 (by first | with_reducible exact z51 | with_reducible exact zp_2 _ z51 | with_reducible exact zp_2 _ (zp_2 _ z51) | fail); obtain ⟨y10, y11, y12, y13, y14, y15, y16, y17, y18, y19⟩ := zp_all hg33 z61) | skip);
           (first | (have z62 : Zp w6 w5.heap.size := zp_3 hb6 (by first | with_reducible exact zp_1 rfl | with_reducible exact zp_2 _ (zp_1 rfl) | fail); obtain ⟨y20, y21, y22, y23, y24, y25, y26, y27, y28, y29⟩ := zp_all hg5 z62) | skip);
           (first | (have z63 : Zp w6 (w5.heap.size + 1) := zp_3 hb6 (by first | with_reducible exact zp_1s _ | fail); obtain ⟨y30, y31, y32, y33, y34, y35, y36, y37, y38, y39⟩ := zp_all hg55 z63) | skip))
        | (go_at_call 33; refine (HOP3.out _ (held4 (by with_reducible assumption))).mono ?_; rintro e w5 ⟨hb5, gA5, c5, gX5, d5, rfl, hA5, hX5⟩; have hS5 := keepB3 (by with_reducible assumption) hb5; have hg5 : w.heap.size < w5.heap.size := World.block_lt_of_cell? w5 _ hS5.1; have hg55 : w.heap.size < w5.heap.size + 1 := Nat.lt_succ_of_lt hg5;
           (first | (have z50 : Zp w5 w3.heap.size := zp_3 hb5 (by first | with_reducible exact zp_1d rfl | with_reducible exact zp_2d _ (zp_1d rfl) | fail); have l50 : w3.heap.size < w5.heap.size := z50.lt; have m50 : w3.heap.size ≠ w5.heap.size := Nat.ne_of_lt l50; have n50 := m50.symm) | skip);
           (first | (have z51 : Zp w5 (w3.heap.size + 1) := zp_3 hb5 (by first | with_reducible exact zp_1ds _ | fail)) | skip))
        | fail)
    all_goals (
      have K5 : Bk w5 w.heap.size 26 #[.int .i64 p.rg, .slice A p.bf.length c, .slice X p.op.length d] := by first | exact HK3D.out.below hb5 HK3D.out.lt | exact (HK3D.out.alloc _).below hb5 (HK3D.out.alloc _).lt | exact ((HK3D.out.alloc _).alloc _).below hb5 ((HK3D.out.alloc _).alloc _).lt
      have K6 : Bk w6 w.heap.size 26 #[.int .i64 p.rg, .slice A p.bf.length c, .slice X p.op.length d] := by first | exact K5.below hb6 K5.lt | exact (K5.alloc _).below hb6 (K5.alloc _).lt | exact ((K5.alloc _).alloc _).below hb6 ((K5.alloc _).alloc _).lt
      have nA := (ownLt hA5).2
      have nX := (ownLt hX5).2
      have mA := (ownLt hA6).1
      have mX := (ownLt hX6).1
      have hs5 := hb5.size
      have hs6 := hb6.size
      have A5 := own_mono (B' := w.heap.size) hA5 (by (try simp only [World.size_alloc, World.size_drew]); omega)
      have X5 := own_mono (B' := w.heap.size) hX5 (by (try simp only [World.size_alloc, World.size_drew]); omega)
      have A6 := own_mono (B' := w.heap.size) hA6 (by (try simp only [World.size_alloc, World.size_drew]); omega)
      have X6 := own_mono (B' := w.heap.size) hX6 (by (try simp only [World.size_alloc, World.size_drew]); omega)
      have HP : Hid (Pre w w6 p A c X d gA5 c5 gX5 d5 gA6 c6 gX6 d6) := Lib.hid ⟨K6, by first | exact own_below A5 hb6 | exact own_below (own_below A5 (bel_al _)) hb6 | exact own_below (own_below (own_below A5 (bel_al _)) (bel_al _)) hb6, by first | exact own_below X5 hb6 | exact own_below (own_below X5 (bel_al _)) hb6 | exact own_below (own_below (own_below X5 (bel_al _)) (bel_al _)) hb6, A6, X6, by (try simp only [World.size_alloc, World.size_drew] at *); omega, by (try simp only [World.size_alloc, World.size_drew] at *); omega, hS6.2.2.2⟩
      clear K5 K6 nA nX mA mX hs5 hs6 A5 X5 A6 X6
      go_wp2_with fail
      go_meet
      case rel =>
        refine ⟨_, gA5, c5, gX5, d5, _, gA6, c6, gX6, d6, rfl, rfl, Lib.hid ?_⟩
        first
          | with_reducible exact HP.out.f1
          | with_reducible exact HP.out.f2
          | with_reducible exact HP.out.f3 (by with_reducible assumption) (by with_reducible assumption)
          | with_reducible exact HP.out.f4 (by with_reducible assumption) (by with_reducible assumption)
          | with_reducible exact HP.out.f5 (by with_reducible assumption) (by with_reducible assumption) (by with_reducible assumption) (by with_reducible assumption) (by first | with_reducible assumption | omega))
  case rest =>
    obtain ⟨g7, gA, cA, gX, cX, g8, hA, dA, hX, dX, rfl, rfl, HW0⟩ := hcut
    clear a0 a1 a2 HOP3 HB3 HK3
    obtain ⟨pk, hpk⟩ : ∃ pk, Kit.pick z (p.bf.length : Int) = pk := ⟨_, rfl⟩
    have HPK2 := Lib.hid (fun W => HPK.out (p.bf.length : Int) ⟨by omega, by omega⟩ W)
    rw [hpk] at HPK2
    clear HPK hpk
    go_wp2_with fail
    go_loopw [9] (fun i W => ∃ k : Nat, k ≤ p.bf.length ∧ i = .int .i64 (k : Int) ∧ Hid (Two w W p A c X d (erIf (fun i => decide (i < k) && decide ((i : Int) = pk)) p.bf) (erIf (fun i => decide (i < k)) p.bf) g7 gA cA gX cX g8 hA dA hX dX)) (fun i _ => p.bf.length - (intOf i).toNat)
    case atStart =>
      refine ⟨0, Nat.zero_le _, rfl, ?_⟩
      have e1 : erIf (fun i => decide (i < 0) && decide ((i : Int) = pk)) p.bf = p.bf := (erIf_same (g := fun _ => false) (fun i _ => by simp)).trans (erIf_none _)
      have e2 : erIf (fun i => decide (i < 0)) p.bf = p.bf := (erIf_same (g := fun _ => false) (fun i _ => by simp)).trans (erIf_none _)
      rw [e1, e2]
      exact HW0
    case round =>
      obtain ⟨k, hk, rfl, HW⟩ := hrel
      clear HW0
      obtain ⟨a0, a1, a2⟩ := c3 HW.out.box
      have hq := HW.out.q.k
      have hr := HW.out.r.k
      rw [erIf_len] at hq hr
      obtain ⟨q0, q1, q2⟩ := c3 hq
      obtain ⟨r0, r1, r2⟩ := c3 hr
      rcases Nat.lt_or_ge k p.bf.length with hlt | hge
      · have hki : (k : Int) < (p.bf.length : Int) := by omega
        have hk0 : (0 : Int) ≤ (k : Int) := by omega
        have ew : IntKind.i64.wrap ((k : Int) + 1) = ((k + 1 : Nat) : Int) := by rw [show (k : Int) + 1 = ((k + 1 : Nat) : Int) by omega]; exact IntWalk.i64_in _ (by omega)
        obtain ⟨br, hbr⟩ : ∃ b, (erIf (fun i => decide (i < k)) p.bf)[k]? = some b := ⟨_, List.getElem?_eq_getElem (by rw [erIf_len]; exact hlt)⟩
        obtain ⟨_, _, e0, hb8, _, _, s2⟩ := bf_at HW.out.r.rd.1 hbr
        cases e0
        rw [Nat.zero_add] at s2
        have f2 := World.ownsRow.frozenAt HW.out.r.bs (k * 3 + 2)
        have HP8 := Lib.hid (HW.out.pub8 hbr)
        rw [erIf_set hbr (g := fun i => decide (i < k + 1)) (by simp) (fun i hi => by rw [decide_eq_decide]; omega)] at HP8
        clear hq hr hbr
        go_upto_region 11 with fail
        obtain ⟨W2, hW2⟩ : ∃ W2, W2 = wr.setCell ⟨hA, k * 3 + 2, none⟩ (.bool false) := ⟨_, rfl⟩
        rw [← hW2] at HP8
        rw [← hW2]
        clear hW2 a0 a1 a2 q0 q1 q2 r0 r1 r2 s2 f2 HW
        obtain ⟨a0, a1, a2⟩ := c3 HP8.out.box
        have hq := HP8.out.q.k
        rw [erIf_len] at hq
        obtain ⟨q0, q1, q2⟩ := c3 hq
        obtain ⟨bq, hbq⟩ : ∃ b, (erIf (fun i => decide (i < k) && decide ((i : Int) = pk)) p.bf)[k]? = some b := ⟨_, List.getElem?_eq_getElem (by rw [erIf_len]; exact hlt)⟩
        obtain ⟨_, _, e0, hb7, _, _, s2⟩ := bf_at HP8.out.q.rd.1 hbq
        cases e0
        rw [Nat.zero_add] at s2
        have f2 := World.ownsRow.frozenAt HP8.out.q.bs (k * 3 + 2)
        have HP7 := Lib.hid (HP8.out.pub7 hbq)
        clear hq
        go_wp2_with fail
        go_at_call 37
        refine (HPK2.out _).mono ?_
        rintro e w5 ⟨rfl, rfl⟩
        by_cases hkp : (k : Int) = pk
        · have hkp' : ((k : Int) == pk) = true := by rw [beq_iff_eq]; exact hkp
          rw [erIf_set hbq (g := fun i => decide (i < k + 1) && decide ((i : Int) = pk)) (by rw [decide_eq_true (by omega : k < k + 1), decide_eq_true hkp]; rfl) (fun i hi => by rw [show decide (i < k + 1) = decide (i < k) from by rw [decide_eq_decide]; omega])] at HP7
          clear hbq hkp
          go_wp2_with fail
          go_roundw
          case rel => exact ⟨k + 1, by omega, by first | rfl | go_num, HP7⟩
          case measure => (simp [intOf] <;> omega)
        · have hkp' : ((k : Int) == pk) = false := by rw [beq_eq_false_iff_ne]; exact hkp
          have e1 : erIf (fun i => decide (i < k) && decide ((i : Int) = pk)) p.bf = erIf (fun i => decide (i < k + 1) && decide ((i : Int) = pk)) p.bf := erIf_same (fun i _ => by
            by_cases e : (i : Int) = pk
            · rw [show decide (i < k + 1) = decide (i < k) from by rw [decide_eq_decide]; omega]
            · rw [decide_eq_false e, Bool.and_false, Bool.and_false])
          rw [e1] at HP8
          clear hbq hkp HP7
          go_wp2_with fail
          go_roundw
          case rel => exact ⟨k + 1, by omega, by first | rfl | go_num, HP8⟩
          case measure => (simp [intOf] <;> omega)
      · obtain rfl : k = p.bf.length := by omega
        clear HPK2
        have HFD : Hid (Two w wr.drew p A c X d (erIf (fun i => decide (i < p.bf.length) && decide ((i : Int) = pk)) p.bf) (erIf (fun i => decide (i < p.bf.length)) p.bf) g7 gA cA gX cX g8 hA dA hX dX) := Lib.hid (HW.out.below (below_drewN (Below.refl _ _) 1))
        have HSS := Lib.hid (fun (W : World) (h : Two w W p A c X d (erIf (fun i => decide (i < p.bf.length) && decide ((i : Int) = pk)) p.bf) (erIf (fun i => decide (i < p.bf.length)) p.bf) g7 gA cA gX cX g8 hA dA hX dX) => two_T h (erIf_len _ _) (erIf_len _ _))
        have HQW := Lib.hid (show (erPg (fun i => decide (i < p.bf.length) && decide ((i : Int) = pk)) p).wf from erPg_wf HPW.out)
        have HRW := Lib.hid (show (erPg (fun i => decide (i < p.bf.length)) p).wf from erPg_wf HPW.out)
        have HS1 := Lib.hid (fun (W : World) (h : Two w W p A c X d (erIf (fun i => decide (i < p.bf.length) && decide ((i : Int) = pk)) p.bf) (erIf (fun i => decide (i < p.bf.length)) p.bf) g7 gA cA gX cX g8 hA dA hX dX) => HSP.out W h.b)
        have HS2 := Lib.hid (fun (W : World) (h : Two w W p A c X d (erIf (fun i => decide (i < p.bf.length) && decide ((i : Int) = pk)) p.bf) (erIf (fun i => decide (i < p.bf.length)) p.bf) g7 gA cA gX cX g8 hA dA hX dX) => secret_s (erPg (fun i => decide (i < p.bf.length) && decide ((i : Int) = pk)) p) HQW.out (some ⟨gA, 0, none⟩) (some ⟨gX, 0, none⟩) cA cX W (HTK.out W h.b) h.q.rd.1 h.q.rd.2)
        have HS3 := Lib.hid (fun (W : World) (h : Two w W p A c X d (erIf (fun i => decide (i < p.bf.length) && decide ((i : Int) = pk)) p.bf) (erIf (fun i => decide (i < p.bf.length)) p.bf) g7 gA cA gX cX g8 hA dA hX dX) => secret_s (erPg (fun i => decide (i < p.bf.length)) p) HRW.out (some ⟨hA, 0, none⟩) (some ⟨hX, 0, none⟩) dA dX W (HTK.out W h.b) h.r.rd.1 h.r.rd.2)
        have HC3 := Lib.hid (fun (W : World) (h : Two w W p A c X d (erIf (fun i => decide (i < p.bf.length) && decide ((i : Int) = pk)) p.bf) (erIf (fun i => decide (i < p.bf.length)) p.bf) g7 gA cA gX cX g8 hA dA hX dX) => scheck_s (erPg (fun i => decide (i < p.bf.length)) p) HRW.out (some ⟨hA, 0, none⟩) (some ⟨hX, 0, none⟩) dA dX W (HTK.out W h.b) h.r.rd.1 h.r.rd.2)
        unfold pgV at HS2 HS3 HC3
        have HN := Lib.hid (fun (a b c : List Bool) (r : Nat × Int) h1 h2 h3 h4 => lessA (p := p) (f := fun i => decide (i < p.bf.length) && decide ((i : Int) = pk)) (g := fun i => decide (i < p.bf.length)) (a := a) (b := b) (c := c) (r := r) (by rw [HE.out]) h1 h2 h3 h4 (fun i hi => decide_eq_true hi))
        rw [show (erPg (fun i => decide (i < p.bf.length) && decide ((i : Int) = pk)) p).rg = p.rg from rfl, show (erPg (fun i => decide (i < p.bf.length) && decide ((i : Int) = pk)) p).bf.length = p.bf.length from erIf_len _ _, show (erPg (fun i => decide (i < p.bf.length) && decide ((i : Int) = pk)) p).op = p.op from rfl] at HS2
        rw [show (erPg (fun i => decide (i < p.bf.length)) p).rg = p.rg from rfl, show (erPg (fun i => decide (i < p.bf.length)) p).bf.length = p.bf.length from erIf_len _ _, show (erPg (fun i => decide (i < p.bf.length)) p).op = p.op from rfl] at HS3 HC3
        clear HSP HQW HRW HTK HPW HW
        go_wp2_with fail
        go_region_held3 (fun w' => w'.cell? ⟨w.heap.size, 0, none⟩ = some (.int .i64 p.rg) ∧ w'.cell? ⟨w.heap.size, 1, none⟩ = some (.slice A p.bf.length c) ∧ w'.cell? ⟨w.heap.size, 2, none⟩ = some (.slice X p.op.length d) ∧ w'.cell? ⟨g7, 0, none⟩ = some (.int .i64 p.rg) ∧ w'.cell? ⟨g7, 1, none⟩ = some (.slice (some ⟨gA, 0, none⟩) p.bf.length cA) ∧ w'.cell? ⟨g7, 2, none⟩ = some (.slice (some ⟨gX, 0, none⟩) p.op.length cX) ∧ w'.cell? ⟨g8, 0, none⟩ = some (.int .i64 p.rg) ∧ w'.cell? ⟨g8, 1, none⟩ = some (.slice (some ⟨hA, 0, none⟩) p.bf.length dA) ∧ w'.cell? ⟨g8, 2, none⟩ = some (.slice (some ⟨hX, 0, none⟩) p.op.length dX) ∧ Two w w' p A c X d (erIf (fun i => decide (i < p.bf.length) && decide ((i : Int) = pk)) p.bf) (erIf (fun i => decide (i < p.bf.length)) p.bf) g7 gA cA gX cX g8 hA dA hX dX)
          (first | with_reducible exact HSS.out _ HFD.out | with_reducible exact HSS.out _ hFC | with_reducible exact HSS.out _ hFB | with_reducible exact HSS.out _ hFA | fail)
          (first
            | (have hq := hbB; clear hq; go_at_call 44; refine (HS3.out _ hFB).mono ?_; rintro e wC ⟨⟨vC, lC, rfl, hvC, hlC⟩, hbC⟩; have hFC := hFB.below hbC)
            | (have hq := hbA; clear hq; go_at_call 44; refine (HS2.out _ hFA).mono ?_; rintro e wB ⟨⟨vB, lB, rfl, hvB, hlB⟩, hbB⟩; have hFB := hFA.below hbB)
            | (go_at_call 44; refine (HS1.out _ HFD.out).mono ?_; rintro e wA ⟨⟨vA, lA, rfl, hvA, hlA⟩, hbA⟩; have hFA := HFD.out.below hbA)
            | fail)
        obtain ⟨Aa, ca, rfl, hca⟩ := rws_form hvA
        obtain ⟨Ab, cb, rfl, hcb⟩ := rws_form hvB
        obtain ⟨Ac, cc, rfl, hcc⟩ := rws_form hvC
        have HVA := Lib.hid (own_below (own_below hvA hbB) hbC)
        have HVB := Lib.hid (own_below hvB hbC)
        have HVC := Lib.hid hvC
        have HLA := Lib.hid hlA
        have HLB := Lib.hid hlB
        have HLC := Lib.hid hlC
        have HFC := Lib.hid hFC
        clear hvA hvB hvC hlA hlB hlC hFA hFB hFC hbA hbB hbC hca hcb hcc HS1 HS2 HS3 HFD
        obtain ⟨a0, a1, a2, q0, q1, q2, r0, r1, r2, _⟩ := HSS.out _ HFC.out
        go_wp2_with fail
        go_at_call 42
        refine (HC3.out _ HFC.out).mono ?_
        rintro e w11 ⟨⟨r, rfl, hr⟩, hb⟩
        have HF11 := Lib.hid (HFC.out.below hb)
        have HVA11 := Lib.hid (rws_rd (T := Bool) (own_below HVA.out hb)).2.1
        have HVB11 := Lib.hid (rws_rd (T := Bool) (own_below HVB.out hb)).2.1
        have HVC11 := Lib.hid (rws_rd (T := Bool) (own_below HVC.out hb)).2.1
        obtain ⟨ha, hbl, hc, hr0, hab⟩ := HN.out lA lB lC r HLA.out HLB.out HLC.out hr
        subst hr0
        clear hb hr a0 a1 a2 q0 q1 q2 r0 r1 r2 HFC HVA HVB HVC HC3 HLA HLB HLC HN
        obtain ⟨a0, a1, a2, q0, q1, q2, r0, r1, r2, _⟩ := HSS.out _ HF11.out
        have HAB := Lib.hid hab
        obtain ⟨N, hN⟩ := Int.eq_ofNat_of_zero_le l3
        have hNt : p.rg.toNat = N := by omega
        rw [hNt] at ha hbl hc
        rw [ha] at HVA11 ⊢
        rw [hbl] at HVB11 ⊢
        rw [hc] at HVC11 ⊢
        have en : ((N : Int) != p.rg) = false := by rw [hN]; simp
        have eo : ((p.op.length : Int) != (p.op.length : Int)) = false := by simp
        have HNT := Lib.hid hNt
        have HN' := Lib.hid hN
        clear hab ha hbl hc hNt hN
        have HB11 := Lib.hid HF11.out.b
        clear HSS HF11
        go_wp2_with fail
        go_loopw [15] (fun i W => ∃ k : Nat, k ≤ N ∧ i = .int .i64 (k : Int) ∧ W = w11) (fun i _ => N - (intOf i).toNat)
        case atStart => exact ⟨0, Nat.zero_le _, rfl, rfl⟩
        case round =>
          obtain ⟨k, hk, rfl, rfl⟩ := hrel
          rcases Nat.lt_or_ge k N with hlt | hge
          · have hki : (k : Int) < p.rg := by rw [HN'.out]; omega
            have hkn : (k : Int) < (N : Int) := by omega
            have hk0 : (0 : Int) ≤ (k : Int) := by omega
            have ew : IntKind.i64.wrap ((k : Int) + 1) = ((k + 1 : Nat) : Int) := by rw [show (k : Int) + 1 = ((k + 1 : Nat) : Int) by omega]; exact IntWalk.i64_in _ (by omega)
            obtain ⟨x, y, hx, hy, hz, hyx⟩ := HAB.out k (by rw [HNT.out]; exact hlt)
            obtain ⟨xb, xo, rfl, _, x0⟩ := bool_at HVA11.out hx
            obtain ⟨yb, yo, rfl, _, y0⟩ := bool_at HVB11.out hy
            obtain ⟨zb, zo, rfl, _, z0⟩ := bool_at HVC11.out hz
            clear hx hy hz
            cases y
            · go_wp2_with fail
              go_roundw
              case rel => exact ⟨k + 1, by omega, by first | rfl | go_num, by first | rfl | trivial⟩
              case measure => (simp [intOf] <;> omega)
            · obtain rfl := hyx rfl
              go_wp2_with fail
              go_roundw
              case rel => exact ⟨k + 1, by omega, by first | rfl | go_num, by first | rfl | trivial⟩
              case measure => (simp [intOf] <;> omega)
          · have hki : ¬ (k : Int) < p.rg := by rw [HN'.out]; omega
            go_wp2_with fail
            go_ret
            exact ⟨rfl, HB11.out⟩
end secrecyLess
end Go.Proofs.YtjdpbelfagkaiaaDoor
