/- LightProg, and what it tells of a program. | SecrecyNamed: what is secret does not hang on the order of buffers, nor on what is put ahead into a register of its own. -/
import Derived.Test.YtjdpbelfagkaiaaDoorN1
import Derived.Test.YtjdpbelfagkaiaaDoorSC
import Derived.Test.YtjdpbelfagkaiaaDoorF4
import Derived.Test.YtjdpbelfagkaiaaDoorR5
import Derived.Test.YtjdpbelfagkaiaaDoorN3
import Derived.BigQuiet
namespace Go.Proofs.YtjdpbelfagkaiaaDoor
open Go Go.RowKit Go.Sort Go.Shelf
namespace Lb
open Wd Nt Gr
set_option linter.unusedVariables false
set_option linter.unusedSimpArgs false
/-- with what it tells of the program -/
def LgP2 (p : Pg) (most : Int) (w : World) (e : Ending) (w' : World) : Prop := (∃ b, e = .returned (.bool b) ∧ (b = true → p.rg ≤ 100 ∧ p.bf.length ≤ 40 ∧ (p.op.length : Int) ≤ most)) ∧ Below w.heap.size w w'
set_option maxRecDepth 100000 in
set_option maxHeartbeats 4000000 in
theorem lightProg2_l (p : Pg) (hp : p.wf) (A X : Option Addr) (c d : Nat) (most : Int) (w : World) (hR : Rdr w w.heap.size A p.bf.length p.bf) :
    Calls Tryd.prog 26 #[pgV p A c X d, .int .i64 most] w (LgP2 p most w) := by
  unfold pgV at *
  have HB := Lib.hid (bel_al (w := w) (.cells #[.int .i64 p.rg, .slice A p.bf.length c, .slice X p.op.length d] 26))
  have HK := Lib.hid (Bk.new w 26 #[.int .i64 p.rg, .slice A p.bf.length c, .slice X p.op.length d])
  have HR := Lib.hid (hR.below HB.out)
  clear hR
  obtain ⟨W0, hW0⟩ : ∃ W0, W0 = w.alloc (.cells #[.int .i64 p.rg, .slice A p.bf.length c, .slice X p.op.length d] 26) := ⟨_, rfl⟩
  have HW0 := Lib.hid hW0
  rw [← hW0] at HB HK HR
  clear hW0
  go_enter Tryd.func26, Tryd.ntmps26
  go_wp2_with fail
  go_loopw [5, 6] (fun n i W => ∃ (k : Nat) (z : Int), k ≤ p.bf.length ∧ k ≤ 41 ∧ n = .int .i64 z ∧ i = .int .i64 (k : Int) ∧ Hid (W = W0)) (fun _ i _ => 41 - (intOf i).toNat)
  case atStart => exact ⟨0, 0, by omega, by omega, rfl, rfl, Lib.hid HW0.out.symm⟩
  case round =>
    obtain ⟨k, z, hk, hk41, rfl, rfl, HW⟩ := hrel
    have hw := HW.out
    rw [← hw] at HB HK HR
    clear hw
    obtain ⟨a0, a1, a2⟩ := c3 HK.out
    rcases Nat.lt_or_ge k p.bf.length with hlt | hge
    · have hki : (k : Int) < (p.bf.length : Int) := by omega
      have hk0 : (0 : Int) ≤ (k : Int) := by omega
      rcases Nat.lt_or_ge 40 k with h40 | h40
      · have h4 : ¬ (k : Int) ≤ 40 := by omega
        have g2 : ¬ (p.bf.length : Int) ≤ 40 := by omega
        (by_cases g1 : p.rg ≤ 100 <;> (go_wp2_with fail; go_ret; exact ⟨⟨_, rfl, fun h => by first | (cases h; done) | exact ⟨g1, by omega, g3⟩⟩, HB.out⟩))
      · have h4 : (k : Int) ≤ 40 := by omega
        obtain ⟨b, o, rfl, hblt, s0, s1, s2⟩ := bf_at HR.out (bfAt_some hlt)
        have ew : IntKind.i64.wrap ((k : Int) + 1) = ((k + 1 : Nat) : Int) := by rw [show (k : Int) + 1 = ((k + 1 : Nat) : Int) by omega]; exact IntWalk.i64_in _ (by omega)
        generalize bfAt p.bf (k : Int) = bb at *
        obtain ⟨sz, kd, sec⟩ := bb
        dsimp only at *
        by_cases h5 : 0 < sz
        · by_cases h6 : sz ≤ 65536
          · go_wp2_with fail
            go_roundw
            case rel => exact ⟨k + 1, _, by omega, by omega, rfl, by first | rfl | go_num, HW⟩
            case measure => (simp [intOf] <;> omega)
          · go_wp2_with fail
            go_roundw
            case rel => exact ⟨k + 1, _, by omega, by omega, rfl, by first | rfl | go_num, HW⟩
            case measure => (simp [intOf] <;> omega)
        · go_wp2_with fail
          go_roundw
          case rel => exact ⟨k + 1, _, by omega, by omega, rfl, by first | rfl | go_num, HW⟩
          case measure => (simp [intOf] <;> omega)
    · have hki : ¬ (k : Int) < (p.bf.length : Int) := by omega
      rcases Nat.lt_or_ge 40 p.bf.length with h40 | h40
      · have g2 : ¬ (p.bf.length : Int) ≤ 40 := by omega
        (by_cases g1 : p.rg ≤ 100 <;> (go_wp2_with fail; go_ret; exact ⟨⟨_, rfl, fun h => by first | (cases h; done) | exact ⟨g1, by omega, g3⟩⟩, HB.out⟩))
      · have g2 : (p.bf.length : Int) ≤ 40 := by omega
        (by_cases g1 : p.rg ≤ 100 <;> by_cases g3 : (p.op.length : Int) ≤ most <;> by_cases g4 : z ≤ 600 <;> (go_wp2_with fail; go_ret; exact ⟨⟨_, rfl, fun h => by first | (cases h; done) | exact ⟨g1, by omega, g3⟩⟩, HB.out⟩))
end Lb
end Go.Proofs.YtjdpbelfagkaiaaDoor
namespace Go.Proofs.YtjdpbelfagkaiaaDoor
open Go Go.RowKit Go.Sort Go.Shelf
namespace secrecyNamed
open Wd Nt Gr Lb
theorem chkL_le (bufs : List Bf) (s : Nat) : ∀ (ops : List Lb.Op) (n : Nat), (chkL bufs s ops n).1 ≤ n + ops.length
  | [], n => by unfold chkL; simp
  | o :: ops, n => by
    unfold chkL
    split
    · have := chkL_le bufs s ops (n + 1)
      rw [List.length_cons]
      omega
    · simp
set_option linter.unusedVariables false
set_option linter.unusedSimpArgs false
set_option maxRecDepth 100000 in
set_option maxHeartbeats 16000000 in
theorem walk_ (w : World) (hT : TabF w) (p : Pg) (A X : Option Addr) (c d : Nat) (z : Int) (hp : p.wf) (hR : Rdr w w.heap.size A p.bf.length p.bf) (hX : Rdr w w.heap.size X p.op.length p.op)
    (hpc : p.bf.length ≤ c ∧ c ≤ 9223372036854775807) (hpd : p.op.length ≤ d ∧ d ≤ 9223372036854775807) (hz : W z) :
    Calls Tryd.prog 11 #[pgV p A c X d, .int .u64 z] w fun e w' => e = .returned (.bool true) ∧ Below w.heap.size w w' := by
  have HL := Lib.hid (fun (W : World) (hb : Below w.heap.size w W) => slives_l W (hT.keep hb))
  have HCR := Lib.hid (fun (W : World) (hb : Below w.heap.size w W) => check_r p hp A X c d W ((hR.below hb).more hb.size) ((hX.below hb).more hb.size))
  have HLP := Lib.hid (fun (W : World) (hb : Below w.heap.size w W) => lightProg2_l p hp A X c d 60 W ((hR.below hb).more hb.size))
  have HOP := Lib.hid (fun (h1 : p.bf.length ≤ 100000) (h2 : p.op.length ≤ 100000) (W : World) (hb : Below w.heap.size w W) => ownProg_l p A X c d W ((hR.below hb).more hb.size) ((hX.below hb).more hb.size) h1 h2)
  have HSP := Lib.hid (fun (W : World) (hb : Below w.heap.size w W) => secret_s p hp A X c d W (hT.keep hb) ((hR.below hb).more hb.size) ((hX.below hb).more hb.size))
  have HSC := Lib.hid (fun (W : World) (hb : Below w.heap.size w W) => scheck_s p hp A X c d W (hT.keep hb) ((hR.below hb).more hb.size) ((hX.below hb).more hb.size))
  have HTK := Lib.hid (fun (W : World) (hb : Below w.heap.size w W) => hT.keep hb)
  have HRR := Lib.hid (fun (W : World) (hb : Below w.heap.size w W) => hR.below hb)
  have HXX := Lib.hid (fun (W : World) (hb : Below w.heap.size w W) => (hX.below hb).more hb.size)
  have HCK : Hid (∀ n : Nat, chkP p = (n, 0) → p.bf.length ≤ 32 ∧ p.op.length ≤ 65536 ∧ 0 ≤ p.rg ∧ p.rg ≤ 64) := Lib.hid (fun n h => by
    have := ref_zero (ok_of (p := p) (by rw [h])).ref
    exact ⟨by omega, by omega, this.2.2.2.1, this.1⟩)
  have HPW := Lib.hid hp
  unfold pgV at *
  have HZ := Lib.hid hz
  clear hT hR hX hpc hpd hz hp
  have HB0 := Lib.hid (bel_al (w := w) (.cells #[.int .i64 p.rg, .slice A p.bf.length c, .slice X p.op.length d] 26))
  have HK0 := Lib.hid (Bk.new w 26 #[.int .i64 p.rg, .slice A p.bf.length c, .slice X p.op.length d])
  obtain ⟨ck, hck⟩ : ∃ ck, chkP p = ck := ⟨_, rfl⟩
  have HE := Lib.hid hck
  rw [hck] at HCR HCK
  clear hck
  obtain ⟨k1, k2⟩ := ck
  dsimp only at HCR
  unfold OwnP at HOP
  unfold pgV at HOP
  go_enter Tryd.func11, Tryd.ntmps11
  go_wp2_with fail
  go_at_call 39
  refine (HL.out _ HB0.out).mono ?_
  rintro e w1 ⟨rfl, hb⟩
  have HB1 := Lib.hid (bel_tr HB0.out hb)
  have HK1 := Lib.hid (HK0.out.below hb HK0.out.lt)
  clear hb HL HB0 HK0
  obtain ⟨a0, a1, a2⟩ := c3 HK1.out
  go_wp2_with fail
  go_at_call 29
  refine (HCR.out _ HB1.out).mono ?_
  rintro e w2 ⟨rfl, hb⟩
  have HB2 := Lib.hid (bel_tr HB1.out hb)
  have HK2 := Lib.hid (HK1.out.below hb HK1.out.lt)
  clear hb HCR HB1 HK1 a0 a1 a2
  obtain ⟨a0, a1, a2⟩ := c3 HK2.out
  go_wp2_with fail
  go_at_call 26
  refine (HLP.out _ HB2.out).mono ?_
  rintro e w3 ⟨⟨b1, rfl, hb1⟩, hb⟩
  have HB3 := Lib.hid (bel_tr HB2.out hb)
  have HK3 := Lib.hid (HK2.out.below hb HK2.out.lt)
  clear hb HLP HB2 HK2 a0 a1 a2
  obtain ⟨a0, a1, a2⟩ := c3 HK3.out
  cases b1
  · go_wp2_with fail
    go_ret
    exact ⟨rfl, HB3.out⟩
  by_cases h0 : k2 = 0
  case neg =>
    have hne : (k2 != 0) = true := by simpa using h0
    clear h0
    go_wp2_with fail
    go_ret
    exact ⟨rfl, HB3.out⟩
  subst h0
  by_cases h60 : 60 < p.rg
  · go_wp2_with fail
    go_ret
    exact ⟨rfl, HB3.out⟩
  obtain ⟨l1, l2, l3, l4⟩ := HCK.out k1 rfl
  have l5 : p.op.length ≤ 60 := by have := (hb1 rfl).2.2; omega
  have HOP3 := Lib.hid (fun W hb => HOP.out (by omega) (by omega) W hb)
  clear HOP HCK hb1
  go_wp2_with fail
  go_at_call 33
  refine (HOP3.out _ HB3.out).mono ?_
  rintro e w4 ⟨hb4, gA, cA, gX, cX, rfl, hA4, hX4⟩
  have HB4 := Lib.hid (bel_tr HB3.out hb4)
  have HK4 := Lib.hid (HK3.out.below hb4 HK3.out.lt)
  have HA4 := Lib.hid (own_mono (B' := w.heap.size) hA4 HB3.out.size)
  have HX4 := Lib.hid (own_mono (B' := w.heap.size) hX4 HB3.out.size)
  clear hb4 hA4 hX4 HB3 HK3 a0 a1 a2
  go_upto_region 7 with fail
  have HO4 : Hid (One w (w4.alloc (.cells #[.int .i64 p.rg, .slice (some ⟨gA, 0, none⟩) p.bf.length cA, .slice (some ⟨gX, 0, none⟩) p.op.length cX] 26)) p A c X d p.rg (rvB 0 p.bf) p.op w4.heap.size gA cA gX cX) := Lib.hid (by
    rw [rvB_0]
    exact ⟨HK4.out.alloc _, ⟨Bk.new _ _ _, own_below HA4.out (bel_al _), own_below HX4.out (bel_al _)⟩, (Nat.ne_of_lt HK4.out.lt).symm, bel_al' HB4.out _⟩)
  obtain ⟨W5, hW5⟩ : ∃ W5, W5 = w4.alloc (.cells #[.int .i64 p.rg, .slice (some ⟨gA, 0, none⟩) p.bf.length cA, .slice (some ⟨gX, 0, none⟩) p.op.length cX] 26) := ⟨_, rfl⟩
  rw [← hW5] at HO4
  rw [← hW5]
  obtain ⟨g, hg⟩ : ∃ g, w4.heap.size = g := ⟨_, rfl⟩
  rw [hg] at HO4 ⊢
  clear hW5 hg HB4 HK4 HA4 HX4
  go_wp2_with fail
  go_loopw [8] (fun i W => ∃ k : Nat, k ≤ p.bf.length ∧ i = .int .i64 (k : Int) ∧ Hid (One w W p A c X d p.rg (rvB k p.bf) p.op g gA cA gX cX)) (fun i _ => p.bf.length - (intOf i).toNat)
  case atStart => exact ⟨0, Nat.zero_le _, rfl, HO4⟩
  case round =>
    obtain ⟨k, hk, rfl, HW⟩ := hrel
    clear HO4
    obtain ⟨a0, a1, a2⟩ := c3 HW.out.box
    have hq := HW.out.q.k
    rw [rvB_len hk] at hq
    obtain ⟨q0, q1, q2⟩ := c3 hq
    clear hq
    rcases Nat.lt_or_ge k p.bf.length with hlt | hge
    · have hki : (k : Int) < (p.bf.length : Int) := by omega
      have hk0 : (0 : Int) ≤ (k : Int) := by omega
      have ew : IntKind.i64.wrap ((k : Int) + 1) = ((k + 1 : Nat) : Int) := by rw [show (k : Int) + 1 = ((k + 1 : Nat) : Int) by omega]; exact IntWalk.i64_in _ (by omega)
      obtain ⟨j, hj⟩ : ∃ j : Nat, j = p.bf.length - 1 - k := ⟨_, rfl⟩
      have hjl : j < p.bf.length := by omega
      have e1 : IntKind.i64.wrap ((p.bf.length : Int) - 1) = (p.bf.length : Int) - 1 := IntWalk.i64_in _ (by omega)
      have e2 : IntKind.i64.wrap ((p.bf.length : Int) - 1 - (k : Int)) = (j : Int) := by rw [show (p.bf.length : Int) - 1 - (k : Int) = (j : Int) by omega]; exact IntWalk.i64_in _ (by omega)
      have hji : (j : Int) < (p.bf.length : Int) := by omega
      have hj0 : (0 : Int) ≤ (j : Int) := by omega
      obtain ⟨x, hx⟩ : ∃ b, p.bf[j]? = some b := ⟨_, List.getElem?_eq_getElem hjl⟩
      obtain ⟨bq, hbq⟩ : ∃ b, (rvB k p.bf)[k]? = some b := ⟨_, List.getElem?_eq_getElem (by rw [rvB_len hk]; exact hlt)⟩
      obtain ⟨bb, bo, rfl, hbb, s0, s1, s2⟩ := bf_at (HRR.out wr HW.out.b) hx
      obtain ⟨_, _, e0, hb7, t0, t1, t2⟩ := bf_at HW.out.q.rd.1 hbq
      cases e0
      rw [Nat.zero_add] at t0 t1 t2
      have f0 := World.ownsRow.frozenAt HW.out.q.bs (k * 3)
      have f1 := World.ownsRow.frozenAt HW.out.q.bs (k * 3 + 1)
      have f2 := World.ownsRow.frozenAt HW.out.q.bs (k * 3 + 2)
      have HP := Lib.hid ((HW.out.below (below_drewN (Below.refl _ _) 1)).put hbq x)
      rw [rvB_set hlt (by rw [← hj]; exact hx)] at HP
      obtain ⟨xs, xk, xc⟩ := x
      clear hx hbq hbb hj
      dsimp only at *
      have x0 : wr.drew.cell? ⟨w.heap.size, 1, none⟩ = some (.slice (some ⟨bb, bo, none⟩) p.bf.length c) := a1
      have x1 : wr.drew.cell? ⟨g, 1, none⟩ = some (.slice (some ⟨gA, 0, none⟩) p.bf.length cA) := q1
      have x2 : wr.drew.cell? ⟨bb, bo + j * 3, none⟩ = some (.int .i64 xs) := s0
      have x3 : wr.drew.cell? ⟨bb, bo + j * 3 + 1, none⟩ = some (.int .i64 xk) := s1
      have x4 : wr.drew.cell? ⟨bb, bo + j * 3 + 2, none⟩ = some (.bool xc) := s2
      have x5 : wr.drew.cell? ⟨gA, k * 3, none⟩ = some (.int .i64 bq.sz) := t0
      have x6 : wr.drew.cell? ⟨gA, k * 3 + 1, none⟩ = some (.int .i64 bq.kd) := t1
      have x7 : wr.drew.cell? ⟨gA, k * 3 + 2, none⟩ = some (.bool bq.sec) := t2
      have y0 : wr.drew.frozen? ⟨gA, k * 3, none⟩ = false := f0
      have y1 : wr.drew.frozen? ⟨gA, k * 3 + 1, none⟩ = false := f1
      have y2 : wr.drew.frozen? ⟨gA, k * 3 + 2, none⟩ = false := f2
      go_wp2_with fail
      refine wp_region_still_tail 14 (by kernel_rfl) (by kernel_rfl) ?_
      simp only [List.take_succ_cons, List.take_zero, List.drop_succ_cons, List.drop_zero]
      iterate 14 still_step
      refine wpStill_nil ?_
      go_wp2_with fail
      go_roundw
      case rel => exact ⟨k + 1, by omega, by first | rfl | go_num, HP⟩
      case measure => (simp [intOf] <;> omega)
    · obtain rfl : k = p.bf.length := by omega
      have HO5 := Lib.hid HW.out
      rw [rvB_all] at HO5
      clear HW
      go_wp2_with fail
      go_loopw [9] (fun i W => ∃ k : Nat, k ≤ p.op.length ∧ i = .int .i64 (k : Int) ∧ Hid (One w W p A c X d p.rg p.bf.reverse (rnO (p.bf.length : Int) k p.op) g gA cA gX cX)) (fun i _ => p.op.length - (intOf i).toNat)
      case atStart =>
        refine ⟨0, Nat.zero_le _, rfl, ?_⟩
        rw [rnO_0]
        exact HO5
      case round =>
        clear HO5 a0 a1 a2 q0 q1 q2
        obtain ⟨k, hk, rfl, HW⟩ := hrel
        obtain ⟨a0, a1, a2⟩ := c3 HW.out.box
        have hq := HW.out.q.k
        rw [List.length_reverse, rnO_len] at hq
        obtain ⟨q0, q1, q2⟩ := c3 hq
        clear hq
        rcases Nat.lt_or_ge k p.op.length with hlt | hge
        · have hki : (k : Int) < (p.op.length : Int) := by omega
          have hk0 : (0 : Int) ≤ (k : Int) := by omega
          have ew : IntKind.i64.wrap ((k : Int) + 1) = ((k + 1 : Nat) : Int) := by rw [show (k : Int) + 1 = ((k + 1 : Nat) : Int) by omega]; exact IntWalk.i64_in _ (by omega)
          obtain ⟨o, ho⟩ : ∃ o, p.op[k]? = some o := ⟨_, List.getElem?_eq_getElem hlt⟩
          obtain ⟨_, _, e0, hb7, t0, t1, t2, t3, t4, t5, t6, t7⟩ := op_at HW.out.q.rd.2 (rnO_get.trans ho)
          cases e0
          rw [Nat.zero_add] at t0 t1 t2 t3 t4 t5 t6 t7
          have f6 := World.ownsRow.frozenAt HW.out.q.os (k * 8 + 6)
          by_cases hm : o.k = 14 ∨ o.k = 15
          · have hbf := (ok_of (p := p) (by rw [HE.out])).bfl (List.mem_of_getElem? ho) hm
            have e1 : IntKind.i64.wrap ((p.bf.length : Int) - 1) = (p.bf.length : Int) - 1 := IntWalk.i64_in _ (by omega)
            have e2 : IntKind.i64.wrap ((p.bf.length : Int) - 1 - o.bf) = (p.bf.length : Int) - 1 - o.bf := IntWalk.i64_in _ (by omega)
            have HP := Lib.hid ((HW.out.below (below_drewN (Below.refl _ _) 1)).bf (rnO_get.trans ho) ((p.bf.length : Int) - 1 - o.bf))
            rw [show ({ o with bf := (p.bf.length : Int) - 1 - o.bf } : Lb.Op) = reNo (p.bf.length : Int) o by unfold reNo; rw [if_pos hm], rnO_set ho] at HP
            have g1 : (o.k == 14) = true ∨ (o.k == 14) = false ∧ (o.k == 15) = true := by
              rcases hm with h | h
              · left; rw [beq_iff_eq]; exact h
              · right; exact ⟨by rw [beq_eq_false_iff_ne]; omega, by rw [beq_iff_eq]; exact h⟩
            have x0 : wr.drew.cell? ⟨w.heap.size, 1, none⟩ = some (.slice A p.bf.length c) := a1
            have x1 : wr.drew.cell? ⟨g, 2, none⟩ = some (.slice (some ⟨gX, 0, none⟩) p.op.length cX) := q2
            have x2 : wr.drew.cell? ⟨gX, k * 8 + 6, none⟩ = some (.int .i64 o.bf) := t6
            have y0 : wr.drew.frozen? ⟨gX, k * 8 + 6, none⟩ = false := f6
            obtain ⟨ok, od, oe, oa, ob, oc, obf, oim⟩ := o
            dsimp only at *
            clear ho hm hbf
            rcases g1 with g1 | ⟨g1, g2⟩
            all_goals (
              go_wp2_with fail
              refine wp_region_still_tail 16 (by kernel_rfl) (by kernel_rfl) ?_
              simp only [List.take_succ_cons, List.take_zero, List.drop_succ_cons, List.drop_zero]
              iterate 16 still_step
              refine wpStill_nil ?_
              go_wp2_with fail
              go_roundw
              case rel => exact ⟨k + 1, by omega, by first | rfl | go_num, HP⟩
              case measure => (simp [intOf] <;> omega))
          · have g1 : (o.k == 14) = false := by rw [beq_eq_false_iff_ne]; omega
            have g2 : (o.k == 15) = false := by rw [beq_eq_false_iff_ne]; omega
            have HP := Lib.hid HW.out
            rw [← rnO_skip ho hm] at HP
            obtain ⟨ok, od, oe, oa, ob, oc, obf, oim⟩ := o
            dsimp only at *
            clear ho hm
            go_wp2_with fail
            go_roundw
            case rel => exact ⟨k + 1, by omega, by first | rfl | go_num, HP⟩
            case measure => (simp [intOf] <;> omega)
        · obtain rfl : k = p.op.length := by omega
          have HO6 := Lib.hid HW.out
          rw [rnO_all] at HO6
          have HOP6 := Lib.hid (HOP3.out wr HW.out.b)
          have hlo := HW.out.lo
          have HHK := Lib.hid (ok_of (p := p) (by rw [HE.out]))
          clear HW HOP3
          go_wp2_with fail
          go_at_call 33
          refine HOP6.out.mono ?_
          rintro e w6 ⟨hb6, hA, dA, hX, dX, rfl, hA6, hX6⟩
          have hs6 := hb6.size
          have HO7 := Lib.hid ((HO6.out.below hb6).below (bel_al (.cells #[.int .i64 p.rg, .slice (some ⟨hA, 0, none⟩) p.bf.length dA, .slice (some ⟨hX, 0, none⟩) p.op.length dX] 26)))
          have HR7 := Lib.hid (Bk.new w6 26 #[.int .i64 p.rg, .slice (some ⟨hA, 0, none⟩) p.bf.length dA, .slice (some ⟨hX, 0, none⟩) p.op.length dX])
          have HB7 := Lib.hid (own_below (own_mono (B' := w.heap.size) hA6 (by omega)) (bel_al (.cells #[.int .i64 p.rg, .slice (some ⟨hA, 0, none⟩) p.bf.length dA, .slice (some ⟨hX, 0, none⟩) p.op.length dX] 26)))
          have hhA := (ownLt hA6).2
          clear hA6 hX6 hb6 HOP6 HO6 a0 a1 a2 q0 q1 q2
          go_upto_region 17 with fail
          obtain ⟨W6, hW6⟩ : ∃ W6, W6 = w6.alloc (.cells #[.int .i64 p.rg, .slice (some ⟨hA, 0, none⟩) p.bf.length dA, .slice (some ⟨hX, 0, none⟩) p.op.length dX] 26) := ⟨_, rfl⟩
          rw [← hW6] at HO7 HR7 HB7
          rw [← hW6]
          obtain ⟨g3, hg3⟩ : ∃ g3, w6.heap.size = g3 := ⟨_, rfl⟩
          rw [hg3] at HR7 hhA hs6
          rw [hg3]
          clear hW6 hg3
          obtain ⟨a0, a1, a2⟩ := c3 HO7.out.box
          obtain ⟨r0, r1, r2⟩ := c3 HR7.out
          have rf0 := HR7.out.frozen 0
          have er1 : IntKind.i64.wrap (p.rg + 1) = p.rg + 1 := IntWalk.i64_in _ (by omega)
          have HO8 := Lib.hid (HO7.out.far (a := g3) (i := 0) (u := .int .i64 (p.rg + 1)) (by omega) (by omega) (by omega) (by omega))
          have HR8 := Lib.hid (HR7.out.set_ 0 (.int .i64 (p.rg + 1)))
          have HB8 := Lib.hid (own_far (i := 0) (u := .int .i64 (p.rg + 1)) HB7.out HR7.out (show (29 : TypeId) ≠ 26 by decide))
          have hg3W := HR7.out.lt
          have hw3 : w.heap.size < g3 := by omega
          clear HO7 HR7 HB7
          go_upto_region 18 with fail
          obtain ⟨W7, hW7⟩ : ∃ W7, W7 = W6.setCell ⟨g3, 0, none⟩ (.int .i64 (p.rg + 1)) := ⟨_, rfl⟩
          rw [← hW7] at HO8 HR8 HB8
          rw [← hW7]
          have hsz7 : W7.heap.size = W6.heap.size := by rw [hW7]; exact World.size_setCell _ _ _
          clear hW7 a0 a1 a2 r0 r1 r2 rf0
          obtain ⟨a0, a1, a2⟩ := c3 HO8.out.box
          have HSO := Lib.hid (fun W => sop_l 1 p.rg (-1) (-1) 0 z W)
          unfold Op.vs at HSO
          dsimp only at HSO
          simp only [List.toArray] at HSO
          obtain ⟨n9, hn9⟩ : ∃ n9, ([cstO p.rg z] ++ p.op).length = n9 := ⟨_, rfl⟩
          have KEY : Hid (∀ w8, w8 = W7.drew.alloc (.cells { toList := [.int .i64 1, .int .i64 p.rg, .int .i64 (-1), .int .i64 (-1), .int .i64 (-1), .int .i64 (-1), .int .i64 0, .int .u64 z] } 33) →
              ∃ A9 c9 w9, (Builtin.append_ #[24, 24] 24 #[.slice (some ⟨w8.heap.size, 0, none⟩) 1 1, .slice X p.op.length d]).run Tryd.prog (w8.alloc (.cells #[.int .i64 1, .int .i64 p.rg, .int .i64 (-1), .int .i64 (-1), .int .i64 (-1), .int .i64 (-1), .int .i64 0, .int .u64 z] 33)) = .ok (.slice A9 n9 c9) w9 ∧
                One w w9 p A c X d p.rg p.bf.reverse (p.op.map (reNo (p.bf.length : Int))) g gA cA gX cX ∧ Bk w9 g3 26 #[.int .i64 (p.rg + 1), .slice (some ⟨hA, 0, none⟩) p.bf.length dA, .slice (some ⟨hX, 0, none⟩) p.op.length dX] ∧ Rws 29 w.heap.size (.slice (some ⟨hA, 0, none⟩) p.bf.length dA) p.bf w9 ∧ Rws 33 w.heap.size (.slice A9 n9 c9) ([cstO p.rg z] ++ p.op) w9 ∧
                w8.cell? ⟨w.heap.size, 2, none⟩ = some (.slice X p.op.length d) ∧ w.heap.size < w8.heap.size) := Lib.hid (fun w8 h8 => by
            obtain ⟨i, hi, hz, q2, q3⟩ := info_parts info_lop
            have hbe1 : Below W7.heap.size W7 w8 := by rw [h8]; exact bel_al' (x := W7.drew) (below_drewN (Below.refl _ _) 1) _
            have hbe2 : Below W7.heap.size W7 (w8.alloc (.cells #[.int .i64 1, .int .i64 p.rg, .int .i64 (-1), .int .i64 (-1), .int .i64 (-1), .int .i64 (-1), .int .i64 0, .int .u64 z] 33)) := bel_al' hbe1 _
            have hsz8 : w8.heap.size = W7.heap.size + 1 := by rw [h8, World.size_alloc, World.size_drew]
            have hlit : Bk (w8.alloc (.cells #[.int .i64 1, .int .i64 p.rg, .int .i64 (-1), .int .i64 (-1), .int .i64 (-1), .int .i64 (-1), .int .i64 0, .int .u64 z] 33)) w8.heap.size 33 (row [cstO p.rg z]).toArray := Bk.new _ _ _
            have hown := bk_rws (B := w.heap.size) hlit (by omega) (by simp)
            obtain ⟨v9, w9, hap, h9, hgr9, _⟩ := app_run (c := d) 24 33 24 i _ 64 Tryd.underlying24 hi hz q2 q3 rfl (by omega) hown (HXX.out _ (bel_tr HO8.out.b hbe2)) (by omega) (by simp) (by simp only [World.size_alloc]; omega)
            obtain ⟨A9, c9, rfl, hc9⟩ := rws_form h9
            rw [hn9] at hap h9
            exact ⟨A9, c9, w9, hap, (HO8.out.below hbe2).grown hown (by omega) (by omega) (by omega) (by omega) hgr9, own_other hown (HR8.out.below hbe2 HR8.out.lt) (show (33 : TypeId) ≠ 26 by decide) hgr9, own_own (own_below HB8.out hbe2) hown (show (29 : TypeId) ≠ 33 by decide) hgr9, h9, (HO8.out.box.below hbe1 HO8.out.box.lt).cell 2, by omega⟩)
          clear HO8 HR8 HB8
          have hw7 : w.heap.size < W7.heap.size := by omega
          have hn1 : g ≠ g3 := by omega
          have hn2 : gA ≠ g3 := by omega
          have hn3 : gX ≠ g3 := by omega
          clear hlo hs6 hhA hsz7 hg3W
          go_wp2_with fail
          go_cut [] from 107 to 115 (fun W => ∃ A9 c9, Hid (Fin3 w W p A c X d p.rg p.bf.reverse (p.op.map (reNo (p.bf.length : Int))) g gA cA gX cX (p.rg + 1) p.bf ([cstO p.rg z] ++ p.op) g3 hA dA A9 c9))
          case first =>
            go_region_law (first | (refine step_append_eq rfl _ _ 24 rfl _ _ rfl rfl _ _ hap ?_) | ((try go_simp); go_at_call 41; refine (HSO.out _).mono ?_; rintro e w8 ⟨rfl, h8⟩; obtain ⟨A9, c9, w9, hap, HO9, HR9, HB9, HH9, b2, hw8⟩ := KEY.out w8 h8; have r2 := HR9.cell 2; have rf2 := HR9.frozen 2; clear h8) | fail)
            all_goals (
              go_wp2_with fail
              go_meet
              case rel =>
                refine ⟨A9, c9, Lib.hid ⟨HO9.far (by omega) hn1 hn2 hn3, ?_, own_far HB9 HR9 (show (29 : TypeId) ≠ 26 by decide), ?_⟩⟩
                · rw [hn9]
                  exact HR9.set_ 2 _
                · rw [hn9]
                  exact own_far HH9 HR9 (show (33 : TypeId) ≠ 26 by decide))
          case rest =>
            obtain ⟨A9, c9, HF⟩ := hcut
            clear a0 a1 a2 KEY HSO
            have hl1 : p.bf.reverse.length = p.bf.length := List.length_reverse
            have hl2 : (p.op.map (reNo (p.bf.length : Int))).length = p.op.length := List.length_map _
            have HQW := Lib.hid (show (revP p).wf from revP_wf HPW.out HHK.out)
            have HAW := Lib.hid (show (aheadP p z).wf from aheadP_wf HPW.out HHK.out HZ.out)
            have HS1 := Lib.hid (fun (W : World) (h : Fin3 w W p A c X d p.rg p.bf.reverse (p.op.map (reNo (p.bf.length : Int))) g gA cA gX cX (p.rg + 1) p.bf ([cstO p.rg z] ++ p.op) g3 hA dA A9 c9) => HSP.out W h.one.b)
            have HS2 := Lib.hid (fun (W : World) (h : Fin3 w W p A c X d p.rg p.bf.reverse (p.op.map (reNo (p.bf.length : Int))) g gA cA gX cX (p.rg + 1) p.bf ([cstO p.rg z] ++ p.op) g3 hA dA A9 c9) => secret_s (revP p) HQW.out (some ⟨gA, 0, none⟩) (some ⟨gX, 0, none⟩) cA cX W (HTK.out W h.one.b) h.one.q.rd.1 h.one.q.rd.2)
            have HS3 := Lib.hid (fun (W : World) (h : Fin3 w W p A c X d p.rg p.bf.reverse (p.op.map (reNo (p.bf.length : Int))) g gA cA gX cX (p.rg + 1) p.bf ([cstO p.rg z] ++ p.op) g3 hA dA A9 c9) => secret_s (aheadP p z) HAW.out (some ⟨hA, 0, none⟩) A9 dA c9 W (HTK.out W h.one.b) h.rd3.1 h.rd3.2)
            have HC1 := Lib.hid (fun (W : World) (h : Fin3 w W p A c X d p.rg p.bf.reverse (p.op.map (reNo (p.bf.length : Int))) g gA cA gX cX (p.rg + 1) p.bf ([cstO p.rg z] ++ p.op) g3 hA dA A9 c9) => HSC.out W h.one.b)
            have HC2 := Lib.hid (fun (W : World) (h : Fin3 w W p A c X d p.rg p.bf.reverse (p.op.map (reNo (p.bf.length : Int))) g gA cA gX cX (p.rg + 1) p.bf ([cstO p.rg z] ++ p.op) g3 hA dA A9 c9) => scheck_s (revP p) HQW.out (some ⟨gA, 0, none⟩) (some ⟨gX, 0, none⟩) cA cX W (HTK.out W h.one.b) h.one.q.rd.1 h.one.q.rd.2)
            have HC3 := Lib.hid (fun (W : World) (h : Fin3 w W p A c X d p.rg p.bf.reverse (p.op.map (reNo (p.bf.length : Int))) g gA cA gX cX (p.rg + 1) p.bf ([cstO p.rg z] ++ p.op) g3 hA dA A9 c9) => scheck_s (aheadP p z) HAW.out (some ⟨hA, 0, none⟩) A9 dA c9 W (HTK.out W h.one.b) h.rd3.1 h.rd3.2)
            unfold pgV at *
            have HN := Lib.hid (fun (a b c : List Bool) (r t u : Nat × Int) h1 h2 h3 h4 h5 h6 => namedA (p := p) (n := z) (a := a) (b := b) (c := c) (r := r) (t := t) (u := u) (by rw [HE.out]) (by omega) (by omega) ⟨HZ.out.1, by have := HZ.out.2; omega⟩ h1 h2 h3 h4 h5 h6)
            rw [show (revP p).rg = p.rg from rfl, show (revP p).bf = p.bf.reverse from rfl, show (revP p).op = p.op.map (reNo (p.bf.length : Int)) from rfl, hl1, hl2] at HS2 HC2
            rw [show (aheadP p z).rg = p.rg + 1 from rfl, show (aheadP p z).bf = p.bf from rfl, show (aheadP p z).op = [cstO p.rg z] ++ p.op from rfl, hn9] at HS3 HC3
            have HSS := Lib.hid (fun (W : World) (h : Fin3 w W p A c X d p.rg p.bf.reverse (p.op.map (reNo (p.bf.length : Int))) g gA cA gX cX (p.rg + 1) p.bf ([cstO p.rg z] ++ p.op) g3 hA dA A9 c9) => h.T hl1 hl2 rfl hn9)
            have HN9 := Lib.hid hn9
            clear hn9 hl1 hl2 HSP HSC HQW HAW
            have HFD : Hid (Fin3 w wc.drew p A c X d p.rg p.bf.reverse (p.op.map (reNo (p.bf.length : Int))) g gA cA gX cX (p.rg + 1) p.bf ([cstO p.rg z] ++ p.op) g3 hA dA A9 c9) := Lib.hid (HF.out.below (below_drewN (Below.refl _ _) 1))
            go_wp2_with fail
            go_region_held3 (fun w' => w'.cell? ⟨w.heap.size, 0, none⟩ = some (.int .i64 p.rg) ∧ w'.cell? ⟨w.heap.size, 1, none⟩ = some (.slice A p.bf.length c) ∧ w'.cell? ⟨w.heap.size, 2, none⟩ = some (.slice X p.op.length d) ∧ w'.cell? ⟨g, 0, none⟩ = some (.int .i64 p.rg) ∧ w'.cell? ⟨g, 1, none⟩ = some (.slice (some ⟨gA, 0, none⟩) p.bf.length cA) ∧ w'.cell? ⟨g, 2, none⟩ = some (.slice (some ⟨gX, 0, none⟩) p.op.length cX) ∧ w'.cell? ⟨g3, 0, none⟩ = some (.int .i64 (p.rg + 1)) ∧ w'.cell? ⟨g3, 1, none⟩ = some (.slice (some ⟨hA, 0, none⟩) p.bf.length dA) ∧ w'.cell? ⟨g3, 2, none⟩ = some (.slice A9 n9 c9) ∧ Fin3 w w' p A c X d p.rg p.bf.reverse (p.op.map (reNo (p.bf.length : Int))) g gA cA gX cX (p.rg + 1) p.bf ([cstO p.rg z] ++ p.op) g3 hA dA A9 c9)
              (first | with_reducible exact HSS.out _ HFD.out | with_reducible exact HSS.out _ hFC | with_reducible exact HSS.out _ hFB | with_reducible exact HSS.out _ hFA | fail)
              (first
                | (have hq := hbB; clear hq; go_at_call 44; refine (HS3.out _ hFB).mono ?_; rintro e wC ⟨⟨vC, lC, rfl, hvC, hlC⟩, hbC⟩; have hFC := hFB.below hbC)
                | (have hq := hbA; clear hq; go_at_call 44; refine (HS2.out _ hFA).mono ?_; rintro e wB ⟨⟨vB, lB, rfl, hvB, hlB⟩, hbB⟩; have hFB := hFA.below hbB)
                | (go_at_call 44; refine (HS1.out _ HFD.out).mono ?_; rintro e wA ⟨⟨vA, lA, rfl, hvA, hlA⟩, hbA⟩; have hFA := HFD.out.below hbA)
                | fail)
            obtain ⟨Aa, ca, rfl, hca⟩ := rws_form hvA
            obtain ⟨Ab, cb, rfl, hcb⟩ := rws_form hvB
            obtain ⟨Ac, cc, rfl, hcc⟩ := rws_form hvC
            have HVA := Lib.hid (own_below (own_below hvA hbB) hbC)
            have HVB := Lib.hid (own_below hvB hbC)
            have HVC := Lib.hid hvC
            have HLA := Lib.hid hlA
            have HLB := Lib.hid hlB
            have HLC := Lib.hid hlC
            have HFC := Lib.hid hFC
            have hcc2 := hcc
            clear hvA hvB hvC hlA hlB hlC hFA hFB hFC hbA hbB hbC hca hcb HS1 HS2 HS3 HF HFD
            obtain ⟨a0, a1, a2⟩ := c3 HFC.out.one.box
            go_wp2_with fail
            go_at_call 42
            refine (HC1.out _ HFC.out).mono ?_
            rintro e w11 ⟨⟨r, rfl, hr⟩, hb⟩
            have HF11 := Lib.hid (HFC.out.below hb)
            have HVA11 := Lib.hid (own_below HVA.out hb)
            have HVB11 := Lib.hid (own_below HVB.out hb)
            have HVC11 := Lib.hid (own_below HVC.out hb)
            have HR := Lib.hid hr
            clear hb hr a0 a1 a2 HFC HVA HVB HVC HC1
            obtain ⟨a0, a1, a2, q0, q1, q2, r0, r1, r2, _⟩ := HSS.out _ HF11.out
            go_wp2_with fail
            go_at_call 42
            refine (HC2.out _ HF11.out).mono ?_
            rintro e w12 ⟨⟨t, rfl, ht⟩, hb⟩
            have HF12 := Lib.hid (HF11.out.below hb)
            have HVA12 := Lib.hid (own_below HVA11.out hb)
            have HVB12 := Lib.hid (own_below HVB11.out hb)
            have HVC12 := Lib.hid (own_below HVC11.out hb)
            have HT := Lib.hid ht
            clear hb ht a0 a1 a2 q0 q1 q2 r0 r1 r2 HF11 HVA11 HVB11 HVC11 HC2
            obtain ⟨a0, a1, a2, q0, q1, q2, r0, r1, r2, _⟩ := HSS.out _ HF12.out
            go_wp2_with fail
            go_at_call 42
            refine (HC3.out _ HF12.out).mono ?_
            rintro e w13 ⟨⟨u, rfl, hu⟩, hb⟩
            have HB13 := Lib.hid (HF12.out.below hb).one.b
            have HVA := Lib.hid (own_below HVA12.out hb)
            have HVB := Lib.hid (own_below HVB12.out hb)
            have HVC := Lib.hid (own_below HVC12.out hb)
            obtain ⟨hab, hcl, hca, hcn, hrt, hru⟩ := HN.out lA lB lC r t u HLA.out HLB.out HLC.out HR.out HT.out hu
            have hl64 : lA.length ≤ 64 := by
              have h := HLA.out
              unfold SecL at h
              rw [if_neg (by rw [HE.out]; exact fun h => h rfl)] at h
              obtain ⟨s, _, rfl⟩ := h
              rw [List.length_map, List.length_range]
              omega
            have hr1 : r.1 ≤ 60 := by
              have h := HR.out
              unfold SecA at h
              rw [if_neg (by rw [HE.out]; exact fun h => h rfl)] at h
              obtain ⟨s, _, rfl⟩ := h
              have := chkL_le p.bf s p.op 0
              omega
            clear hb hu a0 a1 a2 q0 q1 q2 r0 r1 r2 HF12 HVA12 HVB12 HVC12 HC3 HSS HN HLA HLB HLC HR HT
            subst hab hrt hru
            have hRA := (rws_rd HVA.out).2.1
            have hRB := (rws_rd HVB.out).2.1
            have hRC := (rws_rd HVC.out).2.1
            obtain ⟨xb, xo, rfl, hxb, x0⟩ := bool_at hRC hcn
            have KS1 := Lib.hid (fun W (h : ∃ q, W = w13.drewN q) => same_b Aa Ab lA.length ca lA.length cb _ _ lA lA W (hRA.keep (by obtain ⟨q, rfl⟩ := h; exact fun _ _ => rfl)) (hRB.keep (by obtain ⟨q, rfl⟩ := h; exact fun _ _ => rfl)) (by omega) (by omega))
            have hRT := rdr_take hRC lA.length (by omega)
            rw [hca] at hRT
            have KS2 := Lib.hid (fun W (h : ∃ q, W = w13.drewN q) => same_b (some ⟨xb, xo, none⟩) Aa lA.length cc lA.length ca _ _ lA lA W (hRT.keep (by obtain ⟨q, rfl⟩ := h; exact fun _ _ => rfl)) (hRA.keep (by obtain ⟨q, rfl⟩ := h; exact fun _ _ => rfl)) (by omega) (by omega))
            rw [decide_eq_true rfl] at KS1 KS2
            have HX0 := Lib.hid x0
            obtain ⟨N, hN⟩ : ∃ N, lA.length = N := ⟨_, rfl⟩
            rw [hcl] at hcc2 ⊢
            rw [hN] at KS1 KS2 HX0 hcc2 ⊢
            have hN0 : (0 : Int) ≤ (N : Int) := by omega
            have hNc : (N : Int) ≤ (cc : Int) := by omega
            have x1 := HX0.out
            have hN1 : (N : Int) < ((N + 1 : Nat) : Int) := by omega
            have ew : IntKind.i64.wrap ((N : Int) + 1) = ((N + 1 : Nat) : Int) := by rw [show (N : Int) + 1 = ((N + 1 : Nat) : Int) by omega]; exact IntWalk.i64_in _ (by omega)
            clear hcl hca hcn hN hRA hRB hRC hRT hxb hcc2 HVA HVB HVC x0
            obtain ⟨r1, r2⟩ := r
            dsimp only at hr1 ⊢
            have er2 : IntKind.i64.wrap ((r1 : Int) + 1) = (r1 : Int) + 1 := IntWalk.i64_in _ (by omega)
            go_wp2_with fail
            go_at_call 43
            refine (KS1.out _ ⟨0, rfl⟩).mono ?_
            rintro e w14 ⟨rfl, q14, rfl⟩
            go_wp2_with fail
            go_at_call 43
            refine (KS2.out _ ⟨q14, rfl⟩).mono ?_
            rintro e w15 ⟨rfl, q15, rfl⟩
            go_wp2_with fail
            go_ret
            refine ⟨?_, below_drewN HB13.out _⟩
            simp [er2]
end secrecyNamed
end Go.Proofs.YtjdpbelfagkaiaaDoor
