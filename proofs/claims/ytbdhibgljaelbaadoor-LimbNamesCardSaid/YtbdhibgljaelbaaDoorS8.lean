/- The landed package secrecy: Check, the whole. -/
import Derived.Test.YtbdhibgljaelbaaDoorS7
import Derived.Deep.RegionHeld3
import Derived.Deep.Cut
import Derived.Deep.CutRange
namespace Go.Proofs.YtbdhibgljaelbaaDoor
open Go Go.RowKit Go.Sort Go.Shelf
namespace Lb
open Wd Nt Gr
set_option linter.unusedVariables false
set_option linter.unusedSimpArgs false
theorem keepB3 {w W W' : World} {a b c : Addr} {u v x : Value} (h : W.cell? a = some u ∧ W.cell? b = some v ∧ W.cell? c = some x ∧ Below w.heap.size w W) (hb : Below W.heap.size W W') : W'.cell? a = some u ∧ W'.cell? b = some v ∧ W'.cell? c = some x ∧ Below w.heap.size w W' :=
  ⟨(hb.cell (World.block_lt_of_cell? W _ h.1)).trans h.1, (hb.cell (World.block_lt_of_cell? W _ h.2.1)).trans h.2.1, (hb.cell (World.block_lt_of_cell? W _ h.2.2.1)).trans h.2.2.1, bel_tr h.2.2.2 hb⟩
theorem keepA3 {w W : World} {a b c : Addr} {u v x : Value} (h : W.cell? a = some u ∧ W.cell? b = some v ∧ W.cell? c = some x ∧ Below w.heap.size w W) (o : Obj) : (W.alloc o).cell? a = some u ∧ (W.alloc o).cell? b = some v ∧ (W.alloc o).cell? c = some x ∧ Below w.heap.size w (W.alloc o) := keepB3 h (bel_al o)
theorem keepAD3 {w W : World} {a b c : Addr} {u v x : Value} (h : W.drew.cell? a = some u ∧ W.drew.cell? b = some v ∧ W.drew.cell? c = some x ∧ Below w.heap.size w W.drew) (o : Obj) : (W.alloc o).drew.cell? a = some u ∧ (W.alloc o).drew.cell? b = some v ∧ (W.alloc o).drew.cell? c = some x ∧ Below w.heap.size w (W.alloc o).drew := keepB3 h (bel_ald o)
theorem keepC3 {w W : World} {g i j : Nat} {u v x u' v' : Value} {a b c : Nat} (h : W.cell? ⟨w.heap.size, a, none⟩ = some u ∧ W.cell? ⟨w.heap.size, b, none⟩ = some v ∧ W.cell? ⟨w.heap.size, c, none⟩ = some x ∧ Below w.heap.size w W) (hg : w.heap.size < g) :
    ((W.setCell ⟨g, i, none⟩ u').setCell ⟨g, j, none⟩ v').cell? ⟨w.heap.size, a, none⟩ = some u ∧ ((W.setCell ⟨g, i, none⟩ u').setCell ⟨g, j, none⟩ v').cell? ⟨w.heap.size, b, none⟩ = some v ∧ ((W.setCell ⟨g, i, none⟩ u').setCell ⟨g, j, none⟩ v').cell? ⟨w.heap.size, c, none⟩ = some x ∧ Below w.heap.size w ((W.setCell ⟨g, i, none⟩ u').setCell ⟨g, j, none⟩ v') := by
  have e : ∀ a, ((W.setCell ⟨g, i, none⟩ u').setCell ⟨g, j, none⟩ v').cell? ⟨w.heap.size, a, none⟩ = W.cell? ⟨w.heap.size, a, none⟩ := fun a => by
    have h1 : ((W.setCell ⟨g, i, none⟩ u').setCell ⟨g, j, none⟩ v').heap[w.heap.size]? = W.heap[w.heap.size]? := (Below.heap_setCell _ ⟨g, j, none⟩ v' w.heap.size (by show w.heap.size ≠ g; omega)).trans (Below.heap_setCell W ⟨g, i, none⟩ u' w.heap.size (by show w.heap.size ≠ g; omega))
    unfold World.cell?
    rw [h1]
  exact ⟨(e a).trans h.1, (e b).trans h.2.1, (e c).trans h.2.2.1, (h.2.2.2.setCell (p := ⟨g, i, none⟩) (Nat.le_of_lt hg) u').setCell (p := ⟨g, j, none⟩) (Nat.le_of_lt hg) v'⟩
theorem held4 {w W : World} {p q r : Prop} (h : p ∧ q ∧ r ∧ Below w.heap.size w W) : Below w.heap.size w W := h.2.2.2
theorem zk_1d {W : World} {g : Nat} (h : g = W.heap.size) : Zk (W.alloc (.cells #[.slice none 0 0, .int .u64 0] 94)).drew g := zk_1 (W := W.drew) h
theorem zk_3 {W W' : World} (hb : Below W.heap.size W W') {g : Nat} (h : Zk W g) : Zk W' g := Bk.below h hb (Bk.lt h)
/-- what the region comes to -/
structure KnE (w W : World) (g : Nat) (A X : Option Addr) (n c m d s : Nat) (rg : Int) : Prop where
  k : Bk W g 94 #[.slice A n c, .int .u64 (s : Int)]
  p : Bk W w.heap.size 26 #[.int .i64 rg, .slice A n c, .slice X m d]
  b : Below w.heap.size w W
set_option maxRecDepth 100000 in
set_option maxHeartbeats 4000000 in
theorem scheck_s (p : Pg) (hp : p.wf) (A X : Option Addr) (c d : Nat) (w : World) (hT : TabF w) (hR : Rdr w w.heap.size A p.bf.length p.bf) (hX : Rdr w w.heap.size X p.op.length p.op) :
    Calls Tryd.prog 32 #[pgV p A c X d] w fun e w' => (∃ r : Nat × Int, e = .returned (.tuple #[.int .i64 (r.1 : Int), .int .i64 r.2]) ∧ SecA p r) ∧ Below w.heap.size w w' := by
  have HC := Lib.hid (fun (W : World) (hb : Below w.heap.size w W) => check_l p hp A X c d W (hT.keep hb) ((hR.below hb).more hb.size) ((hX.below hb).more hb.size))
  have HSE := Lib.hid (fun (h : (chkP p).2 = 0) (W : World) (hb : Below w.heap.size w W) => secrets_s p ((ok_of h).sok hp) (by have := (ref_zero (ok_of h).ref).2.2.1; omega) A X c d W ((hR.below hb).more hb.size) ((hX.below hb).more hb.size))
  have HAL := Lib.hid (fun (h : (chkP p).2 = 0) (s : Nat) (hs : s < 18446744073709551616) (o : Op) (ho : o ∈ p.op) (W : World) (hb : Below w.heap.size w W) (g : Nat) (hg : Bk W g 126 rulesC) => allows_s s hs A p.bf.length c p.bf o ((ok_of h).srg hp ho) (fun h15 => ((ok_of h).sok hp).bf o ho (.inr h15)) W ((hR.below hb).more hb.size) g hg)
  have HLN := Lib.hid (fun (h : (chkP p).2 = 0) => (show p.op.length ≤ 65536 by have := (ref_zero (ok_of h).ref).2.2.1; omega))
  have HA : Hid (∀ r, SecA p r ↔ if (chkP p).2 ≠ 0 then r = chkP p else ∃ s, SecN p.bf p.op s ∧ r = chkL p.bf s p.op 0) := Lib.hid (fun r => Iff.rfl)
  have HXW := Lib.hid hX
  have HB0 := Lib.hid (bel_al (w := w) (.cells #[.int .i64 p.rg, .slice A p.bf.length c, .slice X p.op.length d] 26))
  have HK0 := Lib.hid (Bk.new w 26 #[.int .i64 p.rg, .slice A p.bf.length c, .slice X p.op.length d])
  unfold pgV at *
  clear hT hR hX
  generalize chkP p = ck at *
  obtain ⟨k1, k2⟩ := ck
  dsimp only at HC HSE HAL HA HLN
  go_enter Tryd.func32, Tryd.ntmps32
  go_wp2_with fail
  go_at_call 22
  refine (HC.out _ HB0.out).mono ?_
  rintro e w2 ⟨rfl, hb⟩
  have HB2 := Lib.hid (bel_tr HB0.out hb)
  have HK2 := Lib.hid (HK0.out.below hb HK0.out.lt)
  clear hb HC HB0 HK0
  obtain ⟨a0, a1, a2⟩ := c3 HK2.out
  by_cases h : k2 = 0
  · subst h
    have HSE2 := Lib.hid (HSE.out (by first | exact rfl | trivial))
    have HAL2 := Lib.hid (HAL.out (by first | exact rfl | trivial))
    have hln := HLN.out (by first | exact rfl | trivial)
    clear HSE HAL HLN
    go_wp2_with fail
    go_cut [6] from 19 to 23 (fun v W => ∃ g s : Nat, v = .pointer (some ⟨g, 0, none⟩) ∧ Hid (SecN p.bf p.op s) ∧ Hid (KnE w W g A X p.bf.length c p.op.length d s p.rg))
    case first =>
      have S0 : Hid (w2.drew.cell? ⟨w.heap.size, 0, none⟩ = some (.int .i64 p.rg) ∧ w2.drew.cell? ⟨w.heap.size, 1, none⟩ = some (.slice A p.bf.length c) ∧ w2.drew.cell? ⟨w.heap.size, 2, none⟩ = some (.slice X p.op.length d) ∧ Below w.heap.size w w2.drew) := Lib.hid ⟨a0, a1, a2, HB2.out.drew⟩
      have z1 := fun (W : World) (g : Nat) (h : g = W.heap.size) => zk_1 h
      have hst := fun (W : World) (g : Nat) (h : Zk W g) => zk_st h
      have hg2 := World.block_lt_of_cell? w2 _ a1
      have HK2D := Lib.hid (show Bk w2.drew w.heap.size 26 #[.int .i64 p.rg, .slice A p.bf.length c, .slice X p.op.length d] from HK2.out)
      clear HA HAL2 HK2
      go_region_held3 (fun w' => w'.cell? ⟨w.heap.size, 0, none⟩ = some (.int .i64 p.rg) ∧ w'.cell? ⟨w.heap.size, 1, none⟩ = some (.slice A p.bf.length c) ∧ w'.cell? ⟨w.heap.size, 2, none⟩ = some (.slice X p.op.length d) ∧ Below w.heap.size w w')
        (first | exact S0.out | with_reducible exact keepB3 (by with_reducible assumption) hb5 | with_reducible exact keepA3 (by with_reducible assumption) _ | with_reducible exact keepAD3 (by with_reducible assumption) _ | (with_reducible exact keepC3 (by with_reducible assumption) hg2) | (with_reducible exact keepC3 (by with_reducible assumption) hg5) | fail)
        (first | (go_at_call 57; refine (HSE2.out _ (held4 (by with_reducible assumption))).mono ?_; rintro e w5 ⟨⟨s, rfl, hse⟩, hb5⟩; have hS5 := keepB3 (by with_reducible assumption) hb5; have hg5 := World.block_lt_of_cell? w5 _ hS5.1; (first | (have q5 : Zk w5 w2.heap.size := zk_3 hb5 (zk_1d rfl); have q50 : w5.cell? ⟨w2.heap.size, 0, none⟩ = some (.slice none 0 0) := q5.cell 0; have q51 : w5.cell? ⟨w2.heap.size, 1, none⟩ = some (.int .u64 0) := q5.cell 1; have qf0 : w5.frozen? ⟨w2.heap.size, 0, none⟩ = false := q5.frozen 0; have qf1 : w5.frozen? ⟨w2.heap.size, 1, none⟩ = false := q5.frozen 1) | skip)) | fail)
      all_goals (
        have HP5 : Bk w5 w.heap.size 26 #[.int .i64 p.rg, .slice A p.bf.length c, .slice X p.op.length d] := by first | exact HK2D.out.below hb5 HK2D.out.lt | exact (HK2D.out.alloc _).below hb5 (HK2D.out.alloc _).lt
        go_wp2_with fail
        go_meet
        case rel =>
          first
            | exact ⟨_, s, rfl, Lib.hid hse, Lib.hid ⟨Bk.new _ _ _, HP5.alloc _, bel_al' hS5.2.2.2 _⟩⟩
            | exact ⟨_, s, rfl, Lib.hid hse, Lib.hid ⟨(Bk.set_ q5 0 _).set_ 1 _, (HP5.far (show w.heap.size ≠ w2.heap.size by omega) _).far (show w.heap.size ≠ w2.heap.size by omega) _, (hS5.2.2.2.setCell (p := ⟨w2.heap.size, 0, none⟩) (Nat.le_of_lt hg2) _).setCell (p := ⟨w2.heap.size, 1, none⟩) (Nat.le_of_lt hg2) _⟩⟩)
    case rest =>
      obtain ⟨g, s, rfl, HS, HK⟩ := hcut
      clear a0 a1 a2
      have h64 := HS.out.2
      have HRU := Lib.hid (rules_s wc)
      have HB3 := Lib.hid (bel_al' HK.out.b (.cells rulesC 126))
      have HKN := Lib.hid (HK.out.k.alloc (.cells rulesC 126))
      have HPR := Lib.hid (HK.out.p.alloc (.cells rulesC 126))
      have HRL := Lib.hid (Bk.new wc 126 rulesC)
      have HSA := Lib.hid ((HA.out (chkL p.bf s p.op 0)).2 (by rw [if_neg (by decide)]; exact ⟨s, HS.out, rfl⟩))
      have HLS := Lib.hid (fun k o (h : p.op[k]? = some o) => chkL_step (bufs := p.bf) (s := s) h)
      have HLE : Hid (chkL p.bf s (p.op.drop p.op.length) p.op.length = (p.op.length, 0)) := Lib.hid (by rw [List.drop_length]; rfl)
      obtain ⟨n, hn⟩ : ∃ n, p.op.length = n := ⟨_, rfl⟩
      have HN := Lib.hid hn
      rw [hn] at hln HXW HPR HLE ⊢
      obtain ⟨w3, hw3⟩ : ∃ w3, w3 = wc.alloc (.cells rulesC 126) := ⟨_, rfl⟩
      rw [← hw3] at HRU HB3 HKN HPR HRL
      have hz3 : wc.heap.size < w3.heap.size := HRL.out.lt
      generalize rulesC = rc at *
      clear hn hw3 HB2 HK2 HSE2 HA HK
      obtain ⟨a0, a1, a2⟩ := c3 HPR.out
      go_wp2_with fail
      go_at_call 58
      refine HRU.out.mono ?_
      rintro e w4 ⟨rfl, rfl⟩
      go_wp2_with fail
      go_loopw [28] (fun i W => ∃ k : Nat, k ≤ n ∧ i = .int .i64 (k : Int) ∧ Hid (chkL p.bf s p.op 0 = chkL p.bf s (p.op.drop k) k) ∧ Hid (Below w4.heap.size w4 W)) (fun i _ => n - (intOf i).toNat)
      case atStart => exact ⟨0, Nat.zero_le _, rfl, Lib.hid rfl, Lib.hid (Below.refl _ _)⟩
      case round =>
        obtain ⟨k, hk, rfl, HE, HW⟩ := hrel
        clear a0 a1 a2
        rcases Nat.lt_or_ge k n with hlt | hge
        · have hki : (k : Int) < (n : Int) := by omega
          have hk0 : (0 : Int) ≤ (k : Int) := by omega
          obtain ⟨oo, hoo⟩ : ∃ o, p.op[k]? = some o := ⟨_, List.getElem?_eq_getElem (by rw [HN.out]; exact hlt)⟩
          have HST := Lib.hid (HLS.out k oo hoo)
          have HBW := Lib.hid (bel_tr HB3.out HW.out)
          have HALO := Lib.hid (fun W (hb : Below w.heap.size w W) (hg : Bk W wc.heap.size 126 rc) => HAL2.out s h64 oo (List.mem_of_getElem? hoo) W hb wc.heap.size hg)
          obtain ⟨bx, ox, rfl, hbx, o0, o1, o2, o3, o4, o5, o6, o7⟩ := op_at (HXW.out.below HBW.out) hoo
          obtain ⟨k0, k1⟩ := Gr.c2 (HKN.out.below HW.out HKN.out.lt)
          have hgz : g < wr.heap.size := World.block_lt_of_cell? wr _ k0
          have hxz : bx < wr.heap.size := World.block_lt_of_cell? wr _ o0
          have HB1 := Lib.hid (bel_al' HBW.out (.cells (Op.vs oo).toArray 33))
          have HR1 := Lib.hid ((HRL.out.below HW.out HRL.out.lt).alloc (.cells (Op.vs oo).toArray 33))
          have HW1 := Lib.hid (bel_al' HW.out (.cells (Op.vs oo).toArray 33))
          have ew : IntKind.i64.wrap ((k : Int) + 1) = ((k + 1 : Nat) : Int) := by rw [show (k : Int) + 1 = ((k + 1 : Nat) : Int) by omega]; exact IntWalk.i64_in _ (by omega)
          generalize allowsN p.bf s oo = ab at *
          obtain ⟨ok, od, oe, oa, ob, oc, obf, oim⟩ := oo
          unfold Op.vs knV at HALO
          unfold Op.vs at HB1 HR1 HW1
          dsimp only at *
          simp only [List.toArray] at HALO HB1 HR1 HW1
          clear hoo hbx HAL2 HLS
          go_wp2_with fail
          go_at_call 59
          refine (HALO.out _ HB1.out HR1.out).mono ?_
          rintro e w5 ⟨rfl, hb5⟩
          have HB5 := Lib.hid (bel_tr HB1.out hb5)
          have HW5 := Lib.hid (bel_tr HW1.out hb5)
          clear hb5 HB1 HW1 HR1 HALO o0 o1 o2 o3 o4 o5 o6 o7 k0 k1
          cases ab
          · rw [if_neg (by decide)] at HST
            go_wp2_with fail
            go_ret2
            exact ⟨⟨(k, 12), rfl, by rw [← HST.out, ← HE.out]; exact HSA.out⟩, HB5.out⟩
          · rw [if_pos rfl] at HST
            go_wp2_with fail
            go_roundw
            case rel => exact ⟨k + 1, by omega, by first | rfl | go_num, Lib.hid (by rw [HE.out, HST.out]), HW5⟩
            case measure => (simp [intOf] <;> omega)
        · obtain rfl : k = n := by omega
          have hki : ¬ (k : Int) < (k : Int) := by omega
          have HBW := Lib.hid (bel_tr HB3.out HW.out)
          obtain ⟨a0, a1, a2⟩ := c3 (HPR.out.below HW.out HPR.out.lt)
          go_wp2_with fail
          go_ret2
          have hfin : SecA p (k, 0) := by rw [← HLE.out, ← HE.out]; exact HSA.out
          first
            | exact ⟨⟨(k, 0), rfl, hfin⟩, HBW.out⟩
            | exact ⟨⟨k, 0, rfl, hfin⟩, HBW.out⟩
            | exact ⟨⟨k, rfl, hfin⟩, HBW.out⟩
            | exact ⟨hfin, HBW.out⟩
  · have hne : (k2 != 0) = true := by simpa using h
    have HN := Lib.hid h
    clear h
    have hsa := (HA.out (k1, k2)).2 (by rw [if_pos HN.out])
    go_wp2_with fail
    go_ret2
    exact ⟨⟨_, rfl, hsa⟩, HB2.out⟩
end Lb
end Go.Proofs.YtbdhibgljaelbaaDoor
