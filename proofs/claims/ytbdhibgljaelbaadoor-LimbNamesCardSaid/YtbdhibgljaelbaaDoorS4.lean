/- The landed package secrecy: what feeds a set; how it grows; what is secret. -/
import Derived.Test.YtbdhibgljaelbaaDoorS3
namespace Go.Proofs.YtbdhibgljaelbaaDoor
open Go Go.RowKit Go.Sort Go.Shelf
namespace Lb
open Wd Nt Gr
set_option linter.unusedVariables false
set_option linter.unusedSimpArgs false
set_option maxRecDepth 100000 in
set_option maxHeartbeats 2000000 in
theorem feeds_s (s : Nat) (hs : s < 18446744073709551616) (A : Option Addr) (n c : Nat) (bufs : List Bf) (o : Op) (hrg : o.a < 64 ∧ o.b < 64 ∧ o.c < 64) (hbf : o.k = 14 → ∃ i : Nat, o.bf = (i : Int) ∧ i < bufs.length) (w : World) (hR : Rdr w w.heap.size A n bufs) :
    Calls Tryd.prog 97 #[.int .u64 (s : Int), .slice A n c, .agg (Op.vs o).toArray] w fun e w' => e = .returned (.bool (feedsN bufs s o)) ∧ Below w.heap.size w w' := by
  have HE : Hid (feedsN bufs s o = ((decide (o.k = 14) && (bfAt bufs o.bf).sec) || (hasN s o.a || hasN s o.b || hasN s o.c))) := Lib.hid rfl
  have H1 := Lib.hid (fun W => has_s s o.a hs hrg.1 W)
  have H2 := Lib.hid (fun W => has_s s o.b hs hrg.2.1 W)
  have H3 := Lib.hid (fun W => has_s s o.c hs hrg.2.2 W)
  have HB := Lib.hid (bel_al (w := w) (.cells (Op.vs o).toArray 33))
  have HK := Lib.hid (Bk.new w 33 (Op.vs o).toArray)
  have HR := Lib.hid (hR.below HB.out)
  have HL := Lib.hid hR.len
  generalize feedsN bufs s o = res at *
  generalize hasN s o.a = b1 at *
  generalize hasN s o.b = b2 at *
  generalize hasN s o.c = b3 at *
  obtain ⟨k, d, e, a, b, c2, bf, im⟩ := o
  unfold Op.vs at *
  dsimp only at *
  simp only [List.toArray] at *
  obtain ⟨o0, o1, o2, o3, o4, o5, o6, o7⟩ := c8 HK.out
  clear hrg hR
  have hS : w.heap.size < (w.alloc (.cells #[.int .i64 k, .int .i64 d, .int .i64 e, .int .i64 a, .int .i64 b, .int .i64 c2, .int .i64 bf, .int .u64 im] 33)).heap.size := by simp
  by_cases h14 : k = 14
  · obtain ⟨i, rfl, hi⟩ := hbf h14
    subst h14
    rw [decide_eq_true rfl, Bool.true_and] at HE
    obtain ⟨bb, bo, rfl, hbb, s0, s1, s2⟩ := bf_at HR.out (bfAt_some hi)
    generalize bfAt bufs (i : Int) = bx at *
    obtain ⟨sz, kd, sec⟩ := bx
    dsimp only at *
    have hn : (i : Int) < (n : Int) := by have := HL.out; omega
    have hi0 : (0 : Int) ≤ (i : Int) := by omega
    clear hbf hi hbb
    cases sec
    · rw [Bool.false_or] at HE
      go_enter Tryd.func97, Tryd.ntmps97
      go_wp2_with fail
      go_at_call 99
      refine (H1.out _).mono ?_
      rintro r w1 ⟨rfl, rfl⟩
      cases b1
      · go_wp2_with fail
        go_at_call 99
        refine (H2.out _).mono ?_
        rintro r w1 ⟨rfl, rfl⟩
        cases b2
        · go_wp2_with fail
          go_at_call 99
          refine (H3.out _).mono ?_
          rintro r w1 ⟨rfl, rfl⟩
          go_wp2_with fail
          go_ret
          exact ⟨by rw [HE.out]; rfl, HB.out⟩
        · go_wp2_with fail
          go_ret
          exact ⟨by rw [HE.out]; rfl, HB.out⟩
      · go_wp2_with fail
        go_ret
        exact ⟨by rw [HE.out]; rfl, HB.out⟩
    · rw [Bool.true_or] at HE
      go_enter Tryd.func97, Tryd.ntmps97
      go_wp2_with fail
      go_ret
      exact ⟨by rw [HE.out]; rfl, HB.out⟩
  · have hne : (k == 14) = false := by rw [beq_eq_false_iff_ne]; exact h14
    rw [decide_eq_false h14, Bool.false_and, Bool.false_or] at HE
    clear hbf h14
    go_enter Tryd.func97, Tryd.ntmps97
    go_wp2_with fail
    go_at_call 99
    refine (H1.out _).mono ?_
    rintro r w1 ⟨rfl, rfl⟩
    cases b1
    · go_wp2_with fail
      go_at_call 99
      refine (H2.out _).mono ?_
      rintro r w1 ⟨rfl, rfl⟩
      cases b2
      · go_wp2_with fail
        go_at_call 99
        refine (H3.out _).mono ?_
        rintro r w1 ⟨rfl, rfl⟩
        go_wp2_with fail
        go_ret
        exact ⟨by rw [HE.out]; rfl, HB.out⟩
      · go_wp2_with fail
        go_ret
        exact ⟨by rw [HE.out]; rfl, HB.out⟩
    · go_wp2_with fail
      go_ret
      exact ⟨by rw [HE.out]; rfl, HB.out⟩
/-! ### growing -/
theorem grown_take {bufs : List Bf} {ops : List Op} {s k : Nat} {o : Op} (h : ops[k]? = some o) : grown bufs (ops.take (k + 1)) s = grow1 bufs (grown bufs (ops.take k) s) o := by
  unfold grown
  rw [take_op h, List.foldl_append]
  rfl
/-- what is asked of each operation -/
structure SOk (bufs : List Bf) (ops : List Op) : Prop where
  rg : ∀ o ∈ ops, o.d < 64 ∧ o.e < 64 ∧ o.a < 64 ∧ o.b < 64 ∧ o.c < 64
  bf : ∀ o ∈ ops, o.k = 14 ∨ o.k = 15 → ∃ i : Nat, o.bf = (i : Int) ∧ i < bufs.length
theorem Ok.sok {p : Pg} (H : Ok p) (hp : p.wf) : SOk p.bf p.op := by
  refine ⟨fun o ho => ?_, fun o ho => ?_⟩
  · obtain ⟨k, hk⟩ := List.mem_iff_getElem?.1 ho
    obtain ⟨d, e, a, b, c⟩ : Rg o.d ∧ Rg o.e ∧ Rg o.a ∧ Rg o.b ∧ Rg o.c := by have h := (H.stOk hp _ _ hk).rg; exact ⟨h.d, h.e, h.a, h.b, h.c⟩
    unfold Rg at *
    omega
  · obtain ⟨k, hk⟩ := List.mem_iff_getElem?.1 ho
    exact (H.stOk hp _ _ hk).bf
set_option maxRecDepth 100000 in
set_option maxHeartbeats 2000000 in
theorem grown_s (p : Pg) (hs : SOk p.bf p.op) (hl : p.op.length ≤ 1000000) (s : Nat) (h64 : s < 18446744073709551616) (A X : Option Addr) (c d : Nat) (w : World) (hR : Rdr w w.heap.size A p.bf.length p.bf) (hX : Rdr w w.heap.size X p.op.length p.op) :
    Calls Tryd.prog 85 #[.int .u64 (s : Int), pgV p A c X d] w fun e w' => e = .returned (.int .u64 ((grown p.bf p.op s : Nat) : Int)) ∧ Below w.heap.size w w' := by
  have HF := Lib.hid (fun (t : Nat) (ht : t < 18446744073709551616) (o : Op) (ho : o ∈ p.op) (W : World) (hb : Below w.heap.size w W) => feeds_s t ht A p.bf.length c p.bf o ⟨(hs.rg o ho).2.2.1, (hs.rg o ho).2.2.2.1, (hs.rg o ho).2.2.2.2⟩ (fun h => hs.bf o ho (.inl h)) W ((hR.below hb).more hb.size))
  have HLT : Hid (∀ k, grown p.bf (p.op.take k) s < 18446744073709551616) := Lib.hid (fun k => grown_lt h64 (fun o ho => ⟨(hs.rg o (List.mem_of_mem_take ho)).1, (hs.rg o (List.mem_of_mem_take ho)).2.1⟩))
  have HSO := Lib.hid hs
  have HX := Lib.hid hX
  have HEND : Hid (grown p.bf p.op s = grown p.bf (p.op.take p.op.length) s) := Lib.hid (by rw [List.take_length])
  have H0 : Hid ((s : Int) = ((grown p.bf (p.op.take 0) s : Nat) : Int)) := Lib.hid rfl
  have HGT := Lib.hid (fun k o (h : p.op[k]? = some o) => grown_take (bufs := p.bf) (s := s) h)
  have HB0 := Lib.hid (bel_al (w := w) (.cells #[.int .i64 p.rg, .slice A p.bf.length c, .slice X p.op.length d] 26))
  have HK0 := Lib.hid (Bk.new w 26 #[.int .i64 p.rg, .slice A p.bf.length c, .slice X p.op.length d])
  obtain ⟨n, hn⟩ : ∃ n, p.op.length = n := ⟨_, rfl⟩
  have HN := Lib.hid hn
  unfold pgV at *
  rw [hn] at HX HEND HB0 HK0 hl ⊢
  clear hs hR hX hn
  obtain ⟨W0, hW0⟩ : ∃ W0, W0 = w.alloc (.cells #[.int .i64 p.rg, .slice A p.bf.length c, .slice X n d] 26) := ⟨_, rfl⟩
  have HW0 := Lib.hid hW0
  rw [← hW0] at HB0 HK0
  clear hW0
  go_enter Tryd.func85, Tryd.ntmps85
  go_wp2_with fail
  go_loopw [10, 0] (fun i v W => ∃ (k : Nat), k ≤ n ∧ i = .int .i64 (k : Int) ∧ Hid (v = .int .u64 ((grown p.bf (p.op.take k) s : Nat) : Int)) ∧ Hid (Below w.heap.size w W) ∧ Hid (Bk W w.heap.size 26 #[.int .i64 p.rg, .slice A p.bf.length c, .slice X n d])) (fun i _ _ => n - (intOf i).toNat)
  case atStart => exact ⟨0, Nat.zero_le _, rfl, Lib.hid (by rw [← H0.out]), Lib.hid (by rw [← HW0.out]; exact HB0.out), Lib.hid (by rw [← HW0.out]; exact HK0.out)⟩
  case round =>
    obtain ⟨k, hk, rfl, HV, HB, HK⟩ := hrel
    obtain rfl := HV.out
    clear HV
    rcases Nat.lt_or_ge k n with hlt | hge
    · have hki : (k : Int) < (n : Int) := by omega
      have hk0 : (0 : Int) ≤ (k : Int) := by omega
      obtain ⟨oo, hoo⟩ : ∃ o, p.op[k]? = some o := ⟨_, List.getElem?_eq_getElem (by rw [HN.out]; exact hlt)⟩
      have hom := List.mem_of_getElem? hoo
      have HNX := Lib.hid (HGT.out k oo hoo)
      have ht := HLT.out k
      obtain ⟨tt, htt⟩ : ∃ t, grown p.bf (p.op.take k) s = t := ⟨_, rfl⟩
      rw [htt] at ht HNX ⊢
      clear htt
      rw [show ∀ (t : Nat) (o : Op), grow1 p.bf t o = if feedsN p.bf t o then withN (withN t o.d) o.e else t from fun _ _ => rfl] at HNX
      have HFE := Lib.hid (fun (W : World) (hb : Below w.heap.size w W) => HF.out tt ht oo hom W hb)
      have HT1 := Lib.hid (fun W => with_s tt oo.d ht (HSO.out.rg oo hom).1 W)
      have HT2 := Lib.hid (fun W => with_s (withN tt oo.d) oo.e (with_lt ht (HSO.out.rg oo hom).1) (HSO.out.rg oo hom).2.1 W)
      obtain ⟨bx, ox, rfl, hbx, o0, o1, o2, o3, o4, o5, o6, o7⟩ := op_at (HX.out.below HB.out) hoo
      obtain ⟨a0, a1, a2⟩ := c3 HK.out
      generalize feedsN p.bf tt oo = ft at *
      generalize withN (withN tt oo.d) oo.e = t2 at *
      generalize withN tt oo.d = t1 at *
      have HB1 := Lib.hid (bel_al' HB.out (.cells (Op.vs oo).toArray 33))
      have HKO := Lib.hid (Bk.new wr 33 (Op.vs oo).toArray)
      have HK1 := Lib.hid (HK.out.alloc (.cells (Op.vs oo).toArray 33))
      have HZ := Lib.hid HB.out.size
      have hgz : w.heap.size < wr.heap.size := World.block_lt_of_cell? wr _ a0
      have hxz : bx < wr.heap.size := by have := HZ.out; omega
      have ew : IntKind.i64.wrap ((k : Int) + 1) = ((k + 1 : Nat) : Int) := by rw [show (k : Int) + 1 = ((k + 1 : Nat) : Int) by omega]; exact IntWalk.i64_in _ (by omega)
      obtain ⟨ok, od, oe, oa, ob, oc, obf, oim⟩ := oo
      unfold Op.vs at HB1 HKO HK1 HFE
      dsimp only at *
      simp only [List.toArray] at HB1 HKO HK1 HFE
      clear hoo hom ht HF HLT hbx
      go_wp2_with fail
      go_at_call 97
      refine (HFE.out _ HB1.out).mono ?_
      rintro e w2 ⟨rfl, hb2⟩
      have HB2 := Lib.hid (HB1.out.trans (hb2.mono HB1.out.size))
      have HK2 := Lib.hid (HK1.out.below hb2 HK1.out.lt)
      have HKO2 := Lib.hid (HKO.out.below hb2 HKO.out.lt)
      clear hb2 HB1 HK1 HKO HFE o0 o1 o2 o3 o4 o5 o6 o7 a0 a1 a2
      cases ft
      · rw [if_neg (by decide)] at HNX
        go_wp2_with fail
        go_roundw
        case rel => exact ⟨k + 1, by omega, by first | rfl | go_num, Lib.hid (by rw [HNX.out]), HB2, HK2⟩
        case measure => (simp [intOf] <;> omega)
      · rw [if_pos rfl] at HNX
        obtain ⟨o0, o1, o2, o3, o4, o5, o6, o7⟩ := c8 HKO2.out
        go_wp2_with fail
        go_quiet (first | with_reducible exact Calls.quiet_of_same (HT1.out _) | with_reducible exact Calls.quiet_of_same (HT2.out _))
        go_wp2_with fail
        go_roundw
        case rel => exact ⟨k + 1, by omega, by first | rfl | go_num, Lib.hid (by rw [HNX.out]), Lib.hid (below_drewN HB2.out _), Lib.hid (by exact HK2.out.below (below_drewN (Below.refl _ _) _) HK2.out.lt)⟩
        case measure => (simp [intOf] <;> omega)
    · obtain rfl : k = n := by omega
      have hki : ¬ (k : Int) < (k : Int) := by omega
      rw [← HEND.out]
      go_wp2_with fail
      go_ret
      exact ⟨rfl, HB.out⟩
end Lb
end Go.Proofs.YtbdhibgljaelbaaDoor
