/- The landed package secrecy: Check. -/
import Derived.Test.YtbdhibgljaelbaaDoorS6
namespace Go.Proofs.YtbdhibgljaelbaaDoor
open Go Go.RowKit Go.Sort Go.Shelf
namespace Lb
open Wd Nt Gr
set_option linter.unusedVariables false
set_option linter.unusedSimpArgs false
def rulesC : Array Value := #[.func (.func 86) #[] #[], .func (.func 87) #[] #[], .func (.func 88) #[] #[]]
theorem rules_s (w : World) : Calls Tryd.prog 58 #[] w fun e w' => e = .returned (.slice (some ⟨w.heap.size, 0, none⟩) 3 3) ∧ w' = w.alloc (.cells rulesC 126) := by
  unfold rulesC
  go_enter Tryd.func58, Tryd.ntmps58
  go_wp2_with fail
  go_ret
  exact ⟨rfl, rfl⟩
theorem bel_trB {n : Nat} {a b c : World} (h : Below n a b) (k : Below b.heap.size b c) (hn : n ≤ a.heap.size := by omega) : Below n a c := h.trans (k.mono (Nat.le_trans hn h.size))
theorem enters_place : ∀ args w, (callFunc 86 args).run Tryd.prog w = .ok (.enter 86 args) w := fun args w => by kernel_rfl
theorem enters_limbs : ∀ args w, (callFunc 87 args).run Tryd.prog w = .ok (.enter 87 args) w := fun args w => by kernel_rfl
theorem enters_times : ∀ args w, (callFunc 88 args).run Tryd.prog w = .ok (.enter 88 args) w := fun args w => by kernel_rfl
set_option maxRecDepth 100000 in
set_option maxHeartbeats 4000000 in
theorem allows_s (s : Nat) (hs : s < 18446744073709551616) (A : Option Addr) (n c : Nat) (bufs : List Bf) (o : Op) (hrg : o.a < 64 ∧ o.b < 64 ∧ o.d < 64) (hbf : o.k = 15 → ∃ i : Nat, o.bf = (i : Int) ∧ i < bufs.length) (w : World) (hR : Rdr w w.heap.size A n bufs) (g : Nat) (hg : Bk w g 126 rulesC) :
    Calls Tryd.prog 59 #[knV A n c s, .slice (some ⟨g, 0, none⟩) 3 3, .agg (Op.vs o).toArray] w fun e w' => e = .returned (.bool (allowsN bufs s o)) ∧ Below w.heap.size w w' := by
  have heg1 := enters_place
  have heg2 := enters_limbs
  have heg3 := enters_times
  have HE := Lib.hid (allows_eq bufs s o)
  have H1 := Lib.hid (fun W => place_s s hs A n c o hrg W)
  have H2 := Lib.hid (fun W (hb : Below w.heap.size w W) => limbs_s s hs A n c bufs o hrg hbf W ((hR.below hb).more hb.size))
  have H3 := Lib.hid (fun W => times_s s hs A n c o hrg W)
  have HB := Lib.hid (bel_al' (bel_al (w := w) (.cells #[.slice A n c, .int .u64 (s : Int)] 94)) (.cells (Op.vs o).toArray 33))
  have HK : Hid (Bk ((w.alloc (.cells #[.slice A n c, .int .u64 (s : Int)] 94)).alloc (.cells (Op.vs o).toArray 33)) w.heap.size 94 #[.slice A n c, .int .u64 (s : Int)]) := Lib.hid ((Bk.new w _ _).alloc _)
  have HO : Hid (Bk ((w.alloc (.cells #[.slice A n c, .int .u64 (s : Int)] 94)).alloc (.cells (Op.vs o).toArray 33)) (w.heap.size + 1) 33 (Op.vs o).toArray) := Lib.hid (Bk.new' (by simp))
  have HG := Lib.hid (hg.below HB.out hg.lt)
  have HGL := Lib.hid hg.lt
  clear hs hrg hbf hR hg
  generalize allowsN bufs s o = res at *
  generalize rl1 s o = b1 at *
  generalize rl2 bufs s o = b2 at *
  generalize rl3 s o = b3 at *
  obtain ⟨k, d, e, a, b, c2, bf, im⟩ := o
  unfold Op.vs knV rulesC at *
  dsimp only at *
  simp only [List.toArray] at *
  obtain ⟨W0, hW0⟩ : ∃ W0, W0 = ((w.alloc (.cells #[.slice A n c, .int .u64 (s : Int)] 94)).alloc (.cells #[.int .i64 k, .int .i64 d, .int .i64 e, .int .i64 a, .int .i64 b, .int .i64 c2, .int .i64 bf, .int .u64 im] 33)) := ⟨_, rfl⟩
  have HW0 := Lib.hid hW0
  rw [← hW0] at HB HK HO HG
  clear hW0
  go_enter Tryd.func59, Tryd.ntmps59
  go_wp2_with fail
  go_loopw [11] (fun i W => ∃ j : Nat, j ≤ 3 ∧ i = .int .i64 (j : Int) ∧ Hid ((1 ≤ j → b1 = true) ∧ (2 ≤ j → b2 = true) ∧ (3 ≤ j → b3 = true)) ∧ Hid (Below W0.heap.size W0 W)) (fun i _ => 3 - (intOf i).toNat)
  case atStart => exact ⟨0, by omega, rfl, Lib.hid ⟨fun h => by omega, fun h => by omega, fun h => by omega⟩, Lib.hid (by rw [HW0.out]; exact Below.refl _ _)⟩
  case round =>
    obtain ⟨j, hj, rfl, HP, HW⟩ := hrel
    obtain ⟨k0, k1⟩ := Gr.c2 (HK.out.below HW.out HK.out.lt)
    obtain ⟨o0, o1, o2, o3, o4, o5, o6, o7⟩ := c8 (HO.out.below HW.out HO.out.lt)
    obtain ⟨g0, g1, g2⟩ := c3 (HG.out.below HW.out HG.out.lt)
    have HBW := Lib.hid (bel_trB HB.out HW.out)
    rcases (by omega : j = 0 ∨ j = 1 ∨ j = 2 ∨ j = 3) with rfl | rfl | rfl | rfl
    · cases b1
      · go_wp2_with fail
        go_at_call 86
        refine (H1.out _).mono ?_
        rintro r w1 ⟨rfl, hb⟩
        have HB1 := Lib.hid (bel_trB HBW.out hb)
        clear hb
        go_wp2_with fail
        go_ret
        exact ⟨by rw [HE.out]; rfl, HB1.out⟩
      · go_wp2_with fail
        go_at_call 86
        refine (H1.out _).mono ?_
        rintro r w1 ⟨rfl, hb⟩
        have HB1 := Lib.hid (bel_tr HW.out hb)
        clear hb
        go_wp2_with fail
        go_roundw
        case rel => exact ⟨1, by omega, by first | rfl | go_num, Lib.hid ⟨fun h => (by first | rfl | trivial), fun h => by omega, fun h => by omega⟩, HB1⟩
        case measure => (simp [intOf] <;> omega)
    · cases b2
      · go_wp2_with fail
        go_at_call 87
        refine (H2.out _ HBW.out).mono ?_
        rintro r w1 ⟨rfl, hb⟩
        have HB1 := Lib.hid (bel_trB HBW.out hb)
        clear hb
        go_wp2_with fail
        go_ret
        exact ⟨by rw [HE.out]; simp, HB1.out⟩
      · go_wp2_with fail
        go_at_call 87
        refine (H2.out _ HBW.out).mono ?_
        rintro r w1 ⟨rfl, hb⟩
        have HB1 := Lib.hid (bel_tr HW.out hb)
        have HP1 := Lib.hid (HP.out.1 (by omega))
        clear hb
        go_wp2_with fail
        go_roundw
        case rel => exact ⟨2, by omega, by first | rfl | go_num, Lib.hid ⟨fun h => HP1.out, fun h => (by first | rfl | trivial), fun h => by omega⟩, HB1⟩
        case measure => (simp [intOf] <;> omega)
    · cases b3
      · go_wp2_with fail
        go_at_call 88
        refine (H3.out _).mono ?_
        rintro r w1 ⟨rfl, hb⟩
        have HB1 := Lib.hid (bel_trB HBW.out hb)
        clear hb
        go_wp2_with fail
        go_ret
        exact ⟨by rw [HE.out]; simp, HB1.out⟩
      · go_wp2_with fail
        go_at_call 88
        refine (H3.out _).mono ?_
        rintro r w1 ⟨rfl, hb⟩
        have HB1 := Lib.hid (bel_tr HW.out hb)
        have HP1 := Lib.hid (HP.out.1 (by omega))
        have HP2 := Lib.hid (HP.out.2.1 (by omega))
        clear hb
        go_wp2_with fail
        go_roundw
        case rel => exact ⟨3, by omega, by first | rfl | go_num, Lib.hid ⟨fun h => HP1.out, fun h => HP2.out, fun h => (by first | rfl | trivial)⟩, HB1⟩
        case measure => (simp [intOf] <;> omega)
    · have HP1 := Lib.hid (HP.out.1 (by omega))
      have HP2 := Lib.hid (HP.out.2.1 (by omega))
      have HP3 := Lib.hid (HP.out.2.2 (by omega))
      go_wp2_with fail
      go_ret
      exact ⟨by rw [HE.out, HP1.out, HP2.out, HP3.out]; rfl, HBW.out⟩
theorem Ok.srg {p : Pg} (H : Ok p) (hp : p.wf) {o : Op} (ho : o ∈ p.op) : o.a < 64 ∧ o.b < 64 ∧ o.d < 64 := by
  have h := (H.sok hp).rg o ho
  exact ⟨h.2.2.1, h.2.2.2.1, h.1⟩
/-- what Check answers -/
def SecA (p : Pg) (r : Nat × Int) : Prop := if (chkP p).2 ≠ 0 then r = chkP p else ∃ s, SecN p.bf p.op s ∧ r = chkL p.bf s p.op 0
theorem chkL_step {bufs : List Bf} {s k : Nat} {ops : List Op} {o : Op} (h : ops[k]? = some o) : chkL bufs s (ops.drop k) k = if allowsN bufs s o then chkL bufs s (ops.drop (k + 1)) (k + 1) else (k, 12) := by
  have hk := (List.getElem?_eq_some_iff.1 h).1
  rw [List.drop_eq_getElem_cons hk]
  have e : ops[k] = o := by rw [List.getElem?_eq_getElem hk] at h; exact Option.some.inj h
  rw [e]
  rfl
/-- a block of known, still zeros -/
def Zk (W : World) (g : Nat) : Prop := Bk W g 94 #[.slice none 0 0, .int .u64 0]
theorem zk_1 {W : World} {g : Nat} (h : g = W.heap.size) : Zk (W.alloc (.cells #[.slice none 0 0, .int .u64 0] 94)) g := by
  subst h
  exact Bk.new _ _ _
theorem zk_st {W : World} {g : Nat} (h : Zk W g) (A : Option Addr) (n c : Nat) (z : Int) :
    (storeCells ⟨g, 0, none⟩ [.slice A n c, .int .u64 z]).run Tryd.prog W = .ok () (W.setRow g #[.slice A n c, .int .u64 z]) := by
  have h2 := run_storeCells_from (P := Tryd.prog) g 94 [.slice A n c, .int .u64 z] 0 _ W h (by simp) (fun v hv => by
    simp only [List.mem_cons, List.not_mem_nil, or_false] at hv
    rcases hv with rfl | rfl <;> rfl)
  rw [h2]
  congr 1
end Lb
end Go.Proofs.YtbdhibgljaelbaaDoor
