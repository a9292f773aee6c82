/- The landed package limb: what an operation must have. -/
import Derived.Test.YtbdhibgljaelbaaDoorL1
import Derived.Deep.Cut
import Derived.Deep.CutRange
import Derived.BigQuiet
import Derived.Deep.QuietTactic
import Derived.Shelf.SlSortCmp.QuietGrown
import Derived.Shelf.RegionOpenPlain
import Derived.Laws.BitsAllLaws
namespace Go.Proofs.YtbdhibgljaelbaaDoor
open Go Go.RowKit Go.Sort
namespace Lb
open Wd Nt Gr
set_option linter.unusedVariables false
set_option linter.unusedSimpArgs false
/-- a world with more blocks, and some draws -/
def Grw (w w' : World) : Prop := ∃ q os', w' = grow (w.drewN q) os'
theorem Grw.refl (w : World) : Grw w w := ⟨0, #[], by rw [grow_empty]; rfl⟩
theorem Grw.alloc (w : World) (o : Obj) : Grw w (w.alloc o) := ⟨0, _, by rw [alloc_eq_grow]; rfl⟩
theorem Grw.trans {a b c : World} (h : Grw a b) (k : Grw b c) : Grw a c := by
  obtain ⟨q, os, rfl⟩ := h
  obtain ⟨q', os', rfl⟩ := k
  exact ⟨q + q', os ++ os', by show grow (grow ((a.drewN q).drewN q') os) os' = _; rw [grow_grow, World.drewN_drewN]⟩
theorem Grw.of (w : World) (q : Nat) (os : Array Obj) : Grw w (grow (w.drewN q) os) := ⟨q, os, rfl⟩
theorem below_grow (w : World) (q : Nat) (os : Array Obj) : Below w.heap.size w (grow (w.drewN q) os) :=
  ⟨rfl, rfl, rfl, by simp [grow], fun i hi => by
    show ((w.drewN q).heap ++ os)[i]? = _
    rw [Array.getElem?_append_left (by show i < w.heap.size; omega)]
    rfl⟩
theorem Grw.below {w w' : World} (h : Grw w w') : Below w.heap.size w w' := by obtain ⟨q, os, rfl⟩ := h; exact below_grow _ _ _
theorem Calls.grw {f : FuncId} {args : Array Value} {w : World} {v : Value} (h : Calls Tryd.prog f args w fun e w' => e = .returned v ∧ w' = w) : Calls Tryd.prog f args w fun e w' => e = .returned v ∧ Grw w w' :=
  h.mono fun _ _ ⟨h1, h2⟩ => ⟨h1, h2 ▸ Grw.refl _⟩
def hb (p m : Int) : Bool := bits .and .u8 p m != 0
theorem has_l (p le mo m : Int) (w : World) : Calls Tryd.prog 106 #[.agg #[.int .u8 p, .int .u64 le, .int .u64 mo], .int .u8 m] w fun e w' => e = .returned (.bool (hb p m)) ∧ Grw w w' := by
  have HW := Lib.hid (Grw.alloc w (.cells #[.int .u8 p, .int .u64 le, .int .u64 mo] 131))
  have e : hb p m = (bits .and .u8 p m != 0) := rfl
  rw [e]
  clear e
  go_enter Tryd.func106, Tryd.ntmps106
  go_wp2_with fail
  go_ret
  exact ⟨by first | rfl | simp, HW.out⟩
theorem fr_l (r : Int) (h : Bool) (regs : Int) (w : World) : Calls Tryd.prog 107 #[.int .i64 r, .bool h, .int .i64 regs] w fun e w' => e = .returned (.bool (rOk h r regs)) ∧ w' = w := by
  unfold rOk
  cases h with
  | false =>
    go_enter Tryd.func107, Tryd.ntmps107
    go_wp2_with fail
    go_ret
    exact ⟨rfl, rfl⟩
  | true =>
    by_cases h1 : 0 ≤ r
    · go_enter Tryd.func107, Tryd.ntmps107
      go_wp2_with fail
      go_ret
      exact ⟨by simp [h1], rfl⟩
    · have h2 : r < 0 := by omega
      go_enter Tryd.func107, Tryd.ntmps107
      go_wp2_with fail
      go_ret
      exact ⟨by rw [show decide (0 ≤ r) = false from decide_eq_false (by omega)]; rfl, rfl⟩
def rgv (p regs : Int) (o : Op) : Bool := !(hb p 2 && decide (o.d = o.e)) && (rOk (hb p 1) o.d regs && rOk (hb p 2) o.e regs && ((hb p 32 && decide (o.a = -1)) || rOk (hb p 36) o.a regs) && rOk (hb p 8) o.b regs && rOk (hb p 16) o.c regs)
theorem hbk (p le mo m : Int) (w : World) (n : Nat) (os : Array Obj) : Calls Tryd.prog 106 #[.agg #[.int .u8 p, .int .u64 le, .int .u64 mo], .int .u8 m] (grow (w.drewN n) os) fun e w'' => e = .returned (.bool (hb p m)) ∧ ∃ p : GrownBy, w'' = grow (w.drewN p.n) p.os := Calls.grown_of (has_l p le mo m _)
theorem frk {r : Int} {q : Bool} {regs : Int} {b : Bool} (h : rOk q r regs = b) (w : World) (n : Nat) (os : Array Obj) : Calls Tryd.prog 107 #[.int .i64 r, .bool q, .int .i64 regs] (grow (w.drewN n) os) fun e w'' => e = .returned (.bool b) ∧ ∃ p : GrownBy, w'' = grow (w.drewN p.n) p.os := h ▸ Calls.grown_of (Calls.grw (fr_l r q regs _))
set_option maxRecDepth 100000 in
set_option maxHeartbeats 8000000 in
theorem fitsRegs_l (p le mo regs : Int) (o : Op) (w : World) : Calls Tryd.prog 94 #[.agg #[.int .u8 p, .int .u64 le, .int .u64 mo], .int .i64 regs, .agg (Op.vs o).toArray] w fun e w' => e = .returned (.bool (rgv p regs o)) ∧ Grw w w' := by
  have mixed : Tryd.prog.follows .mixedOrders = true := by kernel_rfl
  have HH := Lib.hid (fun m W => has_l p le mo m W)
  have VR := Lib.hid (fun r q W => Calls.grw (fr_l r q regs W))
  have HE := Lib.hid (show rgv p regs o = (!(hb p 2 && decide (o.d = o.e)) && (rOk (hb p 1) o.d regs && rOk (hb p 2) o.e regs && ((hb p 32 && decide (o.a = -1)) || rOk (hb p 36) o.a regs) && rOk (hb p 8) o.b regs && rOk (hb p 16) o.c regs)) from rfl)
  generalize rgv p regs o = res at *
  obtain ⟨k, d, e, a, b, c, bf, im⟩ := o
  unfold Op.vs at *
  dsimp only at *
  simp only [List.toArray] at *
  have HG0 := Lib.hid ((Grw.alloc w (.cells #[.int .u8 p, .int .u64 le, .int .u64 mo] 131)).trans (Grw.alloc _ (.cells #[.int .i64 k, .int .i64 d, .int .i64 e, .int .i64 a, .int .i64 b, .int .i64 c, .int .i64 bf, .int .u64 im] 33)))
  have HF0 := Lib.hid ((Bk.new w 131 #[.int .u8 p, .int .u64 le, .int .u64 mo]).alloc (.cells #[.int .i64 k, .int .i64 d, .int .i64 e, .int .i64 a, .int .i64 b, .int .i64 c, .int .i64 bf, .int .u64 im] 33))
  have HI0 := Lib.hid (Bk.new (w.alloc (.cells #[.int .u8 p, .int .u64 le, .int .u64 mo] 131)) 33 #[.int .i64 k, .int .i64 d, .int .i64 e, .int .i64 a, .int .i64 b, .int .i64 c, .int .i64 bf, .int .u64 im])
  rw [show (w.alloc (.cells #[.int .u8 p, .int .u64 le, .int .u64 mo] 131)).heap.size = w.heap.size + 1 by simp] at HI0
  obtain ⟨W0, hW0⟩ : ∃ W0, W0 = (w.alloc (.cells #[.int .u8 p, .int .u64 le, .int .u64 mo] 131)).alloc (.cells #[.int .i64 k, .int .i64 d, .int .i64 e, .int .i64 a, .int .i64 b, .int .i64 c, .int .i64 bf, .int .u64 im] 33) := ⟨_, rfl⟩
  rw [← hW0] at HG0 HF0 HI0
  have HW0 := Lib.hid hW0
  clear hW0
  obtain ⟨f0, f1, f2⟩ := c3 HF0.out
  obtain ⟨a0, a1, a2, a3, a4, a5, a6, a7⟩ := c8 HI0.out
  have key : Hid (hb p 2 = true ∧ d = e) ∨ Hid (¬ (hb p 2 = true ∧ d = e)) := (Classical.em (hb p 2 = true ∧ d = e)).imp Lib.hid Lib.hid
  rcases key with K | K
  · obtain ⟨q2, rfl⟩ := K.out
    obtain rfl : res = false := by rw [HE.out, q2]; simp
    go_enter Tryd.func94, Tryd.ntmps94
    try simp only [List.append]
    go_wp2_with fail
    rw [← HW0.out]
    go_at_call 106
    refine (HH.out _ _).mono ?_
    rw [q2]
    rintro e w1 ⟨rfl, hq⟩
    have HI1 := Lib.hid (HI0.out.below hq.below HI0.out.lt)
    have HG1 := Lib.hid (HG0.out.trans hq)
    clear hq
    clear f0 f1 f2 a0 a1 a2 a3 a4 a5 a6 a7
    obtain ⟨a0, a1, a2, a3, a4, a5, a6, a7⟩ := c8 HI1.out
    go_wp2_with fail
    go_ret
    exact ⟨rfl, HG1.out⟩
  · have HE2 : Hid (res = (rOk (hb p 1) d regs && rOk (hb p 2) e regs && ((hb p 32 && decide (a = -1)) || rOk (hb p 36) a regs) && rOk (hb p 8) b regs && rOk (hb p 16) c regs)) := Lib.hid (by
      rw [HE.out]
      have : (hb p 2 && decide (d = e)) = false := by
        cases h : (hb p 2 && decide (d = e)) with
        | false => rfl
        | true => exact absurd (by simpa using h) K.out
      rw [this]
      rfl)
    have HDE : Hid (hb p 2 = true → (d == e) = false) := Lib.hid (fun h => by rw [beq_eq_false_iff_ne]; exact fun e => K.out ⟨h, e⟩)
    clear HE K
    have HQ : Hid (hb p 2 = false) ∨ Hid (hb p 2 = true ∧ (d == e) = false) := by
      cases h : hb p 2 with
      | false => exact .inl (Lib.hid rfl)
      | true => exact .inr (Lib.hid ⟨rfl, HDE.out h⟩)
    go_enter Tryd.func94, Tryd.ntmps94
    try simp only [List.append]
    go_wp2_with fail
    rw [← HW0.out]
    go_at_call 106
    refine (HH.out _ _).mono ?_
    rintro e' w1 ⟨rfl, hq⟩
    have HF1 := Lib.hid (HF0.out.below hq.below HF0.out.lt)
    have HI1 := Lib.hid (HI0.out.below hq.below HI0.out.lt)
    have HG1 := Lib.hid (HG0.out.trans hq)
    clear hq HDE
    clear f0 f1 f2 a0 a1 a2 a3 a4 a5 a6 a7
    obtain ⟨f0, f1, f2⟩ := c3 HF1.out
    obtain ⟨a0, a1, a2, a3, a4, a5, a6, a7⟩ := c8 HI1.out
    rcases HQ with q2 | q2
    all_goals (
      first
        | (obtain ⟨q2, qd⟩ := q2.out; rw [q2])
        | (have q2 := q2.out; rw [q2])
      go_upto_region 3 with fail
      go_cut [7] from 17 to 23 (fun t wx => ∃ wA : Bool, t = .bool wA ∧ Hid (wA = (hb p 32 && decide (a = -1))) ∧ Hid (Bk wx w.heap.size 131 #[.int .u8 p, .int .u64 le, .int .u64 mo]) ∧ Hid (Bk wx (w.heap.size + 1) 33 #[.int .i64 k, .int .i64 d, .int .i64 e, .int .i64 a, .int .i64 b, .int .i64 c, .int .i64 bf, .int .u64 im]) ∧ Hid (Grw w wx))
      case first =>
        go_wp2_with fail
        go_at_call 106
        refine (HH.out _ _).mono ?_
        rintro e' w2 ⟨rfl, hq⟩
        have HF2 := Lib.hid (HF1.out.below hq.below HF1.out.lt)
        have HI2 := Lib.hid (HI1.out.below hq.below HI1.out.lt)
        have HG2 := Lib.hid (HG1.out.trans hq)
        clear hq
        clear f0 f1 f2 a0 a1 a2 a3 a4 a5 a6 a7
        obtain ⟨a0, a1, a2, a3, a4, a5, a6, a7⟩ := c8 HI2.out
        cases p32 : hb p 32 with
        | false =>
          go_wp2_with fail
          go_meet
          case rel => exact ⟨false, rfl, Lib.hid (by rw [p32]; rfl), HF2, HI2, HG2⟩
        | true =>
          by_cases ha : a = -1
          · subst ha
            go_wp2_with fail
            go_meet
            case rel => exact ⟨true, rfl, Lib.hid (by rw [p32]; simp), HF2, HI2, HG2⟩
          · have hne : (a == -1) = false := by rw [beq_eq_false_iff_ne]; exact ha
            have HX := Lib.hid (decide_eq_false ha)
            clear ha
            go_wp2_with fail
            go_meet
            case rel => exact ⟨false, rfl, Lib.hid (by rw [p32, HX.out]; rfl), HF2, HI2, HG2⟩
      case rest =>
        obtain ⟨wA, rfl, HWA, HF2, HI2, HGz⟩ := hcut
        obtain ⟨w2, hw2⟩ : ∃ w2, w2 = wc := ⟨_, rfl⟩
        obtain rfl := hw2
        have HE3 := Lib.hid (by have h := HE2.out; rw [← HWA.out] at h; exact h)
        clear f0 f1 f2 a0 a1 a2 a3 a4 a5 a6 a7
        try clear qd
        clear q2
        go_upto_region 4 with fail
        have g0 : ∀ n os, (grow (w2.drewN n) os).cell? ⟨w.heap.size, 0, none⟩ = some (.int .u8 p) := fun n os => cell_grown HF2.out.lt (HF2.out.cell 0) n os
        have g1 : ∀ n os, (grow (w2.drewN n) os).cell? ⟨w.heap.size, 1, none⟩ = some (.int .u64 le) := fun n os => cell_grown HF2.out.lt (HF2.out.cell 1) n os
        have g2 : ∀ n os, (grow (w2.drewN n) os).cell? ⟨w.heap.size, 2, none⟩ = some (.int .u64 mo) := fun n os => cell_grown HF2.out.lt (HF2.out.cell 2) n os
        have h0 : ∀ n os, (grow (w2.drewN n) os).cell? ⟨w.heap.size + 1, 0, none⟩ = some (.int .i64 k) := fun n os => cell_grown HI2.out.lt (HI2.out.cell 0) n os
        have h1 : ∀ n os, (grow (w2.drewN n) os).cell? ⟨w.heap.size + 1, 1, none⟩ = some (.int .i64 d) := fun n os => cell_grown HI2.out.lt (HI2.out.cell 1) n os
        have h2 : ∀ n os, (grow (w2.drewN n) os).cell? ⟨w.heap.size + 1, 2, none⟩ = some (.int .i64 e) := fun n os => cell_grown HI2.out.lt (HI2.out.cell 2) n os
        have h3 : ∀ n os, (grow (w2.drewN n) os).cell? ⟨w.heap.size + 1, 3, none⟩ = some (.int .i64 a) := fun n os => cell_grown HI2.out.lt (HI2.out.cell 3) n os
        have h4 : ∀ n os, (grow (w2.drewN n) os).cell? ⟨w.heap.size + 1, 4, none⟩ = some (.int .i64 b) := fun n os => cell_grown HI2.out.lt (HI2.out.cell 4) n os
        have h5 : ∀ n os, (grow (w2.drewN n) os).cell? ⟨w.heap.size + 1, 5, none⟩ = some (.int .i64 c) := fun n os => cell_grown HI2.out.lt (HI2.out.cell 5) n os
        have h6 : ∀ n os, (grow (w2.drewN n) os).cell? ⟨w.heap.size + 1, 6, none⟩ = some (.int .i64 bf) := fun n os => cell_grown HI2.out.lt (HI2.out.cell 6) n os
        have h7 : ∀ n os, (grow (w2.drewN n) os).cell? ⟨w.heap.size + 1, 7, none⟩ = some (.int .u64 im) := fun n os => cell_grown HI2.out.lt (HI2.out.cell 7) n os
        cases v1 : rOk (hb p 1) d regs with
        | false =>
          refine wp_region_quiet_grown mixed (by kernel_rfl) ?_
          repeat (go_big_quiet_step (first | (go_at_call 106; with_reducible exact hbk _ _ _ _ _ _ _) | (go_at_call 107; first | (with_reducible exact frk v1 _ _ _) | (with_reducible exact frk rfl _ _ _))))
          refine wpQuiet_nil ?_
          intro _ hw'
          obtain ⟨⟨nq, osq⟩, hw''⟩ := hw'
          subst hw''
          go_wp2_with fail
          go_ret
          exact ⟨by rw [HE3.out]; first | rfl | simp [v1], HGz.out.trans (Grw.of _ _ _)⟩
        | true =>
          cases v2 : rOk (hb p 2) e regs with
          | false =>
            refine wp_region_quiet_grown mixed (by kernel_rfl) ?_
            repeat (go_big_quiet_step (first | (go_at_call 106; with_reducible exact hbk _ _ _ _ _ _ _) | (go_at_call 107; first | (with_reducible exact frk v1 _ _ _) | (with_reducible exact frk v2 _ _ _) | (with_reducible exact frk rfl _ _ _))))
            refine wpQuiet_nil ?_
            intro _ hw'
            obtain ⟨⟨nq, osq⟩, hw''⟩ := hw'
            subst hw''
            go_wp2_with fail
            go_ret
            exact ⟨by rw [HE3.out]; first | rfl | simp [v1, v2], HGz.out.trans (Grw.of _ _ _)⟩
          | true =>
            cases wA with
            | true =>
              cases v4 : rOk (hb p 8) b regs with
              | false =>
                refine wp_region_quiet_grown mixed (by kernel_rfl) ?_
                repeat (go_big_quiet_step (first | (go_at_call 106; with_reducible exact hbk _ _ _ _ _ _ _) | (go_at_call 107; first | (with_reducible exact frk v1 _ _ _) | (with_reducible exact frk v2 _ _ _) | (with_reducible exact frk v4 _ _ _) | (with_reducible exact frk rfl _ _ _))))
                refine wpQuiet_nil ?_
                intro _ hw'
                obtain ⟨⟨nq, osq⟩, hw''⟩ := hw'
                subst hw''
                go_wp2_with fail
                go_ret
                exact ⟨by rw [HE3.out]; first | rfl | simp [v1, v2, v4], HGz.out.trans (Grw.of _ _ _)⟩
              | true =>
                refine wp_region_quiet_grown mixed (by kernel_rfl) ?_
                repeat (go_big_quiet_step (first | (go_at_call 106; with_reducible exact hbk _ _ _ _ _ _ _) | (go_at_call 107; first | (with_reducible exact frk v1 _ _ _) | (with_reducible exact frk v2 _ _ _) | (with_reducible exact frk v4 _ _ _) | (with_reducible exact frk rfl _ _ _))))
                refine wpQuiet_nil ?_
                intro _ hw'
                obtain ⟨⟨nq, osq⟩, hw''⟩ := hw'
                subst hw''
                go_wp2_with fail
                go_ret
                exact ⟨by rw [HE3.out]; first | rfl | simp [v1, v2, v4], HGz.out.trans (Grw.of _ _ _)⟩
            | false =>
              cases v3 : rOk (hb p 36) a regs with
              | false =>
                refine wp_region_quiet_grown mixed (by kernel_rfl) ?_
                repeat (go_big_quiet_step (first | (go_at_call 106; with_reducible exact hbk _ _ _ _ _ _ _) | (go_at_call 107; first | (with_reducible exact frk v1 _ _ _) | (with_reducible exact frk v2 _ _ _) | (with_reducible exact frk v3 _ _ _) | (with_reducible exact frk rfl _ _ _))))
                refine wpQuiet_nil ?_
                intro _ hw'
                obtain ⟨⟨nq, osq⟩, hw''⟩ := hw'
                subst hw''
                go_wp2_with fail
                go_ret
                exact ⟨by rw [HE3.out]; first | rfl | simp [v1, v2, v3], HGz.out.trans (Grw.of _ _ _)⟩
              | true =>
                cases v4 : rOk (hb p 8) b regs with
                | false =>
                  refine wp_region_quiet_grown mixed (by kernel_rfl) ?_
                  repeat (go_big_quiet_step (first | (go_at_call 106; with_reducible exact hbk _ _ _ _ _ _ _) | (go_at_call 107; first | (with_reducible exact frk v1 _ _ _) | (with_reducible exact frk v2 _ _ _) | (with_reducible exact frk v3 _ _ _) | (with_reducible exact frk v4 _ _ _) | (with_reducible exact frk rfl _ _ _))))
                  refine wpQuiet_nil ?_
                  intro _ hw'
                  obtain ⟨⟨nq, osq⟩, hw''⟩ := hw'
                  subst hw''
                  go_wp2_with fail
                  go_ret
                  exact ⟨by rw [HE3.out]; first | rfl | simp [v1, v2, v3, v4], HGz.out.trans (Grw.of _ _ _)⟩
                | true =>
                  refine wp_region_quiet_grown mixed (by kernel_rfl) ?_
                  repeat (go_big_quiet_step (first | (go_at_call 106; with_reducible exact hbk _ _ _ _ _ _ _) | (go_at_call 107; first | (with_reducible exact frk v1 _ _ _) | (with_reducible exact frk v2 _ _ _) | (with_reducible exact frk v3 _ _ _) | (with_reducible exact frk v4 _ _ _) | (with_reducible exact frk rfl _ _ _))))
                  refine wpQuiet_nil ?_
                  intro _ hw'
                  obtain ⟨⟨nq, osq⟩, hw''⟩ := hw'
                  subst hw''
                  go_wp2_with fail
                  go_ret
                  exact ⟨by rw [HE3.out]; first | rfl | simp [v1, v2, v3, v4], HGz.out.trans (Grw.of _ _ _)⟩
    )
end Lb
end Go.Proofs.YtbdhibgljaelbaaDoor
