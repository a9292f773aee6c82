/- EncodeCalls' walk over what is asked of the landed package. -/
import Derived.Test.YthidjiidcelniaaDoorN3
import Derived.Deep.RegionHeld3
namespace Go.Proofs.YthidjiidcelniaaDoor
open Go Go.RowKit
namespace encodeCalls
open Is Nt
set_option linter.unusedVariables false
theorem bel3 {a b c : World} (h : Below a.heap.size a b) (k : Below b.heap.size b c) : Below a.heap.size a c := h.trans (k.mono h.size)
theorem RdX.more {w : World} {B B' : Nat} {A : Option Addr} {n : Nat} {is : List Ins} (h : RdX w B A n is) (hB : B ≤ B') : RdX w B' A n is :=
  ⟨h.len, h.oks, fun h0 => by obtain ⟨ad, e, hb, hc⟩ := h.rd h0; exact ⟨ad, e, by omega, hc⟩⟩
set_option maxRecDepth 100000 in
set_option maxHeartbeats 8000000 in
theorem walk_ {G : World → Prop} (ec : EncC G) (w : World) (HG : Hid (G w)) (i : Ins) (A : Option Addr) (n c : Nat) (is : List Ins) (hw : i.wf) (hr : RdX w w.heap.size A n is) (hn : n ≤ c) (hm : c ≤ 9223372036854775807) :
    Calls Tryd.prog 4 #[.agg i.vs, .slice A n c] w fun e w' => e = .returned (.bool true) ∧ Below w.heap.size w w' := by
  have HL := Lib.hid (fun W hg => elives_c ec W (Lib.hid hg))
  have HI := Lib.hid (fun W hg => ec.inst i W hg hw)
  have HRI := Lib.hid (fun W => rinst_c i W)
  have HSZ := Lib.hid (fun W hg => ec.size i W hg hw)
  have HRS := Lib.hid (fun W => rsize_c i W)
  have HRD := Lib.hid (fun (W : World) (hb : Hid (Below w.heap.size w W)) => RdX.more (hr.below hb.out) hb.out.size)
  have HB0 := Lib.hid ((Below.refl w.heap.size w).alloc (Nat.le_refl _) (.cells i.vs 29))
  have HI0 := Lib.hid (Bk.new w 29 i.vs)
  rcases Nat.lt_or_ge 40 n with h40 | h40
  · have hn40 : (40 : Int) < (n : Int) := by omega
    clear hr hw h40
    obtain ⟨op, d, s, t, b, x, sc, di, im⟩ := i
    unfold Ins.vs at *
    dsimp only at *
    go_enter Tryd.func4, Tryd.ntmps4
    go_wp2_with fail
    go_at_call 8
    refine (HL.out _ (ec.tb HG (by assumption))).mono ?_
    rintro e w1 ⟨rfl, hb⟩
    have HB1 := Lib.hid (HB0.out.trans (hb.mono HB0.out.size))
    clear hb
    go_wp2_with fail
    go_ret
    exact ⟨rfl, HB1.out⟩
  · have hn40 : (n : Int) ≤ 40 := by omega
    have HALL := Lib.hid (fun W hg hb => ec.all A n c is W hg (HRD.out W hb) h40 hn)
    have HRA := Lib.hid (fun W hb => rall_c A n c is W (HRD.out W hb) h40 hn)
    clear hr hw h40 HRD
    generalize encS i = z1 at *
    generalize chk i = z2 at *
    generalize allS is = z3 at *
    generalize allE is = z4 at *
    obtain ⟨op, d, s, t, b, x, sc, di, im⟩ := i
    unfold Ins.vs at *
    dsimp only at *
    go_enter Tryd.func4, Tryd.ntmps4
    go_wp2_with fail
    go_at_call 8
    refine (HL.out _ (ec.tb HG (by assumption))).mono ?_
    rintro e w1 ⟨rfl, hb⟩
    have HI1 := Lib.hid (HI0.out.below hb HI0.out.lt)
    have HB1 := Lib.hid (HB0.out.trans (hb.mono HB0.out.size))
    clear hb HB0 HI0
    obtain ⟨a0, a1, a2, a3, a4, a5, a6, a7, a8⟩ := c9 HI1.out
    go_wp2_with fail
    go_at_call 9
    refine (HI.out _ (ec.tb HG (by assumption))).mono ?_
    rintro e w2 ⟨rfl, hb⟩
    have HI2 := Lib.hid (HI1.out.below hb HI1.out.lt)
    have HB2 := Lib.hid (bel3 HB1.out hb)
    clear hb HB1 HI1 a0 a1 a2 a3 a4 a5 a6 a7 a8
    obtain ⟨a0, a1, a2, a3, a4, a5, a6, a7, a8⟩ := c9 HI2.out
    go_wp2_with fail
    go_at_call 13
    refine (HRI.out _).mono ?_
    rintro e w3 ⟨rfl, hb⟩
    have HI3 := Lib.hid (HI2.out.below hb HI2.out.lt)
    have HB3 := Lib.hid (bel3 HB2.out hb)
    clear hb HB2 HI2 a0 a1 a2 a3 a4 a5 a6 a7 a8
    go_wp2_with fail
    go_at_call 10
    refine (HALL.out _ (ec.tb HG (by assumption)) (by assumption)).mono ?_
    rintro e w4 ⟨rfl, hb⟩
    have HI4 := Lib.hid (HI3.out.below hb HI3.out.lt)
    have HB4 := Lib.hid (bel3 HB3.out hb)
    clear hb HB3 HI3
    go_wp2_with fail
    go_at_call 14
    refine (HRA.out _ (by assumption)).mono ?_
    rintro e w5 ⟨rfl, hb⟩
    have HI5 := Lib.hid (HI4.out.below hb HI4.out.lt).drew
    have HB5 : Hid (Below w.heap.size w w5.drew) := Lib.hid (bel3 HB4.out hb).drew
    clear hb HB4 HI4
    have K0 := c9 HI5.out
    have q1 : (z1.toList == z1.toList) = true := beq_self_eq_true _
    have q2 : (z3.toList == z3.toList) = true := beq_self_eq_true _
    go_wp2_with fail
    go_region_held3 (fun w' => w'.cell? ⟨w.heap.size, 0, none⟩ = some (.int .i64 op) ∧ w'.cell? ⟨w.heap.size, 1, none⟩ = some (.int .i64 d) ∧ w'.cell? ⟨w.heap.size, 2, none⟩ = some (.int .i64 s) ∧ w'.cell? ⟨w.heap.size, 3, none⟩ = some (.int .i64 t) ∧ w'.cell? ⟨w.heap.size, 4, none⟩ = some (.int .i64 b) ∧ w'.cell? ⟨w.heap.size, 5, none⟩ = some (.int .i64 x) ∧ w'.cell? ⟨w.heap.size, 6, none⟩ = some (.int .i64 sc) ∧ w'.cell? ⟨w.heap.size, 7, none⟩ = some (.int .i64 di) ∧ w'.cell? ⟨w.heap.size, 8, none⟩ = some (.int .i64 im)) (first | exact K0 | exact K6 | exact K7)
      (first | (go_at_call 12; refine (HSZ.out _ (ec.tb HG (by assumption))).mono ?_; rintro e y6 ⟨rfl, hb6⟩; have HI6 := Lib.hid (HI5.out.below hb6 HI5.out.lt); have K6 := c9 HI6.out; have HB6 := Lib.hid (bel3 HB5.out hb6); clear hb6) | (go_at_call 15; refine (HRS.out _).mono ?_; rintro e y7 ⟨rfl, hb7⟩; have HI7 := Lib.hid (HI6.out.below hb7 HI6.out.lt); have K7 := c9 HI7.out; have HB7 := Lib.hid (bel3 HB6.out hb7); clear hb7) | fail)
    all_goals
      go_wp2_with fail
      go_ret
      exact ⟨by first | rfl | simp, HB7.out⟩
end encodeCalls
end Go.Proofs.YthidjiidcelniaaDoor
