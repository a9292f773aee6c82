/- EncodeNames' walk over what is asked of the landed package. -/
import Derived.Test.YthidjiidcelniaaDoorN2
namespace Go.Proofs.YthidjiidcelniaaDoor
open Go Go.RowKit
namespace encodeNames
open Is Nt
set_option linter.unusedVariables false
theorem bel3 {a b c : World} (h : Below a.heap.size a b) (k : Below b.heap.size b c) : Below a.heap.size a c := h.trans (k.mono h.size)
theorem c4n {w : World} {I : Nat} {b x sc di : Int} (h : Bk w I 24 #[.int .i64 b, .int .i64 x, .int .i64 sc, .int .i64 di]) : w.cell? ⟨I, 0, none⟩ = some (.int .i64 b) ∧ w.cell? ⟨I, 1, none⟩ = some (.int .i64 x) ∧ w.cell? ⟨I, 2, none⟩ = some (.int .i64 sc) ∧ w.cell? ⟨I, 3, none⟩ = some (.int .i64 di) := ⟨h.cell 0, h.cell 1, h.cell 2, h.cell 3⟩
def vv (a b : Ins) : Array Value := #[.int .i64 a.op, .int .i64 a.d, .int .i64 a.s, .int .i64 a.t, .int .i64 a.b, .int .i64 a.x, .int .i64 a.sc, .int .i64 a.di, .int .i64 a.im, .int .i64 b.op, .int .i64 b.d, .int .i64 b.s, .int .i64 b.t, .int .i64 b.b, .int .i64 b.x, .int .i64 b.sc, .int .i64 b.di, .int .i64 b.im]
/-- two instructions in a row of one's own -/
theorem two_rd {w : World} {g : Nat} {a b : Ins} (h : Bk w g 29 (vv a b)) (ha : a.wf) (hb : b.wf) : RdX w w.heap.size (some ⟨g, 0, none⟩) 2 [a, b] := by
  refine ⟨rfl, fun i hi => ?_, fun _ => ⟨_, rfl, h.lt, fun j i hj => ?_⟩⟩
  · simp at hi; rcases hi with rfl | rfl <;> assumption
  · rcases j with _ | _ | j
    · simp at hj
      subst hj
      exact ⟨h.cell 0, h.cell 1, h.cell 2, h.cell 3, h.cell 4, h.cell 5, h.cell 6, h.cell 7, h.cell 8⟩
    · simp at hj
      subst hj
      exact ⟨h.cell 9, h.cell 10, h.cell 11, h.cell 12, h.cell 13, h.cell 14, h.cell 15, h.cell 16, h.cell 17⟩
    · simp at hj
set_option maxHeartbeats 4000000 in
theorem put_c {G : World → Prop} (ec : EncC G) (i : Ins) (hi : i.wf) (w : World) (HG : Hid (G w)) : Calls Tryd.prog 11 #[.agg i.vs] w fun e w' => e = .returned (.string (encS i)) ∧ Below w.heap.size w w' := by
  have HR := Lib.hid (fun W hg => ec.inst i W hg hi)
  have HB0 := Lib.hid ((Below.refl w.heap.size w).alloc (Nat.le_refl _) (.cells i.vs 29))
  have HI0 := Lib.hid (Bk.new w 29 i.vs)
  clear hi
  generalize encS i = z1 at *
  generalize chk i = z2 at *
  obtain ⟨op, d, s, t, b, x, sc, di, im⟩ := i
  unfold Ins.vs at *
  dsimp only at *
  obtain ⟨a0, a1, a2, a3, a4, a5, a6, a7, a8⟩ := c9 HI0.out
  go_enter Tryd.func11, Tryd.ntmps11
  go_wp2_with fail
  go_at_call 9
  refine (HR.out _ (ec.tb HG HB0)).mono ?_
  rintro e w2 ⟨rfl, hb2⟩
  have HB2 : Hid (Below w.heap.size w w2) := Lib.hid (HB0.out.trans (hb2.mono HB0.out.size))
  clear a0 a1 a2 a3 a4 a5 a6 a7 a8 hb2
  go_wp2_with fail
  go_ret
  exact ⟨rfl, HB2.out⟩
set_option maxRecDepth 100000 in
set_option maxHeartbeats 8000000 in
theorem walk_ {G : World → Prop} (ec : EncC G) (w : World) (HG : Hid (G w)) : Calls Tryd.prog 3 #[] w fun e w' => e = .returned (.bool true) ∧ Below w.heap.size w w' := by
  have HB0 := Lib.hid (Below.refl w.heap.size w)
  have HL := Lib.hid (fun W hg => elives_c ec W (Lib.hid hg))
  have HZ := Lib.hid (fun W hg => ec.inst ⟨0, 0, 0, 0, 0, 0, 0, 0, 0⟩ W hg (show ((⟨0, 0, 0, 0, 0, 0, 0, 0, 0⟩ : Ins)).wf by constructor <;> exact i64e (by decide) (by decide)))
  rw [show encS ⟨0, 0, 0, 0, 0, 0, 0, 0, 0⟩ = ⟨#[]⟩ from by decide +kernel, show chk ⟨0, 0, 0, 0, 0, 0, 0, 0, 0⟩ = 2 from by decide] at HZ
  unfold Ins.vs at HZ
  have HA0 := Lib.hid (fun (g : Nat) (W : World) (hg : G W) (h : Bk W g 29 (vv ⟨33, 0, 0, 0, 0, 0, 0, 0, 0⟩ ⟨28, 0, 8, 0, 0, 0, 0, 0, 0⟩)) => ec.all (some ⟨g, 0, none⟩) 2 2 [⟨33, 0, 0, 0, 0, 0, 0, 0, 0⟩, ⟨28, 0, 8, 0, 0, 0, 0, 0, 0⟩] W hg (two_rd h (show ((⟨33, 0, 0, 0, 0, 0, 0, 0, 0⟩ : Ins)).wf by constructor <;> exact i64e (by decide) (by decide)) (show ((⟨28, 0, 8, 0, 0, 0, 0, 0, 0⟩ : Ins)).wf by constructor <;> exact i64e (by decide) (by decide))) (by decide) (by decide))
  rw [show allS [⟨33, 0, 0, 0, 0, 0, 0, 0, 0⟩, ⟨28, 0, 8, 0, 0, 0, 0, 0, 0⟩] = ⟨#[195, 65, 80]⟩ from by decide +kernel, show allE [⟨33, 0, 0, 0, 0, 0, 0, 0, 0⟩, ⟨28, 0, 8, 0, 0, 0, 0, 0, 0⟩] = 0 from by decide +kernel] at HA0
  unfold vv at HA0
  have HA1 := Lib.hid (fun (g : Nat) (W : World) (hg : G W) (h : Bk W g 29 (vv ⟨33, 0, 0, 0, 0, 0, 0, 0, 0⟩ ⟨0, 0, 0, 0, 0, 0, 0, 0, 0⟩)) => ec.all (some ⟨g, 0, none⟩) 2 2 [⟨33, 0, 0, 0, 0, 0, 0, 0, 0⟩, ⟨0, 0, 0, 0, 0, 0, 0, 0, 0⟩] W hg (two_rd h (show ((⟨33, 0, 0, 0, 0, 0, 0, 0, 0⟩ : Ins)).wf by constructor <;> exact i64e (by decide) (by decide)) (show ((⟨0, 0, 0, 0, 0, 0, 0, 0, 0⟩ : Ins)).wf by constructor <;> exact i64e (by decide) (by decide))) (by decide) (by decide))
  rw [show allS [⟨33, 0, 0, 0, 0, 0, 0, 0, 0⟩, ⟨0, 0, 0, 0, 0, 0, 0, 0, 0⟩] = ⟨#[]⟩ from by decide +kernel, show allE [⟨33, 0, 0, 0, 0, 0, 0, 0, 0⟩, ⟨0, 0, 0, 0, 0, 0, 0, 0, 0⟩] = 2 from by decide +kernel] at HA1
  unfold vv at HA1
  have HP0 := Lib.hid (fun W hg => put_c ec ⟨3, 0, 0, 0, 5, -1, 1, 0, 0⟩ (show ((⟨3, 0, 0, 0, 5, -1, 1, 0, 0⟩ : Ins)).wf by constructor <;> exact i64e (by decide) (by decide)) W hg)
  rw [show encS ⟨3, 0, 0, 0, 5, -1, 1, 0, 0⟩ = ⟨#[72, 139, 69, 0]⟩ from by decide +kernel] at HP0
  unfold Ins.vs at HP0
  have HP1 := Lib.hid (fun W hg => put_c ec ⟨4, 0, 2, 0, 13, 12, 4, 128, 0⟩ (show ((⟨4, 0, 2, 0, 13, 12, 4, 128, 0⟩ : Ins)).wf by constructor <;> exact i64e (by decide) (by decide)) W hg)
  rw [show encS ⟨4, 0, 2, 0, 13, 12, 4, 128, 0⟩ = ⟨#[75, 137, 148, 165, 128, 0, 0, 0]⟩ from by decide +kernel] at HP1
  unfold Ins.vs at HP1
  have HP2 := Lib.hid (fun W hg => put_c ec ⟨2, 9, 0, 0, 0, 0, 0, 0, -2⟩ (show ((⟨2, 9, 0, 0, 0, 0, 0, 0, -2⟩ : Ins)).wf by constructor <;> exact i64e (by decide) (by decide)) W hg)
  rw [show encS ⟨2, 9, 0, 0, 0, 0, 0, 0, -2⟩ = ⟨#[73, 185, 254, 255, 255, 255, 255, 255, 255, 255]⟩ from by decide +kernel] at HP2
  unfold Ins.vs at HP2
  have HP3 := Lib.hid (fun W hg => put_c ec ⟨17, 4, 0, 0, 0, 0, 0, 0, 16⟩ (show ((⟨17, 4, 0, 0, 0, 0, 0, 0, 16⟩ : Ins)).wf by constructor <;> exact i64e (by decide) (by decide)) W hg)
  rw [show encS ⟨17, 4, 0, 0, 0, 0, 0, 0, 16⟩ = ⟨#[72, 129, 236, 16, 0, 0, 0]⟩ from by decide +kernel] at HP3
  unfold Ins.vs at HP3
  have HP4 := Lib.hid (fun W hg => put_c ec ⟨21, 8, 0, 0, 0, 0, 0, 0, 0⟩ (show ((⟨21, 8, 0, 0, 0, 0, 0, 0, 0⟩ : Ins)).wf by constructor <;> exact i64e (by decide) (by decide)) W hg)
  rw [show encS ⟨21, 8, 0, 0, 0, 0, 0, 0, 0⟩ = ⟨#[243, 76, 15, 56, 246, 192]⟩ from by decide +kernel] at HP4
  unfold Ins.vs at HP4
  have HP5 := Lib.hid (fun W hg => put_c ec ⟨25, 3, 0, 0, 0, 0, 0, 0, 63⟩ (show ((⟨25, 3, 0, 0, 0, 0, 0, 0, 63⟩ : Ins)).wf by constructor <;> exact i64e (by decide) (by decide)) W hg)
  rw [show encS ⟨25, 3, 0, 0, 0, 0, 0, 0, 63⟩ = ⟨#[72, 193, 235, 63]⟩ from by decide +kernel] at HP5
  unfold Ins.vs at HP5
  have HP6 := Lib.hid (fun W hg => put_c ec ⟨26, 0, 15, 0, 0, 0, 0, 0, 0⟩ (show ((⟨26, 0, 15, 0, 0, 0, 0, 0, 0⟩ : Ins)).wf by constructor <;> exact i64e (by decide) (by decide)) W hg)
  rw [show encS ⟨26, 0, 15, 0, 0, 0, 0, 0, 0⟩ = ⟨#[73, 15, 66, 199]⟩ from by decide +kernel] at HP6
  unfold Ins.vs at HP6
  have HP7 := Lib.hid (fun W hg => put_c ec ⟨31, 0, 0, 0, 0, 0, 0, 0, -6⟩ (show ((⟨31, 0, 0, 0, 0, 0, 0, 0, -6⟩ : Ins)).wf by constructor <;> exact i64e (by decide) (by decide)) W hg)
  rw [show encS ⟨31, 0, 0, 0, 0, 0, 0, 0, -6⟩ = ⟨#[15, 133, 250, 255, 255, 255]⟩ from by decide +kernel] at HP7
  unfold Ins.vs at HP7
  have HS0 := Lib.hid (fun W hg => ec.size ⟨2, 0, 0, 0, 0, 0, 0, 0, 0⟩ W hg (show ((⟨2, 0, 0, 0, 0, 0, 0, 0, 0⟩ : Ins)).wf by constructor <;> exact i64e (by decide) (by decide)))
  rw [show (encS ⟨2, 0, 0, 0, 0, 0, 0, 0, 0⟩).size = 10 from by decide +kernel] at HS0
  unfold Ins.vs at HS0
  have HS1 := Lib.hid (fun W hg => ec.size ⟨0, 0, 0, 0, 0, 0, 0, 0, 0⟩ W hg (show ((⟨0, 0, 0, 0, 0, 0, 0, 0, 0⟩ : Ins)).wf by constructor <;> exact i64e (by decide) (by decide)))
  rw [show (encS ⟨0, 0, 0, 0, 0, 0, 0, 0, 0⟩).size = 0 from by decide +kernel] at HS1
  unfold Ins.vs at HS1
  dsimp only at HZ HA0 HA1 HP0 HP1 HP2 HP3 HP4 HP5 HP6 HP7 HS0 HS1
  go_enter Tryd.func3, Tryd.ntmps3
  (try simp only [List.append])
  go_wp2_with fail
  go_at_call 8
  refine (HL.out _ (ec.tb HG (by assumption))).mono ?_
  rintro e w1 ⟨rfl, hb⟩
  have HB1 := Lib.hid (HB0.out.trans (hb.mono HB0.out.size))
  clear hb HL HB0
  have HBa := Lib.hid ((HB1.out.alloc HB1.out.size (.cells #[.int .i64 5, .int .i64 (-1), .int .i64 1, .int .i64 0] 24)).alloc (by have := HB1.out.size; simp; omega) (.cells #[.int .i64 13, .int .i64 12, .int .i64 4, .int .i64 128] 24))
  have HMa := Lib.hid ((Bk.new w1 24 #[.int .i64 5, .int .i64 (-1), .int .i64 1, .int .i64 0]).alloc (.cells #[.int .i64 13, .int .i64 12, .int .i64 4, .int .i64 128] 24))
  have HNa := Lib.hid (Bk.new' (w := w1.alloc (.cells #[.int .i64 5, .int .i64 (-1), .int .i64 1, .int .i64 0] 24)) (t := 24) (cs := #[.int .i64 13, .int .i64 12, .int .i64 4, .int .i64 128]) (g := w1.heap.size + 1) (by simp))
  go_wp2_with fail
  go_at_call 9
  refine (HZ.out _ (ec.tb HG HBa)).mono ?_
  rintro e3 w3 ⟨rfl, hb⟩
  have HB3 := Lib.hid (bel3 HBa.out hb)
  have HM3 := Lib.hid (HMa.out.below hb HMa.out.lt)
  have HN3 := Lib.hid (HNa.out.below hb HNa.out.lt)
  clear hb
  have HB3b := Lib.hid (HB3.out.alloc HB3.out.size (.cells #[.int .i64 33, .int .i64 0, .int .i64 0, .int .i64 0, .int .i64 0, .int .i64 0, .int .i64 0, .int .i64 0, .int .i64 0, .int .i64 28, .int .i64 0, .int .i64 8, .int .i64 0, .int .i64 0, .int .i64 0, .int .i64 0, .int .i64 0, .int .i64 0] 29))
  have HM3b := Lib.hid (HM3.out.alloc (.cells #[.int .i64 33, .int .i64 0, .int .i64 0, .int .i64 0, .int .i64 0, .int .i64 0, .int .i64 0, .int .i64 0, .int .i64 0, .int .i64 28, .int .i64 0, .int .i64 8, .int .i64 0, .int .i64 0, .int .i64 0, .int .i64 0, .int .i64 0, .int .i64 0] 29))
  have HN3b := Lib.hid (HN3.out.alloc (.cells #[.int .i64 33, .int .i64 0, .int .i64 0, .int .i64 0, .int .i64 0, .int .i64 0, .int .i64 0, .int .i64 0, .int .i64 0, .int .i64 28, .int .i64 0, .int .i64 8, .int .i64 0, .int .i64 0, .int .i64 0, .int .i64 0, .int .i64 0, .int .i64 0] 29))
  go_wp2_with fail
  go_at_call 10
  refine (HA0.out _ _ (ec.tb HG HB3b) (Bk.new w3 _ _)).mono ?_
  rintro e4 w4 ⟨rfl, hb⟩
  have HB4 := Lib.hid (bel3 HB3b.out hb)
  have HM4 := Lib.hid (HM3b.out.below hb HM3b.out.lt)
  have HN4 := Lib.hid (HN3b.out.below hb HN3b.out.lt)
  clear hb
  have HB4b := Lib.hid (HB4.out.alloc HB4.out.size (.cells #[.int .i64 33, .int .i64 0, .int .i64 0, .int .i64 0, .int .i64 0, .int .i64 0, .int .i64 0, .int .i64 0, .int .i64 0, .int .i64 0, .int .i64 0, .int .i64 0, .int .i64 0, .int .i64 0, .int .i64 0, .int .i64 0, .int .i64 0, .int .i64 0] 29))
  have HM4b := Lib.hid (HM4.out.alloc (.cells #[.int .i64 33, .int .i64 0, .int .i64 0, .int .i64 0, .int .i64 0, .int .i64 0, .int .i64 0, .int .i64 0, .int .i64 0, .int .i64 0, .int .i64 0, .int .i64 0, .int .i64 0, .int .i64 0, .int .i64 0, .int .i64 0, .int .i64 0, .int .i64 0] 29))
  have HN4b := Lib.hid (HN4.out.alloc (.cells #[.int .i64 33, .int .i64 0, .int .i64 0, .int .i64 0, .int .i64 0, .int .i64 0, .int .i64 0, .int .i64 0, .int .i64 0, .int .i64 0, .int .i64 0, .int .i64 0, .int .i64 0, .int .i64 0, .int .i64 0, .int .i64 0, .int .i64 0, .int .i64 0] 29))
  go_wp2_with fail
  go_at_call 10
  refine (HA1.out _ _ (ec.tb HG HB4b) (Bk.new w4 _ _)).mono ?_
  rintro e5 w5 ⟨rfl, hb⟩
  have HB5 := Lib.hid (bel3 HB4b.out hb)
  have HM5 := Lib.hid (HM4b.out.below hb HM4b.out.lt)
  have HN5 := Lib.hid (HN4b.out.below hb HN4b.out.lt)
  clear hb
  obtain ⟨m0, m1, m2, m3⟩ := c4n HM5.out
  go_wp2_with fail
  go_at_call 11
  refine (HP0.out _ (Lib.hid (ec.tb HG HB5))).mono ?_
  rintro e6 w6 ⟨rfl, hb⟩
  have HB6 := Lib.hid (bel3 HB5.out hb)
  have HM6 := Lib.hid (HM5.out.below hb HM5.out.lt)
  have HN6 := Lib.hid (HN5.out.below hb HN5.out.lt)
  clear hb
  clear m0 m1 m2 m3
  obtain ⟨m0, m1, m2, m3⟩ := c4n HN6.out
  go_wp2_with fail
  go_at_call 11
  refine (HP1.out _ (Lib.hid (ec.tb HG HB6))).mono ?_
  rintro e7 w7 ⟨rfl, hb⟩
  have HB7 := Lib.hid (bel3 HB6.out hb)
  have HM7 := Lib.hid (HM6.out.below hb HM6.out.lt)
  have HN7 := Lib.hid (HN6.out.below hb HN6.out.lt)
  clear hb
  clear m0 m1 m2 m3
  go_wp2_with fail
  go_at_call 11
  refine (HP2.out _ (Lib.hid (ec.tb HG HB7))).mono ?_
  rintro e8 w8 ⟨rfl, hb⟩
  have HB8 := Lib.hid (bel3 HB7.out hb)
  have HM8 := Lib.hid (HM7.out.below hb HM7.out.lt)
  have HN8 := Lib.hid (HN7.out.below hb HN7.out.lt)
  clear hb
  go_wp2_with fail
  go_at_call 11
  refine (HP3.out _ (Lib.hid (ec.tb HG HB8))).mono ?_
  rintro e9 w9 ⟨rfl, hb⟩
  have HB9 := Lib.hid (bel3 HB8.out hb)
  have HM9 := Lib.hid (HM8.out.below hb HM8.out.lt)
  have HN9 := Lib.hid (HN8.out.below hb HN8.out.lt)
  clear hb
  go_wp2_with fail
  go_at_call 11
  refine (HP4.out _ (Lib.hid (ec.tb HG HB9))).mono ?_
  rintro e10 w10 ⟨rfl, hb⟩
  have HB10 := Lib.hid (bel3 HB9.out hb)
  have HM10 := Lib.hid (HM9.out.below hb HM9.out.lt)
  have HN10 := Lib.hid (HN9.out.below hb HN9.out.lt)
  clear hb
  go_wp2_with fail
  go_at_call 11
  refine (HP5.out _ (Lib.hid (ec.tb HG HB10))).mono ?_
  rintro e11 w11 ⟨rfl, hb⟩
  have HB11 := Lib.hid (bel3 HB10.out hb)
  have HM11 := Lib.hid (HM10.out.below hb HM10.out.lt)
  have HN11 := Lib.hid (HN10.out.below hb HN10.out.lt)
  clear hb
  go_wp2_with fail
  go_at_call 11
  refine (HP6.out _ (Lib.hid (ec.tb HG HB11))).mono ?_
  rintro e12 w12 ⟨rfl, hb⟩
  have HB12 := Lib.hid (bel3 HB11.out hb)
  have HM12 := Lib.hid (HM11.out.below hb HM11.out.lt)
  have HN12 := Lib.hid (HN11.out.below hb HN11.out.lt)
  clear hb
  go_wp2_with fail
  go_at_call 11
  refine (HP7.out _ (Lib.hid (ec.tb HG HB12))).mono ?_
  rintro e13 w13 ⟨rfl, hb⟩
  have HB13 := Lib.hid (bel3 HB12.out hb)
  have HM13 := Lib.hid (HM12.out.below hb HM12.out.lt)
  have HN13 := Lib.hid (HN12.out.below hb HN12.out.lt)
  clear hb
  go_wp2_with fail
  go_at_call 12
  refine (HS0.out _ (ec.tb HG HB13)).mono ?_
  rintro e14 w14 ⟨rfl, hb⟩
  have HB14 := Lib.hid (bel3 HB13.out hb)
  have HM14 := Lib.hid (HM13.out.below hb HM13.out.lt)
  have HN14 := Lib.hid (HN13.out.below hb HN13.out.lt)
  clear hb
  go_wp2_with fail
  go_at_call 12
  refine (HS1.out _ (ec.tb HG HB14)).mono ?_
  rintro e15 w15 ⟨rfl, hb⟩
  have HB15 := Lib.hid (bel3 HB14.out hb)
  have HM15 := Lib.hid (HM14.out.below hb HM14.out.lt)
  have HN15 := Lib.hid (HN14.out.below hb HN14.out.lt)
  clear hb
  go_wp2_with fail
  go_ret
  exact ⟨rfl, HB15.out⟩
end encodeNames
end Go.Proofs.YthidjiidcelniaaDoor
