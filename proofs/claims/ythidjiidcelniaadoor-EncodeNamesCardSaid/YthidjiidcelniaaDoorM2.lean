/- The document's own Inst, Size. -/
import Derived.Test.YthidjiidcelniaaDoorM1
import Derived.Test.YthidjiidcelniaaDoorD1
namespace Go.Proofs.YthidjiidcelniaaDoor
open Go Go.RowKit
namespace Is
open Nt
set_option linter.unusedVariables false
set_option linter.unusedSimpArgs false
set_option maxHeartbeats 2000000 in
theorem rinst_c (i : Ins) (w : World) : Calls Tryd.prog 13 #[.agg i.vs] w fun e w' => e = .returned (.tuple #[.string (encS i), .int .i64 (chk i)]) ∧ Below w.heap.size w w' := by
  have HC := Lib.hid (fun W => check_r i W)
  have HB0 := Lib.hid ((Below.refl w.heap.size w).alloc (Nat.le_refl _) (.cells i.vs 29))
  have HI0 := Lib.hid (Bk.new w 29 i.vs)
  rcases chk_01 i with ⟨hk, he⟩ | ⟨hk, he⟩
  · have e1 : encS i = strU (encL i) := by unfold encS; rw [hk]; rfl
    have HY := Lib.hid (fun W => bytes_c i hk W)
    have HE := Lib.hid (encl_ok i hk)
    rw [e1, he]
    rw [he] at HC
    clear e1 hk he
    generalize encL i = xs at *
    obtain ⟨op, d, s, t, b, x, sc, di, im⟩ := i
    unfold Ins.vs at *
    dsimp only at *
    obtain ⟨a0, a1, a2, a3, a4, a5, a6, a7, a8⟩ := c9 HI0.out
    go_enter Tryd.func13, Tryd.ntmps13
    go_wp2_with fail
    go_at_call 16
    refine (HC.out _).mono ?_
    rintro e w1 ⟨rfl, hb1⟩
    have HI1 := Lib.hid (HI0.out.below hb1 HI0.out.lt)
    have HB1 : Hid (Below w.heap.size w w1) := Lib.hid (HB0.out.trans (hb1.mono HB0.out.size))
    clear a0 a1 a2 a3 a4 a5 a6 a7 a8 hb1
    obtain ⟨a0, a1, a2, a3, a4, a5, a6, a7, a8⟩ := c9 HI1.out
    go_wp2_with fail
    go_at_call 21
    refine (HY.out _).mono ?_
    rintro e w2 ⟨v, rfl, o2, hb2⟩
    have HB2 : Hid (Below w.heap.size w w2) := Lib.hid (HB1.out.trans (hb2.mono HB1.out.size))
    have hcv := conv8 o2 HE.out.1 (by have := HE.out.2.1; omega)
    clear o2 hb2
    go_wp2_with fail
    go_ret2
    exact ⟨rfl, HB2.out⟩
  · have e1 : encS i = ⟨#[]⟩ := by unfold encS; rw [hk]; rfl
    rw [e1, he]
    rw [he] at HC
    clear e1 hk he
    obtain ⟨op, d, s, t, b, x, sc, di, im⟩ := i
    unfold Ins.vs at *
    dsimp only at *
    obtain ⟨a0, a1, a2, a3, a4, a5, a6, a7, a8⟩ := c9 HI0.out
    go_enter Tryd.func13, Tryd.ntmps13
    go_wp2_with fail
    go_at_call 16
    refine (HC.out _).mono ?_
    rintro e w1 ⟨rfl, hb1⟩
    have HB1 : Hid (Below w.heap.size w w1) := Lib.hid (HB0.out.trans (hb1.mono HB0.out.size))
    clear a0 a1 a2 a3 a4 a5 a6 a7 a8 hb1
    go_wp2_with fail
    go_ret2
    exact ⟨rfl, HB1.out⟩
theorem rsize_c (i : Ins) (w : World) : Calls Tryd.prog 15 #[.agg i.vs] w fun e w' => e = .returned (.int .i64 ((encS i).size : Int)) ∧ Below w.heap.size w w' := by
  have HC := Lib.hid (fun W => rinst_c i W)
  have HB0 := Lib.hid ((Below.refl w.heap.size w).alloc (Nat.le_refl _) (.cells i.vs 29))
  have HI0 := Lib.hid (Bk.new w 29 i.vs)
  generalize encS i = z at *
  generalize chk i = k at *
  obtain ⟨op, d, s, t, b, x, sc, di, im⟩ := i
  unfold Ins.vs at *
  dsimp only at *
  obtain ⟨a0, a1, a2, a3, a4, a5, a6, a7, a8⟩ := c9 HI0.out
  go_enter Tryd.func15, Tryd.ntmps15
  go_wp2_with fail
  go_at_call 13
  refine (HC.out _).mono ?_
  rintro e w1 ⟨rfl, hb1⟩
  have HB1 : Hid (Below w.heap.size w w1) := Lib.hid (HB0.out.trans (hb1.mono HB0.out.size))
  clear a0 a1 a2 a3 a4 a5 a6 a7 a8 hb1
  go_wp2_with fail
  go_ret
  exact ⟨rfl, HB1.out⟩

end Is
end Go.Proofs.YthidjiidcelniaaDoor
