/- The document's own Reads, Writes, whole. -/
import Derived.Test.YtmiphnocgepdgaaGreatDoorE1
import Derived.Test.YtmiphnocgepdgaaGreatDoorE3
import Derived.Test.YtmiphnocgepdgaaGreatDoorE5
import Derived.Test.YtmiphnocgepdgaaGreatDoorE7
import Derived.Test.YtmiphnocgepdgaaGreatDoorE9
import Derived.Test.YtmiphnocgepdgaaGreatDoorE11
namespace Go.Proofs.YtmiphnocgepdgaaGreatDoor
open Go Go.RowKit
namespace Is
open Nt
set_option linter.unusedVariables false
set_option maxRecDepth 100000 in
theorem reads_none (i : Ins) (hk : okI i = false) (he : chk i = 2) (w : World) : Calls Tryz.prog 24 #[.agg i.vs] w (RowP (rdL i) w) := by
  have HC : Hid (∀ W, Calls Tryz.prog 28 #[.agg i.vs] W fun e w' => e = .returned (.int .i64 2) ∧ Below W.heap.size W w') := Lib.hid (fun W => by have h1 := check_r i W; rw [he] at h1; exact h1)
  have HB := Lib.hid ((Below.refl w.heap.size w).alloc (Nat.le_refl _) (.cells i.vs 37))
  have e0 : rdL i = [] := by unfold rdL; rw [hk]; rfl
  rw [e0]
  clear e0 hk he
  unfold Ins.vs at *
  go_enter Tryz.func24, Tryz.ntmps24
  go_wp2_with fail
  go_at_call 28
  refine (HC.out _).mono ?_
  rintro e w1 ⟨rfl, hb1⟩
  have HB1 := Lib.hid hb1
  clear hb1
  go_wp2_with fail
  go_ret
  exact ⟨_, rfl, World.ownsRow_nil _ _ _ _, HB.out.trans (HB1.out.mono (by simp))⟩
set_option maxRecDepth 100000 in
theorem writes_none (i : Ins) (hk : okI i = false) (he : chk i = 2) (w : World) : Calls Tryz.prog 23 #[.agg i.vs] w (RowP (wrL i) w) := by
  have HC : Hid (∀ W, Calls Tryz.prog 28 #[.agg i.vs] W fun e w' => e = .returned (.int .i64 2) ∧ Below W.heap.size W w') := Lib.hid (fun W => by have h1 := check_r i W; rw [he] at h1; exact h1)
  have HB := Lib.hid ((Below.refl w.heap.size w).alloc (Nat.le_refl _) (.cells i.vs 37))
  have e0 : wrL i = [] := by unfold wrL; rw [hk]; rfl
  rw [e0]
  clear e0 hk he
  unfold Ins.vs at *
  go_enter Tryz.func23, Tryz.ntmps23
  go_wp2_with fail
  go_at_call 28
  refine (HC.out _).mono ?_
  rintro e w1 ⟨rfl, hb1⟩
  have HB1 := Lib.hid hb1
  clear hb1
  go_wp2_with fail
  go_ret
  exact ⟨_, rfl, World.ownsRow_nil _ _ _ _, HB.out.trans (HB1.out.mono (by simp))⟩
theorem reads_ref (i : Ins) (w : World) : Calls Tryz.prog 24 #[.agg i.vs] w (RowP (rdL i) w) := by
  rcases chk_01 i with ⟨hk, he⟩ | ⟨hk, he⟩
  · have hop := ok_op hk
    by_cases hx : i.x = -1
    · rcases op_cases i.op with h | h | h | h | h | h | h | h | h | h | h | h | h | h | h | h | h | h | h | h | h | h | h | h | h | h | h | h | h | h | h | h | h | h
      · exact reads_ds1 i hk (by omega) w
      · exact reads_di i hk (by omega) w
      · exact reads_dm03 i hk (by omega) hx w
      · exact reads_sm0 i hk (by omega) hx w
      · exact reads_dm05 i hk (by omega) hx w
      · exact reads_ds i hk (by omega) w
      · exact reads_ds i hk (by omega) w
      · exact reads_ds i hk (by omega) w
      · exact reads_ds i hk (by omega) w
      · exact reads_ds i hk (by omega) w
      · exact reads_ds i hk (by omega) w
      · exact reads_ds i hk (by omega) w
      · exact reads_ds i hk (by omega) w
      · exact reads_ds i hk (by omega) w
      · exact reads_dj i hk (by omega) w
      · exact reads_dj i hk (by omega) w
      · exact reads_dj i hk (by omega) w
      · exact reads_dj i hk (by omega) w
      · exact reads_dst i hk (by omega) w
      · exact reads_ds i hk (by omega) w
      · exact reads_ds i hk (by omega) w
      · exact reads_d i hk (by omega) w
      · exact reads_d i hk (by omega) w
      · exact reads_db i hk (by omega) w
      · exact reads_db i hk (by omega) w
      · exact reads_ds i hk (by omega) w
      · exact reads_ds i hk (by omega) w
      · exact reads_s i hk (by omega) w
      · exact reads_d29 i hk (by omega) w
      · exact reads_j i hk (by omega) w
      · exact reads_j i hk (by omega) w
      · exact reads_j i hk (by omega) w
      · exact reads_r i hk (by omega) w
      · exact absurd hop (by omega)
    · rcases op_cases i.op with h | h | h | h | h | h | h | h | h | h | h | h | h | h | h | h | h | h | h | h | h | h | h | h | h | h | h | h | h | h | h | h | h | h
      · exact reads_ds1 i hk (by omega) w
      · exact reads_di i hk (by omega) w
      · exact reads_dm13 i hk (by omega) hx w
      · exact reads_sm1 i hk (by omega) hx w
      · exact reads_dm15 i hk (by omega) hx w
      · exact reads_ds i hk (by omega) w
      · exact reads_ds i hk (by omega) w
      · exact reads_ds i hk (by omega) w
      · exact reads_ds i hk (by omega) w
      · exact reads_ds i hk (by omega) w
      · exact reads_ds i hk (by omega) w
      · exact reads_ds i hk (by omega) w
      · exact reads_ds i hk (by omega) w
      · exact reads_ds i hk (by omega) w
      · exact reads_dj i hk (by omega) w
      · exact reads_dj i hk (by omega) w
      · exact reads_dj i hk (by omega) w
      · exact reads_dj i hk (by omega) w
      · exact reads_dst i hk (by omega) w
      · exact reads_ds i hk (by omega) w
      · exact reads_ds i hk (by omega) w
      · exact reads_d i hk (by omega) w
      · exact reads_d i hk (by omega) w
      · exact reads_db i hk (by omega) w
      · exact reads_db i hk (by omega) w
      · exact reads_ds i hk (by omega) w
      · exact reads_ds i hk (by omega) w
      · exact reads_s i hk (by omega) w
      · exact reads_d29 i hk (by omega) w
      · exact reads_j i hk (by omega) w
      · exact reads_j i hk (by omega) w
      · exact reads_j i hk (by omega) w
      · exact reads_r i hk (by omega) w
      · exact absurd hop (by omega)
  · exact reads_none i hk he w
theorem writes_ref (i : Ins) (w : World) : Calls Tryz.prog 23 #[.agg i.vs] w (RowP (wrL i) w) := by
  rcases chk_01 i with ⟨hk, he⟩ | ⟨hk, he⟩
  · have hop := ok_op hk
    by_cases hx : i.x = -1
    · rcases op_cases i.op with h | h | h | h | h | h | h | h | h | h | h | h | h | h | h | h | h | h | h | h | h | h | h | h | h | h | h | h | h | h | h | h | h | h
      · exact writes_ds i hk (by omega) w
      · exact writes_di i hk (by omega) w
      · exact writes_dm i hk (by omega) w
      · exact writes_sm i hk (by omega) w
      · exact writes_dm i hk (by omega) w
      · exact writes_ds i hk (by omega) w
      · exact writes_ds i hk (by omega) w
      · exact writes_ds i hk (by omega) w
      · exact writes_ds i hk (by omega) w
      · exact writes_ds i hk (by omega) w
      · exact writes_ds i hk (by omega) w
      · exact writes_ds i hk (by omega) w
      · exact writes_ds13 i hk (by omega) w
      · exact writes_ds14 i hk (by omega) w
      · exact writes_dj i hk (by omega) w
      · exact writes_dj i hk (by omega) w
      · exact writes_dj i hk (by omega) w
      · exact writes_djc i hk (by omega) w
      · exact writes_dst i hk (by omega) w
      · exact writes_ds i hk (by omega) w
      · exact writes_ds i hk (by omega) w
      · exact writes_d i hk (by omega) w
      · exact writes_d i hk (by omega) w
      · exact writes_db i hk (by omega) w
      · exact writes_db i hk (by omega) w
      · exact writes_ds i hk (by omega) w
      · exact writes_ds i hk (by omega) w
      · exact writes_s i hk (by omega) w
      · exact writes_d29 i hk (by omega) w
      · exact writes_j i hk (by omega) w
      · exact writes_j i hk (by omega) w
      · exact writes_j i hk (by omega) w
      · exact writes_r i hk (by omega) w
      · exact absurd hop (by omega)
    · rcases op_cases i.op with h | h | h | h | h | h | h | h | h | h | h | h | h | h | h | h | h | h | h | h | h | h | h | h | h | h | h | h | h | h | h | h | h | h
      · exact writes_ds i hk (by omega) w
      · exact writes_di i hk (by omega) w
      · exact writes_dm i hk (by omega) w
      · exact writes_sm i hk (by omega) w
      · exact writes_dm i hk (by omega) w
      · exact writes_ds i hk (by omega) w
      · exact writes_ds i hk (by omega) w
      · exact writes_ds i hk (by omega) w
      · exact writes_ds i hk (by omega) w
      · exact writes_ds i hk (by omega) w
      · exact writes_ds i hk (by omega) w
      · exact writes_ds i hk (by omega) w
      · exact writes_ds13 i hk (by omega) w
      · exact writes_ds14 i hk (by omega) w
      · exact writes_dj i hk (by omega) w
      · exact writes_dj i hk (by omega) w
      · exact writes_dj i hk (by omega) w
      · exact writes_djc i hk (by omega) w
      · exact writes_dst i hk (by omega) w
      · exact writes_ds i hk (by omega) w
      · exact writes_ds i hk (by omega) w
      · exact writes_d i hk (by omega) w
      · exact writes_d i hk (by omega) w
      · exact writes_db i hk (by omega) w
      · exact writes_db i hk (by omega) w
      · exact writes_ds i hk (by omega) w
      · exact writes_ds i hk (by omega) w
      · exact writes_s i hk (by omega) w
      · exact writes_d29 i hk (by omega) w
      · exact writes_j i hk (by omega) w
      · exact writes_j i hk (by omega) w
      · exact writes_j i hk (by omega) w
      · exact writes_r i hk (by omega) w
      · exact absurd hop (by omega)
  · exact writes_none i hk he w
end Is
end Go.Proofs.YtmiphnocgepdgaaGreatDoor
