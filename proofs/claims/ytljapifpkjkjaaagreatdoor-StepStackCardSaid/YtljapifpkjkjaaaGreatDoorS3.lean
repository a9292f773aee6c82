/- The landed package step: sums and rests with their flags. -/
import Derived.Test.YtljapifpkjkjaaaGreatDoorS2
namespace Go.Proofs.YtljapifpkjkjaaaGreatDoor
open Go Go.RowKit Go.Shelf
namespace Sp
open Wd Nt Mm Is
set_option linter.unusedVariables false
set_option linter.unusedSimpArgs false
theorem cnew_a {X : World} {t : TypeId} {v : Value} {o : Obj} : ((X.alloc (.cells #[v] t)).alloc o).cell? ⟨X.heap.size, 0, none⟩ = some v := ((Bk.new X t #[v]).alloc o).cell 0
theorem cnew_c {X : World} {t : TypeId} {v : Value} {o : Obj} : ((X.alloc o).alloc (.cells #[v] t)).cell? ⟨X.heap.size + 1, 0, none⟩ = some v := (Bk.new' (w := X.alloc o) (t := t) (cs := #[v]) (by simp)).cell 0
theorem add_wrap (a b : Int) (c : Bool) : IntKind.u64.wrap (IntKind.u64.wrap (a + b) + b1 c) = add a b c := by rw [IntKind.wrap_u64, IntKind.wrap_u64]; unfold add; omega
theorem sub_wrap (a b : Int) (c : Bool) : IntKind.u64.wrap (IntKind.u64.wrap (a - b) - b1 c) = sub a b c := by rw [IntKind.wrap_u64, IntKind.wrap_u64]; unfold sub; omega
set_option maxRecDepth 100000 in
set_option maxHeartbeats 1000000 in
theorem add_l (a b : Int) (c : Bool) (ha : W a) (hb : W b) (w : World) : Calls Tryz.prog 102 #[.int .u64 a, .int .u64 b, .bool c] w fun e w' => e = .returned (.tuple #[.int .u64 (add a b c), .agg #[.bool (addO a b c), .bool (ovA a b (add a b c)), .bool (decide (add a b c = 0))]]) ∧ Below w.heap.size w w' := by
  have K0 := Lib.hid (fun W => choose_l c 1 0 W)
  have K1 := Lib.hid (fun W => flSum_l a b W)
  have hE := add_wrap a b c
  have HC := Lib.hid (cS_add ha hb c)
  have HO := Lib.hid (rfl : ovA a b (add a b c) = ovA a b (add a b c))
  have hs := W_add a b c
  change Hid (∀ W, Calls Tryz.prog 99 #[.bool c, .int .u64 1, .int .u64 0] W fun e w' => e = .returned (.int .u64 (b1 c)) ∧ w' = W) at K0
  generalize add a b c = s at *
  generalize addO a b c = so at *
  have K2 := Lib.hid (fun W g k h1 h2 => flSum1_l a b s ha hb hs g k W h1 h2)
  rw [HC.out, HO.out] at K2
  have heg : ∀ args w, (callFunc 145 args).run Tryz.prog w = .ok (.enter 145 args) w := enters_of Tryz.func145 (by kernel_rfl) rfl
  generalize b1 c = d at *
  generalize ovA a b s = o at *
  clear ha hb hs HC HO
  go_enter Tryz.func102, Tryz.ntmps102
  go_wp2_with fail
  have HB0 := Lib.hid ((Bk.new w 106 #[.bool false, .bool false, .bool false]))
  have HW := Lib.hid (bel_alloc (w := w) (.cells #[.bool false, .bool false, .bool false] 106))
  have hz : w.heap.size < (w.alloc (.cells #[.bool false, .bool false, .bool false] 106)).heap.size := by simp
  generalize w.alloc (.cells #[.bool false, .bool false, .bool false] 106) = W1 at *
  go_at_call 99
  refine (K0.out _).mono ?_
  rintro e y0 ⟨rfl, rfl⟩
  clear K0
  go_wp2_with fail
  go_at_call 127
  refine (K1.out _).mono ?_
  rintro e y1 ⟨rfl, rfl⟩
  clear K1
  go_wp2_with fail
  go_at_call 145
  refine (K2.out _ _ _ cnew_a cnew_c).mono ?_
  rintro e y2 ⟨rfl, hb⟩
  have HX : Hid (Below y0.heap.size y0 y2) := Lib.hid (bel_tr (bel_al (bel_alloc _) _) hb)
  have HB4 := Lib.hid (HB0.out.below HX.out hz)
  have HM : Hid (Below w.heap.size w y2) := Lib.hid (HW.out.trans (HX.out.mono (Nat.le_of_lt hz)))
  clear K2 hb HX hz HB0 HW
  obtain ⟨p0, p1, p2, f0, f1, f2⟩ := b3 HB4.out
  go_wp2_with fail
  exact ret_vf rfl rfl rfl rfl (((HB4.out.set_ 0 _).set_ 1 _).set_ 2 _) rfl ⟨rfl, ((HM.out.setCell (Nat.le_refl _) _).setCell (Nat.le_refl _) _).setCell (Nat.le_refl _) _⟩
set_option maxRecDepth 100000 in
set_option maxHeartbeats 1000000 in
theorem sub_l (a b : Int) (c : Bool) (ha : W a) (hb : W b) (w : World) : Calls Tryz.prog 107 #[.int .u64 a, .int .u64 b, .bool c] w fun e w' => e = .returned (.tuple #[.int .u64 (sub a b c), .agg #[.bool (subO a b c), .bool (ovS a b (sub a b c)), .bool (decide (sub a b c = 0))]]) ∧ Below w.heap.size w w' := by
  have K0 := Lib.hid (fun W => choose_l c 1 0 W)
  have K1 := Lib.hid (fun W => flRest_l a b W)
  have hE := sub_wrap a b c
  have HC := Lib.hid (cS_sub ha hb c)
  have HO := Lib.hid (ov_sub a b (sub a b c))
  have hs := W_sub a b c
  change Hid (∀ W, Calls Tryz.prog 99 #[.bool c, .int .u64 1, .int .u64 0] W fun e w' => e = .returned (.int .u64 (b1 c)) ∧ w' = W) at K0
  generalize sub a b c = s at *
  generalize subO a b c = so at *
  have K2 := Lib.hid (fun W g k h1 h2 => flRest1_l a b s ha hb hs g k W h1 h2)
  rw [HC.out, HO.out] at K2
  have heg : ∀ args w, (callFunc 128 args).run Tryz.prog w = .ok (.enter 128 args) w := enters_of Tryz.func128 (by kernel_rfl) rfl
  generalize b1 c = d at *
  generalize ovS a b s = o at *
  clear ha hb hs HC HO
  go_enter Tryz.func107, Tryz.ntmps107
  go_wp2_with fail
  have HB0 := Lib.hid ((Bk.new w 106 #[.bool false, .bool false, .bool false]))
  have HW := Lib.hid (bel_alloc (w := w) (.cells #[.bool false, .bool false, .bool false] 106))
  have hz : w.heap.size < (w.alloc (.cells #[.bool false, .bool false, .bool false] 106)).heap.size := by simp
  generalize w.alloc (.cells #[.bool false, .bool false, .bool false] 106) = W1 at *
  go_at_call 99
  refine (K0.out _).mono ?_
  rintro e y0 ⟨rfl, rfl⟩
  clear K0
  go_wp2_with fail
  go_at_call 110
  refine (K1.out _).mono ?_
  rintro e y1 ⟨rfl, rfl⟩
  clear K1
  go_wp2_with fail
  go_at_call 128
  refine (K2.out _ _ _ cnew_a cnew_c).mono ?_
  rintro e y2 ⟨rfl, hb⟩
  have HX : Hid (Below y0.heap.size y0 y2) := Lib.hid (bel_tr (bel_al (bel_alloc _) _) hb)
  have HB4 := Lib.hid (HB0.out.below HX.out hz)
  have HM : Hid (Below w.heap.size w y2) := Lib.hid (HW.out.trans (HX.out.mono (Nat.le_of_lt hz)))
  clear K2 hb HX hz HB0 HW
  obtain ⟨p0, p1, p2, f0, f1, f2⟩ := b3 HB4.out
  go_wp2_with fail
  exact ret_vf rfl rfl rfl rfl (((HB4.out.set_ 0 _).set_ 1 _).set_ 2 _) rfl ⟨rfl, ((HM.out.setCell (Nat.le_refl _) _).setCell (Nat.le_refl _) _).setCell (Nat.le_refl _) _⟩
end Sp
end Go.Proofs.YtljapifpkjkjaaaGreatDoor
