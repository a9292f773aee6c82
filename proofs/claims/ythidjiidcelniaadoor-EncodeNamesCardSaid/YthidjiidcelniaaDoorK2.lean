/- The document's own bytes: REX, RM, the operations over two registers. -/
import Derived.Test.YthidjiidcelniaaDoorK1
namespace Go.Proofs.YthidjiidcelniaaDoor
open Go Go.RowKit Go.Sort
namespace Is
open Nt
set_option linter.unusedVariables false
set_option linter.unusedSimpArgs false
def Rx (r : Int) : Prop := -1 ≤ r ∧ r ≤ 15
theorem R16.rx {r : Int} (h : R16 r) : Rx r := ⟨by have := h.1; omega, h.2⟩
theorem u8_in {n : Int} (h1 : 0 ≤ n) (h2 : n ≤ 255) : n % 256 = n := Int.emod_eq_of_lt h1 (by omega)
theorem high_c (r : Int) (h : Rx r) (w : World) : Calls Tryd.prog 46 #[.int .i64 r] w fun e w' => e = .returned (.int .u8 (hiR r)) ∧ w' = w := by
  obtain ⟨h1, h2⟩ := h
  rcases (show r = -1 ∨ r = 0 ∨ r = 1 ∨ r = 2 ∨ r = 3 ∨ r = 4 ∨ r = 5 ∨ r = 6 ∨ r = 7 ∨ r = 8 ∨ r = 9 ∨ r = 10 ∨ r = 11 ∨ r = 12 ∨ r = 13 ∨ r = 14 ∨ r = 15 by omega) with rfl | rfl | rfl | rfl | rfl | rfl | rfl | rfl | rfl | rfl | rfl | rfl | rfl | rfl | rfl | rfl | rfl
  all_goals
    clear h1 h2
    go_enter Tryd.func46, Tryd.ntmps46
    go_wp2_with fail
    go_ret
    exact ⟨rfl, rfl⟩
theorem rex_v {m x l : Int} (hm : Rx m) (hx : Rx x) (hl : Rx l) : (((72 + 4 * hiR m % 256) % 256 + 2 * hiR x % 256) % 256 + hiR l) % 256 = rexI m x l := by
  have a := hi_b hm.1 hm.2
  have b := hi_b hx.1 hx.2
  have c := hi_b hl.1 hl.2
  unfold rexI
  omega
set_option maxHeartbeats 1000000 in
theorem rex_c (m x l : Int) (hm : Rx m) (hx : Rx x) (hl : Rx l) (w : World) : Calls Tryd.prog 42 #[.int .i64 m, .int .i64 x, .int .i64 l] w fun e w' => e = .returned (.int .u8 (rexI m x l)) ∧ w' = w := by
  have a := hi_b hm.1 hm.2
  have b := hi_b hx.1 hx.2
  have c := hi_b hl.1 hl.2
  have HM := Lib.hid (fun W => high_c m hm W)
  have HX := Lib.hid (fun W => high_c x hx W)
  have HL := Lib.hid (fun W => high_c l hl W)
  have HE := Lib.hid (rex_v hm hx hl)
  have e1 : IntKind.u8.wrap (4 * hiR m) = 4 * hiR m := by rw [IntKind.wrap_u8']; omega
  clear hm hx hl
  generalize rexI m x l = z at *
  generalize hiR m = p at *
  generalize hiR x = q at *
  generalize hiR l = s at *
  go_enter Tryd.func42, Tryd.ntmps42
  go_wp2_with fail
  go_at_call 46
  refine (HM.out _).mono ?_
  rintro e w' ⟨rfl, rfl⟩
  go_wp2_with fail
  go_at_call 46
  refine (HX.out _).mono ?_
  rintro e w' ⟨rfl, rfl⟩
  go_wp2_with fail
  go_at_call 46
  refine (HL.out _).mono ?_
  rintro e w' ⟨rfl, rfl⟩
  go_wp2_with fail
  go_ret
  refine ⟨?_, rfl⟩
  rw [← HE.out]
  first | rfl | (simp; omega)
theorem both_c (m l : Int) (hm : R16 m) (hl : R16 l) (w : World) : Calls Tryd.prog 45 #[.int .i64 m, .int .i64 l] w fun e w' => e = .returned (.int .u8 (rmI m l)) ∧ w' = w := by
  have HE : Hid (rmI m l = 192 + 8 * (m % 8) + l % 8) := Lib.hid rfl
  obtain ⟨m1, m2⟩ := hm
  obtain ⟨l1, l2⟩ := hl
  generalize rmI m l = z at *
  go_enter Tryd.func45, Tryd.ntmps45
  go_wp2_with fail
  go_ret
  refine ⟨?_, rfl⟩
  rw [HE.out]
  first | rfl | (simp; omega)
theorem code_c (op : Int) (h : op = 1 ∨ (6 ≤ op ∧ op ≤ 14)) (w : World) : Calls Tryd.prog 47 #[.int .i64 op] w fun e w' => e = .returned (.int .u8 (codeI op)) ∧ w' = w := by
  rcases (show op = 1 ∨ op = 6 ∨ op = 7 ∨ op = 8 ∨ op = 9 ∨ op = 10 ∨ op = 11 ∨ op = 12 ∨ op = 13 ∨ op = 14 by omega) with rfl | rfl | rfl | rfl | rfl | rfl | rfl | rfl | rfl | rfl
  all_goals
    clear h
    go_enter Tryd.func47, Tryd.ntmps47
    go_wp2_with fail
    go_ret
    exact ⟨rfl, rfl⟩
end Is
end Go.Proofs.YthidjiidcelniaaDoor
