/- The landed package inst: registers, indexes, places, numbers. -/
import Derived.Test.YthidjiidcelniaaDoorB5
import Derived.BigQuiet
import Derived.Deep.QuietTactic
import Derived.Shelf.SlSortCmp.QuietGrown
import Derived.Shelf.RegionOpenPlain
import Derived.Laws.BitsAllLaws
namespace Go.Proofs.YthidjiidcelniaaDoor
open Go Go.RowKit Go.Sort
namespace Is
open Nt
set_option linter.unusedVariables false
set_option linter.unusedSimpArgs false
/-- a world with more blocks, and some draws -/
def Grw (w w' : World) : Prop := ∃ q os', w' = grow (w.drewN q) os'
theorem Grw.refl (w : World) : Grw w w := ⟨0, #[], by rw [grow_empty]; rfl⟩
theorem Grw.alloc (w : World) (o : Obj) : Grw w (w.alloc o) := ⟨0, _, by rw [alloc_eq_grow]; rfl⟩
theorem Grw.trans {a b c : World} (h : Grw a b) (k : Grw b c) : Grw a c := by
  obtain ⟨q, os, rfl⟩ := h
  obtain ⟨q', os', rfl⟩ := k
  exact ⟨q + q', os ++ os', by show grow (grow ((a.drewN q).drewN q') os) os' = _; rw [grow_grow, World.drewN_drewN]⟩
theorem Grw.of (w : World) (q : Nat) (os : Array Obj) : Grw w (grow (w.drewN q) os) := ⟨q, os, rfl⟩
theorem below_grow (w : World) (q : Nat) (os : Array Obj) : Below w.heap.size w (grow (w.drewN q) os) :=
  ⟨rfl, rfl, rfl, by simp [grow], fun i hi => by
    show ((w.drewN q).heap ++ os)[i]? = _
    rw [Array.getElem?_append_left (by show i < w.heap.size; omega)]
    rfl⟩
theorem Grw.below {w w' : World} (h : Grw w w') : Below w.heap.size w w' := by obtain ⟨q, os, rfl⟩ := h; exact below_grow _ _ _
theorem is_l (op : Int) (w : World) : Calls Tryd.prog 40 #[.int .i64 op] w fun e w' => e = .returned (.bool (decide (1 ≤ op) && decide (op ≤ 33))) ∧ w' = w := by
  by_cases h1 : 1 ≤ op
  · go_enter Tryd.func40, Tryd.ntmps40
    go_wp2_with fail
    go_ret
    exact ⟨by rw [decide_eq_true h1]; rfl, rfl⟩
  · have h2 : op < 1 := by omega
    go_enter Tryd.func40, Tryd.ntmps40
    go_wp2_with fail
    go_ret
    exact ⟨by rw [decide_eq_false (by omega)]; rfl, rfl⟩
theorem isRegister_l (r : Int) (w : World) : Calls Tryd.prog 65 #[.int .i64 r] w fun e w' => e = .returned (.bool (regB r)) ∧ w' = w := by
  unfold regB
  have e : decide (r ≤ 15) = decide (r < 16) := by rw [decide_eq_decide]; omega
  rw [e]
  by_cases h1 : 0 ≤ r
  · go_enter Tryd.func65, Tryd.ntmps65
    go_wp2_with fail
    go_ret
    exact ⟨by rw [decide_eq_true h1]; rfl, rfl⟩
  · have h2 : r < 0 := by omega
    go_enter Tryd.func65, Tryd.ntmps65
    go_wp2_with fail
    go_ret
    exact ⟨by rw [decide_eq_false (by omega)]; rfl, rfl⟩
def ixB (r : Int) : Bool := regB r && decide (r ≠ 4)
theorem isIndex_l (r : Int) (w : World) : Calls Tryd.prog 69 #[.int .i64 r] w fun e w' => e = .returned (.bool (ixB r)) ∧ w' = w := by
  have HR := Lib.hid isRegister_l
  unfold ixB
  cases hq : regB r with
  | false =>
    go_enter Tryd.func69, Tryd.ntmps69
    go_wp2_with (go_at_call 65; refine (HR.out _ _).mono ?_; rw [hq]; rintro e w' ⟨rfl, rfl⟩)
    go_ret
    exact ⟨rfl, rfl⟩
  | true =>
    by_cases h4 : r = 4
    · subst h4
      go_enter Tryd.func69, Tryd.ntmps69
      go_wp2_with (go_at_call 65; refine (HR.out _ _).mono ?_; rw [hq]; rintro e w' ⟨rfl, rfl⟩)
      go_ret
      exact ⟨rfl, rfl⟩
    · have h5 : (r == 4) = false := by rw [beq_eq_false_iff_ne]; exact h4
      have h6 : (r != 4) = true := by rw [bne, h5]; rfl
      rw [decide_eq_true h4]
      clear h4
      go_enter Tryd.func69, Tryd.ntmps69
      go_wp2_with (go_at_call 65; refine (HR.out _ _).mono ?_; rw [hq]; rintro e w' ⟨rfl, rfl⟩)
      go_ret
      exact ⟨rfl, rfl⟩
theorem wrap32_eq (n : Int) (h : I64 n) : (n == IntKind.i64.wrap (IntKind.i32.wrap n)) = smallB n := by
  unfold smallB
  unfold I64 at h
  have e : IntKind.i32.wrap n = if n % 4294967296 < 2147483648 then n % 4294967296 else n % 4294967296 - 4294967296 := by
    simp [IntKind.wrap, IntKind.bits, IntKind.signed, Int.bmod_def]
    split <;> split <;> omega
  have e2 : IntKind.i64.wrap (IntKind.i32.wrap n) = IntKind.i32.wrap n := IntWalk.i64_in _ (by rw [e]; split <;> omega)
  rw [e2, e]
  rw [Bool.eq_iff_iff]
  simp only [beq_iff_eq, Bool.and_eq_true, decide_eq_true_eq]
  split <;> omega
theorem is32_l (n : Int) (w : World) (h : I64 n) : Calls Tryd.prog 67 #[.int .i64 n] w fun e w' => e = .returned (.bool (smallB n)) ∧ w' = w := by
  have e := Lib.hid (wrap32_eq n h)
  clear h
  go_enter Tryd.func67, Tryd.ntmps67
  go_wp2_with fail
  go_ret
  exact ⟨by rw [← e.out, IntWalk.i64_left, IntWalk.i32_left]; rfl, rfl⟩
end Is
end Go.Proofs.YthidjiidcelniaaDoor
