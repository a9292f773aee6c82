/- The landed package's Check: too long, wrong, overlapping. -/
import Derived.Test.YtkgbpcfpppceiaaQ4
import Derived.BigQuiet
import Derived.Deep.QuietTactic
import Derived.Shelf.SlSortCmp.QuietGrown
import Derived.Shelf.RegionOpenPlain
namespace Go.Proofs.Ytkgbpcfpppceiaa
open Go Go.RowKit Go.Shelf Go.Sort
namespace Mm
open Wd Nt
set_option linter.unusedVariables false
theorem below_grow (w : World) (q : Nat) (os : Array Obj) : Below w.heap.size w (grow (w.drewN q) os) :=
  ⟨rfl, rfl, rfl, by simp [grow], fun i hi => by
    show ((w.drewN q).heap ++ os)[i]? = _
    rw [Array.getElem?_append_left (by show i < w.heap.size; omega)]
    rfl⟩
/-- the address of the last byte, as it is reckoned -/
def lastOf (x : Cel) : Int := IntKind.u64.wrap (IntKind.u64.wrap (x.r.base + (x.n : Int)) - 1)
theorem last_c (x : Cel) (W : World) : Calls Try.prog 45 #[.agg #[.int .u64 x.r.base, .slice x.A x.n x.c, .bool x.r.write]] W fun e w' => e = .returned (.int .u64 (lastOf x)) ∧ ∃ q os', w' = grow (W.drewN q) os' := by
  have hn := x.hn
  have hw : IntKind.u64.wrap ((x.n : Nat) : Int) = (x.n : Int) := by rw [IntKind.wrap_u64]; omega
  go_enter Try.func45, Try.ntmps45
  go_wp2_with fail
  go_ret
  refine ⟨?_, 0, _, by rw [alloc_eq_grow]; rfl⟩
  unfold lastOf
  first | rfl | simp
theorem tooLong_c (x : Cel) (W : World) : Calls Try.prog 36 #[.agg #[.int .u64 x.r.base, .slice x.A x.n x.c, .bool x.r.write]] W fun e w' => e = .returned (.bool (decide (1048576 < (x.n : Int)))) ∧ Below W.heap.size W w' := by
  go_enter Try.func36, Try.ntmps36
  go_wp2_with fail
  go_ret
  exact ⟨rfl, (Below.refl _ W).alloc (Nat.le_refl _) _⟩
def wrongP (x : Cel) : Bool := decide (x.n = 0) || decide (lastOf x < x.r.base)
set_option maxHeartbeats 1000000 in
theorem wrong_c (x : Cel) (W : World) : Calls Try.prog 37 #[.agg #[.int .u64 x.r.base, .slice x.A x.n x.c, .bool x.r.write]] W fun e w' => e = .returned (.bool (wrongP x)) ∧ Below W.heap.size W w' := by
  have mixed : Try.prog.follows .mixedOrders = true := by kernel_rfl
  obtain ⟨W1, hW1⟩ : ∃ W1, W1 = W.alloc (.cells #[.int .u64 x.r.base, .slice x.A x.n x.c, .bool x.r.write] 31) := ⟨_, rfl⟩
  have hs : W1.heap.size = W.heap.size + 1 := by rw [hW1]; simp
  have hb : Below W.heap.size W W1 := by rw [hW1]; exact (Below.refl _ W).alloc (Nat.le_refl _) _
  have hc : ∀ i, W1.cell? ⟨W.heap.size, i, none⟩ = (#[.int .u64 x.r.base, .slice x.A x.n x.c, .bool x.r.write] : Array Value)[i]? := fun i => by rw [hW1, World.cell?_alloc_at _ _ _ _ (by simp)]
  have c0 : ∀ n os, (grow (W1.drewN n) os).cell? ⟨W.heap.size, 0, none⟩ = some (.int .u64 x.r.base) := fun n os => cell_grown (by simp; omega) (hc 0) n os
  have c1 : ∀ n os, (grow (W1.drewN n) os).cell? ⟨W.heap.size, 1, none⟩ = some (.slice x.A x.n x.c) := fun n os => cell_grown (by simp; omega) (hc 1) n os
  have c2 : ∀ n os, (grow (W1.drewN n) os).cell? ⟨W.heap.size, 2, none⟩ = some (.bool x.r.write) := fun n os => cell_grown (by simp; omega) (hc 2) n os
  have HB := Lib.hid hb
  have HL := Lib.hid (fun W' => last_c x W')
  have HW1 := Lib.hid hW1
  clear hc hb
  by_cases h0 : x.n = 0
  · have e : wrongP x = true := by unfold wrongP; rw [h0]; rfl
    rw [e]
    have hne2 : ((x.n : Int) = 0) := by omega
    clear e h0
    go_enter Try.func37, Try.ntmps37
    go_wp2_with fail
    rw [← HW1.out]
    clear hW1
    go_quiet_grown (fail)
    go_wp2_with fail
    go_ret
    exact ⟨rfl, HB.out.trans ((below_grow _ _ _).mono HB.out.size)⟩
  · have e : wrongP x = decide (lastOf x < x.r.base) := by unfold wrongP; rw [decide_eq_false h0]; rfl
    have hne : ((x.n : Int) == 0) = false := by simp; omega
    have hne2 : ¬ ((x.n : Int) = 0) := by omega
    rw [e]
    clear e
    go_enter Try.func37, Try.ntmps37
    go_wp2_with fail
    rw [← HW1.out]
    clear hW1
    go_quiet_grown ((go_at_call 45; exact Calls.grown_of (HL.out _)))
    go_wp2_with fail
    go_ret
    exact ⟨rfl, HB.out.trans ((below_grow _ _ _).mono HB.out.size)⟩
end Mm
end Go.Proofs.Ytkgbpcfpppceiaa
