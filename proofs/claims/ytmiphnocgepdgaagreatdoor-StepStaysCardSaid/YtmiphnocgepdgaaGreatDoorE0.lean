/- Registers as places of a row of truths. -/
import Derived.Test.YtmiphnocgepdgaaGreatDoorD1
import Derived.Deep.Cut
namespace Go.Proofs.YtmiphnocgepdgaaGreatDoor
open Go Go.RowKit
namespace Is
open Nt
set_option linter.unusedVariables false
set_option linter.unusedSimpArgs false
theorem reg_nat {r : Int} (h : regB r = true) : ∃ n : Nat, r = (n : Int) ∧ n < 16 := by
  unfold regB at h
  simp only [Bool.and_eq_true, decide_eq_true_eq] at h
  exact ⟨r.toNat, by omega, by omega⟩
theorem pl_base {i : Ins} (h : plB i = true) : ∃ n : Nat, i.b = (n : Int) ∧ n < 16 := by
  unfold plB at h
  simp only [Bool.and_eq_true] at h
  exact reg_nat h.1.1
theorem pl_index {i : Ins} (h : plB i = true) (hx : i.x ≠ -1) : ∃ n : Nat, i.x = (n : Int) ∧ n < 16 := by
  unfold plB at h
  rw [if_neg hx] at h
  simp only [Bool.and_eq_true] at h
  exact reg_nat h.2.1.1
theorem tab_put {W : World} {L r : Nat} {p : Int → Bool} (h : Bk W L 92 (tab p)) (hr : r < 16) : Bk (W.setCell ⟨L, r, none⟩ (.bool true)) L 92 (tab fun z => p z || decide (z = (r : Int))) := by
  have h1 := h.set_ r (.bool true)
  rw [tab_set p hr] at h1
  exact h1
end Is
end Go.Proofs.YtmiphnocgepdgaaGreatDoor
