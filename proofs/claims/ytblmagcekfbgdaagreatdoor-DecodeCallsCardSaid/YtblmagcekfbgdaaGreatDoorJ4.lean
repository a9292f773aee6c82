/- The landed package inst's table of forms: its cells; what fits a form is what may be. | The landed package inst's Check. -/
import Derived.Test.YtblmagcekfbgdaaGreatDoorJ3
import Derived.Test.YtblmagcekfbgdaaGreatDoorD1
import Derived.Test.YtblmagcekfbgdaaGreatDoorJ3d
namespace Go.Proofs.YtblmagcekfbgdaaGreatDoor
open Go Go.RowKit Go.Sort
namespace Is
open Nt
set_option linter.unusedVariables false
set_option linter.unusedSimpArgs false
def fmTab : List (List UInt8 × Int × Int × Int × Int) := [([], 0, 0, 0, 0), ([109, 111, 118], 6, 0, 0, 0), ([], 2, 1, 0, 0), ([], 34, 0, 0, 0), ([], 36, 0, 0, 0), ([108, 101, 97], 34, 0, 0, 0), ([97, 100, 100], 7, 0, 0, 7), ([97, 100, 99], 7, 0, 1, 7), ([115, 117, 98], 7, 0, 0, 7), ([115, 98, 98], 7, 0, 1, 7), ([97, 110, 100], 7, 0, 0, 7), ([111, 114], 7, 0, 0, 7), ([120, 111, 114], 7, 0, 0, 7), ([99, 109, 112], 5, 0, 0, 7), ([116, 101, 115, 116], 5, 0, 0, 7), ([], 3, 2, 0, 7), ([], 3, 2, 0, 7), ([], 3, 2, 0, 7), ([], 1, 2, 0, 7), ([109, 117, 108, 120], 90, 0, 0, 0), ([97, 100, 99, 120], 7, 0, 1, 1), ([97, 100, 111, 120], 7, 0, 2, 2), ([110, 101, 103], 3, 0, 0, 7), ([110, 111, 116], 3, 0, 0, 0), ([115, 104, 108], 3, 3, 0, 5), ([115, 104, 114], 3, 3, 0, 5), ([99, 109, 111, 118, 99], 7, 0, 1, 0), ([99, 109, 111, 118, 110, 122], 7, 0, 4, 0), ([112, 117, 115, 104], 132, 0, 0, 0), ([112, 111, 112], 130, 0, 0, 0), ([106, 109, 112], 0, 2, 0, 0), ([106, 110, 122], 0, 2, 4, 0), ([106, 99], 0, 2, 1, 0), ([114, 101, 116], 128, 0, 0, 0)]
def fmAt (k : Nat) : List UInt8 × Int × Int × Int × Int := (fmTab[k]?).getD ([], 0, 0, 0, 0)
def fNm (k : Nat) : ByteArray := ⟨(fmAt k).1.toArray⟩
def fPt (k : Nat) : Int := (fmAt k).2.1
def fNu (k : Nat) : Int := (fmAt k).2.2.1
def fFt (k : Nat) : Int := (fmAt k).2.2.2.1
def fFm (k : Nat) : Int := (fmAt k).2.2.2.2
/-- the table of forms holds what its initialiser lays -/
structure Tab (w : World) : Prop where
  lt : 0 < w.heap.size
  nm : ∀ k : Nat, k < 34 → w.cell? ⟨0, k * 5, none⟩ = some (.string (fNm k))
  pt : ∀ k : Nat, k < 34 → w.cell? ⟨0, k * 5 + 1, none⟩ = some (.int .u16 (fPt k))
  nu : ∀ k : Nat, k < 34 → w.cell? ⟨0, k * 5 + 2, none⟩ = some (.int .i64 (fNu k))
  ft : ∀ k : Nat, k < 34 → w.cell? ⟨0, k * 5 + 3, none⟩ = some (.int .i64 (fFt k))
  fm : ∀ k : Nat, k < 34 → w.cell? ⟨0, k * 5 + 4, none⟩ = some (.int .i64 (fFm k))
theorem Tab.keep {w w' : World} (h : Tab w) (hb : Below w.heap.size w w') : Tab w' := by
  have hc : ∀ i, w'.cell? ⟨0, i, none⟩ = w.cell? ⟨0, i, none⟩ := fun i => hb.cell (p := ⟨0, i, none⟩) h.lt
  exact ⟨Nat.lt_of_lt_of_le h.lt hb.size, fun k hk => (hc _).trans (h.nm k hk), fun k hk => (hc _).trans (h.pt k hk), fun k hk => (hc _).trans (h.nu k hk), fun k hk => (hc _).trans (h.ft k hk), fun k hk => (hc _).trans (h.fm k hk)⟩
theorem frB_true (r : Int) : frB r true = regB r := by
  unfold frB
  by_cases h : r = 0
  · subst h; rfl
  · rw [decide_eq_false h]; simp
theorem frB_false (r : Int) : frB r false = zB r := by unfold frB zB; simp
theorem fn0 (n : Int) : fnB n 0 = zB n := rfl
theorem fn1 (n : Int) : fnB n 1 = true := rfl
theorem fn2 (n : Int) : fnB n 2 = smallB n := rfl
theorem fn3 (n : Int) : fnB n 3 = (decide (1 ≤ n) && decide (n ≤ 63)) := rfl
theorem nu_fin (k : Nat) (hk : k < 34) : ∃ f : Fin 4, (f.val : Int) = fNu k := by
  have h : ∀ k : Fin 34, ∃ f : Fin 4, (f.val : Int) = fNu k.val := by decide
  exact h ⟨k, hk⟩
theorem hp_0 : hpB 0 2 = false ∧ hpB 0 8 = false ∧ hpB 0 3 = false ∧ hpB 0 12 = false ∧ hpB 0 16 = false ∧ hpB 0 32 = false := by decide
theorem hp_1 : hpB 1 2 = false ∧ hpB 1 8 = false ∧ hpB 1 3 = true ∧ hpB 1 12 = false ∧ hpB 1 16 = false ∧ hpB 1 32 = false := by decide
theorem hp_2 : hpB 2 2 = true ∧ hpB 2 8 = false ∧ hpB 2 3 = true ∧ hpB 2 12 = false ∧ hpB 2 16 = false ∧ hpB 2 32 = false := by decide
theorem hp_3 : hpB 3 2 = true ∧ hpB 3 8 = false ∧ hpB 3 3 = true ∧ hpB 3 12 = false ∧ hpB 3 16 = false ∧ hpB 3 32 = false := by decide
theorem hp_5 : hpB 5 2 = false ∧ hpB 5 8 = false ∧ hpB 5 3 = true ∧ hpB 5 12 = true ∧ hpB 5 16 = false ∧ hpB 5 32 = false := by decide
theorem hp_6 : hpB 6 2 = true ∧ hpB 6 8 = false ∧ hpB 6 3 = true ∧ hpB 6 12 = true ∧ hpB 6 16 = false ∧ hpB 6 32 = false := by decide
theorem hp_7 : hpB 7 2 = true ∧ hpB 7 8 = false ∧ hpB 7 3 = true ∧ hpB 7 12 = true ∧ hpB 7 16 = false ∧ hpB 7 32 = false := by decide
theorem hp_34 : hpB 34 2 = true ∧ hpB 34 8 = false ∧ hpB 34 3 = true ∧ hpB 34 12 = false ∧ hpB 34 16 = false ∧ hpB 34 32 = true := by decide
theorem hp_36 : hpB 36 2 = false ∧ hpB 36 8 = false ∧ hpB 36 3 = false ∧ hpB 36 12 = true ∧ hpB 36 16 = false ∧ hpB 36 32 = true := by decide
theorem hp_90 : hpB 90 2 = true ∧ hpB 90 8 = true ∧ hpB 90 3 = true ∧ hpB 90 12 = true ∧ hpB 90 16 = true ∧ hpB 90 32 = false := by decide
theorem hp_128 : hpB 128 2 = false ∧ hpB 128 8 = false ∧ hpB 128 3 = false ∧ hpB 128 12 = false ∧ hpB 128 16 = false ∧ hpB 128 32 = false := by decide
theorem hp_130 : hpB 130 2 = true ∧ hpB 130 8 = false ∧ hpB 130 3 = true ∧ hpB 130 12 = false ∧ hpB 130 16 = false ∧ hpB 130 32 = false := by decide
theorem hp_132 : hpB 132 2 = false ∧ hpB 132 8 = false ∧ hpB 132 3 = false ∧ hpB 132 12 = true ∧ hpB 132 16 = false ∧ hpB 132 32 = false := by decide
theorem fit_ok (k : Nat) (h1 : 1 ≤ k) (h2 : k ≤ 33) (i : Ins) (ho : i.op = (k : Int)) : fitB (fPt k) (fNu k) i = okI i := by
  unfold okI
  rw [ho]
  obtain rfl | rfl | rfl | rfl | rfl | rfl | rfl | rfl | rfl | rfl | rfl | rfl | rfl | rfl | rfl | rfl | rfl | rfl | rfl | rfl | rfl | rfl | rfl | rfl | rfl | rfl | rfl | rfl | rfl | rfl | rfl | rfl | rfl : k = 1 ∨ k = 2 ∨ k = 3 ∨ k = 4 ∨ k = 5 ∨ k = 6 ∨ k = 7 ∨ k = 8 ∨ k = 9 ∨ k = 10 ∨ k = 11 ∨ k = 12 ∨ k = 13 ∨ k = 14 ∨ k = 15 ∨ k = 16 ∨ k = 17 ∨ k = 18 ∨ k = 19 ∨ k = 20 ∨ k = 21 ∨ k = 22 ∨ k = 23 ∨ k = 24 ∨ k = 25 ∨ k = 26 ∨ k = 27 ∨ k = 28 ∨ k = 29 ∨ k = 30 ∨ k = 31 ∨ k = 32 ∨ k = 33 := by omega
  · show fitB 6 0 i = okF i .ds
    obtain ⟨a1, a2, a3, a4, a5, a6⟩ := hp_6
    unfold fitB okF
    rw [a1, a2, a3, a4, a5, a6]
    simp only [frB_true, frB_false, fn0, fpB, if_true, Bool.false_and, Bool.true_and, Bool.and_true, Bool.and_assoc, Bool.false_eq_true, if_false, ite_true, ite_false]
  · show fitB 2 1 i = okF i .di
    obtain ⟨a1, a2, a3, a4, a5, a6⟩ := hp_2
    unfold fitB okF
    rw [a1, a2, a3, a4, a5, a6]
    simp only [frB_true, frB_false, fn1, fpB, if_true, Bool.false_and, Bool.true_and, Bool.and_true, Bool.and_assoc, Bool.false_eq_true, if_false, ite_true, ite_false]
  · show fitB 34 0 i = okF i .dm
    obtain ⟨a1, a2, a3, a4, a5, a6⟩ := hp_34
    unfold fitB okF
    rw [a1, a2, a3, a4, a5, a6]
    simp only [frB_true, frB_false, fn0, fpB, if_true, Bool.false_and, Bool.true_and, Bool.and_true, Bool.and_assoc, Bool.false_eq_true, if_false, ite_true, ite_false]
  · show fitB 36 0 i = okF i .sm
    obtain ⟨a1, a2, a3, a4, a5, a6⟩ := hp_36
    unfold fitB okF
    rw [a1, a2, a3, a4, a5, a6]
    simp only [frB_true, frB_false, fn0, fpB, if_true, Bool.false_and, Bool.true_and, Bool.and_true, Bool.and_assoc, Bool.false_eq_true, if_false, ite_true, ite_false]
  · show fitB 34 0 i = okF i .dm
    obtain ⟨a1, a2, a3, a4, a5, a6⟩ := hp_34
    unfold fitB okF
    rw [a1, a2, a3, a4, a5, a6]
    simp only [frB_true, frB_false, fn0, fpB, if_true, Bool.false_and, Bool.true_and, Bool.and_true, Bool.and_assoc, Bool.false_eq_true, if_false, ite_true, ite_false]
  · show fitB 7 0 i = okF i .ds
    obtain ⟨a1, a2, a3, a4, a5, a6⟩ := hp_7
    unfold fitB okF
    rw [a1, a2, a3, a4, a5, a6]
    simp only [frB_true, frB_false, fn0, fpB, if_true, Bool.false_and, Bool.true_and, Bool.and_true, Bool.and_assoc, Bool.false_eq_true, if_false, ite_true, ite_false]
  · show fitB 7 0 i = okF i .ds
    obtain ⟨a1, a2, a3, a4, a5, a6⟩ := hp_7
    unfold fitB okF
    rw [a1, a2, a3, a4, a5, a6]
    simp only [frB_true, frB_false, fn0, fpB, if_true, Bool.false_and, Bool.true_and, Bool.and_true, Bool.and_assoc, Bool.false_eq_true, if_false, ite_true, ite_false]
  · show fitB 7 0 i = okF i .ds
    obtain ⟨a1, a2, a3, a4, a5, a6⟩ := hp_7
    unfold fitB okF
    rw [a1, a2, a3, a4, a5, a6]
    simp only [frB_true, frB_false, fn0, fpB, if_true, Bool.false_and, Bool.true_and, Bool.and_true, Bool.and_assoc, Bool.false_eq_true, if_false, ite_true, ite_false]
  · show fitB 7 0 i = okF i .ds
    obtain ⟨a1, a2, a3, a4, a5, a6⟩ := hp_7
    unfold fitB okF
    rw [a1, a2, a3, a4, a5, a6]
    simp only [frB_true, frB_false, fn0, fpB, if_true, Bool.false_and, Bool.true_and, Bool.and_true, Bool.and_assoc, Bool.false_eq_true, if_false, ite_true, ite_false]
  · show fitB 7 0 i = okF i .ds
    obtain ⟨a1, a2, a3, a4, a5, a6⟩ := hp_7
    unfold fitB okF
    rw [a1, a2, a3, a4, a5, a6]
    simp only [frB_true, frB_false, fn0, fpB, if_true, Bool.false_and, Bool.true_and, Bool.and_true, Bool.and_assoc, Bool.false_eq_true, if_false, ite_true, ite_false]
  · show fitB 7 0 i = okF i .ds
    obtain ⟨a1, a2, a3, a4, a5, a6⟩ := hp_7
    unfold fitB okF
    rw [a1, a2, a3, a4, a5, a6]
    simp only [frB_true, frB_false, fn0, fpB, if_true, Bool.false_and, Bool.true_and, Bool.and_true, Bool.and_assoc, Bool.false_eq_true, if_false, ite_true, ite_false]
  · show fitB 7 0 i = okF i .ds
    obtain ⟨a1, a2, a3, a4, a5, a6⟩ := hp_7
    unfold fitB okF
    rw [a1, a2, a3, a4, a5, a6]
    simp only [frB_true, frB_false, fn0, fpB, if_true, Bool.false_and, Bool.true_and, Bool.and_true, Bool.and_assoc, Bool.false_eq_true, if_false, ite_true, ite_false]
  · show fitB 5 0 i = okF i .ds
    obtain ⟨a1, a2, a3, a4, a5, a6⟩ := hp_5
    unfold fitB okF
    rw [a1, a2, a3, a4, a5, a6]
    simp only [frB_true, frB_false, fn0, fpB, if_true, Bool.false_and, Bool.true_and, Bool.and_true, Bool.and_assoc, Bool.false_eq_true, if_false, ite_true, ite_false]
  · show fitB 5 0 i = okF i .ds
    obtain ⟨a1, a2, a3, a4, a5, a6⟩ := hp_5
    unfold fitB okF
    rw [a1, a2, a3, a4, a5, a6]
    simp only [frB_true, frB_false, fn0, fpB, if_true, Bool.false_and, Bool.true_and, Bool.and_true, Bool.and_assoc, Bool.false_eq_true, if_false, ite_true, ite_false]
  · show fitB 3 2 i = okF i .dj
    obtain ⟨a1, a2, a3, a4, a5, a6⟩ := hp_3
    unfold fitB okF
    rw [a1, a2, a3, a4, a5, a6]
    simp only [frB_true, frB_false, fn2, fpB, if_true, Bool.false_and, Bool.true_and, Bool.and_true, Bool.and_assoc, Bool.false_eq_true, if_false, ite_true, ite_false]
  · show fitB 3 2 i = okF i .dj
    obtain ⟨a1, a2, a3, a4, a5, a6⟩ := hp_3
    unfold fitB okF
    rw [a1, a2, a3, a4, a5, a6]
    simp only [frB_true, frB_false, fn2, fpB, if_true, Bool.false_and, Bool.true_and, Bool.and_true, Bool.and_assoc, Bool.false_eq_true, if_false, ite_true, ite_false]
  · show fitB 3 2 i = okF i .dj
    obtain ⟨a1, a2, a3, a4, a5, a6⟩ := hp_3
    unfold fitB okF
    rw [a1, a2, a3, a4, a5, a6]
    simp only [frB_true, frB_false, fn2, fpB, if_true, Bool.false_and, Bool.true_and, Bool.and_true, Bool.and_assoc, Bool.false_eq_true, if_false, ite_true, ite_false]
  · show fitB 1 2 i = okF i .dj
    obtain ⟨a1, a2, a3, a4, a5, a6⟩ := hp_1
    unfold fitB okF
    rw [a1, a2, a3, a4, a5, a6]
    simp only [frB_true, frB_false, fn2, fpB, if_true, Bool.false_and, Bool.true_and, Bool.and_true, Bool.and_assoc, Bool.false_eq_true, if_false, ite_true, ite_false]
  · show fitB 90 0 i = okF i .dst
    obtain ⟨a1, a2, a3, a4, a5, a6⟩ := hp_90
    unfold fitB okF
    rw [a1, a2, a3, a4, a5, a6]
    simp only [frB_true, frB_false, fn0, fpB, if_true, Bool.false_and, Bool.true_and, Bool.and_true, Bool.and_assoc, Bool.false_eq_true, if_false, ite_true, ite_false]
    by_cases h : i.d = i.s
    · rw [decide_eq_true h, if_pos rfl]; simp [h]
    · rw [decide_eq_false h]; simp [h]
  · show fitB 7 0 i = okF i .ds
    obtain ⟨a1, a2, a3, a4, a5, a6⟩ := hp_7
    unfold fitB okF
    rw [a1, a2, a3, a4, a5, a6]
    simp only [frB_true, frB_false, fn0, fpB, if_true, Bool.false_and, Bool.true_and, Bool.and_true, Bool.and_assoc, Bool.false_eq_true, if_false, ite_true, ite_false]
  · show fitB 7 0 i = okF i .ds
    obtain ⟨a1, a2, a3, a4, a5, a6⟩ := hp_7
    unfold fitB okF
    rw [a1, a2, a3, a4, a5, a6]
    simp only [frB_true, frB_false, fn0, fpB, if_true, Bool.false_and, Bool.true_and, Bool.and_true, Bool.and_assoc, Bool.false_eq_true, if_false, ite_true, ite_false]
  · show fitB 3 0 i = okF i .d
    obtain ⟨a1, a2, a3, a4, a5, a6⟩ := hp_3
    unfold fitB okF
    rw [a1, a2, a3, a4, a5, a6]
    simp only [frB_true, frB_false, fn0, fpB, if_true, Bool.false_and, Bool.true_and, Bool.and_true, Bool.and_assoc, Bool.false_eq_true, if_false, ite_true, ite_false]
  · show fitB 3 0 i = okF i .d
    obtain ⟨a1, a2, a3, a4, a5, a6⟩ := hp_3
    unfold fitB okF
    rw [a1, a2, a3, a4, a5, a6]
    simp only [frB_true, frB_false, fn0, fpB, if_true, Bool.false_and, Bool.true_and, Bool.and_true, Bool.and_assoc, Bool.false_eq_true, if_false, ite_true, ite_false]
  · show fitB 3 3 i = okF i .db
    obtain ⟨a1, a2, a3, a4, a5, a6⟩ := hp_3
    unfold fitB okF
    rw [a1, a2, a3, a4, a5, a6]
    simp only [frB_true, frB_false, fn3, fpB, if_true, Bool.false_and, Bool.true_and, Bool.and_true, Bool.and_assoc, Bool.false_eq_true, if_false, ite_true, ite_false]
  · show fitB 3 3 i = okF i .db
    obtain ⟨a1, a2, a3, a4, a5, a6⟩ := hp_3
    unfold fitB okF
    rw [a1, a2, a3, a4, a5, a6]
    simp only [frB_true, frB_false, fn3, fpB, if_true, Bool.false_and, Bool.true_and, Bool.and_true, Bool.and_assoc, Bool.false_eq_true, if_false, ite_true, ite_false]
  · show fitB 7 0 i = okF i .ds
    obtain ⟨a1, a2, a3, a4, a5, a6⟩ := hp_7
    unfold fitB okF
    rw [a1, a2, a3, a4, a5, a6]
    simp only [frB_true, frB_false, fn0, fpB, if_true, Bool.false_and, Bool.true_and, Bool.and_true, Bool.and_assoc, Bool.false_eq_true, if_false, ite_true, ite_false]
  · show fitB 7 0 i = okF i .ds
    obtain ⟨a1, a2, a3, a4, a5, a6⟩ := hp_7
    unfold fitB okF
    rw [a1, a2, a3, a4, a5, a6]
    simp only [frB_true, frB_false, fn0, fpB, if_true, Bool.false_and, Bool.true_and, Bool.and_true, Bool.and_assoc, Bool.false_eq_true, if_false, ite_true, ite_false]
  · show fitB 132 0 i = okF i .s
    obtain ⟨a1, a2, a3, a4, a5, a6⟩ := hp_132
    unfold fitB okF
    rw [a1, a2, a3, a4, a5, a6]
    simp only [frB_true, frB_false, fn0, fpB, if_true, Bool.false_and, Bool.true_and, Bool.and_true, Bool.and_assoc, Bool.false_eq_true, if_false, ite_true, ite_false]
  · show fitB 130 0 i = okF i .d
    obtain ⟨a1, a2, a3, a4, a5, a6⟩ := hp_130
    unfold fitB okF
    rw [a1, a2, a3, a4, a5, a6]
    simp only [frB_true, frB_false, fn0, fpB, if_true, Bool.false_and, Bool.true_and, Bool.and_true, Bool.and_assoc, Bool.false_eq_true, if_false, ite_true, ite_false]
  · show fitB 0 2 i = okF i .j
    obtain ⟨a1, a2, a3, a4, a5, a6⟩ := hp_0
    unfold fitB okF
    rw [a1, a2, a3, a4, a5, a6]
    simp only [frB_true, frB_false, fn2, fpB, if_true, Bool.false_and, Bool.true_and, Bool.and_true, Bool.and_assoc, Bool.false_eq_true, if_false, ite_true, ite_false]
  · show fitB 0 2 i = okF i .j
    obtain ⟨a1, a2, a3, a4, a5, a6⟩ := hp_0
    unfold fitB okF
    rw [a1, a2, a3, a4, a5, a6]
    simp only [frB_true, frB_false, fn2, fpB, if_true, Bool.false_and, Bool.true_and, Bool.and_true, Bool.and_assoc, Bool.false_eq_true, if_false, ite_true, ite_false]
  · show fitB 0 2 i = okF i .j
    obtain ⟨a1, a2, a3, a4, a5, a6⟩ := hp_0
    unfold fitB okF
    rw [a1, a2, a3, a4, a5, a6]
    simp only [frB_true, frB_false, fn2, fpB, if_true, Bool.false_and, Bool.true_and, Bool.and_true, Bool.and_assoc, Bool.false_eq_true, if_false, ite_true, ite_false]
  · show fitB 128 0 i = okF i .r
    obtain ⟨a1, a2, a3, a4, a5, a6⟩ := hp_128
    unfold fitB okF
    rw [a1, a2, a3, a4, a5, a6]
    simp only [frB_true, frB_false, fn0, fpB, if_true, Bool.false_and, Bool.true_and, Bool.and_true, Bool.and_assoc, Bool.false_eq_true, if_false, ite_true, ite_false]

end Is
end Go.Proofs.YtblmagcekfbgdaaGreatDoor
namespace Go.Proofs.YtblmagcekfbgdaaGreatDoor
open Go Go.RowKit Go.Sort
namespace Is
open Nt
set_option linter.unusedVariables false
set_option linter.unusedSimpArgs false
set_option maxRecDepth 100000 in
set_option maxHeartbeats 4000000 in
theorem check_l (i : Ins) (hi : i.wf) (w : World) (hT : Tab w) : Calls Tryz.prog 35 #[.agg i.vs] w fun e w' => e = .returned (.int .i64 (chk i)) ∧ Grw w w' := by
  have mixed : Tryz.prog.follows .mixedOrders = true := by kernel_rfl
  have HIS := Lib.hid (fun op W => Calls.grw (is_l op W))
  have HG0 := Lib.hid (Grw.alloc w (.cells i.vs 26))
  have HI0 := Lib.hid (Bk.new w 26 i.vs)
  by_cases hop : 1 ≤ i.op ∧ i.op ≤ 33
  · obtain ⟨k, hk, h1, h2⟩ : ∃ k : Nat, i.op = (k : Int) ∧ 1 ≤ k ∧ k ≤ 33 := ⟨i.op.toNat, by omega, by omega, by omega⟩
    obtain ⟨fk, hfk⟩ := nu_fin k (by omega)
    have VF := Lib.hid (fun W => fits_l (fNm k) (fPt k) (fNu k) (fFt k) (fFm k) fk hfk i hi W)
    rw [fit_ok k h1 h2 i hk] at VF
    have HC := Lib.hid (show chk i = if okI i then 0 else 2 from rfl)
    generalize chk i = res at *
    generalize okI i = ok at *
    have HT1 := Lib.hid (hT.keep HG0.out.below)
    obtain ⟨op, d, s, t, b, x, sc, di, im⟩ := i
    dsimp only at hk hop
    subst hk
    unfold Ins.vs at *
    dsimp only at *
    obtain ⟨W0, hW0⟩ : ∃ W0, W0 = w.alloc (.cells #[.int .i64 (k : Int), .int .i64 d, .int .i64 s, .int .i64 t, .int .i64 b, .int .i64 x, .int .i64 sc, .int .i64 di, .int .i64 im] 26) := ⟨_, rfl⟩
    rw [← hW0] at HG0 HI0 HT1
    have HW0 := Lib.hid hW0
    have hb1 : decide ((1 : Int) ≤ (k : Int)) = true := decide_eq_true (by omega)
    have hb2 : decide ((k : Int) ≤ 33) = true := decide_eq_true (by omega)
    have g0 : ∀ n os, (grow (W0.drewN n) os).cell? ⟨0, k * 5, none⟩ = some (.string (fNm k)) := fun n os => cell_grown HT1.out.lt (HT1.out.nm k (by omega)) n os
    have g1 : ∀ n os, (grow (W0.drewN n) os).cell? ⟨0, k * 5 + 1, none⟩ = some (.int .u16 (fPt k)) := fun n os => cell_grown HT1.out.lt (HT1.out.pt k (by omega)) n os
    have g2 : ∀ n os, (grow (W0.drewN n) os).cell? ⟨0, k * 5 + 2, none⟩ = some (.int .i64 (fNu k)) := fun n os => cell_grown HT1.out.lt (HT1.out.nu k (by omega)) n os
    have g3 : ∀ n os, (grow (W0.drewN n) os).cell? ⟨0, k * 5 + 3, none⟩ = some (.int .i64 (fFt k)) := fun n os => cell_grown HT1.out.lt (HT1.out.ft k (by omega)) n os
    have g4 : ∀ n os, (grow (W0.drewN n) os).cell? ⟨0, k * 5 + 4, none⟩ = some (.int .i64 (fFm k)) := fun n os => cell_grown HT1.out.lt (HT1.out.fm k (by omega)) n os
    have e0 : (0 : Int) ≤ (k : Int) := by omega
    have e1 : (k : Int) < 34 := by omega
    have h0 : ∀ n os, (grow (W0.drewN n) os).cell? ⟨w.heap.size, 0, none⟩ = some (.int .i64 (k : Int)) := fun n os => cell_grown HI0.out.lt (HI0.out.cell 0) n os
    have h1 : ∀ n os, (grow (W0.drewN n) os).cell? ⟨w.heap.size, 1, none⟩ = some (.int .i64 d) := fun n os => cell_grown HI0.out.lt (HI0.out.cell 1) n os
    have h2 : ∀ n os, (grow (W0.drewN n) os).cell? ⟨w.heap.size, 2, none⟩ = some (.int .i64 s) := fun n os => cell_grown HI0.out.lt (HI0.out.cell 2) n os
    have h3 : ∀ n os, (grow (W0.drewN n) os).cell? ⟨w.heap.size, 3, none⟩ = some (.int .i64 t) := fun n os => cell_grown HI0.out.lt (HI0.out.cell 3) n os
    have h4 : ∀ n os, (grow (W0.drewN n) os).cell? ⟨w.heap.size, 4, none⟩ = some (.int .i64 b) := fun n os => cell_grown HI0.out.lt (HI0.out.cell 4) n os
    have h5 : ∀ n os, (grow (W0.drewN n) os).cell? ⟨w.heap.size, 5, none⟩ = some (.int .i64 x) := fun n os => cell_grown HI0.out.lt (HI0.out.cell 5) n os
    have h6 : ∀ n os, (grow (W0.drewN n) os).cell? ⟨w.heap.size, 6, none⟩ = some (.int .i64 sc) := fun n os => cell_grown HI0.out.lt (HI0.out.cell 6) n os
    have h7 : ∀ n os, (grow (W0.drewN n) os).cell? ⟨w.heap.size, 7, none⟩ = some (.int .i64 di) := fun n os => cell_grown HI0.out.lt (HI0.out.cell 7) n os
    have h8 : ∀ n os, (grow (W0.drewN n) os).cell? ⟨w.heap.size, 8, none⟩ = some (.int .i64 im) := fun n os => cell_grown HI0.out.lt (HI0.out.cell 8) n os
    have HIS1 : Hid (∀ W, Calls Tryz.prog 75 #[.int .i64 (k : Int)] W fun e w' => e = .returned (.bool true) ∧ Grw W w') := Lib.hid (fun W => by have h := HIS.out (k : Int) W; rw [hb1, hb2] at h; exact h)
    generalize fNm k = nm at *
    generalize fPt k = pt at *
    generalize fNu k = nu at *
    generalize fFt k = ft at *
    generalize fFm k = fm at *
    clear hW0 hop hb1 hb2 hT HIS hfk HI0 HT1
    cases ok with
    | true =>
      obtain rfl : res = 0 := HC.out
      go_enter Tryz.func35, Tryz.ntmps35
      go_wp2_with fail
      rw [← HW0.out]
      go_quiet_grown (first | (go_at_call 75; exact Calls.grown_of (HIS1.out _)) | (go_at_call 76; exact Calls.grown_of (VF.out _)))
      go_wp2_with fail
      go_ret
      exact ⟨rfl, HG0.out.trans (Grw.of _ _ _)⟩
    | false =>
      obtain rfl : res = 2 := HC.out
      go_enter Tryz.func35, Tryz.ntmps35
      go_wp2_with fail
      rw [← HW0.out]
      go_quiet_grown (first | (go_at_call 75; exact Calls.grown_of (HIS1.out _)) | (go_at_call 76; exact Calls.grown_of (VF.out _)))
      go_wp2_with fail
      go_ret
      exact ⟨rfl, HG0.out.trans (Grw.of _ _ _)⟩
  · have e2 : chk i = 2 := by
      have e3 : formOf i.op = .no := by
        unfold formOf
        rw [if_neg (by omega), if_neg (by omega), if_neg (by omega), if_neg (by omega), if_neg (by omega), if_neg (by omega), if_neg (by omega), if_neg (by omega), if_neg (by omega), if_neg (by omega), if_neg (by omega)]
      unfold chk okI
      rw [e3]; rfl
    rw [e2]
    have HIS1 : Hid (∀ W, Calls Tryz.prog 75 #[.int .i64 i.op] W fun e w' => e = .returned (.bool false) ∧ Grw W w') := Lib.hid (fun W => by
      have h := HIS.out i.op W
      have h2 : (decide (1 ≤ i.op) && decide (i.op ≤ 33)) = false := by
        rw [Bool.eq_false_iff]
        intro h3
        simp only [Bool.and_eq_true, decide_eq_true_eq] at h3
        exact hop h3
      rw [h2] at h; exact h)
    clear e2 hop hi hT HIS
    obtain ⟨op, d, s, t, b, x, sc, di, im⟩ := i
    unfold Ins.vs at *
    dsimp only at *
    obtain ⟨W0, hW0⟩ : ∃ W0, W0 = w.alloc (.cells #[.int .i64 op, .int .i64 d, .int .i64 s, .int .i64 t, .int .i64 b, .int .i64 x, .int .i64 sc, .int .i64 di, .int .i64 im] 26) := ⟨_, rfl⟩
    rw [← hW0] at HG0 HI0
    have HW0 := Lib.hid hW0
    clear hW0
    have h0 : ∀ n os, (grow (W0.drewN n) os).cell? ⟨w.heap.size, 0, none⟩ = some (.int .i64 op) := fun n os => cell_grown HI0.out.lt (HI0.out.cell 0) n os
    go_enter Tryz.func35, Tryz.ntmps35
    go_wp2_with fail
    rw [← HW0.out]
    go_quiet_grown ((go_at_call 75; exact Calls.grown_of (HIS1.out _)))
    go_wp2_with fail
    go_ret
    exact ⟨rfl, HG0.out.trans (Grw.of _ _ _)⟩
end Is
end Go.Proofs.YtblmagcekfbgdaaGreatDoor
