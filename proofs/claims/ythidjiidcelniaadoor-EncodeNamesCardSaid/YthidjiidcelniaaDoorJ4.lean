/- The landed package inst's table of forms: its cells; what fits a form is what may be. -/
import Derived.Test.YthidjiidcelniaaDoorJ3
import Derived.Test.YthidjiidcelniaaDoorD1
namespace Go.Proofs.YthidjiidcelniaaDoor
open Go Go.RowKit Go.Sort
namespace Is
open Nt
set_option linter.unusedVariables false
set_option linter.unusedSimpArgs false
def fmTab : List (List UInt8 × Int × Int × Int × Int) := [([], 0, 0, 0, 0), ([109, 111, 118], 6, 0, 0, 0), ([], 2, 1, 0, 0), ([], 34, 0, 0, 0), ([], 36, 0, 0, 0), ([108, 101, 97], 34, 0, 0, 0), ([97, 100, 100], 7, 0, 0, 7), ([97, 100, 99], 7, 0, 1, 7), ([115, 117, 98], 7, 0, 0, 7), ([115, 98, 98], 7, 0, 1, 7), ([97, 110, 100], 7, 0, 0, 7), ([111, 114], 7, 0, 0, 7), ([120, 111, 114], 7, 0, 0, 7), ([99, 109, 112], 5, 0, 0, 7), ([116, 101, 115, 116], 5, 0, 0, 7), ([], 3, 2, 0, 7), ([], 3, 2, 0, 7), ([], 3, 2, 0, 7), ([], 1, 2, 0, 7), ([109, 117, 108, 120], 90, 0, 0, 0), ([97, 100, 99, 120], 7, 0, 1, 1), ([97, 100, 111, 120], 7, 0, 2, 2), ([110, 101, 103], 3, 0, 0, 7), ([110, 111, 116], 3, 0, 0, 0), ([115, 104, 108], 3, 3, 0, 5), ([115, 104, 114], 3, 3, 0, 5), ([99, 109, 111, 118, 99], 7, 0, 1, 0), ([99, 109, 111, 118, 110, 122], 7, 0, 4, 0), ([112, 117, 115, 104], 132, 0, 0, 0), ([112, 111, 112], 130, 0, 0, 0), ([106, 109, 112], 0, 2, 0, 0), ([106, 110, 122], 0, 2, 4, 0), ([106, 99], 0, 2, 1, 0), ([114, 101, 116], 128, 0, 0, 0)]
def fmAt (k : Nat) : List UInt8 × Int × Int × Int × Int := (fmTab[k]?).getD ([], 0, 0, 0, 0)
def fNm (k : Nat) : ByteArray := ⟨(fmAt k).1.toArray⟩
def fPt (k : Nat) : Int := (fmAt k).2.1
def fNu (k : Nat) : Int := (fmAt k).2.2.1
def fFt (k : Nat) : Int := (fmAt k).2.2.2.1
def fFm (k : Nat) : Int := (fmAt k).2.2.2.2
/-- the table of forms holds what its initialiser lays -/
structure Tab (w : World) : Prop where
  lt : 0 < w.heap.size
  nm : ∀ k : Nat, k < 34 → w.cell? ⟨0, k * 5, none⟩ = some (.string (fNm k))
  pt : ∀ k : Nat, k < 34 → w.cell? ⟨0, k * 5 + 1, none⟩ = some (.int .u16 (fPt k))
  nu : ∀ k : Nat, k < 34 → w.cell? ⟨0, k * 5 + 2, none⟩ = some (.int .i64 (fNu k))
  ft : ∀ k : Nat, k < 34 → w.cell? ⟨0, k * 5 + 3, none⟩ = some (.int .i64 (fFt k))
  fm : ∀ k : Nat, k < 34 → w.cell? ⟨0, k * 5 + 4, none⟩ = some (.int .i64 (fFm k))
theorem Tab.keep {w w' : World} (h : Tab w) (hb : Below w.heap.size w w') : Tab w' := by
  have hc : ∀ i, w'.cell? ⟨0, i, none⟩ = w.cell? ⟨0, i, none⟩ := fun i => hb.cell (p := ⟨0, i, none⟩) h.lt
  exact ⟨Nat.lt_of_lt_of_le h.lt hb.size, fun k hk => (hc _).trans (h.nm k hk), fun k hk => (hc _).trans (h.pt k hk), fun k hk => (hc _).trans (h.nu k hk), fun k hk => (hc _).trans (h.ft k hk), fun k hk => (hc _).trans (h.fm k hk)⟩
theorem frB_true (r : Int) : frB r true = regB r := by
  unfold frB
  by_cases h : r = 0
  · subst h; rfl
  · rw [decide_eq_false h]; simp
theorem frB_false (r : Int) : frB r false = zB r := by unfold frB zB; simp
theorem fn0 (n : Int) : fnB n 0 = zB n := rfl
theorem fn1 (n : Int) : fnB n 1 = true := rfl
theorem fn2 (n : Int) : fnB n 2 = smallB n := rfl
theorem fn3 (n : Int) : fnB n 3 = (decide (1 ≤ n) && decide (n ≤ 63)) := rfl
theorem nu_fin (k : Nat) (hk : k < 34) : ∃ f : Fin 4, (f.val : Int) = fNu k := by
  have h : ∀ k : Fin 34, ∃ f : Fin 4, (f.val : Int) = fNu k.val := by decide
  exact h ⟨k, hk⟩
theorem hp_0 : hpB 0 2 = false ∧ hpB 0 8 = false ∧ hpB 0 3 = false ∧ hpB 0 12 = false ∧ hpB 0 16 = false ∧ hpB 0 32 = false := by decide
theorem hp_1 : hpB 1 2 = false ∧ hpB 1 8 = false ∧ hpB 1 3 = true ∧ hpB 1 12 = false ∧ hpB 1 16 = false ∧ hpB 1 32 = false := by decide
theorem hp_2 : hpB 2 2 = true ∧ hpB 2 8 = false ∧ hpB 2 3 = true ∧ hpB 2 12 = false ∧ hpB 2 16 = false ∧ hpB 2 32 = false := by decide
theorem hp_3 : hpB 3 2 = true ∧ hpB 3 8 = false ∧ hpB 3 3 = true ∧ hpB 3 12 = false ∧ hpB 3 16 = false ∧ hpB 3 32 = false := by decide
theorem hp_5 : hpB 5 2 = false ∧ hpB 5 8 = false ∧ hpB 5 3 = true ∧ hpB 5 12 = true ∧ hpB 5 16 = false ∧ hpB 5 32 = false := by decide
theorem hp_6 : hpB 6 2 = true ∧ hpB 6 8 = false ∧ hpB 6 3 = true ∧ hpB 6 12 = true ∧ hpB 6 16 = false ∧ hpB 6 32 = false := by decide
theorem hp_7 : hpB 7 2 = true ∧ hpB 7 8 = false ∧ hpB 7 3 = true ∧ hpB 7 12 = true ∧ hpB 7 16 = false ∧ hpB 7 32 = false := by decide
theorem hp_34 : hpB 34 2 = true ∧ hpB 34 8 = false ∧ hpB 34 3 = true ∧ hpB 34 12 = false ∧ hpB 34 16 = false ∧ hpB 34 32 = true := by decide
theorem hp_36 : hpB 36 2 = false ∧ hpB 36 8 = false ∧ hpB 36 3 = false ∧ hpB 36 12 = true ∧ hpB 36 16 = false ∧ hpB 36 32 = true := by decide
theorem hp_90 : hpB 90 2 = true ∧ hpB 90 8 = true ∧ hpB 90 3 = true ∧ hpB 90 12 = true ∧ hpB 90 16 = true ∧ hpB 90 32 = false := by decide
theorem hp_128 : hpB 128 2 = false ∧ hpB 128 8 = false ∧ hpB 128 3 = false ∧ hpB 128 12 = false ∧ hpB 128 16 = false ∧ hpB 128 32 = false := by decide
theorem hp_130 : hpB 130 2 = true ∧ hpB 130 8 = false ∧ hpB 130 3 = true ∧ hpB 130 12 = false ∧ hpB 130 16 = false ∧ hpB 130 32 = false := by decide
theorem hp_132 : hpB 132 2 = false ∧ hpB 132 8 = false ∧ hpB 132 3 = false ∧ hpB 132 12 = true ∧ hpB 132 16 = false ∧ hpB 132 32 = false := by decide
theorem fit_ok (k : Nat) (h1 : 1 ≤ k) (h2 : k ≤ 33) (i : Ins) (ho : i.op = (k : Int)) : fitB (fPt k) (fNu k) i = okI i := by
  unfold okI
  rw [ho]
  obtain rfl | rfl | rfl | rfl | rfl | rfl | rfl | rfl | rfl | rfl | rfl | rfl | rfl | rfl | rfl | rfl | rfl | rfl | rfl | rfl | rfl | rfl | rfl | rfl | rfl | rfl | rfl | rfl | rfl | rfl | rfl | rfl | rfl : k = 1 ∨ k = 2 ∨ k = 3 ∨ k = 4 ∨ k = 5 ∨ k = 6 ∨ k = 7 ∨ k = 8 ∨ k = 9 ∨ k = 10 ∨ k = 11 ∨ k = 12 ∨ k = 13 ∨ k = 14 ∨ k = 15 ∨ k = 16 ∨ k = 17 ∨ k = 18 ∨ k = 19 ∨ k = 20 ∨ k = 21 ∨ k = 22 ∨ k = 23 ∨ k = 24 ∨ k = 25 ∨ k = 26 ∨ k = 27 ∨ k = 28 ∨ k = 29 ∨ k = 30 ∨ k = 31 ∨ k = 32 ∨ k = 33 := by omega
  · show fitB 6 0 i = okF i .ds
    obtain ⟨a1, a2, a3, a4, a5, a6⟩ := hp_6
    unfold fitB okF
    rw [a1, a2, a3, a4, a5, a6]
    simp only [frB_true, frB_false, fn0, fpB, if_true, Bool.false_and, Bool.true_and, Bool.and_true, Bool.and_assoc, Bool.false_eq_true, if_false, ite_true, ite_false]
  · show fitB 2 1 i = okF i .di
    obtain ⟨a1, a2, a3, a4, a5, a6⟩ := hp_2
    unfold fitB okF
    rw [a1, a2, a3, a4, a5, a6]
    simp only [frB_true, frB_false, fn1, fpB, if_true, Bool.false_and, Bool.true_and, Bool.and_true, Bool.and_assoc, Bool.false_eq_true, if_false, ite_true, ite_false]
  · show fitB 34 0 i = okF i .dm
    obtain ⟨a1, a2, a3, a4, a5, a6⟩ := hp_34
    unfold fitB okF
    rw [a1, a2, a3, a4, a5, a6]
    simp only [frB_true, frB_false, fn0, fpB, if_true, Bool.false_and, Bool.true_and, Bool.and_true, Bool.and_assoc, Bool.false_eq_true, if_false, ite_true, ite_false]
  · show fitB 36 0 i = okF i .sm
    obtain ⟨a1, a2, a3, a4, a5, a6⟩ := hp_36
    unfold fitB okF
    rw [a1, a2, a3, a4, a5, a6]
    simp only [frB_true, frB_false, fn0, fpB, if_true, Bool.false_and, Bool.true_and, Bool.and_true, Bool.and_assoc, Bool.false_eq_true, if_false, ite_true, ite_false]
  · show fitB 34 0 i = okF i .dm
    obtain ⟨a1, a2, a3, a4, a5, a6⟩ := hp_34
    unfold fitB okF
    rw [a1, a2, a3, a4, a5, a6]
    simp only [frB_true, frB_false, fn0, fpB, if_true, Bool.false_and, Bool.true_and, Bool.and_true, Bool.and_assoc, Bool.false_eq_true, if_false, ite_true, ite_false]
  · show fitB 7 0 i = okF i .ds
    obtain ⟨a1, a2, a3, a4, a5, a6⟩ := hp_7
    unfold fitB okF
    rw [a1, a2, a3, a4, a5, a6]
    simp only [frB_true, frB_false, fn0, fpB, if_true, Bool.false_and, Bool.true_and, Bool.and_true, Bool.and_assoc, Bool.false_eq_true, if_false, ite_true, ite_false]
  · show fitB 7 0 i = okF i .ds
    obtain ⟨a1, a2, a3, a4, a5, a6⟩ := hp_7
    unfold fitB okF
    rw [a1, a2, a3, a4, a5, a6]
    simp only [frB_true, frB_false, fn0, fpB, if_true, Bool.false_and, Bool.true_and, Bool.and_true, Bool.and_assoc, Bool.false_eq_true, if_false, ite_true, ite_false]
  · show fitB 7 0 i = okF i .ds
    obtain ⟨a1, a2, a3, a4, a5, a6⟩ := hp_7
    unfold fitB okF
    rw [a1, a2, a3, a4, a5, a6]
    simp only [frB_true, frB_false, fn0, fpB, if_true, Bool.false_and, Bool.true_and, Bool.and_true, Bool.and_assoc, Bool.false_eq_true, if_false, ite_true, ite_false]
  · show fitB 7 0 i = okF i .ds
    obtain ⟨a1, a2, a3, a4, a5, a6⟩ := hp_7
    unfold fitB okF
    rw [a1, a2, a3, a4, a5, a6]
    simp only [frB_true, frB_false, fn0, fpB, if_true, Bool.false_and, Bool.true_and, Bool.and_true, Bool.and_assoc, Bool.false_eq_true, if_false, ite_true, ite_false]
  · show fitB 7 0 i = okF i .ds
    obtain ⟨a1, a2, a3, a4, a5, a6⟩ := hp_7
    unfold fitB okF
    rw [a1, a2, a3, a4, a5, a6]
    simp only [frB_true, frB_false, fn0, fpB, if_true, Bool.false_and, Bool.true_and, Bool.and_true, Bool.and_assoc, Bool.false_eq_true, if_false, ite_true, ite_false]
  · show fitB 7 0 i = okF i .ds
    obtain ⟨a1, a2, a3, a4, a5, a6⟩ := hp_7
    unfold fitB okF
    rw [a1, a2, a3, a4, a5, a6]
    simp only [frB_true, frB_false, fn0, fpB, if_true, Bool.false_and, Bool.true_and, Bool.and_true, Bool.and_assoc, Bool.false_eq_true, if_false, ite_true, ite_false]
  · show fitB 7 0 i = okF i .ds
    obtain ⟨a1, a2, a3, a4, a5, a6⟩ := hp_7
    unfold fitB okF
    rw [a1, a2, a3, a4, a5, a6]
    simp only [frB_true, frB_false, fn0, fpB, if_true, Bool.false_and, Bool.true_and, Bool.and_true, Bool.and_assoc, Bool.false_eq_true, if_false, ite_true, ite_false]
  · show fitB 5 0 i = okF i .ds
    obtain ⟨a1, a2, a3, a4, a5, a6⟩ := hp_5
    unfold fitB okF
    rw [a1, a2, a3, a4, a5, a6]
    simp only [frB_true, frB_false, fn0, fpB, if_true, Bool.false_and, Bool.true_and, Bool.and_true, Bool.and_assoc, Bool.false_eq_true, if_false, ite_true, ite_false]
  · show fitB 5 0 i = okF i .ds
    obtain ⟨a1, a2, a3, a4, a5, a6⟩ := hp_5
    unfold fitB okF
    rw [a1, a2, a3, a4, a5, a6]
    simp only [frB_true, frB_false, fn0, fpB, if_true, Bool.false_and, Bool.true_and, Bool.and_true, Bool.and_assoc, Bool.false_eq_true, if_false, ite_true, ite_false]
  · show fitB 3 2 i = okF i .dj
    obtain ⟨a1, a2, a3, a4, a5, a6⟩ := hp_3
    unfold fitB okF
    rw [a1, a2, a3, a4, a5, a6]
    simp only [frB_true, frB_false, fn2, fpB, if_true, Bool.false_and, Bool.true_and, Bool.and_true, Bool.and_assoc, Bool.false_eq_true, if_false, ite_true, ite_false]
  · show fitB 3 2 i = okF i .dj
    obtain ⟨a1, a2, a3, a4, a5, a6⟩ := hp_3
    unfold fitB okF
    rw [a1, a2, a3, a4, a5, a6]
    simp only [frB_true, frB_false, fn2, fpB, if_true, Bool.false_and, Bool.true_and, Bool.and_true, Bool.and_assoc, Bool.false_eq_true, if_false, ite_true, ite_false]
  · show fitB 3 2 i = okF i .dj
    obtain ⟨a1, a2, a3, a4, a5, a6⟩ := hp_3
    unfold fitB okF
    rw [a1, a2, a3, a4, a5, a6]
    simp only [frB_true, frB_false, fn2, fpB, if_true, Bool.false_and, Bool.true_and, Bool.and_true, Bool.and_assoc, Bool.false_eq_true, if_false, ite_true, ite_false]
  · show fitB 1 2 i = okF i .dj
    obtain ⟨a1, a2, a3, a4, a5, a6⟩ := hp_1
    unfold fitB okF
    rw [a1, a2, a3, a4, a5, a6]
    simp only [frB_true, frB_false, fn2, fpB, if_true, Bool.false_and, Bool.true_and, Bool.and_true, Bool.and_assoc, Bool.false_eq_true, if_false, ite_true, ite_false]
  · show fitB 90 0 i = okF i .dst
    obtain ⟨a1, a2, a3, a4, a5, a6⟩ := hp_90
    unfold fitB okF
    rw [a1, a2, a3, a4, a5, a6]
    simp only [frB_true, frB_false, fn0, fpB, if_true, Bool.false_and, Bool.true_and, Bool.and_true, Bool.and_assoc, Bool.false_eq_true, if_false, ite_true, ite_false]
    by_cases h : i.d = i.s
    · rw [decide_eq_true h, if_pos rfl]; simp [h]
    · rw [decide_eq_false h]; simp [h]
  · show fitB 7 0 i = okF i .ds
    obtain ⟨a1, a2, a3, a4, a5, a6⟩ := hp_7
    unfold fitB okF
    rw [a1, a2, a3, a4, a5, a6]
    simp only [frB_true, frB_false, fn0, fpB, if_true, Bool.false_and, Bool.true_and, Bool.and_true, Bool.and_assoc, Bool.false_eq_true, if_false, ite_true, ite_false]
  · show fitB 7 0 i = okF i .ds
    obtain ⟨a1, a2, a3, a4, a5, a6⟩ := hp_7
    unfold fitB okF
    rw [a1, a2, a3, a4, a5, a6]
    simp only [frB_true, frB_false, fn0, fpB, if_true, Bool.false_and, Bool.true_and, Bool.and_true, Bool.and_assoc, Bool.false_eq_true, if_false, ite_true, ite_false]
  · show fitB 3 0 i = okF i .d
    obtain ⟨a1, a2, a3, a4, a5, a6⟩ := hp_3
    unfold fitB okF
    rw [a1, a2, a3, a4, a5, a6]
    simp only [frB_true, frB_false, fn0, fpB, if_true, Bool.false_and, Bool.true_and, Bool.and_true, Bool.and_assoc, Bool.false_eq_true, if_false, ite_true, ite_false]
  · show fitB 3 0 i = okF i .d
    obtain ⟨a1, a2, a3, a4, a5, a6⟩ := hp_3
    unfold fitB okF
    rw [a1, a2, a3, a4, a5, a6]
    simp only [frB_true, frB_false, fn0, fpB, if_true, Bool.false_and, Bool.true_and, Bool.and_true, Bool.and_assoc, Bool.false_eq_true, if_false, ite_true, ite_false]
  · show fitB 3 3 i = okF i .db
    obtain ⟨a1, a2, a3, a4, a5, a6⟩ := hp_3
    unfold fitB okF
    rw [a1, a2, a3, a4, a5, a6]
    simp only [frB_true, frB_false, fn3, fpB, if_true, Bool.false_and, Bool.true_and, Bool.and_true, Bool.and_assoc, Bool.false_eq_true, if_false, ite_true, ite_false]
  · show fitB 3 3 i = okF i .db
    obtain ⟨a1, a2, a3, a4, a5, a6⟩ := hp_3
    unfold fitB okF
    rw [a1, a2, a3, a4, a5, a6]
    simp only [frB_true, frB_false, fn3, fpB, if_true, Bool.false_and, Bool.true_and, Bool.and_true, Bool.and_assoc, Bool.false_eq_true, if_false, ite_true, ite_false]
  · show fitB 7 0 i = okF i .ds
    obtain ⟨a1, a2, a3, a4, a5, a6⟩ := hp_7
    unfold fitB okF
    rw [a1, a2, a3, a4, a5, a6]
    simp only [frB_true, frB_false, fn0, fpB, if_true, Bool.false_and, Bool.true_and, Bool.and_true, Bool.and_assoc, Bool.false_eq_true, if_false, ite_true, ite_false]
  · show fitB 7 0 i = okF i .ds
    obtain ⟨a1, a2, a3, a4, a5, a6⟩ := hp_7
    unfold fitB okF
    rw [a1, a2, a3, a4, a5, a6]
    simp only [frB_true, frB_false, fn0, fpB, if_true, Bool.false_and, Bool.true_and, Bool.and_true, Bool.and_assoc, Bool.false_eq_true, if_false, ite_true, ite_false]
  · show fitB 132 0 i = okF i .s
    obtain ⟨a1, a2, a3, a4, a5, a6⟩ := hp_132
    unfold fitB okF
    rw [a1, a2, a3, a4, a5, a6]
    simp only [frB_true, frB_false, fn0, fpB, if_true, Bool.false_and, Bool.true_and, Bool.and_true, Bool.and_assoc, Bool.false_eq_true, if_false, ite_true, ite_false]
  · show fitB 130 0 i = okF i .d
    obtain ⟨a1, a2, a3, a4, a5, a6⟩ := hp_130
    unfold fitB okF
    rw [a1, a2, a3, a4, a5, a6]
    simp only [frB_true, frB_false, fn0, fpB, if_true, Bool.false_and, Bool.true_and, Bool.and_true, Bool.and_assoc, Bool.false_eq_true, if_false, ite_true, ite_false]
  · show fitB 0 2 i = okF i .j
    obtain ⟨a1, a2, a3, a4, a5, a6⟩ := hp_0
    unfold fitB okF
    rw [a1, a2, a3, a4, a5, a6]
    simp only [frB_true, frB_false, fn2, fpB, if_true, Bool.false_and, Bool.true_and, Bool.and_true, Bool.and_assoc, Bool.false_eq_true, if_false, ite_true, ite_false]
  · show fitB 0 2 i = okF i .j
    obtain ⟨a1, a2, a3, a4, a5, a6⟩ := hp_0
    unfold fitB okF
    rw [a1, a2, a3, a4, a5, a6]
    simp only [frB_true, frB_false, fn2, fpB, if_true, Bool.false_and, Bool.true_and, Bool.and_true, Bool.and_assoc, Bool.false_eq_true, if_false, ite_true, ite_false]
  · show fitB 0 2 i = okF i .j
    obtain ⟨a1, a2, a3, a4, a5, a6⟩ := hp_0
    unfold fitB okF
    rw [a1, a2, a3, a4, a5, a6]
    simp only [frB_true, frB_false, fn2, fpB, if_true, Bool.false_and, Bool.true_and, Bool.and_true, Bool.and_assoc, Bool.false_eq_true, if_false, ite_true, ite_false]
  · show fitB 128 0 i = okF i .r
    obtain ⟨a1, a2, a3, a4, a5, a6⟩ := hp_128
    unfold fitB okF
    rw [a1, a2, a3, a4, a5, a6]
    simp only [frB_true, frB_false, fn0, fpB, if_true, Bool.false_and, Bool.true_and, Bool.and_true, Bool.and_assoc, Bool.false_eq_true, if_false, ite_true, ite_false]

end Is
end Go.Proofs.YthidjiidcelniaaDoor
