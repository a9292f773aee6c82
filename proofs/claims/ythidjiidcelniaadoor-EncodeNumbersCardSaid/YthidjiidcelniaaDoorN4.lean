/- Numbers at the end of an instruction's bytes; no program in it. -/
import Derived.Test.YthidjiidcelniaaDoorN2
namespace Go.Proofs.YthidjiidcelniaaDoor
open Go Go.RowKit
namespace Is
open Nt
set_option linter.unusedVariables false
set_option linter.unusedSimpArgs false
/-- the instruction with another number -/
def withIm (i : Ins) (n : Int) : Ins := { i with im := n }
/-- what stands ahead of a number of four bytes -/
def preL (i : Ins) : List Int :=
  if i.op = 15 then [rexI 0 0 i.d, 129, rmI 0 i.d] else if i.op = 16 then [rexI 0 0 i.d, 129, rmI 4 i.d] else if i.op = 17 then [rexI 0 0 i.d, 129, rmI 5 i.d] else if i.op = 18 then [rexI 0 0 i.d, 129, rmI 7 i.d]
  else if i.op = 30 then [233] else if i.op = 31 then [15, 133] else [15, 130]
theorem num_ops {i : Ins} (h : hasB (formOf i.op).str 105 = true) (hk : okI i = true) : i.op = 15 ∨ i.op = 16 ∨ i.op = 17 ∨ i.op = 18 ∨ i.op = 30 ∨ i.op = 31 ∨ i.op = 32 := by
  rcases op_cases i.op with e | e | e | e | e | e | e | e | e | e | e | e | e | e | e | e | e | e | e | e | e | e | e | e | e | e | e | e | e | e | e | e | e | e
  all_goals first
    | (left; exact e) | (right; left; exact e) | (right; right; left; exact e) | (right; right; right; left; exact e) | (right; right; right; right; left; exact e) | (right; right; right; right; right; left; exact e) | (right; right; right; right; right; right; exact e)
    | (exfalso; rw [e] at h; exact absurd h (by decide))
    | skip
  exfalso
  have hk2 := okI_iff hk
  have e2 : formOf i.op = .no := by
    unfold formOf
    rw [if_neg (by omega), if_neg (by omega), if_neg (by omega), if_neg (by omega), if_neg (by omega), if_neg (by omega), if_neg (by omega), if_neg (by omega), if_neg (by omega), if_neg (by omega), if_neg (by omega)]
  rw [e2] at hk2
  exact hk2
theorem enc_num {i : Ins} (h : i.op = 15 ∨ i.op = 16 ∨ i.op = 17 ∨ i.op = 18 ∨ i.op = 30 ∨ i.op = 31 ∨ i.op = 32) : encL i = preL i ++ ltl i.im 4 := by
  obtain ⟨op, d, s, t, b, x, sc, di, im⟩ := i
  dsimp only at h
  rcases h with rfl | rfl | rfl | rfl | rfl | rfl | rfl <;> rfl
theorem pre_len (i : Ins) : 1 ≤ (preL i).length ∧ (preL i).length ≤ 3 := by
  unfold preL
  repeat (first | (split; exact ⟨by simp, by simp⟩) | exact ⟨by simp, by simp⟩)
theorem ok_with {i : Ins} {n : Int} (h : i.op = 15 ∨ i.op = 16 ∨ i.op = 17 ∨ i.op = 18 ∨ i.op = 30 ∨ i.op = 31 ∨ i.op = 32) (hk : okI i = true) (hn : -2147483648 ≤ n ∧ n ≤ 2147483647) : okI (withIm i n) = true := by
  have hs : smallB n = true := by unfold smallB; simp; omega
  obtain ⟨op, d, s, t, b, x, sc, di, im⟩ := i
  dsimp only at h
  rcases h with rfl | rfl | rfl | rfl | rfl | rfl | rfl
  all_goals
    simp only [okI, withIm, show formOf 15 = .dj from rfl, show formOf 16 = .dj from rfl, show formOf 17 = .dj from rfl, show formOf 18 = .dj from rfl, show formOf 30 = .j from rfl, show formOf 31 = .j from rfl, show formOf 32 = .j from rfl, okF, plZ, Bool.and_eq_true] at hk ⊢
    exact ⟨hk.1, hs⟩
/-- the facts of a law on numbers: two texts alike but for the last four bytes -/
theorem num_facts {i : Ins} {n : Int} (h : hasB (formOf i.op).str 105 = true) (hk : okI i = true) (hn : -2147483648 ≤ n ∧ n ≤ 2147483647) :
    okI (withIm i n) = true ∧ ∃ k : Nat, 1 ≤ k ∧ k ≤ 3 ∧ (encS i).size = k + 4 ∧ (encS (withIm i n)).size = k + 4 ∧ ((encS i).extract 0 k).toList = ((encS (withIm i n)).extract 0 k).toList ∧
      ∀ j : Nat, j < 4 → ∃ u : UInt8, (encS (withIm i n)).data[k + j]? = some u ∧ (u.toNat : Int) = n / 256 ^ j % 256 := by
  have ho := num_ops h hk
  have hk2 := ok_with ho hk hn
  have e1 := enc_num ho
  have e2 : encL (withIm i n) = preL i ++ ltl n 4 := enc_num (i := withIm i n) ho
  have s1 : encS i = strU (preL i ++ ltl i.im 4) := by unfold encS; rw [hk, if_pos rfl, e1]
  have s2 : encS (withIm i n) = strU (preL i ++ ltl n 4) := by unfold encS; rw [hk2, if_pos rfl, e2]
  refine ⟨hk2, (preL i).length, (pre_len i).1, (pre_len i).2, ?_, ?_, ?_, ?_⟩
  · rw [s1, size_strU, List.length_append, ltl_len]
  · rw [s2, size_strU, List.length_append, ltl_len]
  · rw [s1, s2, strU_cut, strU_cut, List.take_left, List.take_left]
  · intro j hj
    have hb := ltl_b8 n 4
    have hg : (ltl n 4)[j]? = some (n / 256 ^ j % 256) := by
      rcases (show j = 0 ∨ j = 1 ∨ j = 2 ∨ j = 3 by omega) with rfl | rfl | rfl | rfl
      · simp [ltl]
      · simp [ltl]
      · simp only [ltl, List.getElem?_cons_succ, List.getElem?_cons_zero]
        rw [show (256 : Int) ^ 2 = 256 * 256 by decide, Int.ediv_ediv_of_nonneg (by decide)]
      · simp only [ltl, List.getElem?_cons_succ, List.getElem?_cons_zero]
        rw [show (256 : Int) ^ 3 = 256 * 256 * 256 by decide, Int.ediv_ediv_of_nonneg (by decide), Int.ediv_ediv_of_nonneg (by decide), Int.mul_assoc]
    refine ⟨UInt8.ofNat (n / 256 ^ j % 256).toNat, ?_, ?_⟩
    · rw [s2]
      unfold strU toU8
      show ((List.map (fun x => UInt8.ofNat x.toNat) (preL i ++ ltl n 4)).toArray)[(preL i).length + j]? = _
      rw [List.getElem?_toArray, List.getElem?_map, List.getElem?_append_right (by omega), Nat.add_sub_cancel_left, hg]
      rfl
    · rw [UInt8.toNat_ofNat']
      omega
end Is
end Go.Proofs.YthidjiidcelniaaDoor
