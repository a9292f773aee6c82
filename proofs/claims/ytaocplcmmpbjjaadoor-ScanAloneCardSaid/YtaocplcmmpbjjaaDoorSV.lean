/- Plain: runes of rows of bytes. -/
import Derived.Test.YtaocplcmmpbjjaaDoorSK
import Derived.Lib.TrimUEq
namespace Go.Proofs.YtaocplcmmpbjjaaDoor
open Go Go.RowKit
namespace Sn
set_option linter.unusedVariables false
set_option linter.unusedSimpArgs false
/-- the rune that a row of bytes begins with -/
def decL (l : List UInt8) : Nat × Nat := Lib.decodeN l.length (l.getD 0 0).toNat (l.getD 1 0).toNat (l.getD 2 0).toNat (l.getD 3 0).toNat
theorem decL_drop (s : ByteArray) (p : Nat) : decL (s.data.toList.drop p) = Utf8.decode s p := by
  rw [Lib.decode_N]
  unfold decL
  simp only [List.length_drop, List.getD_eq_getElem?_getD, List.getElem?_drop, Nat.add_zero]
theorem decL_pos (l : List UInt8) : 1 ≤ (decL l).2 := Lib.decodeN_ge1 _ _ _ _ _
set_option maxRecDepth 100000 in
set_option maxHeartbeats 4000000 in
theorem decL_app (l b : List UInt8) (hl : l ≠ []) (hb : b = [] ∨ ∃ h r, b = h :: r ∧ h.toNat < 128) : decL (l ++ b) = decL l := by
  rcases hb with rfl | ⟨h, r, rfl, hh⟩
  · rw [List.append_nil]
  · match l, hl with
    | [a], _ =>
      have ha := a.toNat_lt
      unfold decL Lib.decodeN
      simp only [List.cons_append, List.nil_append, List.length_cons, List.length_nil, List.getD_cons_zero, List.getD_cons_succ, List.getD_nil]
      repeat' split
      all_goals first | with_reducible rfl | (exfalso; omega)
    | [a, b], _ =>
      unfold decL Lib.decodeN
      simp only [List.cons_append, List.nil_append, List.length_cons, List.length_nil, List.getD_cons_zero, List.getD_cons_succ, List.getD_nil]
      repeat' split
      all_goals first | with_reducible rfl | (exfalso; omega)
    | [a, b, c], _ =>
      unfold decL Lib.decodeN
      simp only [List.cons_append, List.nil_append, List.length_cons, List.length_nil, List.getD_cons_zero, List.getD_cons_succ, List.getD_nil]
      repeat' split
      all_goals first | with_reducible rfl | (exfalso; omega)
    | a :: b :: c :: d :: l, _ =>
      unfold decL Lib.decodeN
      simp only [List.cons_append, List.nil_append, List.length_cons, List.length_nil, List.length_append, List.getD_cons_zero, List.getD_cons_succ, List.getD_nil]
      repeat' split
      all_goals first | with_reducible rfl | (exfalso; omega)
set_option maxRecDepth 100000 in
set_option maxHeartbeats 4000000 in
theorem decL_take (l : List UInt8) (m : Nat) (hm : (decL l).2 ≤ m) : decL (l.take m) = decL l := by
  have h1 := decL_pos l
  match m, l with
  | 0, l => omega
  | m + 1, [] => rw [List.take_nil]
  | 1, a :: l =>
    revert hm
    unfold decL Lib.decodeN
    match l with
    | [] => intro _; rfl
    | b :: [] =>
      simp only [List.take_succ_cons, List.take_zero, List.length_cons, List.length_nil, List.getD_cons_zero, List.getD_cons_succ, List.getD_nil]
      repeat' split
      all_goals first | (intro hm; with_reducible rfl) | (intro hm; exfalso; simp only at hm; omega) | (intro hm; exfalso; omega)
    | b :: c :: [] =>
      simp only [List.take_succ_cons, List.take_zero, List.length_cons, List.length_nil, List.getD_cons_zero, List.getD_cons_succ, List.getD_nil]
      repeat' split
      all_goals first | (intro hm; with_reducible rfl) | (intro hm; exfalso; simp only at hm; omega) | (intro hm; exfalso; omega)
    | b :: c :: d :: l =>
      simp only [List.take_succ_cons, List.take_zero, List.length_cons, List.length_nil, List.getD_cons_zero, List.getD_cons_succ, List.getD_nil]
      repeat' split
      all_goals first | (intro hm; with_reducible rfl) | (intro hm; exfalso; simp only at hm; omega) | (intro hm; exfalso; omega)
  | 2, a :: l =>
    revert hm
    unfold decL Lib.decodeN
    match l with
    | [] => intro _; rfl
    | b :: [] => intro _; rfl
    | b :: c :: [] =>
      simp only [List.take_succ_cons, List.take_zero, List.length_cons, List.length_nil, List.getD_cons_zero, List.getD_cons_succ, List.getD_nil]
      repeat' split
      all_goals first | (intro hm; with_reducible rfl) | (intro hm; exfalso; simp only at hm; omega) | (intro hm; exfalso; omega)
    | b :: c :: d :: l =>
      simp only [List.take_succ_cons, List.take_zero, List.length_cons, List.length_nil, List.getD_cons_zero, List.getD_cons_succ, List.getD_nil]
      repeat' split
      all_goals first | (intro hm; with_reducible rfl) | (intro hm; exfalso; simp only at hm; omega) | (intro hm; exfalso; omega)
  | 3, a :: l =>
    revert hm
    unfold decL Lib.decodeN
    match l with
    | [] => intro _; rfl
    | b :: [] => intro _; rfl
    | b :: c :: [] => intro _; rfl
    | b :: c :: d :: l =>
      simp only [List.take_succ_cons, List.take_zero, List.length_cons, List.length_nil, List.getD_cons_zero, List.getD_cons_succ, List.getD_nil]
      repeat' split
      all_goals first | (intro hm; with_reducible rfl) | (intro hm; exfalso; simp only at hm; omega) | (intro hm; exfalso; omega)
  | m + 4, a :: l =>
    match l with
    | [] => rw [List.take_of_length_le (by simp)]
    | b :: [] => rw [List.take_of_length_le (by simp)]
    | b :: c :: [] => rw [List.take_of_length_le (by simp)]
    | b :: c :: d :: l =>
      unfold decL Lib.decodeN
      simp only [List.take_succ_cons, List.length_cons, List.getD_cons_zero, List.getD_cons_succ]
      repeat' split
      all_goals first | with_reducible rfl | (exfalso; omega)
end Sn
end Go.Proofs.YtaocplcmmpbjjaaDoor
