/- Bytes as texts: joined, cut, told apart. -/
import Derived.Test.YthidjiidcelniaaDoorN1
import Derived.Test.YthidjiidcelniaaDoorN0
namespace Go.Proofs.YthidjiidcelniaaDoor
open Go Go.RowKit
namespace Is
open Nt
set_option linter.unusedVariables false
set_option linter.unusedSimpArgs false
theorem size_strU (xs : List Int) : (strU xs).size = xs.length := by
  show (toU8 xs).toArray.size = _
  rw [List.size_toArray]; exact List.length_map ..
theorem strU_app (xs ys : List Int) : strU xs ++ strU ys = strU (xs ++ ys) := by
  unfold strU toU8
  rw [List.map_append, ByteArray.mk_append_mk]
theorem toL8 (s : ByteArray) : s.toList = s.data.toList := ByteArray.toList_eq ..
theorem strU_list (xs : List Int) : (strU xs).toList = toU8 xs := by rw [toL8]; unfold strU; simp
theorem toU8_inj : ∀ {xs ys : List Int}, B8s xs → B8s ys → toU8 xs = toU8 ys → xs = ys
  | [], [], _, _, _ => rfl
  | [], y :: ys, _, _, h => by simp [toU8] at h
  | x :: xs, [], _, _, h => by simp [toU8] at h
  | x :: xs, y :: ys, hx, hy, h => by
    simp only [toU8, List.map_cons, List.cons.injEq] at h
    have h1 := hx x (by simp)
    have h2 := hy y (by simp)
    have h3 : x = y := by
      have h4 := congrArg UInt8.toNat h.1
      rw [UInt8.toNat_ofNat', UInt8.toNat_ofNat'] at h4
      omega
    have h5 := toU8_inj (fun z hz => hx z (by simp [hz])) (fun z hz => hy z (by simp [hz])) h.2
    rw [h3, h5]
theorem strU_cut (xs : List Int) (n : Nat) : ((strU xs).extract 0 n).toList = toU8 (xs.take n) := by
  rw [toL8]
  unfold strU toU8
  simp [ByteArray.data_extract]
theorem B8s.take {xs : List Int} (h : B8s xs) (n : Nat) : B8s (xs.take n) := fun x hx => h x (List.mem_of_mem_take hx)
theorem eqI_iff {a b : Ins} : eqI a b = true ↔ a = b := by
  obtain ⟨op, d, s, t, bb, x, sc, di, im⟩ := a
  obtain ⟨op', d', s', t', b', x', sc', di', im'⟩ := b
  unfold eqI
  simp only [Bool.and_eq_true, decide_eq_true_eq, Ins.mk.injEq]
  constructor
  · rintro ⟨⟨⟨⟨⟨⟨⟨⟨h1, h2⟩, h3⟩, h4⟩, h5⟩, h6⟩, h7⟩, h8⟩, h9⟩
    exact ⟨h1, h2, h3, h4, h5, h6, h7, h8, h9⟩
  · rintro ⟨h1, h2, h3, h4, h5, h6, h7, h8, h9⟩
    exact ⟨⟨⟨⟨⟨⟨⟨⟨h1, h2⟩, h3⟩, h4⟩, h5⟩, h6⟩, h7⟩, h8⟩, h9⟩
/-- none begins another -/
theorem cut_apart {a b : Ins} (ha : okI a = true) (hb : okI b = true) (wa : a.wf) (wb : b.wf) (n : Nat) (hn : (encL a).length ≤ n ∧ n = (encL a).length ∨ (encL b).length ≤ n ∧ n = (encL b).length) (h1 : n ≤ (encL a).length) (h2 : n ≤ (encL b).length) :
    (((encS a).extract 0 n).toList == ((encS b).extract 0 n).toList) = eqI a b := by
  have ea : encS a = strU (encL a) := by unfold encS; rw [ha]; rfl
  have eb : encS b = strU (encL b) := by unfold encS; rw [hb]; rfl
  rw [ea, eb, strU_cut, strU_cut]
  cases hq : eqI a b with
  | true => rw [eqI_iff.1 hq]; exact beq_self_eq_true _
  | false =>
    rw [beq_eq_false_iff_ne]
    intro h
    have h3 := toU8_inj ((encl_ok a ha).1.take n) ((encl_ok b hb).1.take n) h
    have h4 : a = b := by
      rcases hn with ⟨_, rfl⟩ | ⟨_, rfl⟩
      · rw [List.take_of_length_le (Nat.le_refl _)] at h3
        refine enc_inj a b ha hb wa wb ((encL b).drop (encL a).length) [] ?_
        rw [List.append_nil]
        have h5 := List.take_append_drop (encL a).length (encL b)
        rw [← h3] at h5
        exact h5
      · rw [List.take_of_length_le (Nat.le_refl _)] at h3
        refine enc_inj a b ha hb wa wb [] ((encL a).drop (encL b).length) ?_
        rw [List.append_nil]
        have h5 := List.take_append_drop (encL b).length (encL a)
        rw [h3] at h5
        exact h5.symm
    rw [eqI_iff.2 h4] at hq
    cases hq
theorem two_all {a b : Ins} (ha : okI a = true) (hb : okI b = true) : allS [a, b] = encS a ++ encS b ∧ allE [a, b] = 0 := by
  have h : allOk [a, b] = true := by simp [allOk, ha, hb]
  have ea : encS a = strU (encL a) := by unfold encS; rw [ha]; rfl
  have eb : encS b = strU (encL b) := by unfold encS; rw [hb]; rfl
  refine ⟨?_, by unfold allE; rw [h]; rfl⟩
  unfold allS
  rw [h, if_pos rfl, ea, eb, strU_app]
  simp [catU]
theorem encS_len {a : Ins} (ha : okI a = true) : (encS a).size = (encL a).length := by unfold encS; rw [ha, if_pos rfl, size_strU]
end Is
end Go.Proofs.YthidjiidcelniaaDoor
