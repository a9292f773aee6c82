/- Instructions compared. | What is asked of the landed package encode; rows of instructions; the chapter's examples as each law asks them first. | Bytes as texts: joined, cut, told apart. | The document's own All. | Numbers at the end of an instruction's bytes; no program in it. -/
import Derived.Test.YtblmagcekfbgdaaGreatDoorB4
import Derived.Test.YtblmagcekfbgdaaGreatDoorM1
namespace Go.Proofs.YtblmagcekfbgdaaGreatDoor
open Go Go.RowKit
namespace Is
open Nt
set_option linter.unusedVariables false
set_option linter.unusedSimpArgs false
def eqI (i j : Ins) : Bool := decide (i.op = j.op) && decide (i.d = j.d) && decide (i.s = j.s) && decide (i.t = j.t) && decide (i.b = j.b) && decide (i.x = j.x) && decide (i.sc = j.sc) && decide (i.di = j.di) && decide (i.im = j.im)
set_option maxRecDepth 100000 in
set_option maxHeartbeats 8000000 in
theorem instEq (op d s t b x sc di im op' d' s' t' b' x' sc' di' im' : Int) (W : World) : (binOp .eql 26 (.agg #[.int .i64 op, .int .i64 d, .int .i64 s, .int .i64 t, .int .i64 b, .int .i64 x, .int .i64 sc, .int .i64 di, .int .i64 im]) (.agg #[.int .i64 op', .int .i64 d', .int .i64 s', .int .i64 t', .int .i64 b', .int .i64 x', .int .i64 sc', .int .i64 di', .int .i64 im'])).run Tryz.prog W = .ok (.bool (eqI ⟨op, d, s, t, b, x, sc, di, im⟩ ⟨op', d', s', t', b', x', sc', di', im'⟩)) W := by
  have u3 := Tryz.underlying3
  have a3 := Tryz.isAgg3
  have z3 := Tryz.sizeOf3
  have u2 := Tryz.underlying2
  have a2 := Tryz.isAgg2
  have z2 := Tryz.sizeOf2
  have um := Tryz.underlying24
  have am := Tryz.isAgg24
  have zm := Tryz.sizeOf24
  have hSm : Tryz.prog.underlying 24 = some (.struct (Tryz.prog.fieldsOf 24)) := by kernel_rfl
  have hpm : Tryz.prog.stoodInHeld 24 = false := by kernel_rfl
  have hS : Tryz.prog.underlying 26 = some (.struct (Tryz.prog.fieldsOf 26)) := by kernel_rfl
  have hp : Tryz.prog.stoodInHeld 26 = false := by kernel_rfl
  rw [run_eql_struct, show (10000 : Nat) = 9999 + 1 from rfl, run_equalIn_agg W 9999 26 _ _ hS hp]
  simp only [Program.fieldsOf, Tryz.underlying26]
  unfold eqI
  go_simp
  by_cases h0 : op = op' <;> simp [h0]
  by_cases h1 : d = d' <;> simp [h1]
  by_cases h2 : s = s' <;> simp [h2]
  by_cases h3 : t = t' <;> simp [h3]
  by_cases h4 : b = b' <;> simp [h4]
  by_cases h5 : x = x' <;> simp [h5]
  by_cases h6 : sc = sc' <;> simp [h6]
  by_cases h7 : di = di' <;> simp [h7]
  by_cases h8 : im = im' <;> simp [h8]
end Is
end Go.Proofs.YtblmagcekfbgdaaGreatDoor
namespace Go.Proofs.YtblmagcekfbgdaaGreatDoor
open Go Go.RowKit
namespace Is
open Nt
set_option linter.unusedVariables false
set_option linter.unusedSimpArgs false
/-- an instruction in memory -/
structure InAt (w : World) (ad : Addr) (i : Ins) : Prop where
  op : w.cell? ad = some (.int .i64 i.op)
  d : w.cell? ⟨ad.block, ad.off + 1, none⟩ = some (.int .i64 i.d)
  s : w.cell? ⟨ad.block, ad.off + 2, none⟩ = some (.int .i64 i.s)
  t : w.cell? ⟨ad.block, ad.off + 3, none⟩ = some (.int .i64 i.t)
  b : w.cell? ⟨ad.block, ad.off + 4, none⟩ = some (.int .i64 i.b)
  x : w.cell? ⟨ad.block, ad.off + 5, none⟩ = some (.int .i64 i.x)
  sc : w.cell? ⟨ad.block, ad.off + 6, none⟩ = some (.int .i64 i.sc)
  di : w.cell? ⟨ad.block, ad.off + 7, none⟩ = some (.int .i64 i.di)
  im : w.cell? ⟨ad.block, ad.off + 8, none⟩ = some (.int .i64 i.im)
/-- a slice of instructions -/
structure RdX (w : World) (B : Nat) (A : Option Addr) (n : Nat) (is : List Ins) : Prop where
  len : is.length = n
  oks : ∀ i ∈ is, i.wf
  rd : 0 < n → ∃ ad, A = some ad ∧ ad.block < B ∧ ∀ (j : Nat) (i : Ins), is[j]? = some i → InAt w (ad.add (j * 9)) i
theorem RdX.below {w w' : World} {B n : Nat} {A : Option Addr} {is : List Ins} (h : RdX w B A n is) (hb : Below B w w') : RdX w' B A n is :=
  ⟨h.len, h.oks, fun h0 => by
    obtain ⟨ad, e, hB, hc⟩ := h.rd h0
    refine ⟨ad, e, hB, fun j x hj => ?_⟩
    obtain ⟨h1, h2, h3, h4, h5, h6, h7, h8, h9⟩ := hc j x hj
    have hbb : (ad.add (j * 9)).block < B := by rw [Nt.block_add]; exact hB
    exact ⟨by rw [hb.cell hbb]; exact h1, by rw [hb.cell (by exact hbb)]; exact h2, by rw [hb.cell (by exact hbb)]; exact h3, by rw [hb.cell (by exact hbb)]; exact h4, by rw [hb.cell (by exact hbb)]; exact h5, by rw [hb.cell (by exact hbb)]; exact h6, by rw [hb.cell (by exact hbb)]; exact h7, by rw [hb.cell (by exact hbb)]; exact h8, by rw [hb.cell (by exact hbb)]; exact h9⟩⟩
/-- the bytes of a row, one behind the other; the first error -/
def catU : List Ins → List Int
  | [] => []
  | i :: is => encL i ++ catU is
def allOk (is : List Ins) : Bool := is.all okI
def allS (is : List Ins) : ByteArray := if allOk is then strU (catU is) else ⟨#[]⟩
def allE (is : List Ins) : Int := if allOk is then 0 else 2
theorem i64e {z : Int} (h : -9223372036854775808 ≤ z) (h' : z ≤ 9223372036854775807) : I64 z := ⟨h, h'⟩
end Is
end Go.Proofs.YtblmagcekfbgdaaGreatDoor
namespace Go.Proofs.YtblmagcekfbgdaaGreatDoor
open Go Go.RowKit
namespace Is
open Nt
set_option linter.unusedVariables false
set_option linter.unusedSimpArgs false
theorem size_strU (xs : List Int) : (strU xs).size = xs.length := by
  show (toU8 xs).toArray.size = _
  rw [List.size_toArray]; exact List.length_map ..
theorem strU_app (xs ys : List Int) : strU xs ++ strU ys = strU (xs ++ ys) := by
  unfold strU toU8
  rw [List.map_append, ByteArray.mk_append_mk]
theorem toL8 (s : ByteArray) : s.toList = s.data.toList := ByteArray.toList_eq ..
theorem strU_list (xs : List Int) : (strU xs).toList = toU8 xs := by rw [toL8]; unfold strU; simp
theorem toU8_inj : ∀ {xs ys : List Int}, B8s xs → B8s ys → toU8 xs = toU8 ys → xs = ys
  | [], [], _, _, _ => rfl
  | [], y :: ys, _, _, h => by simp [toU8] at h
  | x :: xs, [], _, _, h => by simp [toU8] at h
  | x :: xs, y :: ys, hx, hy, h => by
    simp only [toU8, List.map_cons, List.cons.injEq] at h
    have h1 := hx x (by simp)
    have h2 := hy y (by simp)
    have h3 : x = y := by
      have h4 := congrArg UInt8.toNat h.1
      rw [UInt8.toNat_ofNat', UInt8.toNat_ofNat'] at h4
      omega
    have h5 := toU8_inj (fun z hz => hx z (by simp [hz])) (fun z hz => hy z (by simp [hz])) h.2
    rw [h3, h5]
theorem strU_cut (xs : List Int) (n : Nat) : ((strU xs).extract 0 n).toList = toU8 (xs.take n) := by
  rw [toL8]
  unfold strU toU8
  simp [ByteArray.data_extract]
theorem B8s.take {xs : List Int} (h : B8s xs) (n : Nat) : B8s (xs.take n) := fun x hx => h x (List.mem_of_mem_take hx)
theorem eqI_iff {a b : Ins} : eqI a b = true ↔ a = b := by
  obtain ⟨op, d, s, t, bb, x, sc, di, im⟩ := a
  obtain ⟨op', d', s', t', b', x', sc', di', im'⟩ := b
  unfold eqI
  simp only [Bool.and_eq_true, decide_eq_true_eq, Ins.mk.injEq]
  constructor
  · rintro ⟨⟨⟨⟨⟨⟨⟨⟨h1, h2⟩, h3⟩, h4⟩, h5⟩, h6⟩, h7⟩, h8⟩, h9⟩
    exact ⟨h1, h2, h3, h4, h5, h6, h7, h8, h9⟩
  · rintro ⟨h1, h2, h3, h4, h5, h6, h7, h8, h9⟩
    exact ⟨⟨⟨⟨⟨⟨⟨⟨h1, h2⟩, h3⟩, h4⟩, h5⟩, h6⟩, h7⟩, h8⟩, h9⟩
/-- none begins another -/
theorem cut_apart {a b : Ins} (ha : okI a = true) (hb : okI b = true) (wa : a.wf) (wb : b.wf) (n : Nat) (hn : (encL a).length ≤ n ∧ n = (encL a).length ∨ (encL b).length ≤ n ∧ n = (encL b).length) (h1 : n ≤ (encL a).length) (h2 : n ≤ (encL b).length) :
    (((encS a).extract 0 n).toList == ((encS b).extract 0 n).toList) = eqI a b := by
  have ea : encS a = strU (encL a) := by unfold encS; rw [ha]; rfl
  have eb : encS b = strU (encL b) := by unfold encS; rw [hb]; rfl
  rw [ea, eb, strU_cut, strU_cut]
  cases hq : eqI a b with
  | true => rw [eqI_iff.1 hq]; exact beq_self_eq_true _
  | false =>
    rw [beq_eq_false_iff_ne]
    intro h
    have h3 := toU8_inj ((encl_ok a ha).1.take n) ((encl_ok b hb).1.take n) h
    have h4 : a = b := by
      rcases hn with ⟨_, rfl⟩ | ⟨_, rfl⟩
      · rw [List.take_of_length_le (Nat.le_refl _)] at h3
        refine enc_inj a b ha hb wa wb ((encL b).drop (encL a).length) [] ?_
        rw [List.append_nil]
        have h5 := List.take_append_drop (encL a).length (encL b)
        rw [← h3] at h5
        exact h5
      · rw [List.take_of_length_le (Nat.le_refl _)] at h3
        refine enc_inj a b ha hb wa wb [] ((encL a).drop (encL b).length) ?_
        rw [List.append_nil]
        have h5 := List.take_append_drop (encL b).length (encL a)
        rw [h3] at h5
        exact h5.symm
    rw [eqI_iff.2 h4] at hq
    cases hq
theorem two_all {a b : Ins} (ha : okI a = true) (hb : okI b = true) : allS [a, b] = encS a ++ encS b ∧ allE [a, b] = 0 := by
  have h : allOk [a, b] = true := by simp [allOk, ha, hb]
  have ea : encS a = strU (encL a) := by unfold encS; rw [ha]; rfl
  have eb : encS b = strU (encL b) := by unfold encS; rw [hb]; rfl
  refine ⟨?_, by unfold allE; rw [h]; rfl⟩
  unfold allS
  rw [h, if_pos rfl, ea, eb, strU_app]
  simp [catU]
theorem encS_len {a : Ins} (ha : okI a = true) : (encS a).size = (encL a).length := by unfold encS; rw [ha, if_pos rfl, size_strU]
end Is
end Go.Proofs.YtblmagcekfbgdaaGreatDoor
namespace Go.Proofs.YtblmagcekfbgdaaGreatDoor
open Go Go.RowKit
namespace Is
open Nt
set_option linter.unusedVariables false
set_option linter.unusedSimpArgs false
theorem cat_snoc (xs : List Ins) (i : Ins) : catU (xs ++ [i]) = catU xs ++ encL i := by
  induction xs with
  | nil => simp [catU]
  | cons x xs ih => simp [catU, ih, List.append_assoc]
theorem cat_len (xs : List Ins) (h : allOk xs = true) : (catU xs).length ≤ 11 * xs.length := by
  induction xs with
  | nil => simp [catU]
  | cons x xs ih =>
    unfold allOk at h
    simp only [List.all_cons, Bool.and_eq_true] at h
    have h1 := ih h.2
    have h2 := (encl_ok x h.1).2.2
    simp only [catU, List.length_append, List.length_cons]
    omega
theorem allOk_snoc (xs : List Ins) (i : Ins) : allOk (xs ++ [i]) = (allOk xs && okI i) := by unfold allOk; simp
theorem take_snoc {xs : List Ins} {j : Nat} {i : Ins} (h : xs[j]? = some i) : xs.take (j + 1) = xs.take j ++ [i] := by
  rw [List.take_add_one, h]; rfl
theorem all_out {xs : List Ins} {j : Nat} {i : Ins} (h : xs[j]? = some i) (hk : okI i = false) : allOk xs = false := by
  unfold allOk
  rw [List.all_eq_false]
  exact ⟨i, List.mem_of_getElem? h, by rw [hk]; decide⟩
theorem ByteArray.app_strU (xs ys : List Int) : strU xs ++ strU ys = strU (xs ++ ys) := strU_app xs ys
end Is
end Go.Proofs.YtblmagcekfbgdaaGreatDoor
namespace Go.Proofs.YtblmagcekfbgdaaGreatDoor
open Go Go.RowKit
namespace Is
open Nt
set_option linter.unusedVariables false
set_option linter.unusedSimpArgs false
/-- the instruction with another number -/
def withIm (i : Ins) (n : Int) : Ins := { i with im := n }
/-- what stands ahead of a number of four bytes -/
def preL (i : Ins) : List Int :=
  if i.op = 15 then [rexI 0 0 i.d, 129, rmI 0 i.d] else if i.op = 16 then [rexI 0 0 i.d, 129, rmI 4 i.d] else if i.op = 17 then [rexI 0 0 i.d, 129, rmI 5 i.d] else if i.op = 18 then [rexI 0 0 i.d, 129, rmI 7 i.d]
  else if i.op = 30 then [233] else if i.op = 31 then [15, 133] else [15, 130]
theorem num_ops {i : Ins} (h : hasB (formOf i.op).str 105 = true) (hk : okI i = true) : i.op = 15 ∨ i.op = 16 ∨ i.op = 17 ∨ i.op = 18 ∨ i.op = 30 ∨ i.op = 31 ∨ i.op = 32 := by
  rcases op_cases i.op with e | e | e | e | e | e | e | e | e | e | e | e | e | e | e | e | e | e | e | e | e | e | e | e | e | e | e | e | e | e | e | e | e | e
  all_goals first
    | (left; exact e) | (right; left; exact e) | (right; right; left; exact e) | (right; right; right; left; exact e) | (right; right; right; right; left; exact e) | (right; right; right; right; right; left; exact e) | (right; right; right; right; right; right; exact e)
    | (exfalso; rw [e] at h; exact absurd h (by decide))
    | skip
  exfalso
  have hk2 := okI_iff hk
  have e2 : formOf i.op = .no := by
    unfold formOf
    rw [if_neg (by omega), if_neg (by omega), if_neg (by omega), if_neg (by omega), if_neg (by omega), if_neg (by omega), if_neg (by omega), if_neg (by omega), if_neg (by omega), if_neg (by omega), if_neg (by omega)]
  rw [e2] at hk2
  exact hk2
theorem enc_num {i : Ins} (h : i.op = 15 ∨ i.op = 16 ∨ i.op = 17 ∨ i.op = 18 ∨ i.op = 30 ∨ i.op = 31 ∨ i.op = 32) : encL i = preL i ++ ltl i.im 4 := by
  obtain ⟨op, d, s, t, b, x, sc, di, im⟩ := i
  dsimp only at h
  rcases h with rfl | rfl | rfl | rfl | rfl | rfl | rfl <;> rfl
theorem pre_len (i : Ins) : 1 ≤ (preL i).length ∧ (preL i).length ≤ 3 := by
  unfold preL
  repeat (first | (split; exact ⟨by simp, by simp⟩) | exact ⟨by simp, by simp⟩)
theorem ok_with {i : Ins} {n : Int} (h : i.op = 15 ∨ i.op = 16 ∨ i.op = 17 ∨ i.op = 18 ∨ i.op = 30 ∨ i.op = 31 ∨ i.op = 32) (hk : okI i = true) (hn : -2147483648 ≤ n ∧ n ≤ 2147483647) : okI (withIm i n) = true := by
  have hs : smallB n = true := by unfold smallB; simp; omega
  obtain ⟨op, d, s, t, b, x, sc, di, im⟩ := i
  dsimp only at h
  rcases h with rfl | rfl | rfl | rfl | rfl | rfl | rfl
  all_goals
    simp only [okI, withIm, show formOf 15 = .dj from rfl, show formOf 16 = .dj from rfl, show formOf 17 = .dj from rfl, show formOf 18 = .dj from rfl, show formOf 30 = .j from rfl, show formOf 31 = .j from rfl, show formOf 32 = .j from rfl, okF, plZ, Bool.and_eq_true] at hk ⊢
    exact ⟨hk.1, hs⟩
/-- the facts of a law on numbers: two texts alike but for the last four bytes -/
theorem num_facts {i : Ins} {n : Int} (h : hasB (formOf i.op).str 105 = true) (hk : okI i = true) (hn : -2147483648 ≤ n ∧ n ≤ 2147483647) :
    okI (withIm i n) = true ∧ ∃ k : Nat, 1 ≤ k ∧ k ≤ 3 ∧ (encS i).size = k + 4 ∧ (encS (withIm i n)).size = k + 4 ∧ ((encS i).extract 0 k).toList = ((encS (withIm i n)).extract 0 k).toList ∧
      ∀ j : Nat, j < 4 → ∃ u : UInt8, (encS (withIm i n)).data[k + j]? = some u ∧ (u.toNat : Int) = n / 256 ^ j % 256 := by
  have ho := num_ops h hk
  have hk2 := ok_with ho hk hn
  have e1 := enc_num ho
  have e2 : encL (withIm i n) = preL i ++ ltl n 4 := enc_num (i := withIm i n) ho
  have s1 : encS i = strU (preL i ++ ltl i.im 4) := by unfold encS; rw [hk, if_pos rfl, e1]
  have s2 : encS (withIm i n) = strU (preL i ++ ltl n 4) := by unfold encS; rw [hk2, if_pos rfl, e2]
  refine ⟨hk2, (preL i).length, (pre_len i).1, (pre_len i).2, ?_, ?_, ?_, ?_⟩
  · rw [s1, size_strU, List.length_append, ltl_len]
  · rw [s2, size_strU, List.length_append, ltl_len]
  · rw [s1, s2, strU_cut, strU_cut, List.take_left, List.take_left]
  · intro j hj
    have hb := ltl_b8 n 4
    have hg : (ltl n 4)[j]? = some (n / 256 ^ j % 256) := by
      rcases (show j = 0 ∨ j = 1 ∨ j = 2 ∨ j = 3 by omega) with rfl | rfl | rfl | rfl
      · simp [ltl]
      · simp [ltl]
      · simp only [ltl, List.getElem?_cons_succ, List.getElem?_cons_zero]
        rw [show (256 : Int) ^ 2 = 256 * 256 by decide, Int.ediv_ediv_of_nonneg (by decide)]
      · simp only [ltl, List.getElem?_cons_succ, List.getElem?_cons_zero]
        rw [show (256 : Int) ^ 3 = 256 * 256 * 256 by decide, Int.ediv_ediv_of_nonneg (by decide), Int.ediv_ediv_of_nonneg (by decide), Int.mul_assoc]
    refine ⟨UInt8.ofNat (n / 256 ^ j % 256).toNat, ?_, ?_⟩
    · rw [s2]
      unfold strU toU8
      show ((List.map (fun x => UInt8.ofNat x.toNat) (preL i ++ ltl n 4)).toArray)[(preL i).length + j]? = _
      rw [List.getElem?_toArray, List.getElem?_map, List.getElem?_append_right (by omega), Nat.add_sub_cancel_left, hg]
      rfl
    · rw [UInt8.toNat_ofNat']
      omega
end Is
end Go.Proofs.YtblmagcekfbgdaaGreatDoor
