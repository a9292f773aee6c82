/- Rows of instructions of one's own; the landed package decode's guesses. | The landed package decode: All. -/
import Derived.Test.YteppmkeoedddnaaDoorS11
namespace Go.Proofs.YteppmkeoedddnaaDoor
open Go Go.RowKit
namespace Is
open Nt
set_option linter.unusedVariables false
set_option linter.unusedSimpArgs false
def insRow (xs : List Ins) : List Value := xs.flatMap fun i => i.vs.toList
theorem insRow_app (xs ys : List Ins) : insRow (xs ++ ys) = insRow xs ++ insRow ys := List.flatMap_append
theorem insRow_one (x : Ins) : insRow [x] = x.vs.toList := by unfold insRow; simp
theorem vs_len (x : Ins) : x.vs.toList.length = 9 := rfl
theorem insRow_len (xs : List Ins) : (insRow xs).length = xs.length * 9 := by
  induction xs with
  | nil => rfl
  | cons x xs ih =>
    show (x.vs.toList ++ insRow xs).length = _
    rw [List.length_append, ih, vs_len, List.length_cons]
    omega
theorem insRow_get {xs : List Ins} {j d : Nat} {x : Ins} (h : xs[j]? = some x) (hd : d < 9) : (insRow xs)[j * 9 + d]? = x.vs.toList[d]? := by
  induction xs generalizing j with
  | nil => cases h
  | cons p xs ih =>
    show (p.vs.toList ++ insRow xs)[j * 9 + d]? = _
    cases j with
    | zero =>
      simp at h
      subst h
      rw [List.getElem?_append_left (by rw [vs_len]; omega), Nat.zero_mul, Nat.zero_add]
    | succ j =>
      rw [List.getElem?_append_right (by rw [vs_len]; omega), vs_len, show (j + 1) * 9 + d - 9 = j * 9 + d by omega]
      exact ih h
/-- instructions of one's own -/
abbrev Rxs (B : Nat) (v : Value) (xs : List Ins) (w : World) : Prop := w.ownsRow B 35 9 v xs.length (insRow xs)
theorem rx_mu {S : List Nat} {w w' : World} {B : Nat} {v : Value} {xs : List Ins} (h : Rxs B v xs w) (m : Mu S w w') (hS : ∀ j, j ∈ S → j < B) : Rxs B v xs w' := by
  refine ⟨h.1, ?_⟩
  rcases h.2 with h1 | ⟨g, c, cur, h1, h2, h3, h4⟩
  · exact .inl h1
  · exact .inr ⟨g, c, cur, h1, h2, (m.block g (Array.getElem?_eq_some_iff.1 h3).1 (fun hm => by have := hS g hm; omega)).trans h3, h4⟩
theorem rx_form {w : World} {B : Nat} {v : Value} {xs : List Ins} (h : Rxs B v xs w) : ∃ A c, v = .slice A xs.length c := by
  rcases h.2 with ⟨e, h0⟩ | ⟨g, cap, cur, e, _⟩
  · exact ⟨none, 0, by rw [e, h0]⟩
  · exact ⟨_, _, e⟩
theorem rx_rd {w : World} {B n c : Nat} {A : Option Addr} {xs : List Ins} (h : Rxs B (.slice A n c) xs w) (hw : ∀ i ∈ xs, i.wf) : n = xs.length ∧ RdX w w.heap.size A n xs ∧ n ≤ c := by
  have hh := h
  rcases h.2 with ⟨e, h0⟩ | ⟨g, cap, cur, e, h2, h3, h4⟩
  · cases e
    obtain rfl : xs = [] := List.eq_nil_of_length_eq_zero h0
    exact ⟨rfl, ⟨rfl, hw, fun h => absurd h (by omega)⟩, Nat.le_refl _⟩
  · cases e
    have hlt : g < w.heap.size := (Array.getElem?_eq_some_iff.1 h3).1
    refine ⟨rfl, ⟨rfl, hw, fun _ => ⟨_, rfl, hlt, fun j i hj => ?_⟩⟩, h4.1⟩
    have hjl : j < xs.length := (List.getElem?_eq_some_iff.1 hj).1
    have key : ∀ d, d < 9 → w.cell? ⟨g, j * 9 + d, none⟩ = i.vs.toList[d]? := fun d hd => by
      rw [World.ownsRow.cellAt hh (j * 9 + d) (by omega), insRow_get hj hd]
    have e : (⟨g, 0, none⟩ : Addr).add (j * 9) = ⟨g, j * 9, none⟩ := by
      unfold Addr.add; split
      · rename_i e; rw [e]
      · simp
    rw [e]
    exact ⟨key 0 (by omega), key 1 (by omega), key 2 (by omega), key 3 (by omega), key 4 (by omega), key 5 (by omega), key 6 (by omega), key 7 (by omega), key 8 (by omega)⟩
set_option maxRecDepth 100000 in
theorem info_inst : (Tryd.prog.info? 35).map (fun i => (i.zero, i.size, i.bytes)) = some (some (.agg #[.int .i64 0, .int .i64 0, .int .i64 0, .int .i64 0, .int .i64 0, .int .i64 0, .int .i64 0, .int .i64 0, .int .i64 0]), 9, 72) := by kernel_rfl
theorem vs_new9 (W : World) (x : Ins) (j : Nat) (u : Value) (hu : x.vs.toList[j]? = some u) : (W.alloc (.cells x.vs 35)).cell? ((⟨W.heap.size, 0, none⟩ : Addr).add j) = some u := by
  have e : (⟨W.heap.size, 0, none⟩ : Addr).add j = ⟨W.heap.size, j, none⟩ := by
    unfold Addr.add; split
    · rename_i e; rw [e]
    · simp
  rw [e, (Bk.new W 35 x.vs).cell j, ← Array.getElem?_toList]
  exact hu
theorem vs_one9 (x : Ins) : ∀ u ∈ x.vs.toList, u.oneCell' = true := by
  intro u hu
  unfold Ins.vs at hu
  simp at hu
  rcases hu with rfl | rfl | rfl | rfl | rfl | rfl | rfl | rfl | rfl <;> rfl
theorem grown_mu {w w' : World} {v : Option Nat} (h : w.grownBy w' v) (S : List Nat) (hv : ∀ g, v = some g → g ∈ S) : Mu S w w' :=
  ⟨h.os, h.tape, h.output, h.size, fun k hk hn => h.block k hk (fun e => hn (hv k e.symm))⟩
/-- a row is told -/
def TellX (xs : List Ins) (w : World) (e : Ending) (w' : World) : Prop := ∃ A c, e = .returned (.slice A xs.length c) ∧ RdX w' w'.heap.size A xs.length xs ∧ xs.length ≤ c ∧ Below w.heap.size w w'
/-- where the guesses stand -/
def GsAt (s : ByteArray) (is : List Ins) (k : Nat) : Prop := ∃ f, 1 ≤ f ∧ s.size < k + f ∧ gsL s (s.size + 1) 0 = (gsL s f k).map (is ++ ·)
theorem GsAt.start (s : ByteArray) : GsAt s [] 0 := ⟨s.size + 1, by omega, by omega, by cases gsL s (s.size + 1) 0 <;> rfl⟩
theorem gsL_succ (s : ByteArray) (f k : Nat) : gsL s (f + 1) k = if s.size ≤ k then some [] else if (gI (bA s) k).op = 0 then none else (gsL s f (gE (bA s) k)).map (gI (bA s) k :: ·) := rfl
theorem GsAt.stop {s : ByteArray} {is : List Ins} {k : Nat} (h : GsAt s is k) (hk : k < s.size) (ho : (gI (bA s) k).op = 0) : gsD s = [] := by
  obtain ⟨f, h1, h2, h3⟩ := h
  cases f with
  | zero => omega
  | succ f =>
    rw [gsL_succ s f k, if_neg (by omega), if_pos ho] at h3
    unfold gsD
    rw [h3]
    rfl
theorem GsAt.next {s : ByteArray} {is : List Ins} {k : Nat} (h : GsAt s is k) (hk : k < s.size) (ho : (gI (bA s) k).op ≠ 0) : GsAt s (is ++ [gI (bA s) k]) (gE (bA s) k) := by
  obtain ⟨f, h1, h2, h3⟩ := h
  have hg := (gE_b (bA_bb s) k).1
  cases f with
  | zero => omega
  | succ f =>
    refine ⟨f, by omega, by omega, ?_⟩
    rw [h3, gsL_succ s f k, if_neg (by omega), if_neg ho, Option.map_map]
    congr 1
    funext x
    simp
theorem GsAt.done {s : ByteArray} {is : List Ins} {k : Nat} (h : GsAt s is k) (hk : s.size ≤ k) : gsD s = is := by
  obtain ⟨f, h1, h2, h3⟩ := h
  cases f with
  | zero => omega
  | succ f =>
    unfold gsD
    rw [h3, gsL_succ s f k, if_pos hk]
    simp
end Is
end Go.Proofs.YteppmkeoedddnaaDoor
namespace Go.Proofs.YteppmkeoedddnaaDoor
open Go Go.RowKit
namespace Is
open Nt
set_option linter.unusedVariables false
set_option linter.unusedSimpArgs false
/-- so far these have come, and here it stands -/
def DAt (s : ByteArray) (is : List Ins) (k : Nat) : Prop := ∃ f, s.size < k + f ∧ k ≤ s.size ∧ allD s = (is ++ (runL s f k).1, (runL s f k).2)
theorem DAt.start (s : ByteArray) : DAt s [] 0 := ⟨s.size + 1, by omega, by omega, rfl⟩
theorem DAt.stop {s : ByteArray} {is : List Ins} {k : Nat} (h : DAt s is k) (hd : decO s k = none) : allD s = (is, k) := by
  obtain ⟨f, h1, h2, h3⟩ := h
  cases f with
  | zero => omega
  | succ f =>
    rw [runL_none hd] at h3
    rw [h3]
    simp
theorem DAt.next {s : ByteArray} {is : List Ins} {k : Nat} {i : Ins} (h : DAt s is k) (hd : decO s k = some i) : DAt s (is ++ [i]) (k + (encL i).length) ∧ 1 ≤ (encL i).length ∧ (encL i).length ≤ 11 ∧ i.wf ∧ okI i = true ∧ k < s.size := by
  obtain ⟨f, h1, h2, h3⟩ := h
  have h4 := (decO_iff h2).1 hd
  have h5 := encl_ok i h4.1
  have h6 := h4.2.2.1
  cases f with
  | zero => omega
  | succ f =>
    refine ⟨⟨f, by omega, h6, ?_⟩, h5.2.1, h5.2.2, h4.2.1, h4.1, by omega⟩
    rw [h3, runL_some hd]
    simp
theorem decO_cases (s : ByteArray) (k : Nat) : decO s k = none ∨ ∃ i, decO s k = some i := by
  cases h : decO s k with
  | none => exact .inl rfl
  | some i => exact .inr ⟨i, rfl⟩
/-- what is told of all -/
def TellA (s : ByteArray) (w : World) (e : Ending) (w' : World) : Prop :=
  ∃ A c, e = .returned (.tuple #[.slice A (allD s).1.length c, .int .i64 ((allD s).2 : Int), .int .i64 (if (allD s).2 = s.size then 0 else 4)]) ∧ RdX w' w'.heap.size A (allD s).1.length (allD s).1 ∧ (allD s).1.length ≤ c ∧ Below w.heap.size w w'
/-- .. where an error stands -/
def TellU (s : ByteArray) (w : World) (e : Ending) (w' : World) : Prop :=
  ∃ A c, e = .returned (.tuple #[.slice A (allD s).1.length c, .int .i64 ((allD s).2 : Int), .int .i64 4]) ∧ RdX w' w'.heap.size A (allD s).1.length (allD s).1 ∧ (allD s).1.length ≤ c ∧ Below w.heap.size w w'
theorem rx_below {w w' : World} {B : Nat} {v : Value} {xs : List Ins} (h : Rxs B v xs w) (hb : Below w.heap.size w w') : Rxs B v xs w' := rx_mu h (Mu.of_below hb) (fun j hj => by cases hj)
theorem gok_str {s : ByteArray} (h : allOk (gsD s) = true) : ((strU (catU (gsD s))).toList == s.toList) = gok s := by
  unfold gok
  rw [h, Bool.true_and, strU_list, toL8]
  rw [Bool.eq_iff_iff, beq_iff_eq, decide_eq_true_eq]
end Is
end Go.Proofs.YteppmkeoedddnaaDoor
