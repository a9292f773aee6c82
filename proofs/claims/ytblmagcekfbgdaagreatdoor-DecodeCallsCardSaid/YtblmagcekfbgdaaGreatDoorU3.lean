/- Rows of instructions compared, where they are alike. | The landed package decode: Each, an iterator over places and instructions. -/
import Derived.Test.YtblmagcekfbgdaaGreatDoorU1
import Derived.RangeFuncNested
import Derived.RangeFuncBound
import Derived.RangeFuncCalls
import Derived.RangeFuncLeaves
import Derived.Shelf.Abstract
import Derived.Shelf.RegionOpen
import Derived.WalkKit
import Derived.OwnWalkIn
import Derived.TacticsInMore
import Derived.LoopNIn
import Derived.LoopIn
namespace Go.Proofs.YtblmagcekfbgdaaGreatDoor
open Go Go.RowKit
namespace Is
open Nt
set_option linter.unusedVariables false
set_option linter.unusedSimpArgs false
theorem eqI_self (i : Ins) : eqI i i = true := eqI_iff.2 rfl
set_option maxRecDepth 100000 in
set_option maxHeartbeats 4000000 in
theorem same_x (A B : Option Addr) (n c d Ba Bb : Nat) (xs : List Ins) (w : World) (ha : RdX w Ba A n xs) (hb : RdX w Bb B n xs) (hn : n ≤ 1000000) :
    Calls Tryz.prog 10 #[.slice A n c, .slice B n d] w fun e w' => e = .returned (.bool true) ∧ ∃ q, w' = w.drewN q := by
  have HN := Lib.hid hn
  have hnb : (n : Int) ≤ 1000000 := by omega
  go_enter Tryz.func10, Tryz.ntmps10
  go_wp2_with fail
  go_loopw [5] (fun i wr => ∃ k q : Nat, k ≤ n ∧ i = .int .i64 k ∧ wr = w.drewN q) (fun i _ => n - (intOf i).toNat)
  case atStart => exact ⟨0, 0, Nat.zero_le _, rfl, rfl⟩
  case round =>
    obtain ⟨k, q, hk, rfl, rfl⟩ := hrel
    by_cases hlt : k < n
    · obtain ⟨ad, rfl, _, hca⟩ := ha.rd (by omega)
      obtain ⟨bd, rfl, _, hcb⟩ := hb.rd (by omega)
      have hkl : k < xs.length := by rw [ha.len]; exact hlt
      obtain ⟨i, hi⟩ : ∃ i, xs[k]? = some i := ⟨_, List.getElem?_eq_getElem hkl⟩
      obtain ⟨g0, g1, g2, g3, g4, g5, g6, g7, g8⟩ := hca k i hi
      obtain ⟨h0, h1, h2, h3, h4, h5, h6, h7, h8⟩ := hcb k i hi
      have hki : (k : Int) < (n : Int) := by omega
      have hk0 : (0 : Int) ≤ (k : Int) := by omega
      have hk9 : (k : Int) ≤ 1000000 := by omega
      have HLT := Lib.hid hlt
      clear hca hcb ha hb hi hkl hlt
      obtain ⟨op, d, s, t, b, x, sc, di, im⟩ := i
      dsimp only at *
      have HEQ := instEq op d s t b x sc di im op d s t b x sc di im
      rw [eqI_self] at HEQ
      go_wp2_with fail
      go_quiet (fail)
      go_wp2_with fail
      go_roundw
      case rel => exact ⟨k + 1, _, by have := HLT.out; omega, by (try simp (disch := omega) only [IntWalk.wrap64_in]); go_num, rfl⟩
      case measure => (have := HLT.out; (try simp (disch := omega) only [IntWalk.wrap64_in] at *); simp [intOf] <;> omega)
    · obtain rfl : k = n := by omega
      clear ha hb
      go_wp2_with fail
      go_ret
      exact ⟨rfl, _, rfl⟩
end Is
end Go.Proofs.YtblmagcekfbgdaaGreatDoor
namespace Go.Proofs.YtblmagcekfbgdaaGreatDoor
open Go Go.RowKit Go.Shelf
namespace Is
open Nt
set_option linter.unusedVariables false
set_option linter.unusedSimpArgs false
attribute [local go_sem] Oper.semAt_some
/-- the j-th place and instruction -/
def posN (s : ByteArray) (j : Nat) : Int := if j < (allD s).1.length then ((catU ((allD s).1.take j)).length : Int) else -1
def insN (s : ByteArray) (j : Nat) : Ins := ((allD s).1[j]?).getD zI
def encE (s : ByteArray) (j : Nat) : Array Value := #[.int .i64 (posN s j), .agg (insN s j).vs]
theorem cat_take {is : List Ins} {j : Nat} {i : Ins} (h : is[j]? = some i) : (catU (is.take (j + 1))).length = (catU (is.take j)).length + (encL i).length := by
  rw [take_snoc h, cat_snoc, List.length_append]
/-- before the end: the place, the instruction there -/
theorem ev_at (s : ByteArray) (j : Nat) (hj : j < (allD s).1.length) : ∃ k : Nat, posN s j = (k : Int) ∧ k = (catU ((allD s).1.take j)).length ∧ k < s.size ∧ decO s k = some (insN s j) ∧ (insN s j).wf ∧ okI (insN s j) = true ∧ 1 ≤ (encL (insN s j)).length ∧ (encL (insN s j)).length ≤ 11 ∧
    (catU ((allD s).1.take (j + 1))).length = k + (encL (insN s j)).length ∧ (allD s).1[j]? = some (insN s j) := by
  obtain ⟨h1, h2, h3, h4, h5, h6⟩ := allD_ok s
  have hi : (allD s).1[j]? = some (insN s j) := by unfold insN; rw [List.getElem?_eq_getElem hj]; rfl
  have hok : okI (insN s j) = true := by
    unfold allOk at h1
    exact List.all_eq_true.1 h1 _ (List.mem_of_getElem? hi)
  have hwf := h2 _ (List.mem_of_getElem? hi)
  have he := encl_ok _ hok
  have hsplit : catU (allD s).1 = catU ((allD s).1.take j) ++ (encL (insN s j) ++ catU ((allD s).1.drop (j + 1))) := by
    have happ : ∀ xs ys : List Ins, catU (xs ++ ys) = catU xs ++ catU ys := by
      intro xs ys
      induction xs with
      | nil => rfl
      | cons x xs ih => simp only [List.cons_append, catU, ih, List.append_assoc]
    conv => lhs; rw [← List.take_append_drop (j + 1) (allD s).1]
    rw [happ, take_snoc hi, cat_snoc, List.append_assoc]
  rw [hsplit] at h4
  have h7 := h4.right.left
  rw [Nat.zero_add] at h7
  have h8 := h7.1
  refine ⟨_, by unfold posN; rw [if_pos hj], rfl, by omega, (decO_iff (by omega)).2 ⟨hok, hwf, h7⟩, hwf, hok, he.2.1, he.2.2, cat_take hi, hi⟩
theorem ev_end (s : ByteArray) : decO s (catU ((allD s).1.take (allD s).1.length)).length = none ∧ (catU ((allD s).1.take (allD s).1.length)).length ≤ s.size := by
  obtain ⟨h1, h2, h3, h4, h5, h6⟩ := allD_ok s
  rw [List.take_of_length_le (Nat.le_refl _), ← h3]
  exact ⟨h6, h5⟩
theorem ev_le (s : ByteArray) (j : Nat) (hj : j ≤ (allD s).1.length) : (catU ((allD s).1.take j)).length ≤ s.size := by
  rcases Nat.lt_or_ge j (allD s).1.length with h | h
  · obtain ⟨k, _, rfl, h2, _⟩ := ev_at s j h; omega
  · obtain rfl : j = (allD s).1.length := by omega
    exact (ev_end s).2
theorem below_grown {w w' : World} (h : Below w.heap.size w w') : w.grownBy w' none := ⟨h.os, h.tape, h.output, h.size, fun k hk _ => h.block k hk⟩
set_option maxRecDepth 100000 in
set_option maxHeartbeats 1000000 in
theorem each_in (n : Nat) (code : ByteArray) (w : World) :
    CallsIn Fence.wide n Tryz.prog 20 #[.string code] w fun e w' => e = .returned (.func (.func 36) #[] #[.pointer (some ⟨w.heap.size, 0, none⟩)]) ∧ w' = w.alloc (.cells #[.string code] 9) := by
  refine callsIn_of_wp Tryz.func20 rfl trivial ?_ rfl
  simp only [Tryz.ntmps20, List.size_toArray, List.length_cons, List.length_nil, Nat.reduceAdd, Nat.reduceSub, Array.replicate_succ, Array.replicate_zero, List.push_toArray, List.append_toArray, List.nil_append, List.cons_append]
  gi_wp2
  go_ret
  exact ⟨rfl, rfl⟩
set_option maxRecDepth 100000 in
set_option maxHeartbeats 4000000 in
theorem each1_in (n : Nat) (hn : 1 ≤ n) (l C n₀ : Nat) (code : ByteArray) (hs : code.size ≤ 400) (hCn : C < n₀) (hG : G3 n₀) (J Jx : List Nat → World → Prop)
    (hY : ∀ pre x W, J pre W → pre.length < (allD code).1.length → YieldAt Fence.wide (n - 1) Tryz.prog l (encE code x) W fun e W' =>
      (e = .returned (.bool true) ∧ J (pre ++ [x]) W' ∧ Below n₀ W W') ∨ (e = .returned (.bool false) ∧ Jx (pre ++ [x]) W'))
    (W : World) (hn0 : n₀ ≤ W.heap.size) (hT : TabE W) (hJ : AbidesFrom W.heap.size J) (hC : Bk W C 9 #[.string code]) (h0 : J [] W) :
    CallsIn Fence.wide n Tryz.prog 36 #[.func (.yield l) #[] #[], .pointer (some ⟨C, 0, none⟩)] W fun e W' => (∃ v, e = .returned v) ∧
      ((∃ ys, ys = List.range (allD code).1.length ∧ J ys W') ∨ (∃ pre, (∃ k, k ≤ (allD code).1.length ∧ pre = List.range k) ∧ Jx pre W')) := by
  have HT0 := Lib.hid hT
  have HC0 := Lib.hid hC
  have HG := Lib.hid hG
  have hs4 : (code.size : Int) ≤ 400 := by omega
  clear hT hC hG
  refine callsIn_of_wp Tryz.func36 rfl trivial ?_ rfl
  simp only [Tryz.ntmps36, List.size_toArray, List.length_cons, List.length_nil, Nat.reduceAdd, Nat.reduceSub, Array.replicate_succ, Array.replicate_zero, List.push_toArray, List.append_toArray, List.nil_append, List.cons_append]
  gi_wp2
  gi_loopw [3] (fun at_ wr => ∃ j : Nat, j ≤ (allD code).1.length ∧ at_ = .int .i64 ((catU ((allD code).1.take j)).length : Int) ∧ J (List.range j) wr ∧ Hid (TabE wr) ∧ Hid (Bk wr C 9 #[.string code]) ∧ Hid (n₀ ≤ wr.heap.size))
    (fun at_ _ => code.size + 1 - (intOf at_).toNat)
  case atStart => exact ⟨0, Nat.zero_le _, rfl, h0, HT0, HC0, Lib.hid hn0⟩
  case round =>
    obtain ⟨j, hj, rfl, hJs, HT, HC, HN⟩ := hrel
    have hcc : wr.cell? ⟨C, 0, none⟩ = some (.string code) := HC.out.cell 0
    have HLE := Lib.hid (ev_le code j hj)
    have HI := Lib.hid (fun (k : Nat) (h : k ≤ code.size) => dInst_l code (k : Int) wr HT.out (i64e (by omega) (by omega)) (by omega))
    have HJ2 := Lib.hid hJs
    have HJJ := Lib.hid hJ
    clear hJs hJ
    by_cases hlt : j < (allD code).1.length
    · obtain ⟨k, hp, hk, hks, hd, hwf, hok, l1, l11, hnx, hi⟩ := ev_at code j hlt
      have HIK := HI.out k (by omega)
      rw [rD_some hks hd] at HIK
      have HII := Lib.hid HIK
      clear HIK HI
      have HYJ := Lib.hid (fun W' hJ' => hY (List.range j) j W' hJ' (by rw [List.length_range]; exact hlt))
      unfold encE at HYJ
      rw [hp] at HYJ
      have HNX := Lib.hid hnx
      have HL1 := Lib.hid l1
      have hl11 : ((encL (insN code j)).length : Int) ≤ 11 := by omega
      have hk4 : (k : Int) ≤ 400 := by omega
      have HKS := Lib.hid hks
      have HLT := Lib.hid hlt
      have HKL : Hid (k + (encL (insN code j)).length ≤ code.size) := Lib.hid (by
        have := ev_le code (j + 1) hlt
        omega)
      have hkl : (k : Int) + ((encL (insN code j)).length : Int) ≤ 400 := by have := HKL.out; omega
      rw [← hk]
      clear hp hd hwf hok hi hnx l1 l11 hks hlt HLE hk
      unfold tD at HII
      dsimp only at HII
      generalize (encL (insN code j)).length = ln at *
      generalize insN code j = ii at *
      obtain ⟨i0, i1, i2, i3, i4, i5, i6, i7, i8⟩ := ii
      unfold Ins.vs at HII HYJ
      dsimp only at HII HYJ
      gi_wp2_with (refine ⟨trivial, ?_⟩; gi_at_call 5; refine (callsIn_wide.2 HII.out).mono ?_; rintro e w2 ⟨rfl, hb⟩; have hJ3 : J (List.range j) (w2.alloc (.cells #[.int .i64 i0, .int .i64 i1, .int .i64 i2, .int .i64 i3, .int .i64 i4, .int .i64 i5, .int .i64 i6, .int .i64 i7, .int .i64 i8] 26)) := HJJ.out _ _ _ none (HJJ.out _ _ _ none HJ2.out (below_grown hb) (fun r e => by cases e)) (World.grownBy_alloc w2 _ none) (fun r e => by cases e); have HT2 : Hid (TabE (w2.alloc (.cells #[.int .i64 i0, .int .i64 i1, .int .i64 i2, .int .i64 i3, .int .i64 i4, .int .i64 i5, .int .i64 i6, .int .i64 i7, .int .i64 i8] 26))) := Lib.hid ((HT.out.keep hb).keepB HG.out (((Below.refl n₀ w2).alloc (by have := HN.out; have := hb.size; omega) _))); have HC2 : Hid (Bk (w2.alloc (.cells #[.int .i64 i0, .int .i64 i1, .int .i64 i2, .int .i64 i3, .int .i64 i4, .int .i64 i5, .int .i64 i6, .int .i64 i7, .int .i64 i8] 26)) C 9 #[.string code]) := Lib.hid ((HC.out.below hb HC.out.lt).alloc _); have HN2 : Hid (n₀ ≤ (w2.alloc (.cells #[.int .i64 i0, .int .i64 i1, .int .i64 i2, .int .i64 i3, .int .i64 i4, .int .i64 i5, .int .i64 i6, .int .i64 i7, .int .i64 i8] 26)).heap.size) := Lib.hid (by have := HN.out; have := hb.size; simp; omega); obtain ⟨fn, tmps, assign, body, hy, hR⟩ := HYJ.out _ hJ3; clear hb hJ3 hcc)
      refine hR.mono ?_
      rintro e W3 (⟨rfl, hJ3, hk3⟩ | ⟨rfl, hJx3⟩)
      · have HJ3 := Lib.hid hJ3
        have HT3 := Lib.hid (HT2.out.keepB HG.out hk3)
        have HC3 : Hid (Bk W3 C 9 #[.string code]) := Lib.hid (HC2.out.below hk3 hCn)
        have HN3 : Hid (n₀ ≤ W3.heap.size) := Lib.hid (Nat.le_trans HN2.out hk3.size)
        clear hJ3 hk3 hR hy
        gi_wp2
        go_roundw
        case rel =>
          refine ⟨j + 1, by have := HLT.out; omega, ?_, by rw [List.range_succ]; exact HJ3.out, HT3, HC3, HN3⟩
          rw [HNX.out]
          push_cast
          rfl
        case measure =>
          have := HKL.out
          have := HL1.out
          simp [intOf]
          omega
      · clear hR hy
        gi_wp2
        refine bodyPost_ret (results_none rfl _ _ _) rfl ?_
        refine ⟨⟨_, rfl⟩, .inr ⟨_, ⟨j + 1, by have := HLT.out; omega, ?_⟩, hJx3⟩⟩
        rw [List.range_succ]
    · have hje : j = (allD code).1.length := by omega
      subst hje
      obtain ⟨hde, hle⟩ := ev_end code
      generalize hkq : (catU ((allD code).1.take (allD code).1.length)).length = k at *
      have HIK := HI.out k hle
      have HE : Hid (∃ er : Int, rD code (k : Int) = (zI, 0, er) ∧ (er = 8 ∨ er = 4)) := Lib.hid (by
        by_cases h : k = code.size
        · exact ⟨8, rD_end (by rw [h]), .inl rfl⟩
        · exact ⟨4, rD_none (by omega) hde, .inr rfl⟩)
      obtain ⟨er, her, he84⟩ := HE.out
      rw [her] at HIK
      have HII := Lib.hid HIK
      have hen : (er != 0) = true := by rcases he84 with rfl | rfl <;> rfl
      have hk4 : (k : Int) ≤ 400 := by omega
      clear HIK HI her he84 hde hle HE hkq HLE
      unfold tD zI Ins.vs at HII
      dsimp only at HII
      gi_wp2_with (refine ⟨trivial, ?_⟩; gi_at_call 5; refine (callsIn_wide.2 HII.out).mono ?_; rintro e w2 ⟨rfl, hb⟩; have hJ3 : J (List.range (allD code).1.length) (w2.alloc (.cells #[.int .i64 0, .int .i64 0, .int .i64 0, .int .i64 0, .int .i64 0, .int .i64 0, .int .i64 0, .int .i64 0, .int .i64 0] 26)) := HJJ.out _ _ _ none (HJJ.out _ _ _ none HJ2.out (below_grown hb) (fun r e => by cases e)) (World.grownBy_alloc w2 _ none) (fun r e => by cases e); have HJ3 := Lib.hid hJ3; clear hb hJ3 hcc)
      refine ⟨fun _ h => (by cases h), ?_⟩
      gi_wp2
      refine bodyPost_ret (results_none rfl _ _ _) rfl ?_
      exact ⟨⟨_, rfl⟩, .inl ⟨_, rfl, HJ3.out⟩⟩
/-- **Each tells its places and instructions, all of them in order; left early it is left** -/
theorem each_stops (n : Nat) (hn : 1 ≤ n) (C n₀ : Nat) (code : ByteArray) (hs : code.size ≤ 400) (w : World) (hT : TabE w) (hG : G3 n₀) (hC : Bk w C 9 #[.string code]) (hCn : C < n₀) (hn0 : n₀ ≤ w.heap.size) :
    SeqStopsK Fence.wide n Tryz.prog 36 #[.pointer (some ⟨C, 0, none⟩)] (encE code) (Below n₀) (fun ys => ys = List.range (allD code).1.length) (fun pre => ∃ k, k ≤ (allD code).1.length ∧ pre = List.range k) (allD code).1.length w :=
  fun l J Jx W hW hJ _ hY h0 => each1_in n hn l C n₀ code hs hCn hG J Jx hY W (Nat.le_trans hn0 hW.size) (hT.keep hW) hJ (hC.below hW hC.lt) h0
theorem posN_ne {s : ByteArray} {x p : Nat} (hp : p < (allD s).1.length) (hx : x ≠ p) : posN s x ≠ posN s p := by
  have mono : ∀ a b, a < b → b ≤ (allD s).1.length → (catU ((allD s).1.take a)).length < (catU ((allD s).1.take b)).length := by
    intro a b hab hb
    induction b with
    | zero => omega
    | succ b ih =>
      obtain ⟨k, _, rfl, _, _, _, _, l1, _, hnx, _⟩ := ev_at s b (by omega)
      rcases Nat.lt_or_ge a b with h | h
      · have := ih h (by omega); omega
      · obtain rfl : a = b := by omega
        omega
  unfold posN
  rw [if_pos hp]
  split
  · rename_i h
    rcases Nat.lt_or_ge x p with h1 | h1
    · have := mono x p h1 (by omega); omega
    · have := mono p x (by omega) (by omega); omega
  · omega
theorem posN_i64 (s : ByteArray) (x : Nat) (hs : s.size ≤ 400) : I64 (posN s x) := by
  unfold posN
  split
  · rename_i h
    have := ev_le s x (by omega)
    exact i64s (by omega) (by omega)
  · exact i64s (by decide) (by decide)
theorem insN_wf (s : ByteArray) (x : Nat) : (insN s x).wf := by
  unfold insN
  cases h : (allD s).1[x]? with
  | none => exact zI_wf
  | some i => exact (allD_ok s).2.1 i (List.mem_of_getElem? h)
theorem range_snoc {p x : Nat} {pre : List Nat} (hpre : pre = List.range pre.length) (h : ∃ k, pre ++ [x] = List.range k) : x = pre.length := by
  obtain ⟨k, hk⟩ := h
  have hl := congrArg List.length hk
  rw [List.length_append, List.length_range] at hl
  simp at hl
  subst hl
  rw [List.range_succ] at hk
  have := List.append_inj_right hk (by rw [List.length_range])
  simpa using this
theorem keeps_below {B : Nat} {W W' : World} (hb : Below W.heap.size W W') : KeepsFrom B W W' := ⟨hb.size, fun k o _ hk _ => (hb.block k (Array.getElem?_eq_some_iff.1 hk).1).trans hk⟩
set_option maxRecDepth 100000 in
theorem run_bool_cell {fn : Func} {p : Tmp} (h : fn.results = #[.cell p 4]) (tmps : Array Value) (w : World) (g : Nat) (b : Bool) (hp : tmps.getD p undef = .pointer (some ⟨g, 0, none⟩)) (hc : w.cell? ⟨g, 0, none⟩ = some (.bool b)) :
    (results fn tmps).run Tryz.prog w = .ok (.bool b) w := by
  have hp' : tmps[p]?.getD undef = .pointer (some ⟨g, 0, none⟩) := by simpa using hp
  have ha := Tryz.isAgg4 w
  simp [results, h, hp', asAddr, loadVar, ha, hc]
end Is
end Go.Proofs.YtblmagcekfbgdaaGreatDoor
