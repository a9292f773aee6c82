/- Rows of lines: read, and of one's own. | The landed package inst: Jump. | The landed package layout: keys that are instructions; a sheet's sizes. | The landed package layout: the iterator over lines and the places behind them. -/
import Derived.Test.YteppmkeoedddnaaDoorY1
import Derived.Test.YteppmkeoedddnaaDoorT2
import Derived.Test.YteppmkeoedddnaaDoorJ4
import Derived.Test.YteppmkeoedddnaaDoorRtA
import Derived.Test.YteppmkeoedddnaaDoorEncX
import Derived.Deep.CutRange
import Derived.Deep.Cut
import Derived.Maps.Own
import Derived.Maps.OwnSet
import Derived.Maps.OwnOps
import Derived.Maps.Views
import Derived.DeepKeys4
import Derived.RangeFuncNested
import Derived.RangeFuncBound
import Derived.RangeFuncCalls
import Derived.RangeFuncLeaves
import Derived.Shelf.Abstract
import Derived.Shelf.RegionOpen
import Derived.WalkKit
import Derived.OwnWalkIn
import Derived.TacticsInMore
import Derived.LoopNIn
import Derived.LoopIn
namespace Go.Proofs.YteppmkeoedddnaaDoor
open Go Go.RowKit
namespace Ly
open Is Nt
set_option linter.unusedVariables false
set_option linter.unusedSimpArgs false
/-- a line in memory -/
structure InLn (w : World) (ad : Addr) (l : Ln) : Prop where
  a : w.cell? ad = some (.int .i64 l.lab)
  c1 : w.cell? ⟨ad.block, ad.off + 1, none⟩ = some (.int .i64 l.ins.op)
  c2 : w.cell? ⟨ad.block, ad.off + 2, none⟩ = some (.int .i64 l.ins.d)
  c3 : w.cell? ⟨ad.block, ad.off + 3, none⟩ = some (.int .i64 l.ins.s)
  c4 : w.cell? ⟨ad.block, ad.off + 4, none⟩ = some (.int .i64 l.ins.t)
  c5 : w.cell? ⟨ad.block, ad.off + 5, none⟩ = some (.int .i64 l.ins.b)
  c6 : w.cell? ⟨ad.block, ad.off + 6, none⟩ = some (.int .i64 l.ins.x)
  c7 : w.cell? ⟨ad.block, ad.off + 7, none⟩ = some (.int .i64 l.ins.sc)
  c8 : w.cell? ⟨ad.block, ad.off + 8, none⟩ = some (.int .i64 l.ins.di)
  c9 : w.cell? ⟨ad.block, ad.off + 9, none⟩ = some (.int .i64 l.ins.im)
  c10 : w.cell? ⟨ad.block, ad.off + 10, none⟩ = some (.int .i64 l.to)
/-- a slice of lines -/
structure RdL (w : World) (B : Nat) (A : Option Addr) (n : Nat) (ls : List Ln) : Prop where
  len : ls.length = n
  oks : ∀ l ∈ ls, l.wf
  rd : 0 < n → ∃ ad, A = some ad ∧ ad.block < B ∧ ∀ (j : Nat) (l : Ln), ls[j]? = some l → InLn w (ad.add (j * 11)) l
theorem RdL.below {w w' : World} {B n : Nat} {A : Option Addr} {ls : List Ln} (h : RdL w B A n ls) (hb : Below B w w') : RdL w' B A n ls :=
  ⟨h.len, h.oks, fun h0 => by
    obtain ⟨ad, e, hB, hc⟩ := h.rd h0
    refine ⟨ad, e, hB, fun j x hj => ?_⟩
    obtain ⟨h0, h1, h2, h3, h4, h5, h6, h7, h8, h9, h10⟩ := hc j x hj
    have hbb : (ad.add (j * 11)).block < B := by rw [block_add]; exact hB
    exact ⟨by rw [hb.cell hbb]; exact h0, by rw [hb.cell (by exact hbb)]; exact h1, by rw [hb.cell (by exact hbb)]; exact h2, by rw [hb.cell (by exact hbb)]; exact h3, by rw [hb.cell (by exact hbb)]; exact h4, by rw [hb.cell (by exact hbb)]; exact h5, by rw [hb.cell (by exact hbb)]; exact h6, by rw [hb.cell (by exact hbb)]; exact h7, by rw [hb.cell (by exact hbb)]; exact h8, by rw [hb.cell (by exact hbb)]; exact h9, by rw [hb.cell (by exact hbb)]; exact h10⟩⟩
theorem RdL.more {w : World} {B B' n : Nat} {A : Option Addr} {ls : List Ln} (h : RdL w B A n ls) (hb : B ≤ B') : RdL w B' A n ls :=
  ⟨h.len, h.oks, fun h0 => by obtain ⟨ad, e, hB, hc⟩ := h.rd h0; exact ⟨ad, e, Nat.lt_of_lt_of_le hB hb, hc⟩⟩
def lnRow (xs : List Ln) : List Value := xs.flatMap fun i => i.vs.toList
theorem lnRow_app (xs ys : List Ln) : lnRow (xs ++ ys) = lnRow xs ++ lnRow ys := List.flatMap_append
theorem lnRow_one (x : Ln) : lnRow [x] = x.vs.toList := by unfold lnRow; simp
theorem lvs_len (x : Ln) : x.vs.toList.length = 11 := rfl
theorem lnRow_len (xs : List Ln) : (lnRow xs).length = xs.length * 11 := by
  induction xs with
  | nil => rfl
  | cons x xs ih =>
    show (x.vs.toList ++ lnRow xs).length = _
    rw [List.length_append, ih, lvs_len, List.length_cons]
    omega
theorem lnRow_get {xs : List Ln} {j d : Nat} {x : Ln} (h : xs[j]? = some x) (hd : d < 11) : (lnRow xs)[j * 11 + d]? = x.vs.toList[d]? := by
  induction xs generalizing j with
  | nil => cases h
  | cons p xs ih =>
    show (p.vs.toList ++ lnRow xs)[j * 11 + d]? = _
    cases j with
    | zero =>
      simp at h
      subst h
      rw [List.getElem?_append_left (by rw [lvs_len]; omega), Nat.zero_mul, Nat.zero_add]
    | succ j =>
      rw [List.getElem?_append_right (by rw [lvs_len]; omega), lvs_len, show (j + 1) * 11 + d - 11 = j * 11 + d by omega]
      exact ih h
/-- lines of one's own -/
abbrev Rls (B : Nat) (v : Value) (xs : List Ln) (w : World) : Prop := w.ownsRow B 37 11 v xs.length (lnRow xs)
theorem rl_form {w : World} {B : Nat} {v : Value} {xs : List Ln} (h : Rls B v xs w) : ∃ A c, v = .slice A xs.length c := by
  rcases h.2 with ⟨e, h0⟩ | ⟨g, cap, cur, e, _⟩
  · exact ⟨none, 0, by rw [e, h0]⟩
  · exact ⟨_, _, e⟩
theorem rl_rd {w : World} {B n c : Nat} {A : Option Addr} {xs : List Ln} (h : Rls B (.slice A n c) xs w) (hw : ∀ i ∈ xs, i.wf) : n = xs.length ∧ RdL w w.heap.size A n xs ∧ n ≤ c := by
  have hh := h
  rcases h.2 with ⟨e, h0⟩ | ⟨g, cap, cur, e, h2, h3, h4⟩
  · cases e
    obtain rfl : xs = [] := List.eq_nil_of_length_eq_zero h0
    exact ⟨rfl, ⟨rfl, hw, fun h => absurd h (by omega)⟩, Nat.le_refl _⟩
  · cases e
    have hlt : g < w.heap.size := (Array.getElem?_eq_some_iff.1 h3).1
    refine ⟨rfl, ⟨rfl, hw, fun _ => ⟨_, rfl, hlt, fun j i hj => ?_⟩⟩, h4.1⟩
    have hjl : j < xs.length := (List.getElem?_eq_some_iff.1 hj).1
    have key : ∀ d, d < 11 → w.cell? ⟨g, j * 11 + d, none⟩ = i.vs.toList[d]? := fun d hd => by
      rw [World.ownsRow.cellAt hh (j * 11 + d) (by omega), lnRow_get hj hd]
    have e : (⟨g, 0, none⟩ : Addr).add (j * 11) = ⟨g, j * 11, none⟩ := by
      unfold Addr.add; split
      · rename_i e; rw [e]
      · simp
    rw [e]
    exact ⟨key 0 (by omega), key 1 (by omega), key 2 (by omega), key 3 (by omega), key 4 (by omega), key 5 (by omega), key 6 (by omega), key 7 (by omega), key 8 (by omega), key 9 (by omega), key 10 (by omega)⟩
set_option maxRecDepth 100000 in
theorem info_line : (Tryd.prog.info? 37).map (fun i => (i.zero, i.size, i.bytes)) = some (some (.agg #[.int .i64 0, .int .i64 0, .int .i64 0, .int .i64 0, .int .i64 0, .int .i64 0, .int .i64 0, .int .i64 0, .int .i64 0, .int .i64 0, .int .i64 0]), 11, 88) := by kernel_rfl
theorem vs_new11 (W : World) (x : Ln) (j : Nat) (u : Value) (hu : x.vs.toList[j]? = some u) : (W.alloc (.cells x.vs 37)).cell? ((⟨W.heap.size, 0, none⟩ : Addr).add j) = some u := by
  have e : (⟨W.heap.size, 0, none⟩ : Addr).add j = ⟨W.heap.size, j, none⟩ := by
    unfold Addr.add; split
    · rename_i e; rw [e]
    · simp
  rw [e, (Bk.new W 37 x.vs).cell j, ← Array.getElem?_toList]
  exact hu
theorem vs_one11 (x : Ln) : ∀ u ∈ x.vs.toList, u.oneCell' = true := by
  intro u hu
  unfold Ln.vs at hu
  simp at hu
  rcases hu with rfl | rfl | rfl | rfl | rfl | rfl | rfl | rfl | rfl | rfl | rfl <;> rfl
theorem c11 {w : World} {g : Nat} {t : TypeId} {v0 v1 v2 v3 v4 v5 v6 v7 v8 v9 v10 : Value} (h : Bk w g t #[v0, v1, v2, v3, v4, v5, v6, v7, v8, v9, v10]) :
    w.cell? ⟨g, 0, none⟩ = some v0 ∧ w.cell? ⟨g, 1, none⟩ = some v1 ∧ w.cell? ⟨g, 2, none⟩ = some v2 ∧ w.cell? ⟨g, 3, none⟩ = some v3 ∧ w.cell? ⟨g, 4, none⟩ = some v4 ∧ w.cell? ⟨g, 5, none⟩ = some v5 ∧ w.cell? ⟨g, 6, none⟩ = some v6 ∧ w.cell? ⟨g, 7, none⟩ = some v7 ∧ w.cell? ⟨g, 8, none⟩ = some v8 ∧ w.cell? ⟨g, 9, none⟩ = some v9 ∧ w.cell? ⟨g, 10, none⟩ = some v10 :=
  ⟨h.cell 0, h.cell 1, h.cell 2, h.cell 3, h.cell 4, h.cell 5, h.cell 6, h.cell 7, h.cell 8, h.cell 9, h.cell 10⟩
end Ly
end Go.Proofs.YteppmkeoedddnaaDoor
namespace Go.Proofs.YteppmkeoedddnaaDoor
open Go Go.RowKit
namespace Ly
open Is Nt
set_option linter.unusedVariables false
set_option linter.unusedSimpArgs false
theorem bel_tr {a b c : World} (h : Below a.heap.size a b) (k : Below b.heap.size b c) : Below a.heap.size a c := h.trans (k.mono h.size)
theorem bel_al {w : World} (o : Obj) : Below w.heap.size w (w.alloc o) := (Below.refl _ w).alloc (Nat.le_refl _) o
set_option maxRecDepth 100000 in
theorem i9 : (Tryd.prog.info? 35).map (·.size) = some 9 := by kernel_rfl
theorem ret_b' {a a' : Bool} (h : a = a') : Ending.returned (.bool a) = .returned (.bool a') := by rw [h]
set_option maxRecDepth 100000 in
set_option maxHeartbeats 1000000 in
theorem ijump_l (i : Ins) (hi : i.wf) (w : World) (hT : Tab w) : Calls Tryd.prog 28 #[.agg i.vs] w fun e w' => e = .returned (.bool (jmpB i)) ∧ Below w.heap.size w w' := by
  by_cases hop : i.op = 30 ∨ i.op = 31 ∨ i.op = 32
  · have e1 : jmpB i = okI i := by
      unfold jmpB
      have : (decide (i.op = 30) || decide (i.op = 31) || decide (i.op = 32)) = true := by simp; omega
      rw [this, Bool.and_true]
    rw [e1]
    have K := Lib.hid (fun W h => check_l i hi W h)
    have HC : Hid (chk i = if okI i then 0 else 2) := Lib.hid rfl
    generalize okI i = ok at *
    have HE : Hid ((chk i == 0) = ok) := Lib.hid (by rw [HC.out]; cases ok <;> rfl)
    generalize chk i = r at *
    have HT := Lib.hid hT
    clear hT e1 HC
    rcases hop with h | h | h
    all_goals
      go_enter Tryd.func28, Tryd.ntmps28
      go_upto_region 1 with fail
      have HB := Lib.hid (Bk.new w 35 i.vs)
      have HW := Lib.hid (bel_al (w := w) (.cells i.vs 35))
      have HT1 := Lib.hid (HT.out.keep HW.out)
      generalize World.alloc _ _ = W1 at *
      have c0 := HB.out.cell 0
      change _ = some (Value.int .i64 i.op) at c0
      rw [h] at c0
      clear h HT
      go_wp2_with (first | (refine wpList_load_row rfl 35 (.tmp 1) rfl w.heap.size rfl 35 i.vs (0, 0) _ HB.out Tryd.underlying35 rfl i9 ?_) | (go_at_call 27; refine (K.out _ HT1.out).mono ?_; rintro e y ⟨rfl, hg⟩; have HG := Lib.hid hg.below; clear hg) | fail)
      go_ret
      exact ⟨ret_b' HE.out, bel_tr HW.out HG.out⟩
  · have e1 : jmpB i = false := by
      unfold jmpB
      have : (decide (i.op = 30) || decide (i.op = 31) || decide (i.op = 32)) = false := by simp; omega
      rw [this, Bool.and_false]
    rw [e1]
    have n0 : (i.op == 30) = false := by rw [beq_eq_false_iff_ne]; omega
    have n1 : (i.op == 31) = false := by rw [beq_eq_false_iff_ne]; omega
    have n2 : (i.op == 32) = false := by rw [beq_eq_false_iff_ne]; omega
    clear hop e1
    go_enter Tryd.func28, Tryd.ntmps28
    go_upto_region 1 with fail
    have HB := Lib.hid (Bk.new w 35 i.vs)
    have HW := Lib.hid (bel_al (w := w) (.cells i.vs 35))
    generalize World.alloc _ _ = W1 at *
    have c0 := HB.out.cell 0
    change _ = some (Value.int .i64 i.op) at c0
    go_wp2_with fail
    go_ret
    exact ⟨rfl, HW.out⟩
end Ly
end Go.Proofs.YteppmkeoedddnaaDoor
namespace Go.Proofs.YteppmkeoedddnaaDoor
open Go Go.RowKit Go.Maps
namespace Ly
open Is Nt Rt
set_option linter.unusedVariables false
set_option linter.unusedSimpArgs false
set_option maxRecDepth 100000 in
theorem laidB : laidOutB Tryd.prog = true := by kernel_rfl
set_option maxRecDepth 100000 in
theorem rowI : 35 < Tryd.prog.types.size := of_decide_eq_true (by kernel_rfl)
set_option maxRecDepth 100000 in
theorem wideI : (match Tryd.prog.underlying 35 with | some (.array _ _) | some (.struct _) => true | _ => false) = true := by kernel_rfl
set_option maxRecDepth 100000 in
theorem lawI : WideMaps.KeyLaw Tryd.prog 35 := deep_law_laid laidB (m := 3) (by omega) rowI (by kernel_rfl) wideI
theorem keyedI : Keyed Tryd.prog 35 := Keyed.of_law lawI
theorem keyedN : Keyed Tryd.prog 3 := int_keyed Tryd.underlying3
theorem i64_lit {z : Int} (h : I64 z) : (Lit.int .i64 z).wf = true := by
  unfold I64 at h
  simp [Lit.wf, IntKind.min, IntKind.max, IntKind.signed, IntKind.bits]; omega
theorem kl_int (d : Nat) {z : Int} (h : I64 z) : Tryd.prog.keyLits (d + 1) 3 [.int .i64 z] = some [.int .i64 z] := by
  unfold Program.keyLits
  rw [Tryd.underlying3]
  simp [i64_lit h]
theorem kl_int64 (d : Nat) {z : Int} (h : I64 z) : Tryd.prog.keyLits (d + 1) 2 [.int .i64 z] = some [.int .i64 z] := by
  unfold Program.keyLits
  rw [Tryd.underlying2]
  simp [i64_lit h]
set_option maxRecDepth 100000 in
theorem lcells_i : Tryd.prog.cellsOf 3 = 1 := by kernel_rfl
set_option maxRecDepth 100000 in
theorem lcells_i64 : Tryd.prog.cellsOf 2 = 1 := by kernel_rfl
set_option maxRecDepth 100000 in
theorem lcells_mem : Tryd.prog.cellsOf 33 = 4 := by kernel_rfl
set_option maxRecDepth 100000 in
theorem lcells_inst : Tryd.prog.cellsOf 35 = 9 := by kernel_rfl
set_option maxRecDepth 100000 in
theorem kl_mem (d : Nat) {a b c e : Int} (ha : I64 a) (hb : I64 b) (hc : I64 c) (he : I64 e) : Tryd.prog.keyLits (d + 2) 33 [.int .i64 a, .int .i64 b, .int .i64 c, .int .i64 e] = some [.int .i64 a, .int .i64 b, .int .i64 c, .int .i64 e] := by
  unfold Program.keyLits
  rw [Tryd.underlying33]
  simp [lcells_mem, lcells_i, lcells_i64, kl_int d ha, kl_int d hb, kl_int d hc, kl_int64 d he]
set_option maxRecDepth 100000 in
theorem kl_inst (d : Nat) {i : Ins} (h : i.wf) : Tryd.prog.keyLits (d + 3) 35 i.vs.toList = some [.int .i64 i.op, .int .i64 i.d, .int .i64 i.s, .int .i64 i.t, .int .i64 i.b, .int .i64 i.x, .int .i64 i.sc, .int .i64 i.di, .int .i64 i.im] := by
  unfold Program.keyLits
  rw [Tryd.underlying35]
  unfold Ins.vs
  simp [lcells_inst, lcells_mem, lcells_i, lcells_i64, kl_int (d + 1) h.op, kl_int (d + 1) h.d, kl_int (d + 1) h.s, kl_int (d + 1) h.t, kl_int64 (d + 1) h.im, kl_mem d h.b h.x h.sc h.di]
set_option maxRecDepth 100000 in
theorem keyTI : Tryd.prog.keyType 35 = true := by kernel_rfl
set_option maxRecDepth 100000 in
theorem typ3 : ∃ d, Tryd.prog.types.size + 1 = d + 3 := ⟨Tryd.prog.types.size - 2, by
  have : 3 ≤ Tryd.prog.types.size := of_decide_eq_true (by kernel_rfl)
  omega⟩
set_option maxRecDepth 100000 in
/-- an instruction is a key -/
theorem key_ins {i : Ins} (h : i.wf) : ∃ kl, keyOf Tryd.prog 35 (.agg i.vs) = some kl := by
  obtain ⟨d, hd⟩ := typ3
  have hf : (Value.agg i.vs).formed Tryd.prog 35 = true := by
    simp [Value.formed, Tryd.underlying35, lcells_inst, Ins.vs]
  unfold keyOf
  rw [Tryd.underlying35]
  dsimp only
  rw [keyTI, hf, hd]
  have e : (Value.agg i.vs).cells.toList = i.vs.toList := rfl
  rw [e, kl_inst d h]
  exact ⟨_, rfl⟩
theorem vs_inj9 {i j : Ins} (h : i.vs = j.vs) : i = j := by
  obtain ⟨a0, a1, a2, a3, a4, a5, a6, a7, a8⟩ := i
  obtain ⟨b0, b1, b2, b3, b4, b5, b6, b7, b8⟩ := j
  unfold Ins.vs at h
  simp only [Array.mk.injEq, List.cons.injEq, Value.int.injEq, true_and, and_true] at h
  obtain ⟨rfl, rfl, rfl, rfl, rfl, rfl, rfl, rfl, rfl⟩ := h
  rfl
/-- whatever stands in the map of sizes is right -/
def SzOk (D : DataW Unit) : Prop := IsMap D ∧ ∀ (i : Ins) (kl : Lit), keyOf Tryd.prog 35 (.agg i.vs) = some kl → has D kl = true → ∀ z, D.atKey kl z = .lit (.int .i64 ((encS i).size : Int))
theorem SzOk.nil : SzOk (.map []) := ⟨isMap_empty, fun i kl _ h => by simp [has] at h⟩
set_option maxRecDepth 100000 in
theorem SzOk.put {D : DataW Unit} (h : SzOk D) {j : Ins} {kj : Lit} (hj : keyOf Tryd.prog 35 (.agg j.vs) = some kj) : SzOk (D.put kj (.lit (.int .i64 ((encS j).size : Int)))) := by
  refine ⟨h.1.put _ _, fun i kl hk hh z => ?_⟩
  by_cases e : kl = kj
  · subst e
    have hij := lawI.inj hk hj
    injection hij with hij
    rw [vs_inj9 hij]
    exact atKey_put_same h.1 (keyedI.key hj) _ _
  · rw [has_put_other e] at hh
    rw [atKey_put_other e]
    exact h.2 i kl hk hh z
/-- a map of sizes, of at most c -/
def SzE (c mp : Nat) (W : World) : Prop := ∃ n D, W.ownsMap Tryd.prog 35 (plainElem Tryd.prog 3) mp n D ∧ n ≤ c ∧ SzOk D
theorem SzE.mono {c c' mp : Nat} {W : World} (h : SzE c mp W) (hc : c ≤ c') : SzE c' mp W := by
  obtain ⟨n, D, h1, h2, h3⟩ := h
  exact ⟨n, D, h1, by omega, h3⟩
theorem SzE.lt {c mp : Nat} {W : World} (h : SzE c mp W) : mp < W.heap.size := by
  obtain ⟨n, D, h1, h2, h3⟩ := h
  exact h1.lt
theorem SzE.same {c mp : Nat} {W W' : World} (h : SzE c mp W) (e : W'.heap[mp]? = W.heap[mp]?) : SzE c mp W' := by
  obtain ⟨n, D, ⟨es, cl, h1, h2⟩, h3⟩ := h
  exact ⟨n, D, ⟨es, cl, e.trans h1, h2⟩, h3⟩
theorem SzE.below {c mp : Nat} {W W' : World} (h : SzE c mp W) (hb : Below W.heap.size W W') : SzE c mp W' := h.same (hb.block mp h.lt)
theorem own_below {w w' : World} {k : TypeId} {R : Value → Option (DataW Unit × List MemPlace)} {b n : Nat} {D : DataW Unit} (h : w.ownsMap Tryd.prog k R b n D) (hb : Below w.heap.size w w') : w'.ownsMap Tryd.prog k R b n D := by
  have hlt := h.lt
  obtain ⟨es, cl, h1, h2⟩ := h
  exact ⟨es, cl, (hb.block b hlt).trans h1, h2⟩
set_option maxRecDepth 100000 in
theorem zeroN (w : World) : (zeroValue 3).run Tryd.prog w = .ok (.int .i64 0) w := by kernel_rfl
set_option maxRecDepth 100000 in
set_option maxHeartbeats 4000000 in
theorem size_l (W : World) (hT : TabE W) (l : Ln) (hl : l.wf) (A : Option Addr) (n cap mp c : Nat) (hc : c ≤ 100000) (hS : SzE c mp W) :
    Calls Tryd.prog 41 #[.agg #[.slice A n cap, .map (some mp)], .agg l.vs] W fun e W' => e = .returned (.int .i64 (szL l : Int)) ∧ Tn (fun k => k = mp) W W' ∧ SzE (c + 1) mp W' := by
  have hlt := hS.lt
  have HL := Lib.hid hl
  have HT := Lib.hid hT
  have HB0 : Hid (Below W.heap.size W ((W.alloc (.cells #[.slice A n cap, .map (some mp)] 48)).alloc (.cells l.vs 37))) := Lib.hid (bel_tr (bel_al _) (bel_al _))
  have HS0 : Hid (Bk ((W.alloc (.cells #[.slice A n cap, .map (some mp)] 48)).alloc (.cells l.vs 37)) W.heap.size 48 #[.slice A n cap, .map (some mp)]) := Lib.hid ((Bk.new _ _ _).alloc _)
  have HL0 : Hid (Bk ((W.alloc (.cells #[.slice A n cap, .map (some mp)] 48)).alloc (.cells l.vs 37)) (W.heap.size + 1) 37 l.vs) := Lib.hid (Bk.new' (by simp))
  have HM0 := Lib.hid (hS.below HB0.out)
  clear hS hl hT
  by_cases h0 : l.lab = 0
  · have e0 : szL l = (encS l.ins).size := by unfold szL; rw [if_neg (by simpa using h0)]
    rw [e0]
    have HSZ := Lib.hid (fun X h => size_el l.ins X h HL.out.ins)
    have HKEY := Lib.hid (key_ins HL.out.ins)
    have HSM : Hid ((encS l.ins).size ≤ 11) := Lib.hid (by have := szL_le l; rw [e0] at this; exact this)
    have HP := Lib.hid (fun (D : DataW Unit) (kl : Lit) (h : SzOk D) (hk : keyOf Tryd.prog 35 (.agg l.ins.vs) = some kl) => h.put hk)
    have HQ := Lib.hid (fun (D : DataW Unit) (kl : Lit) (h : SzOk D) (hk : keyOf Tryd.prog 35 (.agg l.ins.vs) = some kl) => h.2 l.ins kl hk)
    clear e0 HL
    generalize (encS l.ins).size = sz at *
    obtain ⟨lab, ⟨op, d, s, t, b, x, sc, di, im⟩, tq⟩ := l
    unfold Ln.vs at HB0 HS0 HL0 HM0
    unfold Ins.vs at HSZ HKEY HP HQ
    unfold Ln.vs
    dsimp only at *
    subst h0
    obtain ⟨kl, hkl⟩ := HKEY.out
    have HKL := Lib.hid hkl
    clear HKEY hkl
    obtain ⟨a0, a1, a2, a3, a4, a5, a6, a7, a8, a9, a10⟩ := c11 HL0.out
    have s1 := HS0.out.cell 1
    dsimp at s1
    obtain ⟨n0, D, hown, hn0, hok⟩ := HM0.out
    have HOK := Lib.hid hok
    clear hok
    go_enter Tryd.func41, Tryd.ntmps41
    go_upto_region 4 with (first | (at_lookup; refine wpList_lookup_own_ok_int _ rfl _ _ 46 rfl 35 3 .i64 keyedI Tryd.underlying46 Tryd.underlying3 (zeroN _) mp n0 D rfl hown _ kl rfl HKL.out ?_; intro c1 hat hwc) | fail)
    cases hh : has D kl with
    | true =>
      have hcs : c1 = (sz : Int) := by
        have h := HQ.out D kl HOK.out HKL.out hh (.lit (.int .i64 0))
        rw [hat] at h
        injection h with h
        injection h
      subst hcs
      go_wp2_with fail
      go_ret
      exact ⟨rfl, Tn.of_below HB0.out, HM0.out.mono (by omega)⟩
    | false =>
      clear hat hwc
      go_upto_region 6 with (first | (go_at_call 67; refine (HSZ.out _ (HT.out.keep HB0.out)).mono ?_; rintro e w2 ⟨rfl, hb⟩; have HB2 := Lib.hid (bel_tr HB0.out hb); have HL2 := Lib.hid (HL0.out.below hb HL0.out.lt); have HS2 := Lib.hid (HS0.out.below hb HS0.out.lt); have hown2 := own_below hown hb; clear hb hown) | fail)
      clear a0 a1 a2 a3 a4 a5 a6 a7 a8 a9 a10 s1
      obtain ⟨a0, a1, a2, a3, a4, a5, a6, a7, a8, a9, a10⟩ := c11 HL2.out
      have s1 := HS2.out.cell 1
      dsimp at s1
      have hsm := HSM.out
      go_wp2_with (first | (at_mapUpdate; refine wpList_mapUpdate_own _ rfl _ _ _ 46 rfl 35 3 keyedI Tryd.underlying46 _ mp n0 D rfl hown2 (by simp only [maxLen]; omega) _ _ kl rfl rfl HKL.out (.lit (.int .i64 (sz : Int))) [] (plainElem_int Tryd.underlying3 (i64_lit (i64s (by omega) (by omega)))) ?_; intro w3 hown3 hgrow) | fail)
      go_ret
      exact ⟨rfl, (Tn.of_below HB2.out).grown hgrow (fun j e hj => by cases e; rfl), ⟨n0 + 1, _, hown3, by omega, HP.out D kl HOK.out HKL.out⟩⟩
  · have e0 : szL l = 0 := by unfold szL; rw [if_pos h0]
    rw [e0]
    have hne : (l.lab != 0) = true := by simpa using h0
    obtain ⟨lab, ⟨op, d, s, t, b, x, sc, di, im⟩, tq⟩ := l
    unfold Ln.vs at HB0 HS0 HL0 HM0
    unfold Ln.vs
    dsimp only at *
    have a0 := HL0.out.cell 0
    dsimp at a0
    go_enter Tryd.func41, Tryd.ntmps41
    go_wp2_with fail
    go_ret
    exact ⟨rfl, Tn.of_below HB0.out, HM0.out.mono (by omega)⟩
end Ly
end Go.Proofs.YteppmkeoedddnaaDoor
namespace Go.Proofs.YteppmkeoedddnaaDoor
open Go Go.RowKit Go.Shelf Go.Maps
namespace Ly
open Is Nt Rt
set_option linter.unusedVariables false
set_option linter.unusedSimpArgs false
attribute [local go_sem] Oper.semAt_some
def zL : Ln := ⟨0, zI, 0⟩
def lnA (ls : List Ln) (j : Nat) : Ln := (ls[j]?).getD zL
def encB (ls : List Ln) (j : Nat) : Array Value := #[.int .i64 ((upL (ls.take (j + 1)) : Nat) : Int), .agg (lnA ls j).vs]
theorem lnA_at {ls : List Ln} {j : Nat} (h : j < ls.length) : ls[j]? = some (lnA ls j) := by unfold lnA; rw [List.getElem?_eq_getElem h]; rfl
theorem take_at {ls : List Ln} {j : Nat} (h : j < ls.length) : ls.take (j + 1) = ls.take j ++ [lnA ls j] := by rw [List.take_add_one, lnA_at h]; rfl
theorem up_at {ls : List Ln} {j : Nat} (h : j < ls.length) : upL (ls.take (j + 1)) = upL (ls.take j) + szL (lnA ls j) := by rw [take_at h, upL_snoc]
/-- what a round keeps: all up to the map of sizes, and the box that the iterator has -/
def KpE (mp cb : Nat) (A B : World) : Prop := Below (mp + 1) A B ∧ (∀ o, A.heap[cb]? = some o → B.heap[cb]? = some o)
theorem KpE.trans {mp cb : Nat} {A B C : World} (h : KpE mp cb A B) (k : KpE mp cb B C) : KpE mp cb A C := ⟨h.1.trans k.1, fun o ho => k.2 o (h.2 o ho)⟩
theorem KpE.of {mp cb : Nat} {A B : World} (h : Below A.heap.size A B) (hm : mp < A.heap.size) : KpE mp cb A B := ⟨h.mono hm, fun o ho => (h.block cb (Array.getElem?_eq_some_iff.1 ho).1).trans ho⟩
/-- what may have turned while it goes -/
def SE (mp cb : Nat) (k : Nat) : Prop := k = mp ∨ (mp < k ∧ k ≠ cb)
theorem KpE.tn {mp cb : Nat} {A B : World} (h : KpE mp cb A B) : Tn (SE mp cb) A B := ⟨h.1.os, h.1.tape, h.1.output, h.1.size, fun k hk hn => by
  rcases Nat.lt_or_ge k (mp + 1) with h' | h'
  · exact h.1.block k h'
  · have e : k = cb := Classical.byContradiction fun e => hn (.inr ⟨by omega, e⟩)
    subst e
    obtain ⟨o, ho⟩ : ∃ o, A.heap[k]? = some o := ⟨_, Array.getElem?_eq_getElem hk⟩
    rw [ho]
    exact h.2 o ho⟩
set_option maxRecDepth 100000 in
set_option maxHeartbeats 1000000 in
theorem each_in (n : Nat) (A : Option Addr) (k cap mp : Nat) (w : World) :
    CallsIn Fence.wide n Tryd.prog 25 #[.agg #[.slice A k cap, .map (some mp)]] w fun e w' => e = .returned (.func (.func 40) #[] #[.pointer (some ⟨w.heap.size, 0, none⟩)]) ∧ w' = w.alloc (.cells #[.slice A k cap, .map (some mp)] 48) := by
  refine callsIn_of_wp Tryd.func25 rfl trivial ?_ rfl
  simp only [Tryd.ntmps25, List.size_toArray, List.length_cons, List.length_nil, Nat.reduceAdd, Nat.reduceSub, Array.replicate_succ, Array.replicate_zero, List.push_toArray, List.append_toArray, List.nil_append, List.cons_append]
  gi_wp2
  go_ret
  exact ⟨rfl, rfl⟩
set_option maxRecDepth 100000 in
set_option maxHeartbeats 4000000 in
theorem each1_in (n : Nat) (hn : 1 ≤ n) (l cb mp c cap : Nat) (A : Option Addr) (ls : List Ln) (hN : ls.length ≤ 1000) (hc : c ≤ 90000) (J : List Nat → World → Prop) (w W : World)
    (hY : ∀ pre x W1, J pre W1 → (pre = List.range x ∧ x < ls.length) → pre.length < ls.length → YieldAt Fence.wide (n - 1) Tryd.prog l (encB ls x) W1 fun e W' => e = .returned (.bool true) ∧ J (pre ++ [x]) W' ∧ KpE mp cb W1 W')
    (hJ : ∀ s X Y, J s X → Tn (fun k => k = mp) X Y → J s Y) (hT : TabE w) (hG : G3 mp) (hR : RdL w mp A ls.length ls) (hC : Bk w cb 48 #[.slice A ls.length cap, .map (some mp)]) (hcb : mp < cb) (hS : SzE c mp w) (hW : Below w.heap.size w W) (h0 : J [] W) :
    CallsIn Fence.wide n Tryd.prog 40 #[.func (.yield l) #[] #[], .pointer (some ⟨cb, 0, none⟩)] W fun e W' => (∃ v, e = .returned v) ∧ ∃ xs, (xs = List.range ls.length ∧ SzE (c + ls.length) mp W') ∧ J xs W' := by
  have hT0 : Hid (Tn (SE mp cb) w W) := Lib.hid (Tn.of_below hW)
  have hS0 : Hid (SzE c mp W) := Lib.hid (hS.below hW)
  have HT := Lib.hid (fun X (h : Tn (SE mp cb) w X) => hT.keepB hG (h.below (Nat.le_of_lt hS.lt) (fun k hk hs => by rcases hs with hs | hs <;> omega)))
  have HR := Lib.hid (fun X (h : Tn (SE mp cb) w X) => hR.below (h.below (Nat.le_of_lt hS.lt) (fun k hk hs => by rcases hs with hs | hs <;> omega)))
  have HC := Lib.hid (show ∀ X, Tn (SE mp cb) w X → Bk X cb 48 #[.slice A ls.length cap, .map (some mp)] from fun X h => (h.block cb hC.lt (fun hs => by rcases hs with hs | hs <;> omega)).trans hC)
  have HW := Lib.hid (fun (X : World) (h : Tn (SE mp cb) w X) => Nat.lt_of_lt_of_le hC.lt h.size)
  have HY := Lib.hid hY
  have HJ := Lib.hid hJ
  have HLW := Lib.hid hR.oks
  have hlen4 : (ls.length : Int) ≤ 1000 := by omega
  have hcb0 : W.cell? ⟨cb, 0, none⟩ = some (.slice A ls.length cap) := (HC.out W hT0.out).cell 0
  clear hT hG hR hC hS hW hY hJ
  refine callsIn_of_wp Tryd.func40 rfl trivial ?_ rfl
  simp only [Tryd.ntmps40, List.size_toArray, List.length_cons, List.length_nil, Nat.reduceAdd, Nat.reduceSub, Array.replicate_succ, Array.replicate_zero, List.push_toArray, List.append_toArray, List.nil_append, List.cons_append]
  gi_wp2
  gi_loopw [3, 9] (fun bh ix wr => ∃ j : Nat, j ≤ ls.length ∧ bh = .int .i64 ((upL (ls.take j) : Nat) : Int) ∧ ix = .int .i64 (j : Int) ∧ J (List.range j) wr ∧ Hid (Tn (SE mp cb) w wr) ∧ Hid (SzE (c + j) mp wr))
    (fun _ ix _ => ls.length - (intOf ix).toNat)
  case atStart => exact ⟨0, Nat.zero_le _, rfl, rfl, h0, hT0, hS0⟩
  case round =>
    obtain ⟨j, hj, rfl, rfl, hJs, HTN, HSZ⟩ := hrel
    have HJ2 := Lib.hid hJs
    clear hJs hcb0 h0 hT0 hS0
    by_cases hlt : j < ls.length
    · have hlt4 : (j : Int) < (ls.length : Int) := by omega
      have hj0 : (0 : Int) ≤ (j : Int) := by omega
      obtain ⟨ad, rfl, hadb, hat⟩ := (HR.out wr HTN.out).rd (by omega)
      have HAT := Lib.hid (hat j _ (lnA_at hlt))
      have hsz := HW.out wr HTN.out
      have HUP := Lib.hid (up_at hlt)
      have hup0 : (ls.take j).length ≤ 1000 := by rw [List.length_take]; omega
      have hup4 : ((upL (ls.take j) : Nat) : Int) ≤ 11000 := by have := upL_le (ls.take j); omega
      clear hup0
      have HSL := Lib.hid (szL_le (lnA ls j))
      have hwl := HLW.out _ (List.mem_of_getElem? (lnA_at hlt))
      have HCAL := Lib.hid (fun X (h : Tn (SE mp cb) w X) (hs : SzE (c + j) mp X) => size_l X (HT.out X h) (lnA ls j) hwl (some ad) ls.length cap mp (c + j) (by omega) hs)
      have HYJ := Lib.hid (fun X hJ' => HY.out (List.range j) j X hJ' ⟨rfl, hlt⟩ (by rw [List.length_range]; exact hlt))
      have HLT := Lib.hid hlt
      unfold encB at HYJ
      rw [HUP.out] at HYJ
      clear hat hwl hlt
      obtain ⟨a0, a1, a2, a3, a4, a5, a6, a7, a8, a9, a10⟩ := HAT.out
      generalize szL (lnA ls j) = sz at *
      generalize lnA ls j = ln at *
      obtain ⟨lab, ⟨op, d, s, t, b, x, sc, di, im⟩, tq⟩ := ln
      unfold Ln.vs at HCAL HYJ
      dsimp only at *
      have hsl := HSL.out
      have hb0 : wr.cell? ⟨cb, 0, none⟩ = some (.slice (some ad) ls.length cap) := (HC.out wr HTN.out).cell 0
      have hb1 : wr.cell? ⟨cb, 1, none⟩ = some (.map (some mp)) := (HC.out wr HTN.out).cell 1
      have HTA : Hid (Tn (SE mp cb) w (wr.alloc (.cells #[.int .i64 lab, .int .i64 op, .int .i64 d, .int .i64 s, .int .i64 t, .int .i64 b, .int .i64 x, .int .i64 sc, .int .i64 di, .int .i64 im, .int .i64 tq] 37))) := Lib.hid (HTN.out.alloc _)
      have HLA := Lib.hid (Bk.new wr 37 #[.int .i64 lab, .int .i64 op, .int .i64 d, .int .i64 s, .int .i64 t, .int .i64 b, .int .i64 x, .int .i64 sc, .int .i64 di, .int .i64 im, .int .i64 tq])
      have HSA : Hid (SzE (c + j) mp (wr.alloc (.cells #[.int .i64 lab, .int .i64 op, .int .i64 d, .int .i64 s, .int .i64 t, .int .i64 b, .int .i64 x, .int .i64 sc, .int .i64 di, .int .i64 im, .int .i64 tq] 37))) := Lib.hid (HSZ.out.below (bel_al _))
      have HJA := Lib.hid (HJ.out _ _ _ HJ2.out ((Tn.refl _ wr).alloc (.cells #[.int .i64 lab, .int .i64 op, .int .i64 d, .int .i64 s, .int .i64 t, .int .i64 b, .int .i64 x, .int .i64 sc, .int .i64 di, .int .i64 im, .int .i64 tq] 37)))
      have hmpl := HSZ.out.lt
      gi_wp2_with (refine ⟨trivial, ?_⟩; gi_at_call 41; refine (callsIn_wide.2 (HCAL.out _ HTA.out HSA.out)).mono ?_; rintro e w2 ⟨rfl, htn, hsz2⟩; have HT2 : Hid (Tn (SE mp cb) w w2) := Lib.hid (HTA.out.trans htn (fun q hq _ => .inl hq)); have HS2 := Lib.hid hsz2; have HL2 : Hid (Bk w2 wr.heap.size 37 #[.int .i64 lab, .int .i64 op, .int .i64 d, .int .i64 s, .int .i64 t, .int .i64 b, .int .i64 x, .int .i64 sc, .int .i64 di, .int .i64 im, .int .i64 tq]) := Lib.hid ((htn.block _ HLA.out.lt (fun e => by omega)).trans HLA.out); have hJ3 := HJ.out _ _ _ HJA.out htn; clear htn hsz2; obtain ⟨q0, q1, q2, q3, q4, q5, q6, q7, q8, q9, q10⟩ := c11 HL2.out; obtain ⟨fn, tmps, assign, body, hy, hR⟩ := HYJ.out _ hJ3; push_cast at hy; clear hJ3)
      refine hR.mono ?_
      rintro e W3 ⟨rfl, hJ3, hk3⟩
      have HJ3 := Lib.hid hJ3
      have HT3 : Hid (Tn (SE mp cb) w W3) := Lib.hid (HT2.out.trans hk3.tn (fun q hq _ => hq))
      have HS3 : Hid (SzE (c + (j + 1)) mp W3) := Lib.hid (HS2.out.same (hk3.1.block mp (by omega)))
      clear hJ3 hk3 hR hy
      gi_wp2
      go_roundw
      case rel =>
        refine ⟨j + 1, by have := HLT.out; omega, ?_, ?_, by rw [List.range_succ]; exact HJ3.out, HT3, HS3⟩
        · rw [HUP.out]; push_cast; rfl
        · push_cast; rfl
      case measure =>
        have := HLT.out
        simp [intOf]
        omega
    · obtain rfl : j = ls.length := by omega
      gi_wp2
      go_end0
      exact ⟨⟨_, rfl⟩, _, ⟨rfl, HSZ.out⟩, HJ2.out⟩
/-- **the iterator tells each line with the place behind it, in order** -/
theorem each_t (n : Nat) (hn : 1 ≤ n) (cb mp c cap : Nat) (A : Option Addr) (ls : List Ln) (hN : ls.length ≤ 1000) (hc : c ≤ 90000) (w : World) (hT : TabE w) (hG : G3 mp) (hR : RdL w mp A ls.length ls) (hC : Bk w cb 48 #[.slice A ls.length cap, .map (some mp)]) (hcb : mp < cb) (hS : SzE c mp w) :
    SeqT Fence.wide n Tryd.prog 40 #[.pointer (some ⟨cb, 0, none⟩)] (encB ls) (fun k => k = mp) (fun pre x _ => pre = List.range x ∧ x < ls.length) (KpE mp cb) (fun xs W => xs = List.range ls.length ∧ SzE (c + ls.length) mp W) ls.length w :=
  fun l J W hW hJ hY h0 => each1_in n hn l cb mp c cap A ls hN hc J w W hY hJ hT hG hR hC hcb hS hW h0
end Ly
end Go.Proofs.YteppmkeoedddnaaDoor
