/- What the limb laws' rows are closed by: programs, rows of rows that came in; a world for the witness. -/
import Derived.Test.YtbdhibgljaelbaaDoorCards
import Derived.Test.YtbdhibgljaelbaaDoorTie
import Derived.Test.YtbdhibgljaelbaaDoorMA
import Derived.LaidMore
import Derived.Lib.LaidU8
import Derived.WalkKit
import Derived.ProofKit
import Derived.OpenShut
import Derived.Carry
import Derived.Deep.DeepHandedRow
import Derived.Deep.DeepWitnessRowRef
import Derived.Lib.LaidIn
import Derived.Deep.Slices
import Derived.Deep.Fields
namespace Go.Proofs.YtbdhibgljaelbaaDoor
namespace LawN
open Go Go.ChangeShapes Go.WideShapes Go.ChangeAt Go.RowKit Go.Lib Go.Deep
open Lb Gr
set_option linter.unusedVariables false
set_option linter.unusedSimpArgs false
set_option maxRecDepth 100000 in
theorem own : ownKnob Tryd.prog.godebug = none := by kernel_rfl
set_option maxRecDepth 100000 in
theorem laidOut : laidOutB Tryd.prog = true := by kernel_rfl
set_option maxRecDepth 100000 in
/-- the places of arguments that nothing has turned read as before -/
theorem below_trodAll {H : Type} {enc : TypeId × Value → H} {P : Program} (hl : laidOutB P = true) {W W' : World} (hb : Below W.heap.size W W') : ∀ (ts : List TypeId) (vs : List Value) (ds : List (DataW H)) (p : List MemPlace),
    (∀ t ∈ ts, P.readableRec t = true ∧ t < P.types.size) → DataW.TrodAll enc P W 0 (fun _ => true) true ts vs ds p → (∀ x ∈ p, x.block < W.heap.size) →
    DataW.TrodAll enc P W' 0 (fun b => decide (b < W.heap.size)) true ts vs ds p := by
  intro ts
  induction ts with
  | nil =>
    intro vs ds p _ h _
    obtain ⟨rfl, rfl, rfl⟩ := trodAll_nil h
    exact trodAll_mk0
  | cons t ts ih =>
    intro vs ds p ht h hlt
    obtain ⟨v, vs', d, ds', q, r, rfl, rfl, rfl, h0, h1⟩ := trodAll_cons h
    obtain ⟨h2, h3⟩ := ht t (List.mem_cons_self ..)
    exact trodAll_cons_mk (Below.trod hl h2 h3 h0 hb (fun x hx => hlt x (List.mem_append_left _ hx))) (ih vs' ds' r (fun t' h' => ht t' (List.mem_cons_of_mem _ h')) h1 (fun x hx => hlt x (List.mem_append_right _ hx)))
theorem i64_wf {z : Int} (h : (Lit.int .i64 z).wf = true) : Gr.I64 z := by
  unfold Gr.I64
  simp [Lit.wf, IntKind.min, IntKind.max, IntKind.signed, IntKind.bits] at h; omega
theorem u64_W {z : Int} (h : (Lit.int .u64 z).wf = true) : Wd.W z := by
  unfold Wd.W
  simp [Lit.wf, IntKind.min, IntKind.max, IntKind.signed, IntKind.bits] at h; omega
set_option maxRecDepth 100000 in
theorem cells_i : Tryd.prog.cellsOf 3 = 1 := by kernel_rfl
set_option maxRecDepth 100000 in
theorem cells_b : Tryd.prog.cellsOf 4 = 1 := by kernel_rfl
set_option maxRecDepth 100000 in
theorem cells_u64 : Tryd.prog.cellsOf 31 = 1 := by kernel_rfl
set_option maxRecDepth 100000 in
theorem cells_op : Tryd.prog.cellsOf 33 = 8 := by kernel_rfl
set_option maxRecDepth 100000 in
theorem cells_bf : Tryd.prog.cellsOf 29 = 3 := by kernel_rfl
set_option maxRecDepth 100000 in
theorem cells_sl1 : Tryd.prog.cellsOf 23 = 1 := by kernel_rfl
set_option maxRecDepth 100000 in
theorem cells_sl2 : Tryd.prog.cellsOf 24 = 1 := by kernel_rfl
set_option maxRecDepth 100000 in
theorem cells_sl3 : Tryd.prog.cellsOf 43 = 1 := by kernel_rfl
section
variable {H : Type} {enc : TypeId × Value → H} {W : World} {held : Bool}
set_option maxRecDepth 100000 in
theorem eight {cs : List Value} {fuel : Nat} {y : DataW H × List MemPlace}
    (h : DataW.trod enc Tryd.prog W 0 (fun _ => true) held fuel 33 cs = some y) : ∃ o : Lb.Op, cs = Sh.vs o ∧ o.wf := by
  obtain ⟨ys, n', _, hy, hcl, hyl, hfld⟩ := DataW.trod_struct Tryd.underlying33 h
  rw [cells_op] at hcl
  obtain ⟨c0, c1, c2, c3, c4, c5, c6, c7, rfl⟩ : ∃ c0 c1 c2 c3 c4 c5 c6 c7, cs = [c0, c1, c2, c3, c4, c5, c6, c7] := by
    match cs, hcl with
    | [c0, c1, c2, c3, c4, c5, c6, c7], _ => exact ⟨c0, c1, c2, c3, c4, c5, c6, c7, rfl⟩
  have hyl8 : ys.length = 8 := hyl
  obtain ⟨y0, y1, y2, y3, y4, y5, y6, y7, rfl⟩ : ∃ y0 y1 y2 y3 y4 y5 y6 y7, ys = [y0, y1, y2, y3, y4, y5, y6, y7] := by
    match ys, hyl8 with
    | [y0, y1, y2, y3, y4, y5, y6, y7], _ => exact ⟨y0, y1, y2, y3, y4, y5, y6, y7, rfl⟩
  have t0 := hfld 0 _ rfl
  change DataW.trod enc Tryd.prog W 0 (fun _ => true) held n' 3 (([c0, c1, c2, c3, c4, c5, c6, c7].drop 0).take (Tryd.prog.cellsOf 3)) = some y0 at t0
  rw [cells_i] at t0
  change DataW.trod enc Tryd.prog W 0 (fun _ => true) held n' 3 [c0] = some y0 at t0
  have t1 := hfld 1 _ rfl
  change DataW.trod enc Tryd.prog W 0 (fun _ => true) held n' 3 (([c0, c1, c2, c3, c4, c5, c6, c7].drop 1).take (Tryd.prog.cellsOf 3)) = some y1 at t1
  rw [cells_i] at t1
  change DataW.trod enc Tryd.prog W 0 (fun _ => true) held n' 3 [c1] = some y1 at t1
  have t2 := hfld 2 _ rfl
  change DataW.trod enc Tryd.prog W 0 (fun _ => true) held n' 3 (([c0, c1, c2, c3, c4, c5, c6, c7].drop 2).take (Tryd.prog.cellsOf 3)) = some y2 at t2
  rw [cells_i] at t2
  change DataW.trod enc Tryd.prog W 0 (fun _ => true) held n' 3 [c2] = some y2 at t2
  have t3 := hfld 3 _ rfl
  change DataW.trod enc Tryd.prog W 0 (fun _ => true) held n' 3 (([c0, c1, c2, c3, c4, c5, c6, c7].drop 3).take (Tryd.prog.cellsOf 3)) = some y3 at t3
  rw [cells_i] at t3
  change DataW.trod enc Tryd.prog W 0 (fun _ => true) held n' 3 [c3] = some y3 at t3
  have t4 := hfld 4 _ rfl
  change DataW.trod enc Tryd.prog W 0 (fun _ => true) held n' 3 (([c0, c1, c2, c3, c4, c5, c6, c7].drop 4).take (Tryd.prog.cellsOf 3)) = some y4 at t4
  rw [cells_i] at t4
  change DataW.trod enc Tryd.prog W 0 (fun _ => true) held n' 3 [c4] = some y4 at t4
  have t5 := hfld 5 _ rfl
  change DataW.trod enc Tryd.prog W 0 (fun _ => true) held n' 3 (([c0, c1, c2, c3, c4, c5, c6, c7].drop 5).take (Tryd.prog.cellsOf 3)) = some y5 at t5
  rw [cells_i] at t5
  change DataW.trod enc Tryd.prog W 0 (fun _ => true) held n' 3 [c5] = some y5 at t5
  have t6 := hfld 6 _ rfl
  change DataW.trod enc Tryd.prog W 0 (fun _ => true) held n' 3 (([c0, c1, c2, c3, c4, c5, c6, c7].drop 6).take (Tryd.prog.cellsOf 3)) = some y6 at t6
  rw [cells_i] at t6
  change DataW.trod enc Tryd.prog W 0 (fun _ => true) held n' 3 [c6] = some y6 at t6
  have t7 := hfld 7 _ rfl
  change DataW.trod enc Tryd.prog W 0 (fun _ => true) held n' 31 (([c0, c1, c2, c3, c4, c5, c6, c7].drop 7).take (Tryd.prog.cellsOf 31)) = some y7 at t7
  rw [cells_u64] at t7
  change DataW.trod enc Tryd.prog W 0 (fun _ => true) held n' 31 [c7] = some y7 at t7
  obtain ⟨z0, e0, _, w0⟩ := DataW.trod_int Tryd.underlying3 t0
  obtain rfl : c0 = .int .i64 z0 := by simpa using e0
  obtain ⟨z1, e1, _, w1⟩ := DataW.trod_int Tryd.underlying3 t1
  obtain rfl : c1 = .int .i64 z1 := by simpa using e1
  obtain ⟨z2, e2, _, w2⟩ := DataW.trod_int Tryd.underlying3 t2
  obtain rfl : c2 = .int .i64 z2 := by simpa using e2
  obtain ⟨z3, e3, _, w3⟩ := DataW.trod_int Tryd.underlying3 t3
  obtain rfl : c3 = .int .i64 z3 := by simpa using e3
  obtain ⟨z4, e4, _, w4⟩ := DataW.trod_int Tryd.underlying3 t4
  obtain rfl : c4 = .int .i64 z4 := by simpa using e4
  obtain ⟨z5, e5, _, w5⟩ := DataW.trod_int Tryd.underlying3 t5
  obtain rfl : c5 = .int .i64 z5 := by simpa using e5
  obtain ⟨z6, e6, _, w6⟩ := DataW.trod_int Tryd.underlying3 t6
  obtain rfl : c6 = .int .i64 z6 := by simpa using e6
  obtain ⟨z7, e7, _, w7⟩ := DataW.trod_int Tryd.underlying31 t7
  obtain rfl : c7 = .int .u64 z7 := by simpa using e7
  exact ⟨⟨z0, z1, z2, z3, z4, z5, z6, z7⟩, rfl, ⟨i64_wf w0, i64_wf w1, i64_wf w2, i64_wf w3, i64_wf w4, i64_wf w5, i64_wf w6, u64_W w7⟩⟩
set_option maxRecDepth 100000 in
theorem three {cs : List Value} {fuel : Nat} {y : DataW H × List MemPlace}
    (h : DataW.trod enc Tryd.prog W 0 (fun _ => true) held fuel 29 cs = some y) : ∃ b : Bf, cs = Sh.vs b ∧ b.wf := by
  obtain ⟨ys, n', _, hy, hcl, hyl, hfld⟩ := DataW.trod_struct Tryd.underlying29 h
  rw [cells_bf] at hcl
  obtain ⟨c0, c1, c2, rfl⟩ : ∃ c0 c1 c2, cs = [c0, c1, c2] := by
    match cs, hcl with
    | [c0, c1, c2], _ => exact ⟨c0, c1, c2, rfl⟩
  have hyl3 : ys.length = 3 := hyl
  obtain ⟨y0, y1, y2, rfl⟩ : ∃ y0 y1 y2, ys = [y0, y1, y2] := by
    match ys, hyl3 with
    | [y0, y1, y2], _ => exact ⟨y0, y1, y2, rfl⟩
  have t0 := hfld 0 _ rfl
  change DataW.trod enc Tryd.prog W 0 (fun _ => true) held n' 3 (([c0, c1, c2].drop 0).take (Tryd.prog.cellsOf 3)) = some y0 at t0
  rw [cells_i] at t0
  change DataW.trod enc Tryd.prog W 0 (fun _ => true) held n' 3 [c0] = some y0 at t0
  have t1 := hfld 1 _ rfl
  change DataW.trod enc Tryd.prog W 0 (fun _ => true) held n' 3 (([c0, c1, c2].drop 1).take (Tryd.prog.cellsOf 3)) = some y1 at t1
  rw [cells_i] at t1
  change DataW.trod enc Tryd.prog W 0 (fun _ => true) held n' 3 [c1] = some y1 at t1
  have t2 := hfld 2 _ rfl
  change DataW.trod enc Tryd.prog W 0 (fun _ => true) held n' 4 (([c0, c1, c2].drop 2).take (Tryd.prog.cellsOf 4)) = some y2 at t2
  rw [cells_b] at t2
  change DataW.trod enc Tryd.prog W 0 (fun _ => true) held n' 4 [c2] = some y2 at t2
  obtain ⟨z0, e0, _, w0⟩ := DataW.trod_int Tryd.underlying3 t0
  obtain rfl : c0 = .int .i64 z0 := by simpa using e0
  obtain ⟨z1, e1, _, w1⟩ := DataW.trod_int Tryd.underlying3 t1
  obtain rfl : c1 = .int .i64 z1 := by simpa using e1
  obtain ⟨z2, e2, _⟩ := DataW.trod_bool Tryd.underlying4 t2
  obtain rfl : c2 = .bool z2 := by simpa using e2
  exact ⟨⟨z0, z1, z2⟩, rfl, ⟨i64_wf w0, i64_wf w1⟩⟩
/-- a slice's cells, read as things -/
theorem open_row {T : Type} [Sh T] {Q : T → Prop} {t e : TypeId} (ht : Tryd.prog.underlying t = some (.slice e)) (hc : Tryd.prog.cellsOf e = Sh.k T)
    (one : ∀ (cs : List Value) (fuel : Nat) (y : DataW H × List MemPlace), DataW.trod enc Tryd.prog W 0 (fun _ => true) held fuel e cs = some y → (∀ p ∈ y.2, p.block < W.heap.size) → ∃ x : T, cs = Sh.vs x ∧ Q x)
    {fuel : Nat} {cs : List Value} {x : DataW H × List MemPlace} (hf : DataW.trod enc Tryd.prog W 0 (fun _ => true) held fuel t cs = some x) (hlt : ∀ p ∈ x.2, p.block < W.heap.size) :
    ∃ A n c xs, cs = [.slice A n c] ∧ Rdr W W.heap.size A n (xs : List T) ∧ (∀ x ∈ xs, Q x) ∧ n ≤ c ∧ c ≤ 9223372036854775807 := by
  rcases open_slice ht hf with ⟨hcs, hx⟩ | ⟨a, l1, k1, m, n, D, Pl, hcs, _, hl, hm, hmm, hx, hi⟩
  · exact ⟨none, 0, 0, [], hcs, Rdr.nil, (fun _ h => by cases h), Nat.le_refl _, by omega⟩
  · simp only [if_true] at hmm
    subst hmm hx
    rw [hc] at hlt hi
    dsimp only at hlt
    have hm' : m ≤ 9223372036854775807 := by simpa [maxLen] using hm
    obtain ⟨b, o, spot⟩ := a
    have hpos := Sh.pos (T := T)
    have hs0 : 0 < l1 → spot = none := fun h0 => by
      obtain ⟨cs', hc', _⟩ := hi 0 (by omega)
      obtain ⟨_, hcl, hat⟩ := World.cells?_some hc'
      have h1 := hat 0 hpos
      have e1 : ((⟨b, o, spot⟩ : Addr).add (0 * Sh.k T)).add 0 = ⟨b, o, spot⟩ := by simp [Addr.add]
      rw [e1] at h1
      have h2 : cs'[0]? = some (cs'[0]'(by omega)) := List.getElem?_eq_getElem (by omega)
      rw [h2] at h1
      unfold World.cell? at h1
      cases spot with
      | none => rfl
      | some s =>
        exfalso
        revert h1
        dsimp only
        split <;> simp
    have each : ∀ i, i < l1 → ∃ x : T, Q x ∧ ∀ (d : Nat) (v : Value), (Sh.vs x)[d]? = some v → W.cell? ⟨b, o + i * Sh.k T + d, none⟩ = some v := by
      intro i hic
      obtain rfl := hs0 (by omega)
      obtain ⟨cs', hc', ht'⟩ := hi i (by omega)
      obtain ⟨_, hcl, hat⟩ := World.cells?_some hc'
      obtain ⟨x, rfl, hq⟩ := one cs' _ _ ht' (fun p hp => hlt p (List.mem_append_right _ (List.mem_flatMap.2 ⟨i, by simp; omega, hp⟩)))
      refine ⟨x, hq, fun d v hv => ?_⟩
      have hd : d < Sh.k T := by
        have := (List.getElem?_eq_some_iff.1 hv).1
        rw [Sh.len] at this
        exact this
      have := hat d hd
      rw [add_at, add_at, hv] at this
      exact this
    have hall : ∃ xs : List T, xs.length = l1 ∧ ∀ (j : Nat) (x : T), xs[j]? = some x → Q x ∧ ∀ (d : Nat) (v : Value), (Sh.vs x)[d]? = some v → W.cell? ⟨b, o + j * Sh.k T + d, none⟩ = some v := by
      have key : ∀ k, k ≤ l1 → ∃ xs : List T, xs.length = k ∧ ∀ (j : Nat) (x : T), xs[j]? = some x → Q x ∧ ∀ (d : Nat) (v : Value), (Sh.vs x)[d]? = some v → W.cell? ⟨b, o + j * Sh.k T + d, none⟩ = some v := by
        intro k
        induction k with
        | zero => exact fun _ => ⟨[], rfl, fun j r hj => by simp at hj⟩
        | succ k ih =>
          intro hk
          obtain ⟨xs, hl1, hrs⟩ := ih (by omega)
          obtain ⟨r, h1, h2⟩ := each k (by omega)
          refine ⟨xs ++ [r], by simp [hl1], fun j s hj => ?_⟩
          rcases Nat.lt_or_ge j k with h3 | h3
          · rw [List.getElem?_append_left (by omega)] at hj; exact hrs j s hj
          · rw [List.getElem?_append_right (by omega)] at hj
            have h4 := (List.getElem?_eq_some_iff.1 hj).1
            simp at h4
            have hjk : j = k := by omega
            subst hjk
            rw [hl1, Nat.sub_self] at hj
            obtain rfl : r = s := by simpa using hj
            exact ⟨h1, h2⟩
      exact key l1 (Nat.le_refl _)
    obtain ⟨xs, hl1, hrs⟩ := hall
    refine ⟨_, _, _, xs, hcs, ⟨hl1, fun h0 => ?_⟩, fun r hr => ?_, hl, hm'⟩
    · obtain rfl := hs0 h0
      refine ⟨b, o, rfl, ?_, fun j r hj => (hrs j r hj).2⟩
      exact hlt (.cell b o) (List.mem_append_left _ (MemPlace.mem_row.2 ⟨0, Nat.mul_pos (by omega) hpos, by simp⟩))
    · obtain ⟨j, hj⟩ := List.mem_iff_getElem?.1 hr
      exact (hrs j r hj).1
def HrQ (W : World) (h : Hr) : Prop := Nt.Rd W W.heap.size h.A h.n h.ys ∧ h.n ≤ h.c ∧ h.c ≤ 9223372036854775807
set_option maxRecDepth 100000 in
/-- a row of words -/
theorem open_u64s {fuel : Nat} {cs : List Value} {x : DataW H × List MemPlace} (hf : DataW.trod enc Tryd.prog W 0 (fun _ => true) held fuel 43 cs = some x) (hlt : ∀ p ∈ x.2, p.block < W.heap.size) :
    ∃ h : Hr, cs = Sh.vs h ∧ HrQ W h := by
  rcases open_ints Tryd.underlying43 Tryd.underlying31 cells_u64 hf with ⟨hcs, hx⟩ | ⟨a, len', cap', zs, hcs, _, hl, hm, hz, hx, hcell, hwz⟩
  · exact ⟨⟨none, 0, 0, []⟩, hcs, Nt.Rd.nil, Nat.le_refl _, by show (0 : Nat) ≤ _; omega⟩
  · subst hx
    simp only [if_true] at hz
    refine ⟨⟨some a, len', cap', zs.take len'⟩, hcs, ⟨by show (zs.take len').length = len'; rw [List.length_take]; omega, ?_, fun h0 => ⟨a, rfl, ?_, ?_⟩⟩, hl, hm⟩
    · intro x hx
      exact Wd.W_wf (hwz x (List.mem_of_mem_take hx))
    · obtain ⟨b, off, spot⟩ := a
      have h0' : 0 < len' := h0
      exact hlt (.cell b off) (MemPlace.mem_row.2 ⟨0, by omega, by simp⟩)
    · intro j hj
      have hj' : j < len' := hj
      rw [hcell j (by omega)]
      unfold Nt.at_
      rw [List.getElem?_take, if_pos hj']
      rfl
set_option maxRecDepth 100000 in
/-- rows of words that came in -/
theorem open_rows {base : Nat} {v : Value} {d : DataW H} {p : List MemPlace} (hval : Value.okWide Tryd.prog W .any base 39 v)
    (h : DataW.Trod enc Tryd.prog W 0 (fun _ => true) held 39 v d p) (hlt : ∀ x ∈ p, x.block < W.heap.size) :
    ∃ A n c xs, v = .slice A n c ∧ HrW W W.heap.size A n xs ∧ n ≤ c ∧ c ≤ 9223372036854775807 := by
  obtain ⟨a0, len, cap, rfl⟩ := okWide_slice Tryd.underlying39 hval
  obtain ⟨fuel, hf⟩ := h
  obtain ⟨A, n, c, xs, hcs, hr, hq, h1, h2⟩ := open_row (T := Hr) (Q := HrQ W) Tryd.underlying39 cells_sl3 (fun cs fuel y hy hp => open_u64s hy hp) hf hlt
  refine ⟨A, n, c, xs, by simpa [Value.cells] using hcs, ⟨hr, hq⟩, h1, h2⟩
set_option maxRecDepth 100000 in
/-- buffers that came in -/
theorem open_bufs {base : Nat} {v : Value} {d : DataW H} {p : List MemPlace} (hval : Value.okWide Tryd.prog W .any base 23 v)
    (h : DataW.Trod enc Tryd.prog W 0 (fun _ => true) held 23 v d p) (hlt : ∀ x ∈ p, x.block < W.heap.size) :
    ∃ A n c xs, v = .slice A n c ∧ Rdr W W.heap.size A n xs ∧ (∀ b ∈ xs, Bf.wf b) ∧ n ≤ c ∧ c ≤ 9223372036854775807 := by
  obtain ⟨a0, len, cap, rfl⟩ := okWide_slice Tryd.underlying23 hval
  obtain ⟨fuel, hf⟩ := h
  obtain ⟨A, n, c, xs, hcs, hr, hq, h1, h2⟩ := open_row (T := Bf) (Q := Bf.wf) Tryd.underlying23 cells_bf (fun cs fuel y hy hp => three hy) hf hlt
  exact ⟨A, n, c, xs, by simpa [Value.cells] using hcs, hr, hq, h1, h2⟩
set_option maxRecDepth 100000 in
/-- operations that came in -/
theorem open_ops {base : Nat} {v : Value} {d : DataW H} {p : List MemPlace} (hval : Value.okWide Tryd.prog W .any base 24 v)
    (h : DataW.Trod enc Tryd.prog W 0 (fun _ => true) held 24 v d p) (hlt : ∀ x ∈ p, x.block < W.heap.size) :
    ∃ A n c xs, v = .slice A n c ∧ Rdr W W.heap.size A n xs ∧ (∀ b ∈ xs, Lb.Op.wf b) ∧ n ≤ c ∧ c ≤ 9223372036854775807 := by
  obtain ⟨a0, len, cap, rfl⟩ := okWide_slice Tryd.underlying24 hval
  obtain ⟨fuel, hf⟩ := h
  obtain ⟨A, n, c, xs, hcs, hr, hq, h1, h2⟩ := open_row (T := Lb.Op) (Q := Lb.Op.wf) Tryd.underlying24 cells_op (fun cs fuel y hy hp => eight hy) hf hlt
  exact ⟨A, n, c, xs, by simpa [Value.cells] using hcs, hr, hq, h1, h2⟩
set_option maxRecDepth 100000 in
/-- a program that came in -/
theorem open_prog {base : Nat} {v : Value} {d : DataW H} {p : List MemPlace} (hval : Value.okWide Tryd.prog W .any base 26 v)
    (h : DataW.Trod enc Tryd.prog W 0 (fun _ => true) held 26 v d p) (hlt : ∀ x ∈ p, x.block < W.heap.size) :
    ∃ (P : Pg) (A X : Option Addr) (c e : Nat), v = pgV P A c X e ∧ P.wf ∧ Rdr W W.heap.size A P.bf.length P.bf ∧ Rdr W W.heap.size X P.op.length P.op ∧ (P.bf.length ≤ c ∧ c ≤ 9223372036854775807) ∧ (P.op.length ≤ e ∧ e ≤ 9223372036854775807) := by
  obtain ⟨cs, rfl, hsz⟩ := okWide_struct Tryd.underlying26 hval
  obtain ⟨fuel, hf⟩ := h
  obtain ⟨ys, n', _, hy, hcl, hyl, hfld⟩ := DataW.trod_struct Tryd.underlying26 hf
  have c3 : Tryd.prog.cellsOf 26 = 3 := by kernel_rfl
  rw [c3] at hcl
  obtain ⟨cl⟩ := cs
  change cl.length = 3 at hcl
  obtain ⟨c0, c1, c2, rfl⟩ : ∃ c0 c1 c2, cl = [c0, c1, c2] := by
    match cl, hcl with
    | [c0, c1, c2], _ => exact ⟨c0, c1, c2, rfl⟩
  have hyl3 : ys.length = 3 := hyl
  obtain ⟨y0, y1, y2, rfl⟩ : ∃ y0 y1 y2, ys = [y0, y1, y2] := by
    match ys, hyl3 with
    | [y0, y1, y2], _ => exact ⟨y0, y1, y2, rfl⟩
  have hp : p = [y0, y1, y2].flatMap (·.2) := by
    have := congrArg Prod.snd hy
    exact this
  have t0 := hfld 0 _ rfl
  change DataW.trod enc Tryd.prog W 0 (fun _ => true) held n' 3 (([c0, c1, c2].drop 0).take (Tryd.prog.cellsOf 3)) = some y0 at t0
  rw [cells_i] at t0
  change DataW.trod enc Tryd.prog W 0 (fun _ => true) held n' 3 [c0] = some y0 at t0
  have t1 := hfld 1 _ rfl
  change DataW.trod enc Tryd.prog W 0 (fun _ => true) held n' 23 (([c0, c1, c2].drop 1).take (Tryd.prog.cellsOf 23)) = some y1 at t1
  rw [cells_sl1] at t1
  change DataW.trod enc Tryd.prog W 0 (fun _ => true) held n' 23 [c1] = some y1 at t1
  have t2 := hfld 2 _ rfl
  change DataW.trod enc Tryd.prog W 0 (fun _ => true) held n' 24 (([c0, c1, c2].drop 2).take (Tryd.prog.cellsOf 24)) = some y2 at t2
  rw [cells_sl2] at t2
  change DataW.trod enc Tryd.prog W 0 (fun _ => true) held n' 24 [c2] = some y2 at t2
  obtain ⟨z0, e0, _, w0⟩ := DataW.trod_int Tryd.underlying3 t0
  obtain rfl : c0 = .int .i64 z0 := by simpa using e0
  obtain ⟨A, n, c, xs, e1, hr, hq, h1, h2⟩ := open_row (T := Bf) (Q := Bf.wf) Tryd.underlying23 cells_bf (fun cs fuel y hy hp => three hy) t1 (fun q hq => hlt q (by rw [hp]; simp [hq]))
  obtain ⟨X, m, e, os, e2, hX, hqo, h3, h4⟩ := open_row (T := Lb.Op) (Q := Lb.Op.wf) Tryd.underlying24 cells_op (fun cs fuel y hy hp => eight hy) t2 (fun q hq => hlt q (by rw [hp]; simp [hq]))
  obtain rfl : c1 = .slice A n c := by simpa using e1
  obtain rfl : c2 = .slice X m e := by simpa using e2
  obtain rfl := hr.len
  obtain rfl := hX.len
  exact ⟨⟨z0, xs, os⟩, A, X, c, e, rfl, ⟨i64_wf w0, hq, hqo⟩, hr, hX, ⟨h1, h2⟩, ⟨h3, h4⟩⟩
end
/-! ### the table of forms -/
set_option maxRecDepth 100000 in
theorem gForms : Tryd.prog.globalNamed "keysmith/limb.forms" = some 0 := by kernel_rfl
set_option maxRecDepth 100000 in
theorem tForms : (Tryd.prog.globals[0]?).map (·.type) = some 132 := by kernel_rfl
def fmDat (k : Nat) : DataW Unit := .agg [.lit (.int .u8 (fP k)), .lit (.int .u64 (fL k)), .lit (.int .u64 (fM k))]
set_option maxRecDepth 100000 in
theorem laid_rows : (Rows.laid_keysmith_limb_forms : DataW Unit) = .agg ((List.range 18).map fmDat) := by kernel_rfl
set_option maxRecDepth 100000 in
theorem tabF_of_reads {W : World} (h : VarReads Tryd.prog W "keysmith/limb.forms" Rows.laid_keysmith_limb_forms) : TabF W := by
  obtain ⟨g0, t0, cs0, f0, p0, hg0, ht0, hv0, hd0⟩ := h
  obtain rfl := Option.some.inj (gForms.symm.trans hg0)
  obtain rfl := Option.some.inj (tForms.symm.trans ht0)
  obtain ⟨xs, m1, rfl, hx1, hlen, hn, hel⟩ := DataW.trod_array Tryd.underlying132 hd0
  have cF : Tryd.prog.cellsOf 131 = 3 := by kernel_rfl
  have cA : Tryd.prog.cellsOf 132 = 54 := by kernel_rfl
  have cP : Tryd.prog.cellsOf 129 = 1 := by kernel_rfl
  rw [cF] at hel
  rw [cA] at hlen
  simp only [Prod.mk.injEq] at hx1
  have hmap : xs.map (·.1) = (List.range 18).map fmDat := by
    have h1 := hx1.1
    rw [laid_rows] at h1
    injection h1 with h2
    exact h2.symm
  have hcell : ∀ i, W.cell? ⟨0, i, none⟩ = cs0[i]? := fun i => World.var?_cell hg0 hv0 i
  have key : ∀ k, k < 18 → cs0[k * 3]? = some (.int .u8 (fP k)) ∧ cs0[k * 3 + 1]? = some (.int .u64 (fL k)) ∧ cs0[k * 3 + 2]? = some (.int .u64 (fM k)) := by
    intro k hk
    have h1 := hel k hk
    have hxk : k < xs.length := by rw [hn]; exact hk
    rw [List.getElem?_eq_getElem hxk] at h1
    have hy : (xs[k]).1 = fmDat k := by
      have h2 : (xs.map (·.1))[k]? = ((List.range 18).map fmDat)[k]? := by rw [hmap]
      rw [List.getElem?_map, List.getElem?_map, List.getElem?_eq_getElem hxk, List.getElem?_range hk] at h2
      simpa using h2
    obtain ⟨ys, n', _, hyx, hcl, hyl, hfld⟩ := DataW.trod_struct Tryd.underlying131 h1
    rw [cF] at hcl
    have hcs : ∀ j, j < 3 → cs0[k * 3 + j]? = ((cs0.toList.drop (k * 3)).take 3)[j]? := fun j hj => by
      rw [List.getElem?_take, if_pos hj, List.getElem?_drop, Array.getElem?_toList]
    obtain ⟨c0, c1, c2, hcc⟩ : ∃ c0 c1 c2, (cs0.toList.drop (k * 3)).take 3 = [c0, c1, c2] := by
      match hq : (cs0.toList.drop (k * 3)).take 3, hcl with
      | [c0, c1, c2], _ => exact ⟨c0, c1, c2, rfl⟩
    rw [hcc] at hcs hfld
    have hyl3 : ys.length = 3 := hyl
    obtain ⟨y0, y1, y2, rfl⟩ : ∃ y0 y1 y2, ys = [y0, y1, y2] := by
      match ys, hyl3 with
      | [y0, y1, y2], _ => exact ⟨y0, y1, y2, rfl⟩
    rw [hyx] at hy
    have hy2 : [y0.1, y1.1, y2.1] = [.lit (.int .u8 (fP k)), .lit (.int .u64 (fL k)), .lit (.int .u64 (fM k))] := by
      unfold fmDat at hy
      injection hy
    simp only [List.cons.injEq, and_true] at hy2
    obtain ⟨z0, z1, z2⟩ := hy2
    have t0 := hfld 0 _ rfl
    change DataW.trod _ Tryd.prog W 0 (fun _ => true) false n' 129 (([c0, c1, c2].drop 0).take (Tryd.prog.cellsOf 129)) = some y0 at t0
    rw [cP] at t0
    change DataW.trod _ Tryd.prog W 0 (fun _ => true) false n' 129 [c0] = some y0 at t0
    have t1 := hfld 1 _ rfl
    change DataW.trod _ Tryd.prog W 0 (fun _ => true) false n' 31 (([c0, c1, c2].drop 1).take (Tryd.prog.cellsOf 31)) = some y1 at t1
    rw [cells_u64] at t1
    change DataW.trod _ Tryd.prog W 0 (fun _ => true) false n' 31 [c1] = some y1 at t1
    have t2 := hfld 2 _ rfl
    change DataW.trod _ Tryd.prog W 0 (fun _ => true) false n' 31 (([c0, c1, c2].drop 2).take (Tryd.prog.cellsOf 31)) = some y2 at t2
    rw [cells_u64] at t2
    change DataW.trod _ Tryd.prog W 0 (fun _ => true) false n' 31 [c2] = some y2 at t2
    obtain ⟨n0, e0, e0', _⟩ := DataW.trod_int Tryd.underlying129 t0
    obtain ⟨n1, e1, e1', _⟩ := DataW.trod_int Tryd.underlying31 t1
    obtain ⟨n2, e2, e2', _⟩ := DataW.trod_int Tryd.underlying31 t2
    subst e0'; subst e1'; subst e2'
    simp only [List.cons.injEq, and_true] at e0 e1 e2
    simp only [DataW.lit.injEq, Lit.int.injEq, true_and] at z0 z1 z2
    refine ⟨(hcs 0 (by omega)).trans ?_, (hcs 1 (by omega)).trans ?_, (hcs 2 (by omega)).trans ?_⟩
    · show some c0 = _; rw [e0, z0]
    · show some c1 = _; rw [e1, z1]
    · show some c2 = _; rw [e2, z2]
  refine ⟨?_, fun k hk => (hcell _).trans (key k hk).1, fun k hk => (hcell _).trans (key k hk).2.1, fun k hk => (hcell _).trans (key k hk).2.2⟩
  exact World.block_lt_of_cell? W ⟨0, 0, none⟩ ((hcell 0).trans (key 0 (by omega)).1)
set_option maxRecDepth 100000 in
theorem tabF_of_laid {W : World} (h : laidMetH Tryd.prog [("keysmith/limb.forms", Rows.laid_keysmith_limb_forms)] W) : TabF W := by
  rw [MakeChecks.laidMetH_plain _ _ _ (by kernel_rfl)] at h
  obtain ⟨ps, hv, _, _⟩ := h
  exact tabF_of_reads (LaidVars_reads hv _ _ (by simp))
def formCells : Array Value := (ftab.flatMap fun r => [.int .u8 r.1, .int .u64 r.2.1, .int .u64 r.2.2]).toArray
def putCells (h : Array Obj) (g : Nat) (cs : Array Value) : Array Obj := h.modify g fun
    | .cells _ t frozen => .cells cs t frozen
    | o => o
/-- the settled world, the table holding what its initialiser lays -/
noncomputable def laidWorld (os : Os) : World :=
  let w0 := World.holding Tryd.prog os ⟨#[], #[], []⟩
  { w0 with heap := putCells w0.heap 0 formCells }
theorem laid_met (os : Os) (args : Array Value) : laidMet Tryd.prog [("keysmith/limb.forms", Rows.laid_keysmith_limb_forms)] ((laidWorld os).forCall (fun _ _ => 0) ⟨#[], args, []⟩).memory :=
  (LaidIn.of_run (l := [("keysmith/limb.forms", Rows.laid_keysmith_limb_forms)]) [0] 8 (by kernel_rfl) (by kernel_rfl) (by kernel_rfl) (by kernel_rfl)).met
end LawN
end Go.Proofs.YtbdhibgljaelbaaDoor
