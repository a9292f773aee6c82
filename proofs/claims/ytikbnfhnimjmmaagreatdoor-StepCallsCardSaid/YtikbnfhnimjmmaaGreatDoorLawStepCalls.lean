/-
  Proof of the statement of StepCalls (keysmith/keysmithlaw08.StepCalls): for every input the call returns true, and each argument reads afterwards as before. No condition.
-/
import Derived.Test.YtikbnfhnimjmmaaGreatDoorLStepCalls
import Derived.Test.YtikbnfhnimjmmaaGreatDoorQ14
import Derived.Test.YtikbnfhnimjmmaaGreatDoorJ4
import Derived.Test.YtikbnfhnimjmmaaGreatDoorTie
import Derived.Test.YtikbnfhnimjmmaaGreatDoorCards
import Derived.Test.YtikbnfhnimjmmaaGreatDoorA2
import Derived.Test.YtikbnfhnimjmmaaGreatDoorS1
import Derived.Test.YtikbnfhnimjmmaaGreatDoorS16
import Derived.ProofKit
import Derived.LaidMore
import Derived.OpenShut
import Derived.Lib.LaidU8
import Derived.WalkKit
import Derived.Carry
import Derived.Deep.DeepHandedRow
import Derived.Deep.DeepWitnessRowRef
import Derived.Lib.LaidIn
import Derived.Deep.Slices
import Derived.Deep.Fields
namespace Go.Proofs.YtikbnfhnimjmmaaGreatDoor
open Go Go.RowKit Go.Lib
namespace Is
open Nt
set_option linter.unusedVariables false
set_option linter.unusedSimpArgs false
set_option maxRecDepth 100000 in
theorem gForms : Tryz.prog.globalNamed "keysmith/inst.forms" = some 0 := by kernel_rfl
set_option maxRecDepth 100000 in
theorem tForms : (Tryz.prog.globals[0]?).map (·.type) = some 239 := by kernel_rfl
/-- a row of the table, as a datum -/
def fmDat (k : Nat) : DataW Unit := .agg [.lit (.string (fmAt k).1), .lit (.int .u16 (fPt k)), .lit (.int .i64 (fNu k)), .lit (.int .i64 (fFt k)), .lit (.int .i64 (fFm k))]
set_option maxRecDepth 100000 in
theorem laid_rows : (Rows.laid_keysmith_inst_forms : DataW Unit) = .agg ((List.range 34).map fmDat) := by kernel_rfl
set_option maxRecDepth 100000 in
theorem tab_of_reads {W : World} (h : VarReads Tryz.prog W "keysmith/inst.forms" Rows.laid_keysmith_inst_forms) : Tab W := by
  obtain ⟨g0, t0, cs0, f0, p0, hg0, ht0, hv0, hd0⟩ := h
  obtain rfl := Option.some.inj (gForms.symm.trans hg0)
  obtain rfl := Option.some.inj (tForms.symm.trans ht0)
  obtain ⟨xs, m1, rfl, hx1, hlen, hn, hel⟩ := DataW.trod_array Tryz.underlying239 hd0
  have cF : Tryz.prog.cellsOf 238 = 5 := by kernel_rfl
  have cA : Tryz.prog.cellsOf 239 = 170 := by kernel_rfl
  have cS : Tryz.prog.cellsOf 9 = 1 := by kernel_rfl
  have cP : Tryz.prog.cellsOf 236 = 1 := by kernel_rfl
  have cI : Tryz.prog.cellsOf 3 = 1 := by kernel_rfl
  rw [cF] at hel
  rw [cA] at hlen
  simp only [Prod.mk.injEq] at hx1
  have hmap : xs.map (·.1) = (List.range 34).map fmDat := by
    have h1 := hx1.1
    rw [laid_rows] at h1
    injection h1 with h2
    exact h2.symm
  have hcell : ∀ i, W.cell? ⟨0, i, none⟩ = cs0[i]? := fun i => World.var?_cell hg0 hv0 i
  have key : ∀ k, k < 34 → cs0[k * 5]? = some (.string (fNm k)) ∧ cs0[k * 5 + 1]? = some (.int .u16 (fPt k)) ∧ cs0[k * 5 + 2]? = some (.int .i64 (fNu k)) ∧ cs0[k * 5 + 3]? = some (.int .i64 (fFt k)) ∧ cs0[k * 5 + 4]? = some (.int .i64 (fFm k)) := by
    intro k hk
    have h1 := hel k hk
    have hxk : k < xs.length := by rw [hn]; exact hk
    rw [List.getElem?_eq_getElem hxk] at h1
    have hy : (xs[k]).1 = fmDat k := by
      have h2 : (xs.map (·.1))[k]? = ((List.range 34).map fmDat)[k]? := by rw [hmap]
      rw [List.getElem?_map, List.getElem?_map, List.getElem?_eq_getElem hxk, List.getElem?_range hk] at h2
      simpa using h2
    obtain ⟨ys, n', _, hyx, hcl, hyl, hfld⟩ := DataW.trod_struct Tryz.underlying238 h1
    rw [cF] at hcl
    have hcs : ∀ j, j < 5 → cs0[k * 5 + j]? = ((cs0.toList.drop (k * 5)).take 5)[j]? := fun j hj => by
      rw [List.getElem?_take, if_pos hj, List.getElem?_drop, Array.getElem?_toList]
    obtain ⟨c0, c1, c2, c3, c4, hcc⟩ : ∃ c0 c1 c2 c3 c4, (cs0.toList.drop (k * 5)).take 5 = [c0, c1, c2, c3, c4] := by
      match hq : (cs0.toList.drop (k * 5)).take 5, hcl with
      | [c0, c1, c2, c3, c4], _ => exact ⟨c0, c1, c2, c3, c4, rfl⟩
    rw [hcc] at hcs hfld
    have hyl5 : ys.length = 5 := hyl
    obtain ⟨y0, y1, y2, y3, y4, rfl⟩ : ∃ y0 y1 y2 y3 y4, ys = [y0, y1, y2, y3, y4] := by
      match ys, hyl5 with
      | [y0, y1, y2, y3, y4], _ => exact ⟨y0, y1, y2, y3, y4, rfl⟩
    rw [hyx] at hy
    have hy2 : [y0.1, y1.1, y2.1, y3.1, y4.1] = [.lit (.string (fmAt k).1), .lit (.int .u16 (fPt k)), .lit (.int .i64 (fNu k)), .lit (.int .i64 (fFt k)), .lit (.int .i64 (fFm k))] := by
      unfold fmDat at hy
      injection hy
    simp only [List.cons.injEq, and_true] at hy2
    obtain ⟨z0, z1, z2, z3, z4⟩ := hy2
    have t0 := hfld 0 _ rfl
    change DataW.trod _ Tryz.prog W 0 (fun _ => true) false n' 9 (([c0, c1, c2, c3, c4].drop 0).take (Tryz.prog.cellsOf 9)) = some y0 at t0
    rw [cS] at t0
    change DataW.trod _ Tryz.prog W 0 (fun _ => true) false n' 9 [c0] = some y0 at t0
    have t1 := hfld 1 _ rfl
    change DataW.trod _ Tryz.prog W 0 (fun _ => true) false n' 236 (([c0, c1, c2, c3, c4].drop 1).take (Tryz.prog.cellsOf 236)) = some y1 at t1
    rw [cP] at t1
    change DataW.trod _ Tryz.prog W 0 (fun _ => true) false n' 236 [c1] = some y1 at t1
    have t2 := hfld 2 _ rfl
    change DataW.trod _ Tryz.prog W 0 (fun _ => true) false n' 3 (([c0, c1, c2, c3, c4].drop 2).take (Tryz.prog.cellsOf 3)) = some y2 at t2
    rw [cI] at t2
    change DataW.trod _ Tryz.prog W 0 (fun _ => true) false n' 3 [c2] = some y2 at t2
    have t3 := hfld 3 _ rfl
    change DataW.trod _ Tryz.prog W 0 (fun _ => true) false n' 3 (([c0, c1, c2, c3, c4].drop 3).take (Tryz.prog.cellsOf 3)) = some y3 at t3
    rw [cI] at t3
    change DataW.trod _ Tryz.prog W 0 (fun _ => true) false n' 3 [c3] = some y3 at t3
    have t4 := hfld 4 _ rfl
    change DataW.trod _ Tryz.prog W 0 (fun _ => true) false n' 3 (([c0, c1, c2, c3, c4].drop 4).take (Tryz.prog.cellsOf 3)) = some y4 at t4
    rw [cI] at t4
    change DataW.trod _ Tryz.prog W 0 (fun _ => true) false n' 3 [c4] = some y4 at t4
    obtain ⟨s, e0, e0', _⟩ := DataW.trod_string Tryz.underlying9 t0
    obtain ⟨n1, e1, e1', _⟩ := DataW.trod_int Tryz.underlying236 t1
    obtain ⟨n2, e2, e2', _⟩ := DataW.trod_int Tryz.underlying3 t2
    obtain ⟨n3, e3, e3', _⟩ := DataW.trod_int Tryz.underlying3 t3
    obtain ⟨n4, e4, e4', _⟩ := DataW.trod_int Tryz.underlying3 t4
    subst e0'; subst e1'; subst e2'; subst e3'; subst e4'
    simp only [List.cons.injEq, and_true] at e0 e1 e2 e3 e4
    simp only [DataW.lit.injEq, Lit.string.injEq, Lit.int.injEq, true_and] at z0 z1 z2 z3 z4
    have hs : s = fNm k := by
      obtain ⟨⟨l⟩⟩ := s
      unfold fNm
      rw [← z0]
    refine ⟨(hcs 0 (by omega)).trans ?_, (hcs 1 (by omega)).trans ?_, (hcs 2 (by omega)).trans ?_, (hcs 3 (by omega)).trans ?_, (hcs 4 (by omega)).trans ?_⟩
    · show some c0 = _; rw [e0, hs]
    · show some c1 = _; rw [e1, z1]
    · show some c2 = _; rw [e2, z2]
    · show some c3 = _; rw [e3, z3]
    · show some c4 = _; rw [e4, z4]
  refine ⟨?_, fun k hk => (hcell _).trans (key k hk).1, fun k hk => (hcell _).trans (key k hk).2.1, fun k hk => (hcell _).trans (key k hk).2.2.1, fun k hk => (hcell _).trans (key k hk).2.2.2.1, fun k hk => (hcell _).trans (key k hk).2.2.2.2⟩
  exact World.block_lt_of_cell? W ⟨0, 0, none⟩ ((hcell 0).trans (key 0 (by omega)).1)
set_option maxRecDepth 100000 in
theorem tab_of_laid {W : World} (h : laidMetH Tryz.prog [("keysmith/inst.forms", Rows.laid_keysmith_inst_forms)] W) : Tab W := by
  rw [MakeChecks.laidMetH_plain _ _ _ (by kernel_rfl)] at h
  obtain ⟨ps, hv, _, _⟩ := h
  exact tab_of_reads (LaidVars_reads hv _ _ (by simp))
end Is
end Go.Proofs.YtikbnfhnimjmmaaGreatDoor
namespace Go.Proofs.YtikbnfhnimjmmaaGreatDoor
namespace LawN
open Go Go.ChangeShapes Go.WideShapes Go.ChangeAt Go.RowKit Go.Lib
open Is Go.Deep
set_option linter.unusedVariables false
set_option maxRecDepth 100000 in
theorem own : ownKnob Tryz.prog.godebug = none := by kernel_rfl
set_option maxRecDepth 100000 in
theorem laidOut : laidOutB Tryz.prog = true := by kernel_rfl
set_option maxRecDepth 100000 in
/-- the places of arguments that nothing has turned read as before -/
theorem below_trodAll {H : Type} {enc : TypeId × Value → H} {P : Program} (hl : laidOutB P = true) {W W' : World} (hb : Below W.heap.size W W') : ∀ (ts : List TypeId) (vs : List Value) (ds : List (DataW H)) (p : List MemPlace),
    (∀ t ∈ ts, P.readableRec t = true ∧ t < P.types.size) → DataW.TrodAll enc P W 0 (fun _ => true) true ts vs ds p → (∀ x ∈ p, x.block < W.heap.size) →
    DataW.TrodAll enc P W' 0 (fun b => decide (b < W.heap.size)) true ts vs ds p := by
  intro ts
  induction ts with
  | nil =>
    intro vs ds p _ h _
    obtain ⟨rfl, rfl, rfl⟩ := trodAll_nil h
    exact trodAll_mk0
  | cons t ts ih =>
    intro vs ds p ht h hlt
    obtain ⟨v, vs', d, ds', q, r, rfl, rfl, rfl, h0, h1⟩ := trodAll_cons h
    obtain ⟨h2, h3⟩ := ht t (List.mem_cons_self ..)
    exact trodAll_cons_mk (Below.trod hl h2 h3 h0 hb (fun x hx => hlt x (List.mem_append_left _ hx))) (ih vs' ds' r (fun t' h' => ht t' (List.mem_cons_of_mem _ h')) h1 (fun x hx => hlt x (List.mem_append_right _ hx)))
set_option maxRecDepth 100000 in
theorem cells_inst : Tryz.prog.cellsOf 26 = 9 := by kernel_rfl
set_option maxRecDepth 100000 in
theorem cells_mem : Tryz.prog.cellsOf 24 = 4 := by kernel_rfl
set_option maxRecDepth 100000 in
theorem cells_i : Tryz.prog.cellsOf 3 = 1 := by kernel_rfl
set_option maxRecDepth 100000 in
theorem cells_i64 : Tryz.prog.cellsOf 2 = 1 := by kernel_rfl
set_option maxRecDepth 100000 in
theorem i64_wf {z : Int} (h : (Lit.int .i64 z).wf = true) : I64 z := by
  unfold I64
  simp [Lit.wf, IntKind.min, IntKind.max, IntKind.signed, IntKind.bits] at h; omega
set_option maxRecDepth 100000 in
/-- nine cells that read as an instruction are one -/
theorem nine {H : Type} {enc : TypeId × Value → H} {W : World} {cs : List Value} {fuel : Nat} {y : DataW H × List MemPlace} {held : Bool}
    (h : DataW.trod enc Tryz.prog W 0 (fun _ => true) held fuel 26 cs = some y) : ∃ i : Ins, cs = i.vs.toList ∧ i.wf := by
  obtain ⟨ys, n', _, hy, hcl, hyl, hfld⟩ := DataW.trod_struct Tryz.underlying26 h
  rw [cells_inst] at hcl
  obtain ⟨c0, c1, c2, c3, c4, c5, c6, c7, c8, rfl⟩ : ∃ c0 c1 c2 c3 c4 c5 c6 c7 c8, cs = [c0, c1, c2, c3, c4, c5, c6, c7, c8] := by
    match cs, hcl with
    | [c0, c1, c2, c3, c4, c5, c6, c7, c8], _ => exact ⟨c0, c1, c2, c3, c4, c5, c6, c7, c8, rfl⟩
  have hyl6 : ys.length = 6 := hyl
  obtain ⟨y0, y1, y2, y3, y4, y5, rfl⟩ : ∃ y0 y1 y2 y3 y4 y5, ys = [y0, y1, y2, y3, y4, y5] := by
    match ys, hyl6 with
    | [y0, y1, y2, y3, y4, y5], _ => exact ⟨y0, y1, y2, y3, y4, y5, rfl⟩
  have t0 := hfld 0 _ rfl
  change DataW.trod enc Tryz.prog W 0 (fun _ => true) held n' 3 (([c0, c1, c2, c3, c4, c5, c6, c7, c8].drop 0).take (Tryz.prog.cellsOf 3)) = some y0 at t0
  rw [cells_i] at t0
  change DataW.trod enc Tryz.prog W 0 (fun _ => true) held n' 3 [c0] = some y0 at t0
  have t1 := hfld 1 _ rfl
  change DataW.trod enc Tryz.prog W 0 (fun _ => true) held n' 3 (([c0, c1, c2, c3, c4, c5, c6, c7, c8].drop 1).take (Tryz.prog.cellsOf 3)) = some y1 at t1
  rw [cells_i] at t1
  change DataW.trod enc Tryz.prog W 0 (fun _ => true) held n' 3 [c1] = some y1 at t1
  have t2 := hfld 2 _ rfl
  change DataW.trod enc Tryz.prog W 0 (fun _ => true) held n' 3 (([c0, c1, c2, c3, c4, c5, c6, c7, c8].drop 2).take (Tryz.prog.cellsOf 3)) = some y2 at t2
  rw [cells_i] at t2
  change DataW.trod enc Tryz.prog W 0 (fun _ => true) held n' 3 [c2] = some y2 at t2
  have t3 := hfld 3 _ rfl
  change DataW.trod enc Tryz.prog W 0 (fun _ => true) held n' 3 (([c0, c1, c2, c3, c4, c5, c6, c7, c8].drop 3).take (Tryz.prog.cellsOf 3)) = some y3 at t3
  rw [cells_i] at t3
  change DataW.trod enc Tryz.prog W 0 (fun _ => true) held n' 3 [c3] = some y3 at t3
  have t4 := hfld 4 _ rfl
  change DataW.trod enc Tryz.prog W 0 (fun _ => true) held n' 24 (([c0, c1, c2, c3, c4, c5, c6, c7, c8].drop 4).take (Tryz.prog.cellsOf 24)) = some y4 at t4
  rw [cells_mem] at t4
  change DataW.trod enc Tryz.prog W 0 (fun _ => true) held n' 24 [c4, c5, c6, c7] = some y4 at t4
  have t5 := hfld 5 _ rfl
  change DataW.trod enc Tryz.prog W 0 (fun _ => true) held n' 2 (([c0, c1, c2, c3, c4, c5, c6, c7, c8].drop 8).take (Tryz.prog.cellsOf 2)) = some y5 at t5
  rw [cells_i64] at t5
  change DataW.trod enc Tryz.prog W 0 (fun _ => true) held n' 2 [c8] = some y5 at t5
  obtain ⟨ms, n2, _, hm, _, hml, hmf⟩ := DataW.trod_struct Tryz.underlying24 t4
  have hml4 : ms.length = 4 := hml
  obtain ⟨ym0, ym1, ym2, ym3, rfl⟩ : ∃ y0 y1 y2 y3, ms = [y0, y1, y2, y3] := by
    match ms, hml4 with
    | [y0, y1, y2, y3], _ => exact ⟨y0, y1, y2, y3, rfl⟩
  have m0 := hmf 0 _ rfl
  change DataW.trod enc Tryz.prog W 0 (fun _ => true) held n2 3 (([c4, c5, c6, c7].drop 0).take (Tryz.prog.cellsOf 3)) = some ym0 at m0
  rw [cells_i] at m0
  change DataW.trod enc Tryz.prog W 0 (fun _ => true) held n2 3 [c4] = some ym0 at m0
  have m1 := hmf 1 _ rfl
  change DataW.trod enc Tryz.prog W 0 (fun _ => true) held n2 3 (([c4, c5, c6, c7].drop 1).take (Tryz.prog.cellsOf 3)) = some ym1 at m1
  rw [cells_i] at m1
  change DataW.trod enc Tryz.prog W 0 (fun _ => true) held n2 3 [c5] = some ym1 at m1
  have m2 := hmf 2 _ rfl
  change DataW.trod enc Tryz.prog W 0 (fun _ => true) held n2 3 (([c4, c5, c6, c7].drop 2).take (Tryz.prog.cellsOf 3)) = some ym2 at m2
  rw [cells_i] at m2
  change DataW.trod enc Tryz.prog W 0 (fun _ => true) held n2 3 [c6] = some ym2 at m2
  have m3 := hmf 3 _ rfl
  change DataW.trod enc Tryz.prog W 0 (fun _ => true) held n2 2 (([c4, c5, c6, c7].drop 3).take (Tryz.prog.cellsOf 2)) = some ym3 at m3
  rw [cells_i64] at m3
  change DataW.trod enc Tryz.prog W 0 (fun _ => true) held n2 2 [c7] = some ym3 at m3
  obtain ⟨z0, e0, _, w0⟩ := DataW.trod_int Tryz.underlying3 t0
  obtain rfl : c0 = .int .i64 z0 := by simpa using e0
  obtain ⟨z1, e1, _, w1⟩ := DataW.trod_int Tryz.underlying3 t1
  obtain rfl : c1 = .int .i64 z1 := by simpa using e1
  obtain ⟨z2, e2, _, w2⟩ := DataW.trod_int Tryz.underlying3 t2
  obtain rfl : c2 = .int .i64 z2 := by simpa using e2
  obtain ⟨z3, e3, _, w3⟩ := DataW.trod_int Tryz.underlying3 t3
  obtain rfl : c3 = .int .i64 z3 := by simpa using e3
  obtain ⟨z4, e4, _, w4⟩ := DataW.trod_int Tryz.underlying3 m0
  obtain rfl : c4 = .int .i64 z4 := by simpa using e4
  obtain ⟨z5, e5, _, w5⟩ := DataW.trod_int Tryz.underlying3 m1
  obtain rfl : c5 = .int .i64 z5 := by simpa using e5
  obtain ⟨z6, e6, _, w6⟩ := DataW.trod_int Tryz.underlying3 m2
  obtain rfl : c6 = .int .i64 z6 := by simpa using e6
  obtain ⟨z7, e7, _, w7⟩ := DataW.trod_int Tryz.underlying2 m3
  obtain rfl : c7 = .int .i64 z7 := by simpa using e7
  obtain ⟨z8, e8, _, w8⟩ := DataW.trod_int Tryz.underlying2 t5
  obtain rfl : c8 = .int .i64 z8 := by simpa using e8
  exact ⟨⟨z0, z1, z2, z3, z4, z5, z6, z7, z8⟩, rfl, ⟨i64_wf w0, i64_wf w1, i64_wf w2, i64_wf w3, i64_wf w4, i64_wf w5, i64_wf w6, i64_wf w7, i64_wf w8⟩⟩
set_option maxRecDepth 100000 in
/-- an instruction that came in -/
theorem open_inst {H : Type} {enc : TypeId × Value → H} {W : World} {base : Nat} {v : Value} {d : DataW H} {p : List MemPlace} (hval : Value.okWide Tryz.prog W .any base 26 v)
    (h : DataW.Trod enc Tryz.prog W 0 (fun _ => true) true 26 v d p) : ∃ i : Ins, v = .agg i.vs ∧ i.wf := by
  obtain ⟨cs, rfl, hsz⟩ := okWide_struct Tryz.underlying26 hval
  obtain ⟨fuel, hf⟩ := h
  obtain ⟨i, hi, hw⟩ := nine hf
  refine ⟨i, ?_, hw⟩
  have h2 : cs.toList = i.vs.toList := hi
  rw [Array.toList_inj.1 h2]
end LawN
end Go.Proofs.YtikbnfhnimjmmaaGreatDoor
namespace Go.Proofs.YtikbnfhnimjmmaaGreatDoor
namespace LawN
open Go Go.ChangeShapes Go.WideShapes Go.ChangeAt Go.RowKit Go.Lib
open Is Go.Deep
set_option linter.unusedVariables false
/-- the table's cells, as its initialiser lays them -/
def formCells : Array Value := (fmTab.flatMap fun r => [.string ⟨r.1.toArray⟩, .int .u16 r.2.1, .int .i64 r.2.2.1, .int .i64 r.2.2.2.1, .int .i64 r.2.2.2.2]).toArray
def putCells (h : Array Obj) (g : Nat) (cs : Array Value) : Array Obj := h.modify g fun
    | .cells _ t frozen => .cells cs t frozen
    | o => o
/-- the settled world, the table holding what its initialiser lays -/
noncomputable def laidWorld (os : Os) : World :=
  let w0 := World.holding Tryz.prog os ⟨#[], #[], []⟩
  { w0 with heap := putCells w0.heap 0 formCells }
theorem laid_met (os : Os) (args : Array Value) : laidMet Tryz.prog [("keysmith/inst.forms", Rows.laid_keysmith_inst_forms)] ((laidWorld os).forCall (fun _ _ => 0) ⟨#[], args, []⟩).memory :=
  (LaidIn.of_run (l := [("keysmith/inst.forms", Rows.laid_keysmith_inst_forms)]) [0] 8 (by kernel_rfl) (by kernel_rfl) (by kernel_rfl) (by kernel_rfl)).met
theorem u64_W {z : Int} (h : (Lit.int .u64 z).wf = true) : Wd.W z := by
  unfold Wd.W
  simp [Lit.wf, IntKind.min, IntKind.max, IntKind.signed, IntKind.bits] at h; omega
end LawN
end Go.Proofs.YtikbnfhnimjmmaaGreatDoor
namespace Go.Proofs.YtikbnfhnimjmmaaGreatDoor
namespace LawN
open Go Go.ChangeShapes Go.WideShapes Go.ChangeAt Go.RowKit Go.Lib Go.Deep
open Mm Is Sp
set_option linter.unusedVariables false
set_option maxRecDepth 100000 in
theorem cells_u8 : Tryz.prog.cellsOf 5 = 1 := by kernel_rfl
set_option maxRecDepth 100000 in
theorem cells_reg : Tryz.prog.cellsOf 106 = 3 := by kernel_rfl
set_option maxRecDepth 100000 in
theorem cells_word : Tryz.prog.cellsOf 39 = 1 := by kernel_rfl
set_option maxRecDepth 100000 in
theorem cells_sl8 : Tryz.prog.cellsOf 104 = 1 := by kernel_rfl
set_option maxRecDepth 100000 in
theorem cells_bool : Tryz.prog.cellsOf 4 = 1 := by kernel_rfl
set_option maxRecDepth 100000 in
theorem cells_state : Tryz.prog.cellsOf 42 = 20 := by kernel_rfl
set_option maxRecDepth 100000 in
theorem cells_regs : Tryz.prog.cellsOf 40 = 16 := by kernel_rfl
set_option maxRecDepth 100000 in
/-- the bytes of a slice that came in -/
theorem open_b8 {H : Type} {enc : TypeId × Value → H} {W : World} {n : Nat} {v : Value} {x : DataW H × List MemPlace} (h : DataW.trod enc Tryz.prog W 0 (fun _ => true) true n 104 [v] = some x) (hlt : ∀ y ∈ x.2, y.block < W.heap.size) :
    ∃ A n c bs, v = .slice A n c ∧ Rd8 W W.heap.size A n bs ∧ n ≤ c ∧ c ≤ 9223372036854775807 := by
  rcases open_ints Tryz.underlying104 Tryz.underlying5 cells_u8 h with ⟨hcs, hx⟩ | ⟨a, len, cap, zs, hcs, _, hl, hm, hz, hx, hcell, hwz⟩
  · obtain rfl : v = .slice none 0 0 := by simpa using hcs
    exact ⟨none, 0, 0, [], rfl, Rd8.nil, Nat.le_refl _, by omega⟩
  · obtain rfl : v = .slice (some a) len cap := by simpa using hcs
    subst hx
    simp only [if_true] at hz
    refine ⟨_, _, _, zs.take len, rfl, ⟨by rw [List.length_take]; omega, ?_, fun h0 => ⟨a, rfl, ?_, ?_⟩⟩, hl, by simpa [maxLen] using hm⟩
    · intro y hy
      have := hwz y (List.mem_of_mem_take hy)
      simp [Lit.wf, IntKind.min, IntKind.max, IntKind.signed, IntKind.bits] at this; omega
    · obtain ⟨b, off, spot⟩ := a
      exact hlt (.cell b off) (MemPlace.mem_row.2 ⟨0, by omega, by simp⟩)
    · intro j hj
      rw [hcell j (by omega)]
      unfold bt
      rw [List.getElem?_take, if_pos hj]
      rfl
set_option maxRecDepth 100000 in
/-- the regions of a slice that came in -/
theorem open_regs {H : Type} {enc : TypeId × Value → H} {W : World} {base : Nat} {v : Value} {d : DataW H} {p : List MemPlace} (hval : Value.okWide Tryz.prog W .any base 53 v)
    (h : DataW.Trod enc Tryz.prog W 0 (fun _ => true) true 53 v d p) (hlt : ∀ x ∈ p, x.block < W.heap.size) :
    ∃ A n c rs, v = .slice A n c ∧ RdR W W.heap.size A n rs ∧ n ≤ c ∧ c ≤ 9223372036854775807 := by
  obtain ⟨a0, len, cap, rfl⟩ := okWide_slice Tryz.underlying53 hval
  obtain ⟨fuel, hf⟩ := h
  rcases open_slice Tryz.underlying53 hf with ⟨hcs, hx⟩ | ⟨a, l1, k1, m, n, D, Pl, hcs, _, hl, hm, hmm, hx, hi⟩
  · simp [Value.cells] at hcs
    obtain ⟨rfl, rfl, rfl⟩ := hcs
    exact ⟨_, _, _, [], rfl, RdR.nil, Nat.le_refl _, by omega⟩
  · simp [Value.cells] at hcs
    obtain ⟨rfl, rfl, rfl⟩ := hcs
    simp only [Prod.mk.injEq] at hx
    obtain ⟨rfl, rfl⟩ := hx
    simp only [if_true] at hmm
    subst hmm
    rw [cells_reg] at hlt hi
    have each : ∀ i, i < m → ∃ r : Reg, r.ok ∧ RegAt W W.heap.size (a.add (i * 3)) r := by
      intro i hic
      obtain ⟨cs, hc, ht⟩ := hi i hic
      obtain ⟨_, hcl, hat⟩ := World.cells?_some hc
      obtain ⟨ys, n', _, hy, _, hyl, hfld⟩ := DataW.trod_struct Tryz.underlying106 ht
      obtain ⟨c0, c1, c2, rfl⟩ : ∃ c0 c1 c2, cs = [c0, c1, c2] := by
        match cs, hcl with
        | [c0, c1, c2], _ => exact ⟨c0, c1, c2, rfl⟩
      have hyl3 : ys.length = 3 := hyl
      obtain ⟨y0, y1, y2, rfl⟩ : ∃ y0 y1 y2, ys = [y0, y1, y2] := by
        match ys, hyl3 with
        | [y0, y1, y2], _ => exact ⟨y0, y1, y2, rfl⟩
      have t0 := hfld 0 _ rfl
      change DataW.trod enc Tryz.prog W 0 (fun _ => true) true n' 39 (([c0, c1, c2].drop 0).take (Tryz.prog.cellsOf 39)) = some y0 at t0
      rw [cells_word] at t0
      change DataW.trod enc Tryz.prog W 0 (fun _ => true) true n' 39 [c0] = some y0 at t0
      have t1 := hfld 1 _ rfl
      change DataW.trod enc Tryz.prog W 0 (fun _ => true) true n' 104 (([c0, c1, c2].drop 1).take (Tryz.prog.cellsOf 104)) = some y1 at t1
      rw [cells_sl8] at t1
      change DataW.trod enc Tryz.prog W 0 (fun _ => true) true n' 104 [c1] = some y1 at t1
      have t2 := hfld 2 _ rfl
      change DataW.trod enc Tryz.prog W 0 (fun _ => true) true n' 4 (([c0, c1, c2].drop 2).take (Tryz.prog.cellsOf 4)) = some y2 at t2
      rw [cells_bool] at t2
      change DataW.trod enc Tryz.prog W 0 (fun _ => true) true n' 4 [c2] = some y2 at t2
      obtain ⟨z, hz, _, hzw⟩ := DataW.trod_int Tryz.underlying39 t0
      obtain rfl : c0 = .int .u64 z := by simpa using hz
      obtain ⟨b, hb, _⟩ := DataW.trod_bool Tryz.underlying4 t2
      obtain rfl : c2 = .bool b := by simpa using hb
      have hpl : Pl i = y0.2 ++ (y1.2 ++ y2.2) := by
        simp only [Prod.mk.injEq] at hy
        rw [hy.2]; simp
      obtain ⟨A, l, c, bs, rfl, hrd, hlc, hcm⟩ := open_b8 t1 (fun y hy1 => hlt y (List.mem_append_right _ (List.mem_flatMap.2 ⟨i, List.mem_range.2 hic, by rw [hpl]; simp [hy1]⟩)))
      have hW : Wd.W z := by
        unfold Wd.W
        simp [Lit.wf, IntKind.min, IntKind.max, IntKind.signed, IntKind.bits] at hzw; omega
      have e : ∀ d, d ≠ 0 → (a.add (i * 3)).add d = ⟨(a.add (i * 3)).block, (a.add (i * 3)).off + d, none⟩ := fun d hd => by unfold Addr.add; simp [hd]
      have g0 := hat 0 (by omega)
      have g1 := hat 1 (by omega)
      have g2 := hat 2 (by omega)
      have e0 : (a.add (i * 3)).add 0 = a.add (i * 3) := by unfold Addr.add; simp
      rw [e0] at g0
      rw [e 1 (by omega)] at g1
      rw [e 2 (by omega)] at g2
      exact ⟨⟨z, bs, b⟩, ⟨hW, hrd.ok⟩, A, l, c, g0, g1, g2, hrd, hlc, hcm⟩
    have hm' : m ≤ 9223372036854775807 := by simpa [maxLen] using hm
    have hall : ∃ rs : List Reg, rs.length = len ∧ ∀ (j : Nat) (r : Reg), rs[j]? = some r → r.ok ∧ RegAt W W.heap.size (a.add (j * 3)) r := by
      have key : ∀ k, k ≤ len → ∃ rs : List Reg, rs.length = k ∧ ∀ (j : Nat) (r : Reg), rs[j]? = some r → r.ok ∧ RegAt W W.heap.size (a.add (j * 3)) r := by
        intro k
        induction k with
        | zero => exact fun _ => ⟨[], rfl, fun j r hj => by simp at hj⟩
        | succ k ih =>
          intro hk
          obtain ⟨rs, hl1, hrs⟩ := ih (by omega)
          obtain ⟨r, h1, h2⟩ := each k (by omega)
          refine ⟨rs ++ [r], by simp [hl1], fun j s hj => ?_⟩
          rcases Nat.lt_or_ge j k with h3 | h3
          · rw [List.getElem?_append_left (by omega)] at hj; exact hrs j s hj
          · rw [List.getElem?_append_right (by omega)] at hj
            have h4 := (List.getElem?_eq_some_iff.1 hj).1
            simp at h4
            have hjk : j = k := by omega
            subst hjk
            rw [hl1, Nat.sub_self] at hj
            obtain rfl : r = s := by simpa using hj
            exact ⟨h1, h2⟩
      exact key len (Nat.le_refl _)
    obtain ⟨rs, hl1, hrs⟩ := hall
    refine ⟨_, _, _, rs, rfl, ⟨hl1, fun r hr => ?_, fun h0 => ⟨a, rfl, ?_, fun j r hj => (hrs j r hj).2⟩⟩, hl, hm'⟩
    · obtain ⟨j, hj⟩ := getElem?_of_mem hr
      exact (hrs j r hj).1
    · obtain ⟨b, off, spot⟩ := a
      exact hlt (.cell b off) (List.mem_append_left _ (MemPlace.mem_row.2 ⟨0, by omega, by simp⟩))
theorem one_of {cs : List Value} {k : Nat} {v : Value} (h : (cs.drop k).take 1 = [v]) : cs[k]? = some v := by
  have h1 := congrArg (fun l : List Value => l[0]?) h
  simpa [List.getElem?_take, List.getElem?_drop] using h1
set_option maxRecDepth 100000 in
/-- twenty cells that read as a state are one -/
theorem twenty {H : Type} {enc : TypeId × Value → H} {W : World} {cs : List Value} {fuel : Nat} {y : DataW H × List MemPlace} {held : Bool}
    (h : DataW.trod enc Tryz.prog W 0 (fun _ => true) held fuel 42 cs = some y) : ∃ s : Stt, cs = s.vs.toList ∧ s.wf := by
  obtain ⟨ys, n', _, hy, hcl, hyl, hfld⟩ := DataW.trod_struct Tryz.underlying42 h
  rw [cells_state] at hcl
  have hyl5 : ys.length = 5 := hyl
  obtain ⟨y0, y1, y2, y3, y4, rfl⟩ : ∃ y0 y1 y2 y3 y4, ys = [y0, y1, y2, y3, y4] := by
    match ys, hyl5 with
    | [y0, y1, y2, y3, y4], _ => exact ⟨y0, y1, y2, y3, y4, rfl⟩
  have t0 := hfld 0 _ rfl
  change DataW.trod enc Tryz.prog W 0 (fun _ => true) held n' 40 ((cs.drop 0).take (Tryz.prog.cellsOf 40)) = some y0 at t0
  rw [cells_regs] at t0
  have t1 := hfld 1 _ rfl
  change DataW.trod enc Tryz.prog W 0 (fun _ => true) held n' 39 ((cs.drop 16).take (Tryz.prog.cellsOf 39)) = some y1 at t1
  rw [cells_word] at t1
  have t2 := hfld 2 _ rfl
  change DataW.trod enc Tryz.prog W 0 (fun _ => true) held n' 4 ((cs.drop 17).take (Tryz.prog.cellsOf 4)) = some y2 at t2
  rw [cells_bool] at t2
  have t3 := hfld 3 _ rfl
  change DataW.trod enc Tryz.prog W 0 (fun _ => true) held n' 4 ((cs.drop 18).take (Tryz.prog.cellsOf 4)) = some y3 at t3
  rw [cells_bool] at t3
  have t4 := hfld 4 _ rfl
  change DataW.trod enc Tryz.prog W 0 (fun _ => true) held n' 4 ((cs.drop 19).take (Tryz.prog.cellsOf 4)) = some y4 at t4
  rw [cells_bool] at t4
  obtain ⟨z1, e1, _, w1⟩ := DataW.trod_int Tryz.underlying39 t1
  obtain ⟨b2, e2, _⟩ := DataW.trod_bool Tryz.underlying4 t2
  obtain ⟨b3, e3, _⟩ := DataW.trod_bool Tryz.underlying4 t3
  obtain ⟨b4, e4, _⟩ := DataW.trod_bool Tryz.underlying4 t4
  have c1 := one_of e1
  have c2 := one_of e2
  have c3 := one_of e3
  have c4 := one_of e4
  obtain ⟨xs, m, _, _, hlen, hn, hel⟩ := DataW.trod_array Tryz.underlying40 t0
  rw [cells_word] at hel
  have each : ∀ i, i < 16 → ∃ z, cs[i]? = some (.int .u64 z) ∧ Wd.W z := by
    intro i hi
    have g := hel i hi
    rw [List.getElem?_eq_getElem (by rw [hn]; exact hi)] at g
    obtain ⟨z, e, _, w⟩ := DataW.trod_int Tryz.underlying39 g
    refine ⟨z, ?_, u64_W w⟩
    have e' := one_of (cs := (cs.drop 0).take 16) (k := i * 1) e
    rw [Nat.mul_one, List.getElem?_take, if_pos hi, List.drop_zero] at e'
    exact e'
  obtain ⟨r, hr⟩ : ∃ r : Nat → Int, (∀ i, i < 16 → cs[i]? = some (.int .u64 (r i))) ∧ ∀ i, Wd.W (r i) := by
    refine ⟨fun i => if h : i < 16 then Classical.choose (each i h) else 0, fun i hi => ?_, fun i => ?_⟩
    · show cs[i]? = some (.int .u64 (if h : i < 16 then Classical.choose (each i h) else 0))
      rw [dif_pos hi]
      exact (Classical.choose_spec (each i hi)).1
    · show Wd.W (if h : i < 16 then Classical.choose (each i h) else 0)
      split
      · rename_i hi; exact (Classical.choose_spec (each i hi)).2
      · exact ⟨by decide, by decide⟩
  refine ⟨⟨r, z1, b2, b3, b4⟩, ?_, ⟨hr.2, u64_W w1⟩⟩
  apply List.ext_getElem?
  intro i
  refine Eq.trans ?_ (Array.getElem?_toList (xs := Stt.vs _) (i := i)).symm
  rcases Nat.lt_or_ge i 16 with hi | hi
  · rw [hr.1 i hi, Stt.vs_r _ hi]
  · rcases Nat.lt_or_ge i 20 with h2 | h2
    · obtain rfl | rfl | rfl | rfl : i = 16 ∨ i = 17 ∨ i = 18 ∨ i = 19 := by omega
      · exact c1
      · exact c2
      · exact c3
      · exact c4
    · rw [List.getElem?_eq_none (by omega), Array.getElem?_eq_none (by rw [Stt.vs_size]; omega)]
set_option maxRecDepth 100000 in
/-- a state that came in -/
theorem open_state {H : Type} {enc : TypeId × Value → H} {W : World} {base : Nat} {v : Value} {d : DataW H} {p : List MemPlace} (hval : Value.okWide Tryz.prog W .any base 42 v)
    (h : DataW.Trod enc Tryz.prog W 0 (fun _ => true) true 42 v d p) : ∃ s : Stt, v = .agg s.vs ∧ s.wf := by
  obtain ⟨cs, rfl, hsz⟩ := okWide_struct Tryz.underlying42 hval
  obtain ⟨fuel, hf⟩ := h
  obtain ⟨i, hi, hw⟩ := twenty hf
  refine ⟨i, ?_, hw⟩
  have h2 : cs.toList = i.vs.toList := hi
  rw [Array.toList_inj.1 h2]
end LawN
end Go.Proofs.YtikbnfhnimjmmaaGreatDoor
namespace Go.Proofs.YtikbnfhnimjmmaaGreatDoor
namespace LawN
open Go Go.ChangeShapes Go.WideShapes Go.ChangeAt Go.RowKit Go.Lib Go.Deep
open Mm Is Sp
set_option linter.unusedVariables false
set_option maxRecDepth 100000 in
theorem cells_ev : Tryz.prog.cellsOf 51 = 2 := by kernel_rfl
set_option maxRecDepth 100000 in
/-- the events of a slice that came in -/
theorem open_events {H : Type} {enc : TypeId × Value → H} {W : World} {base : Nat} {v : Value} {d : DataW H} {p : List MemPlace} (hval : Value.okWide Tryz.prog W .any base 46 v)
    (h : DataW.Trod enc Tryz.prog W 0 (fun _ => true) true 46 v d p) (hlt : ∀ x ∈ p, x.block < W.heap.size) :
    ∃ A n c es, v = .slice A n c ∧ RdE W W.heap.size A n es ∧ n ≤ c ∧ c ≤ 9223372036854775807 := by
  obtain ⟨a0, len, cap, rfl⟩ := okWide_slice Tryz.underlying46 hval
  obtain ⟨fuel, hf⟩ := h
  rcases open_slice Tryz.underlying46 hf with ⟨hcs, hx⟩ | ⟨a, l1, k1, m, n, D, Pl, hcs, _, hl, hm, hmm, hx, hi⟩
  · simp [Value.cells] at hcs
    obtain ⟨rfl, rfl, rfl⟩ := hcs
    exact ⟨_, _, _, [], rfl, RdE.nil, Nat.le_refl _, by omega⟩
  · simp [Value.cells] at hcs
    obtain ⟨rfl, rfl, rfl⟩ := hcs
    simp only [Prod.mk.injEq] at hx
    obtain ⟨rfl, rfl⟩ := hx
    simp only [if_true] at hmm
    subst hmm
    rw [cells_ev] at hlt hi
    have each : ∀ i, i < m → ∃ e : Ev, W.cell? (a.add (i * 2)) = some (.int .i64 e.k) ∧ W.cell? ⟨a.block, (a.add (i * 2)).off + 1, none⟩ = some (.int .u64 e.a) := by
      intro i hic
      obtain ⟨cs, hc, ht⟩ := hi i hic
      obtain ⟨_, hcl, hat⟩ := World.cells?_some hc
      obtain ⟨ys, n', _, hy, _, hyl, hfld⟩ := DataW.trod_struct Tryz.underlying51 ht
      obtain ⟨c0, c1, rfl⟩ : ∃ c0 c1, cs = [c0, c1] := by
        match cs, hcl with
        | [c0, c1], _ => exact ⟨c0, c1, rfl⟩
      have hyl2 : ys.length = 2 := hyl
      obtain ⟨y0, y1, rfl⟩ : ∃ y0 y1, ys = [y0, y1] := by
        match ys, hyl2 with
        | [y0, y1], _ => exact ⟨y0, y1, rfl⟩
      have t0 := hfld 0 _ rfl
      change DataW.trod enc Tryz.prog W 0 (fun _ => true) true n' 3 (([c0, c1].drop 0).take (Tryz.prog.cellsOf 3)) = some y0 at t0
      rw [cells_i] at t0
      change DataW.trod enc Tryz.prog W 0 (fun _ => true) true n' 3 [c0] = some y0 at t0
      have t1 := hfld 1 _ rfl
      change DataW.trod enc Tryz.prog W 0 (fun _ => true) true n' 39 (([c0, c1].drop 1).take (Tryz.prog.cellsOf 39)) = some y1 at t1
      rw [cells_word] at t1
      change DataW.trod enc Tryz.prog W 0 (fun _ => true) true n' 39 [c1] = some y1 at t1
      obtain ⟨z, hz, _, _⟩ := DataW.trod_int Tryz.underlying3 t0
      obtain rfl : c0 = .int .i64 z := by simpa using hz
      obtain ⟨u, hu, _, _⟩ := DataW.trod_int Tryz.underlying39 t1
      obtain rfl : c1 = .int .u64 u := by simpa using hu
      have e : ∀ d, d ≠ 0 → (a.add (i * 2)).add d = ⟨(a.add (i * 2)).block, (a.add (i * 2)).off + d, none⟩ := fun d hd => by unfold Addr.add; simp [hd]
      have g0 := hat 0 (by omega)
      have g1 := hat 1 (by omega)
      have e0 : (a.add (i * 2)).add 0 = a.add (i * 2) := by unfold Addr.add; simp
      rw [e0] at g0
      rw [e 1 (by omega), Nt.block_add] at g1
      exact ⟨⟨z, u⟩, g0, g1⟩
    have hm' : m ≤ 9223372036854775807 := by simpa [maxLen] using hm
    have hall : ∃ es : List Ev, es.length = len ∧ ∀ (j : Nat) (e : Ev), es[j]? = some e → W.cell? (a.add (j * 2)) = some (.int .i64 e.k) ∧ W.cell? ⟨a.block, (a.add (j * 2)).off + 1, none⟩ = some (.int .u64 e.a) := by
      have key : ∀ k, k ≤ len → ∃ es : List Ev, es.length = k ∧ ∀ (j : Nat) (e : Ev), es[j]? = some e → W.cell? (a.add (j * 2)) = some (.int .i64 e.k) ∧ W.cell? ⟨a.block, (a.add (j * 2)).off + 1, none⟩ = some (.int .u64 e.a) := by
        intro k
        induction k with
        | zero => exact fun _ => ⟨[], rfl, fun j r hj => by simp at hj⟩
        | succ k ih =>
          intro hk
          obtain ⟨rs, hl1, hrs⟩ := ih (by omega)
          obtain ⟨r, h1⟩ := each k (by omega)
          refine ⟨rs ++ [r], by simp [hl1], fun j s hj => ?_⟩
          rcases Nat.lt_or_ge j k with h3 | h3
          · rw [List.getElem?_append_left (by omega)] at hj; exact hrs j s hj
          · rw [List.getElem?_append_right (by omega)] at hj
            have h4 := (List.getElem?_eq_some_iff.1 hj).1
            simp at h4
            have hjk : j = k := by omega
            subst hjk
            rw [hl1, Nat.sub_self] at hj
            obtain rfl : r = s := by simpa using hj
            exact h1
      exact key len (Nat.le_refl _)
    obtain ⟨es, hl1, hes⟩ := hall
    refine ⟨_, _, _, es, rfl, ⟨hl1, fun h0 => ⟨a, rfl, ?_, hes⟩⟩, hl, hm'⟩
    obtain ⟨b, off, spot⟩ := a
    exact hlt (.cell b off) (List.mem_append_left _ (MemPlace.mem_row.2 ⟨0, by omega, by simp⟩))
set_option maxRecDepth 100000 in
/-- a place that came in -/
theorem open_mem {H : Type} {enc : TypeId × Value → H} {W : World} {base : Nat} {v : Value} {d : DataW H} {p : List MemPlace} (hval : Value.okWide Tryz.prog W .any base 24 v)
    (h : DataW.Trod enc Tryz.prog W 0 (fun _ => true) true 24 v d p) : ∃ b x sc di : Int, v = .agg #[.int .i64 b, .int .i64 x, .int .i64 sc, .int .i64 di] := by
  obtain ⟨cs, rfl, hsz⟩ := okWide_struct Tryz.underlying24 hval
  obtain ⟨fuel, hf⟩ := h
  obtain ⟨ys, n', _, hy, hcl, hyl, hfld⟩ := DataW.trod_struct Tryz.underlying24 hf
  rw [cells_mem] at hcl
  have hyl4 : ys.length = 4 := hyl
  obtain ⟨y0, y1, y2, y3, rfl⟩ : ∃ y0 y1 y2 y3, ys = [y0, y1, y2, y3] := by
    match ys, hyl4 with
    | [y0, y1, y2, y3], _ => exact ⟨y0, y1, y2, y3, rfl⟩
  have hcl' : cs.toList.length = 4 := hcl
  obtain ⟨c0, c1, c2, c3, hcs⟩ : ∃ c0 c1 c2 c3, cs.toList = [c0, c1, c2, c3] := by
    match cs.toList, hcl' with
    | [c0, c1, c2, c3], _ => exact ⟨c0, c1, c2, c3, rfl⟩
  have hcs2 : cs = #[c0, c1, c2, c3] := by rw [← Array.toList_inj]; exact hcs
  subst hcs2
  have t0 := hfld 0 _ rfl
  change DataW.trod enc Tryz.prog W 0 (fun _ => true) true n' 3 (([c0, c1, c2, c3].drop 0).take (Tryz.prog.cellsOf 3)) = some y0 at t0
  rw [cells_i] at t0
  change DataW.trod enc Tryz.prog W 0 (fun _ => true) true n' 3 [c0] = some y0 at t0
  have t1 := hfld 1 _ rfl
  change DataW.trod enc Tryz.prog W 0 (fun _ => true) true n' 3 (([c0, c1, c2, c3].drop 1).take (Tryz.prog.cellsOf 3)) = some y1 at t1
  rw [cells_i] at t1
  change DataW.trod enc Tryz.prog W 0 (fun _ => true) true n' 3 [c1] = some y1 at t1
  have t2 := hfld 2 _ rfl
  change DataW.trod enc Tryz.prog W 0 (fun _ => true) true n' 3 (([c0, c1, c2, c3].drop 2).take (Tryz.prog.cellsOf 3)) = some y2 at t2
  rw [cells_i] at t2
  change DataW.trod enc Tryz.prog W 0 (fun _ => true) true n' 3 [c2] = some y2 at t2
  have t3 := hfld 3 _ rfl
  change DataW.trod enc Tryz.prog W 0 (fun _ => true) true n' 2 (([c0, c1, c2, c3].drop 3).take (Tryz.prog.cellsOf 2)) = some y3 at t3
  rw [cells_i64] at t3
  change DataW.trod enc Tryz.prog W 0 (fun _ => true) true n' 2 [c3] = some y3 at t3
  obtain ⟨z0, e0, _, _⟩ := DataW.trod_int Tryz.underlying3 t0
  obtain ⟨z1, e1, _, _⟩ := DataW.trod_int Tryz.underlying3 t1
  obtain ⟨z2, e2, _, _⟩ := DataW.trod_int Tryz.underlying3 t2
  obtain ⟨z3, e3, _, _⟩ := DataW.trod_int Tryz.underlying2 t3
  obtain rfl : c0 = .int .i64 z0 := by simpa using e0
  obtain rfl : c1 = .int .i64 z1 := by simpa using e1
  obtain rfl : c2 = .int .i64 z2 := by simpa using e2
  obtain rfl : c3 = .int .i64 z3 := by simpa using e3
  exact ⟨z0, z1, z2, z3, rfl⟩
end LawN
end Go.Proofs.YtikbnfhnimjmmaaGreatDoor

namespace Go.Proofs.YtikbnfhnimjmmaaGreatDoor.stepCalls
open Go Go.ChangeShapes Go.WideShapes Go.ChangeAt Go.RowKit Go.Lib LawN
set_option linter.unusedVariables false
set_option linter.unusedSimpArgs false

theorem reads (os : Os) {H : Type} (enc : TypeId × Value → H) : ∃ places, DataW.whole enc Tryz.prog ((laidWorld os).forCall (fun _ _ => 0) ⟨#[], #[.agg #[.int .u64 0, .int .u64 0, .int .u64 0, .int .u64 0, .int .u64 0, .int .u64 0, .int .u64 0, .int .u64 0, .int .u64 0, .int .u64 0, .int .u64 0, .int .u64 0, .int .u64 0, .int .u64 0, .int .u64 0, .int .u64 0, .int .u64 0, .bool false, .bool false, .bool false], .agg #[.int .i64 0, .int .i64 0, .int .i64 0, .int .i64 0, .int .i64 0, .int .i64 0, .int .i64 0, .int .i64 0, .int .i64 0], .int .i64 0, .slice none 0 0, .agg #[.int .i64 0, .int .i64 0, .int .i64 0, .int .i64 0], .slice none 0 0, .slice none 0 0], []⟩).memory Tryz.f5.params.toList Rows.stepCallsSpec.vars false (#[.agg #[.int .u64 0, .int .u64 0, .int .u64 0, .int .u64 0, .int .u64 0, .int .u64 0, .int .u64 0, .int .u64 0, .int .u64 0, .int .u64 0, .int .u64 0, .int .u64 0, .int .u64 0, .int .u64 0, .int .u64 0, .int .u64 0, .int .u64 0, .bool false, .bool false, .bool false], .agg #[.int .i64 0, .int .i64 0, .int .i64 0, .int .i64 0, .int .i64 0, .int .i64 0, .int .i64 0, .int .i64 0, .int .i64 0], .int .i64 0, .slice none 0 0, .agg #[.int .i64 0, .int .i64 0, .int .i64 0, .int .i64 0], .slice none 0 0, .slice none 0 0] : Array Value).toList 8 = some ([.agg [.agg [.lit (.int .u64 0), .lit (.int .u64 0), .lit (.int .u64 0), .lit (.int .u64 0), .lit (.int .u64 0), .lit (.int .u64 0), .lit (.int .u64 0), .lit (.int .u64 0), .lit (.int .u64 0), .lit (.int .u64 0), .lit (.int .u64 0), .lit (.int .u64 0), .lit (.int .u64 0), .lit (.int .u64 0), .lit (.int .u64 0), .lit (.int .u64 0)], .lit (.int .u64 0), .lit (.bool false), .lit (.bool false), .lit (.bool false)], .agg [.lit (.int .i64 0), .lit (.int .i64 0), .lit (.int .i64 0), .lit (.int .i64 0), .agg [.lit (.int .i64 0), .lit (.int .i64 0), .lit (.int .i64 0), .lit (.int .i64 0)], .lit (.int .i64 0)], .lit (.int .i64 0), .nil, .agg [.lit (.int .i64 0), .lit (.int .i64 0), .lit (.int .i64 0), .lit (.int .i64 0)], .nil, .nil], [], places) :=
  ⟨[], by kernel_rfl⟩

set_option maxRecDepth 100000 in
set_option maxHeartbeats 1000000 in
theorem lifted (os : Os) (started : os.Started) (H : Type) (enc : TypeId × Value → H) (F : Stop.Interp) :
    ReturnsInHanded {} Tryz.checked os 5 .any ((OpenSpec.ofChange Rows.stepCallsSpec).preRow enc Tryz.prog Tryz.f5 Rows.stepCallsRow.domain false Rows.stepCallsRow.laid) (((OpenSpec.ofChange Rows.stepCallsSpec).at F).post enc Tryz.prog Tryz.f5 false true false false) := by
  obtain ⟨places, hx⟩ := reads os enc
  refine returnsInHanded_of_row (C := Tryz.checked) (s := OpenSpec.ofChange Rows.stepCallsSpec) own started (by kernel_rfl) Tryz.func5
    (witness_row_at (enc := enc) (C := Tryz.checked) false (laidWorld os) #[.agg #[.int .u64 0, .int .u64 0, .int .u64 0, .int .u64 0, .int .u64 0, .int .u64 0, .int .u64 0, .int .u64 0, .int .u64 0, .int .u64 0, .int .u64 0, .int .u64 0, .int .u64 0, .int .u64 0, .int .u64 0, .int .u64 0, .int .u64 0, .bool false, .bool false, .bool false], .agg #[.int .i64 0, .int .i64 0, .int .i64 0, .int .i64 0, .int .i64 0, .int .i64 0, .int .i64 0, .int .i64 0, .int .i64 0], .int .i64 0, .slice none 0 0, .agg #[.int .i64 0, .int .i64 0, .int .i64 0, .int .i64 0], .slice none 0 0, .slice none 0 0] rfl (by kernel_rfl) (by kernel_rfl) (by kernel_rfl)
      (OpenSpec.preRow_of_cond 8 hx (by kernel_rfl) (fun k hk => by cases hk) (by kernel_rfl) (laid_met os _))) ?_
  intro W base args ds gs before hval hW _ _ _ hL _ _
  have hW' := hW
  obtain ⟨p, q, hA0, hV, rfl, _, _⟩ := hW
  have hA : DataW.TrodAll enc Tryz.prog W 0 (fun _ => true) true Tryz.f5.params.toList args.toList ds p := hA0
  rw [Tryz.params5] at hA hval
  have hAll := hA
  obtain ⟨v0, vs0, d0, ds0, p0, q0, hargs0, rfl, rfl, h0, r0⟩ := trodAll_cons hA
  obtain ⟨v1, vs1, d1, ds1, p1, q1, hargs1, rfl, rfl, h1, r1⟩ := trodAll_cons r0
  obtain ⟨v2, vs2, d2, ds2, p2, q2, hargs2, rfl, rfl, h2, r2⟩ := trodAll_cons r1
  obtain ⟨v3, vs3, d3, ds3, p3, q3, hargs3, rfl, rfl, h3, r3⟩ := trodAll_cons r2
  obtain ⟨v4, vs4, d4, ds4, p4, q4, hargs4, rfl, rfl, h4, r4⟩ := trodAll_cons r3
  obtain ⟨v5, vs5, d5, ds5, p5, q5, hargs5, rfl, rfl, h5, r5⟩ := trodAll_cons r4
  obtain ⟨v6, vs6, d6, ds6, p6, q6, hargs6, rfl, rfl, h6, r6⟩ := trodAll_cons r5
  obtain ⟨rfl, rfl, rfl⟩ := trodAll_nil r6
  subst hargs6
  subst hargs5
  subst hargs4
  subst hargs3
  subst hargs2
  subst hargs1
  obtain rfl : args = #[v0, v1, v2, v3, v4, v5, v6] := by cases args; simp_all
  obtain ⟨rfl, rfl⟩ := trodVars_none hV
  simp only [List.append_nil] at hW' hAll
  have hlt := fun x (hx : x ∈ _) => hW'.lt x hx
  obtain ⟨s0, rfl, w0⟩ := open_state (hval 0 42 v0 rfl rfl) h0
  obtain ⟨i1, rfl, w1⟩ := open_inst (hval 1 26 v1 rfl rfl) h1
  obtain ⟨a2, rfl, _, _, w2⟩ := open_int Tryz.underlying3 (hval 2 3 v2 rfl rfl) h2
  obtain ⟨A3, n3, c3, xs3, rfl, hr3, hn3, hm3⟩ := open_regs (hval 3 53 v3 rfl rfl) h3 (fun x hx => hlt x (by simp [hx]))
  obtain ⟨b4, x4, u4, e4, rfl⟩ := open_mem (hval 4 24 v4 rfl rfl) h4
  obtain ⟨A5, n5, c5, xs5, rfl, hr5, hn5, hm5⟩ := open_events (hval 5 46 v5 rfl rfl) h5 (fun x hx => hlt x (by simp [hx]))
  obtain ⟨A6, n6, c6, xs6, rfl, hr6, hn6, hm6⟩ := open_events (hval 6 46 v6 rfl rfl) h6 (fun x hx => hlt x (by simp [hx]))
  clear hA0
  refine (walk_ Mm.memD W (Is.tab_of_laid hL) s0 i1 a2 A3 n3 c3 xs3 b4 x4 u4 e4 A5 n5 c5 xs5 A6 n6 c6 xs6 w0 w1 w2 hr3 hn3 hm3 hr5 hn5 hm5 hr6 hn6 hm6).mono ?_
  rintro e W' ⟨rfl, hb⟩
  refine ⟨_, rfl, _, _, _, [], (p0 ++ (p1 ++ (p2 ++ (p3 ++ (p4 ++ (p5 ++ p6)))))), [], hW', ?_, ?_, ?_, hb.frame _, fun h => by cases h⟩
  · exact trodAll_mk1 (shut_bool Tryz.underlying4 _)
  · have := below_trodAll (enc := enc) laidOut hb _ _ _ _ (fun t ht => by
      simp only [List.mem_cons, List.not_mem_nil, or_false] at ht
      first | (cases ht; done) | (rcases ht with rfl | rfl | rfl | rfl | rfl | rfl | rfl <;> exact ⟨by kernel_rfl, of_decide_eq_true (by kernel_rfl)⟩)) hAll (fun x hx => hlt x (by simpa using hx))
    exact this
  · rfl

set_option maxRecDepth 100000 in
set_option maxHeartbeats 40000000 in
theorem facts : joinedFacts Tryz.pinned.checked.prog 5 Tryz.f5 (OpenSpec.ofChange Rows.stepCallsSpec).bare Rows.stepCallsRow = true := by
  unfold joinedFacts
  simp only [Bool.and_eq_true]
  repeat' (refine And.intro ?_ ?_)
  all_goals (as_aux_lemma => kernel_rfl)

theorem said : Rows.StepCallsSaid :=
  OpenClaim.holds_of_cond 5 Tryz.f5 rfl rfl rfl rfl rfl rfl rfl ⟨rfl, rfl, rfl, rfl, rfl⟩ rfl rfl rfl rfl rfl (by kernel_rfl) Tryz.func5 facts
    (of_decide_eq_true (by kernel_rfl)) (by unfold Func.isWrapper; first | (rw [if_pos (by decide +kernel)]; kernel_rfl) | (rw [if_neg (by decide +kernel)]; exact ⟨rfl, rfl⟩))
    (fun os started H enc _ F => by rw [OpenClaim.pre_eq_preRow]; exact lifted os started H enc F)

theorem plain (f : FuncId) (fn : Func) (hf : Tryz.pinned.checked.prog.funcNamed "keysmith/keysmithlaw08.StepCalls" = some f) (hfn : Tryz.pinned.checked.prog.funcs[f]? = some fn) :
    true = Tryz.pinned.checked.prog.looks [] ∧ ∀ (j : Nat) t, fn.params[j]? = some t → Tryz.pinned.checked.prog.wantsStandIn t = false := by
  obtain rfl : f = 5 := Option.some.inj ((show Tryz.prog.funcNamed "keysmith/keysmithlaw08.StepCalls" = some 5 by kernel_rfl).symm.trans hf) |>.symm
  obtain rfl : fn = Tryz.f5 := (Option.some.inj (Tryz.func5.symm.trans hfn)).symm
  refine ⟨by kernel_rfl, fun j t ht => ?_⟩
  rw [Tryz.params5] at ht
  have hm := Array.mem_of_getElem? ht
  simp only [List.mem_toArray, List.mem_cons, List.not_mem_nil, or_false] at hm
  first | (cases hm; done) | (rcases hm with rfl | rfl | rfl | rfl | rfl | rfl | rfl <;> (show _ = false; kernel_rfl))

theorem card : Rows.StepCallsCardSaid :=
  Claim7.holds_tied_plain_at .later [] _ _ _ _ said (fun _ h => by cases h) (by kernel_rfl) (fun _ h => by cases h) stepCalls_row_tie rfl ⟨rfl, rfl⟩ (by kernel_rfl) rfl plain (by kernel_rfl)
end Go.Proofs.YtikbnfhnimjmmaaGreatDoor.stepCalls
