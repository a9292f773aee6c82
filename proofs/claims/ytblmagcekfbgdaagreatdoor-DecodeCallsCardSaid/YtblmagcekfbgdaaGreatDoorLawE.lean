/- What a row's listed table gives: the table's cells hold what is laid. | What a row's listed tables give: the tables' cells hold what is laid. | What every law's row over the table of forms is closed by; instructions that came in. | A world for the witness, the tables holding what their initialisers lay. -/
import Derived.Test.YtblmagcekfbgdaaGreatDoorJ4
import Derived.Test.YtblmagcekfbgdaaGreatDoorTie
import Derived.Test.YtblmagcekfbgdaaGreatDoorP1
import Derived.Test.YtblmagcekfbgdaaGreatDoorCards
import Derived.Test.YtblmagcekfbgdaaGreatDoorN0
import Derived.ProofKit
import Derived.LaidMore
import Derived.OpenShut
import Derived.Lib.LaidU8
import Derived.Lib.LaidTab
import Derived.WalkKit
import Derived.Carry
import Derived.Deep.DeepHandedRow
import Derived.Deep.DeepWitnessRowRef
import Derived.Lib.LaidIn
import Derived.Deep.Slices
namespace Go.Proofs.YtblmagcekfbgdaaGreatDoor
open Go Go.RowKit Go.Lib
namespace Is
open Nt
set_option linter.unusedVariables false
set_option linter.unusedSimpArgs false
set_option maxRecDepth 100000 in
theorem gForms : Tryz.prog.globalNamed "keysmith/inst.forms" = some 0 := by kernel_rfl
set_option maxRecDepth 100000 in
theorem tForms : (Tryz.prog.globals[0]?).map (·.type) = some 101 := by kernel_rfl
/-- a row of the table, as a datum -/
def fmDat (k : Nat) : DataW Unit := .agg [.lit (.string (fmAt k).1), .lit (.int .u16 (fPt k)), .lit (.int .i64 (fNu k)), .lit (.int .i64 (fFt k)), .lit (.int .i64 (fFm k))]
set_option maxRecDepth 100000 in
theorem laid_rows : (Rows.laid_keysmith_inst_forms : DataW Unit) = .agg ((List.range 34).map fmDat) := by kernel_rfl
set_option maxRecDepth 100000 in
theorem tab_of_reads {W : World} (h : VarReads Tryz.prog W "keysmith/inst.forms" Rows.laid_keysmith_inst_forms) : Tab W := by
  obtain ⟨g0, t0, cs0, f0, p0, hg0, ht0, hv0, hd0⟩ := h
  obtain rfl := Option.some.inj (gForms.symm.trans hg0)
  obtain rfl := Option.some.inj (tForms.symm.trans ht0)
  obtain ⟨xs, m1, rfl, hx1, hlen, hn, hel⟩ := DataW.trod_array Tryz.underlying101 hd0
  have cF : Tryz.prog.cellsOf 100 = 5 := by kernel_rfl
  have cA : Tryz.prog.cellsOf 101 = 170 := by kernel_rfl
  have cS : Tryz.prog.cellsOf 9 = 1 := by kernel_rfl
  have cP : Tryz.prog.cellsOf 98 = 1 := by kernel_rfl
  have cI : Tryz.prog.cellsOf 3 = 1 := by kernel_rfl
  rw [cF] at hel
  rw [cA] at hlen
  simp only [Prod.mk.injEq] at hx1
  have hmap : xs.map (·.1) = (List.range 34).map fmDat := by
    have h1 := hx1.1
    rw [laid_rows] at h1
    injection h1 with h2
    exact h2.symm
  have hcell : ∀ i, W.cell? ⟨0, i, none⟩ = cs0[i]? := fun i => World.var?_cell hg0 hv0 i
  have key : ∀ k, k < 34 → cs0[k * 5]? = some (.string (fNm k)) ∧ cs0[k * 5 + 1]? = some (.int .u16 (fPt k)) ∧ cs0[k * 5 + 2]? = some (.int .i64 (fNu k)) ∧ cs0[k * 5 + 3]? = some (.int .i64 (fFt k)) ∧ cs0[k * 5 + 4]? = some (.int .i64 (fFm k)) := by
    intro k hk
    have h1 := hel k hk
    have hxk : k < xs.length := by rw [hn]; exact hk
    rw [List.getElem?_eq_getElem hxk] at h1
    have hy : (xs[k]).1 = fmDat k := by
      have h2 : (xs.map (·.1))[k]? = ((List.range 34).map fmDat)[k]? := by rw [hmap]
      rw [List.getElem?_map, List.getElem?_map, List.getElem?_eq_getElem hxk, List.getElem?_range hk] at h2
      simpa using h2
    obtain ⟨ys, n', _, hyx, hcl, hyl, hfld⟩ := DataW.trod_struct Tryz.underlying100 h1
    rw [cF] at hcl
    have hcs : ∀ j, j < 5 → cs0[k * 5 + j]? = ((cs0.toList.drop (k * 5)).take 5)[j]? := fun j hj => by
      rw [List.getElem?_take, if_pos hj, List.getElem?_drop, Array.getElem?_toList]
    obtain ⟨c0, c1, c2, c3, c4, hcc⟩ : ∃ c0 c1 c2 c3 c4, (cs0.toList.drop (k * 5)).take 5 = [c0, c1, c2, c3, c4] := by
      match hq : (cs0.toList.drop (k * 5)).take 5, hcl with
      | [c0, c1, c2, c3, c4], _ => exact ⟨c0, c1, c2, c3, c4, rfl⟩
    rw [hcc] at hcs hfld
    have hyl5 : ys.length = 5 := hyl
    obtain ⟨y0, y1, y2, y3, y4, rfl⟩ : ∃ y0 y1 y2 y3 y4, ys = [y0, y1, y2, y3, y4] := by
      match ys, hyl5 with
      | [y0, y1, y2, y3, y4], _ => exact ⟨y0, y1, y2, y3, y4, rfl⟩
    rw [hyx] at hy
    have hy2 : [y0.1, y1.1, y2.1, y3.1, y4.1] = [.lit (.string (fmAt k).1), .lit (.int .u16 (fPt k)), .lit (.int .i64 (fNu k)), .lit (.int .i64 (fFt k)), .lit (.int .i64 (fFm k))] := by
      unfold fmDat at hy
      injection hy
    simp only [List.cons.injEq, and_true] at hy2
    obtain ⟨z0, z1, z2, z3, z4⟩ := hy2
    have t0 := hfld 0 _ rfl
    change DataW.trod _ Tryz.prog W 0 (fun _ => true) false n' 9 (([c0, c1, c2, c3, c4].drop 0).take (Tryz.prog.cellsOf 9)) = some y0 at t0
    rw [cS] at t0
    change DataW.trod _ Tryz.prog W 0 (fun _ => true) false n' 9 [c0] = some y0 at t0
    have t1 := hfld 1 _ rfl
    change DataW.trod _ Tryz.prog W 0 (fun _ => true) false n' 98 (([c0, c1, c2, c3, c4].drop 1).take (Tryz.prog.cellsOf 98)) = some y1 at t1
    rw [cP] at t1
    change DataW.trod _ Tryz.prog W 0 (fun _ => true) false n' 98 [c1] = some y1 at t1
    have t2 := hfld 2 _ rfl
    change DataW.trod _ Tryz.prog W 0 (fun _ => true) false n' 3 (([c0, c1, c2, c3, c4].drop 2).take (Tryz.prog.cellsOf 3)) = some y2 at t2
    rw [cI] at t2
    change DataW.trod _ Tryz.prog W 0 (fun _ => true) false n' 3 [c2] = some y2 at t2
    have t3 := hfld 3 _ rfl
    change DataW.trod _ Tryz.prog W 0 (fun _ => true) false n' 3 (([c0, c1, c2, c3, c4].drop 3).take (Tryz.prog.cellsOf 3)) = some y3 at t3
    rw [cI] at t3
    change DataW.trod _ Tryz.prog W 0 (fun _ => true) false n' 3 [c3] = some y3 at t3
    have t4 := hfld 4 _ rfl
    change DataW.trod _ Tryz.prog W 0 (fun _ => true) false n' 3 (([c0, c1, c2, c3, c4].drop 4).take (Tryz.prog.cellsOf 3)) = some y4 at t4
    rw [cI] at t4
    change DataW.trod _ Tryz.prog W 0 (fun _ => true) false n' 3 [c4] = some y4 at t4
    obtain ⟨s, e0, e0', _⟩ := DataW.trod_string Tryz.underlying9 t0
    obtain ⟨n1, e1, e1', _⟩ := DataW.trod_int Tryz.underlying98 t1
    obtain ⟨n2, e2, e2', _⟩ := DataW.trod_int Tryz.underlying3 t2
    obtain ⟨n3, e3, e3', _⟩ := DataW.trod_int Tryz.underlying3 t3
    obtain ⟨n4, e4, e4', _⟩ := DataW.trod_int Tryz.underlying3 t4
    subst e0'; subst e1'; subst e2'; subst e3'; subst e4'
    simp only [List.cons.injEq, and_true] at e0 e1 e2 e3 e4
    simp only [DataW.lit.injEq, Lit.string.injEq, Lit.int.injEq, true_and] at z0 z1 z2 z3 z4
    have hs : s = fNm k := by
      obtain ⟨⟨l⟩⟩ := s
      unfold fNm
      rw [← z0]
    refine ⟨(hcs 0 (by omega)).trans ?_, (hcs 1 (by omega)).trans ?_, (hcs 2 (by omega)).trans ?_, (hcs 3 (by omega)).trans ?_, (hcs 4 (by omega)).trans ?_⟩
    · show some c0 = _; rw [e0, hs]
    · show some c1 = _; rw [e1, z1]
    · show some c2 = _; rw [e2, z2]
    · show some c3 = _; rw [e3, z3]
    · show some c4 = _; rw [e4, z4]
  refine ⟨?_, fun k hk => (hcell _).trans (key k hk).1, fun k hk => (hcell _).trans (key k hk).2.1, fun k hk => (hcell _).trans (key k hk).2.2.1, fun k hk => (hcell _).trans (key k hk).2.2.2.1, fun k hk => (hcell _).trans (key k hk).2.2.2.2⟩
  exact World.block_lt_of_cell? W ⟨0, 0, none⟩ ((hcell 0).trans (key 0 (by omega)).1)
set_option maxRecDepth 100000 in
theorem tab_of_laid {W : World} (h : laidMetH Tryz.prog [("keysmith/inst.forms", Rows.laid_keysmith_inst_forms)] W) : Tab W := by
  rw [MakeChecks.laidMetH_plain _ _ _ (by kernel_rfl)] at h
  obtain ⟨ps, hv, _, _⟩ := h
  exact tab_of_reads (LaidVars_reads hv _ _ (by simp))
end Is
end Go.Proofs.YtblmagcekfbgdaaGreatDoor
namespace Go.Proofs.YtblmagcekfbgdaaGreatDoor
open Go Go.RowKit Go.Lib
namespace Is
open Nt
set_option linter.unusedVariables false
set_option linter.unusedSimpArgs false
set_option maxRecDepth 100000 in
theorem gOwn : Tryz.prog.globalNamed "keysmith/encode.own" = some 1 := by kernel_rfl
set_option maxRecDepth 100000 in
theorem yOwn : (Tryz.prog.globals[1]?).map (·.type) = some 113 := by kernel_rfl
set_option maxRecDepth 100000 in
theorem gTz : Tryz.prog.globalNamed "math/bits.deBruijn64tab" = some 3 := by kernel_rfl
set_option maxRecDepth 100000 in
theorem yTz : (Tryz.prog.globals[3]?).map (·.type) = some 133 := by kernel_rfl
def tzAll : List Int := [0, 1, 56, 2, 57, 49, 28, 3, 61, 58, 42, 50, 38, 29, 17, 4, 62, 47, 59, 36, 45, 43, 51, 22, 53, 39, 33, 30, 24, 18, 12, 5, 63, 55, 48, 27, 60, 41, 37, 16, 46, 35, 44, 21, 52, 32, 23, 11, 54, 26, 40, 15, 34, 20, 31, 10, 25, 14, 19, 9, 13, 8, 7, 6]
set_option maxRecDepth 100000 in
theorem laid_own : (Rows.laid_keysmith_encode_own : DataW Unit) = tabData .u8 ownL := by kernel_rfl
set_option maxRecDepth 100000 in
theorem laid_tz : (Rows.laid_math_bits_deBruijn64tab : DataW Unit) = tabData .u8 tzAll := by kernel_rfl
set_option maxRecDepth 100000 in
theorem cB : Tryz.prog.cellsOf 5 = 1 := by kernel_rfl
set_option maxRecDepth 100000 in
theorem c34 : Tryz.prog.cellsOf 113 = 34 := by kernel_rfl
set_option maxRecDepth 100000 in
theorem c64 : Tryz.prog.cellsOf 133 = 64 := by kernel_rfl
set_option maxRecDepth 100000 in
theorem own_of_reads {W : World} (h : VarReads Tryz.prog W "keysmith/encode.own" Rows.laid_keysmith_encode_own) : 1 < W.heap.size ∧ ∀ k : Nat, k < 34 → W.cell? ⟨1, k, none⟩ = some (.int .u8 (ownAt k)) := by
  obtain ⟨g0, t0, cs0, f0, p0, hg0, ht0, hv0, hd0⟩ := h
  obtain rfl := Option.some.inj (gOwn.symm.trans hg0)
  obtain rfl := Option.some.inj (yOwn.symm.trans ht0)
  rw [laid_own] at hd0
  have hcs := cells_of_tab Tryz.underlying113 Tryz.underlying5 cB c34 hd0
  have key : ∀ k : Nat, k < 34 → W.cell? ⟨1, k, none⟩ = some (.int .u8 (ownAt k)) := fun k hk => by
    have hl : k < ownL.length := hk
    rw [World.var?_cell hg0 hv0 k, ← Array.getElem?_toList, hcs, List.getElem?_map]
    unfold ownAt
    rw [List.getElem?_eq_getElem hl]
    rfl
  exact ⟨World.block_lt_of_cell? W ⟨1, 0, none⟩ (key 0 (by omega)), key⟩
set_option maxRecDepth 100000 in
theorem tz_of_reads {W : World} (h : VarReads Tryz.prog W "math/bits.deBruijn64tab" Rows.laid_math_bits_deBruijn64tab) : 3 < W.heap.size ∧ ∀ k : Nat, k < 8 → W.cell? ⟨3, k, none⟩ = some (.int .u8 (tzAt k)) := by
  obtain ⟨g0, t0, cs0, f0, p0, hg0, ht0, hv0, hd0⟩ := h
  obtain rfl := Option.some.inj (gTz.symm.trans hg0)
  obtain rfl := Option.some.inj (yTz.symm.trans ht0)
  rw [laid_tz] at hd0
  have hcs := cells_of_tab Tryz.underlying133 Tryz.underlying5 cB c64 hd0
  have key : ∀ k : Nat, k < 8 → W.cell? ⟨3, k, none⟩ = some (.int .u8 (tzAt k)) := fun k hk => by
    rw [World.var?_cell hg0 hv0 k, ← Array.getElem?_toList, hcs, List.getElem?_map]
    rcases (show k = 0 ∨ k = 1 ∨ k = 2 ∨ k = 3 ∨ k = 4 ∨ k = 5 ∨ k = 6 ∨ k = 7 by omega) with rfl | rfl | rfl | rfl | rfl | rfl | rfl | rfl <;> rfl
  exact ⟨World.block_lt_of_cell? W ⟨3, 0, none⟩ (key 0 (by omega)), key⟩
def laidL : List (String × DataW Unit) := [("keysmith/inst.forms", Rows.laid_keysmith_inst_forms), ("math/bits.deBruijn32tab", Rows.laid_math_bits_deBruijn32tab), ("math/bits.deBruijn64tab", Rows.laid_math_bits_deBruijn64tab), ("keysmith/encode.own", Rows.laid_keysmith_encode_own)]
set_option maxRecDepth 100000 in
theorem tabE_of_laid {W : World} (h : laidMetH Tryz.prog laidL W) : TabE W := by
  rw [MakeChecks.laidMetH_plain _ _ _ (by kernel_rfl)] at h
  obtain ⟨ps, hv, _, _⟩ := h
  have h1 := own_of_reads (LaidVars_reads hv _ _ (by simp [laidL]))
  have h2 := tz_of_reads (LaidVars_reads hv _ _ (by simp [laidL]))
  exact ⟨tab_of_reads (LaidVars_reads hv _ _ (by simp [laidL])), h1.1, h1.2, h2.1, h2.2⟩
end Is
end Go.Proofs.YtblmagcekfbgdaaGreatDoor
namespace Go.Proofs.YtblmagcekfbgdaaGreatDoor
namespace LawN
open Go Go.ChangeShapes Go.WideShapes Go.ChangeAt Go.RowKit Go.Lib
open Is Go.Deep
set_option linter.unusedVariables false
set_option maxRecDepth 100000 in
theorem own : ownKnob Tryz.prog.godebug = none := by kernel_rfl
set_option maxRecDepth 100000 in
theorem laidOut : laidOutB Tryz.prog = true := by kernel_rfl
set_option maxRecDepth 100000 in
/-- the places of arguments that nothing has turned read as before -/
theorem below_trodAll {H : Type} {enc : TypeId × Value → H} {P : Program} (hl : laidOutB P = true) {W W' : World} (hb : Below W.heap.size W W') : ∀ (ts : List TypeId) (vs : List Value) (ds : List (DataW H)) (p : List MemPlace),
    (∀ t ∈ ts, P.readableRec t = true ∧ t < P.types.size) → DataW.TrodAll enc P W 0 (fun _ => true) true ts vs ds p → (∀ x ∈ p, x.block < W.heap.size) →
    DataW.TrodAll enc P W' 0 (fun b => decide (b < W.heap.size)) true ts vs ds p := by
  intro ts
  induction ts with
  | nil =>
    intro vs ds p _ h _
    obtain ⟨rfl, rfl, rfl⟩ := trodAll_nil h
    exact trodAll_mk0
  | cons t ts ih =>
    intro vs ds p ht h hlt
    obtain ⟨v, vs', d, ds', q, r, rfl, rfl, rfl, h0, h1⟩ := trodAll_cons h
    obtain ⟨h2, h3⟩ := ht t (List.mem_cons_self ..)
    exact trodAll_cons_mk (Below.trod hl h2 h3 h0 hb (fun x hx => hlt x (List.mem_append_left _ hx))) (ih vs' ds' r (fun t' h' => ht t' (List.mem_cons_of_mem _ h')) h1 (fun x hx => hlt x (List.mem_append_right _ hx)))
set_option maxRecDepth 100000 in
theorem cells_inst : Tryz.prog.cellsOf 26 = 9 := by kernel_rfl
set_option maxRecDepth 100000 in
theorem cells_mem : Tryz.prog.cellsOf 24 = 4 := by kernel_rfl
set_option maxRecDepth 100000 in
theorem cells_i : Tryz.prog.cellsOf 3 = 1 := by kernel_rfl
set_option maxRecDepth 100000 in
theorem cells_i64 : Tryz.prog.cellsOf 2 = 1 := by kernel_rfl
set_option maxRecDepth 100000 in
theorem i64_wf {z : Int} (h : (Lit.int .i64 z).wf = true) : I64 z := by
  unfold I64
  simp [Lit.wf, IntKind.min, IntKind.max, IntKind.signed, IntKind.bits] at h; omega
set_option maxRecDepth 100000 in
/-- nine cells that read as an instruction are one -/
theorem nine {H : Type} {enc : TypeId × Value → H} {W : World} {cs : List Value} {fuel : Nat} {y : DataW H × List MemPlace} {held : Bool}
    (h : DataW.trod enc Tryz.prog W 0 (fun _ => true) held fuel 26 cs = some y) : ∃ i : Ins, cs = i.vs.toList ∧ i.wf := by
  obtain ⟨ys, n', _, hy, hcl, hyl, hfld⟩ := DataW.trod_struct Tryz.underlying26 h
  rw [cells_inst] at hcl
  obtain ⟨c0, c1, c2, c3, c4, c5, c6, c7, c8, rfl⟩ : ∃ c0 c1 c2 c3 c4 c5 c6 c7 c8, cs = [c0, c1, c2, c3, c4, c5, c6, c7, c8] := by
    match cs, hcl with
    | [c0, c1, c2, c3, c4, c5, c6, c7, c8], _ => exact ⟨c0, c1, c2, c3, c4, c5, c6, c7, c8, rfl⟩
  have hyl6 : ys.length = 6 := hyl
  obtain ⟨y0, y1, y2, y3, y4, y5, rfl⟩ : ∃ y0 y1 y2 y3 y4 y5, ys = [y0, y1, y2, y3, y4, y5] := by
    match ys, hyl6 with
    | [y0, y1, y2, y3, y4, y5], _ => exact ⟨y0, y1, y2, y3, y4, y5, rfl⟩
  have t0 := hfld 0 _ rfl
  change DataW.trod enc Tryz.prog W 0 (fun _ => true) held n' 3 (([c0, c1, c2, c3, c4, c5, c6, c7, c8].drop 0).take (Tryz.prog.cellsOf 3)) = some y0 at t0
  rw [cells_i] at t0
  change DataW.trod enc Tryz.prog W 0 (fun _ => true) held n' 3 [c0] = some y0 at t0
  have t1 := hfld 1 _ rfl
  change DataW.trod enc Tryz.prog W 0 (fun _ => true) held n' 3 (([c0, c1, c2, c3, c4, c5, c6, c7, c8].drop 1).take (Tryz.prog.cellsOf 3)) = some y1 at t1
  rw [cells_i] at t1
  change DataW.trod enc Tryz.prog W 0 (fun _ => true) held n' 3 [c1] = some y1 at t1
  have t2 := hfld 2 _ rfl
  change DataW.trod enc Tryz.prog W 0 (fun _ => true) held n' 3 (([c0, c1, c2, c3, c4, c5, c6, c7, c8].drop 2).take (Tryz.prog.cellsOf 3)) = some y2 at t2
  rw [cells_i] at t2
  change DataW.trod enc Tryz.prog W 0 (fun _ => true) held n' 3 [c2] = some y2 at t2
  have t3 := hfld 3 _ rfl
  change DataW.trod enc Tryz.prog W 0 (fun _ => true) held n' 3 (([c0, c1, c2, c3, c4, c5, c6, c7, c8].drop 3).take (Tryz.prog.cellsOf 3)) = some y3 at t3
  rw [cells_i] at t3
  change DataW.trod enc Tryz.prog W 0 (fun _ => true) held n' 3 [c3] = some y3 at t3
  have t4 := hfld 4 _ rfl
  change DataW.trod enc Tryz.prog W 0 (fun _ => true) held n' 24 (([c0, c1, c2, c3, c4, c5, c6, c7, c8].drop 4).take (Tryz.prog.cellsOf 24)) = some y4 at t4
  rw [cells_mem] at t4
  change DataW.trod enc Tryz.prog W 0 (fun _ => true) held n' 24 [c4, c5, c6, c7] = some y4 at t4
  have t5 := hfld 5 _ rfl
  change DataW.trod enc Tryz.prog W 0 (fun _ => true) held n' 2 (([c0, c1, c2, c3, c4, c5, c6, c7, c8].drop 8).take (Tryz.prog.cellsOf 2)) = some y5 at t5
  rw [cells_i64] at t5
  change DataW.trod enc Tryz.prog W 0 (fun _ => true) held n' 2 [c8] = some y5 at t5
  obtain ⟨ms, n2, _, hm, _, hml, hmf⟩ := DataW.trod_struct Tryz.underlying24 t4
  have hml4 : ms.length = 4 := hml
  obtain ⟨ym0, ym1, ym2, ym3, rfl⟩ : ∃ y0 y1 y2 y3, ms = [y0, y1, y2, y3] := by
    match ms, hml4 with
    | [y0, y1, y2, y3], _ => exact ⟨y0, y1, y2, y3, rfl⟩
  have m0 := hmf 0 _ rfl
  change DataW.trod enc Tryz.prog W 0 (fun _ => true) held n2 3 (([c4, c5, c6, c7].drop 0).take (Tryz.prog.cellsOf 3)) = some ym0 at m0
  rw [cells_i] at m0
  change DataW.trod enc Tryz.prog W 0 (fun _ => true) held n2 3 [c4] = some ym0 at m0
  have m1 := hmf 1 _ rfl
  change DataW.trod enc Tryz.prog W 0 (fun _ => true) held n2 3 (([c4, c5, c6, c7].drop 1).take (Tryz.prog.cellsOf 3)) = some ym1 at m1
  rw [cells_i] at m1
  change DataW.trod enc Tryz.prog W 0 (fun _ => true) held n2 3 [c5] = some ym1 at m1
  have m2 := hmf 2 _ rfl
  change DataW.trod enc Tryz.prog W 0 (fun _ => true) held n2 3 (([c4, c5, c6, c7].drop 2).take (Tryz.prog.cellsOf 3)) = some ym2 at m2
  rw [cells_i] at m2
  change DataW.trod enc Tryz.prog W 0 (fun _ => true) held n2 3 [c6] = some ym2 at m2
  have m3 := hmf 3 _ rfl
  change DataW.trod enc Tryz.prog W 0 (fun _ => true) held n2 2 (([c4, c5, c6, c7].drop 3).take (Tryz.prog.cellsOf 2)) = some ym3 at m3
  rw [cells_i64] at m3
  change DataW.trod enc Tryz.prog W 0 (fun _ => true) held n2 2 [c7] = some ym3 at m3
  obtain ⟨z0, e0, _, w0⟩ := DataW.trod_int Tryz.underlying3 t0
  obtain rfl : c0 = .int .i64 z0 := by simpa using e0
  obtain ⟨z1, e1, _, w1⟩ := DataW.trod_int Tryz.underlying3 t1
  obtain rfl : c1 = .int .i64 z1 := by simpa using e1
  obtain ⟨z2, e2, _, w2⟩ := DataW.trod_int Tryz.underlying3 t2
  obtain rfl : c2 = .int .i64 z2 := by simpa using e2
  obtain ⟨z3, e3, _, w3⟩ := DataW.trod_int Tryz.underlying3 t3
  obtain rfl : c3 = .int .i64 z3 := by simpa using e3
  obtain ⟨z4, e4, _, w4⟩ := DataW.trod_int Tryz.underlying3 m0
  obtain rfl : c4 = .int .i64 z4 := by simpa using e4
  obtain ⟨z5, e5, _, w5⟩ := DataW.trod_int Tryz.underlying3 m1
  obtain rfl : c5 = .int .i64 z5 := by simpa using e5
  obtain ⟨z6, e6, _, w6⟩ := DataW.trod_int Tryz.underlying3 m2
  obtain rfl : c6 = .int .i64 z6 := by simpa using e6
  obtain ⟨z7, e7, _, w7⟩ := DataW.trod_int Tryz.underlying2 m3
  obtain rfl : c7 = .int .i64 z7 := by simpa using e7
  obtain ⟨z8, e8, _, w8⟩ := DataW.trod_int Tryz.underlying2 t5
  obtain rfl : c8 = .int .i64 z8 := by simpa using e8
  exact ⟨⟨z0, z1, z2, z3, z4, z5, z6, z7, z8⟩, rfl, ⟨i64_wf w0, i64_wf w1, i64_wf w2, i64_wf w3, i64_wf w4, i64_wf w5, i64_wf w6, i64_wf w7, i64_wf w8⟩⟩
set_option maxRecDepth 100000 in
/-- an instruction that came in -/
theorem open_inst {H : Type} {enc : TypeId × Value → H} {W : World} {base : Nat} {v : Value} {d : DataW H} {p : List MemPlace} (hval : Value.okWide Tryz.prog W .any base 26 v)
    (h : DataW.Trod enc Tryz.prog W 0 (fun _ => true) true 26 v d p) : ∃ i : Ins, v = .agg i.vs ∧ i.wf := by
  obtain ⟨cs, rfl, hsz⟩ := okWide_struct Tryz.underlying26 hval
  obtain ⟨fuel, hf⟩ := h
  obtain ⟨i, hi, hw⟩ := nine hf
  refine ⟨i, ?_, hw⟩
  have h2 : cs.toList = i.vs.toList := hi
  rw [Array.toList_inj.1 h2]
set_option maxRecDepth 100000 in
/-- instructions of a slice that came in -/
theorem open_insts {H : Type} {enc : TypeId × Value → H} {W : World} {base : Nat} {v : Value} {d : DataW H} {p : List MemPlace} (hval : Value.okWide Tryz.prog W .any base 30 v)
    (h : DataW.Trod enc Tryz.prog W 0 (fun _ => true) true 30 v d p) (hlt : ∀ x ∈ p, x.block < W.heap.size) :
    ∃ A n c xs, v = .slice A n c ∧ RdX W W.heap.size A n xs ∧ n ≤ c ∧ c ≤ 9223372036854775807 := by
  obtain ⟨a0, len, cap, rfl⟩ := okWide_slice Tryz.underlying30 hval
  obtain ⟨fuel, hf⟩ := h
  rcases open_slice Tryz.underlying30 hf with ⟨hcs, hx⟩ | ⟨a, l1, k1, m, n, D, Pl, hcs, _, hl, hm, hmm, hx, hi⟩
  · simp [Value.cells] at hcs
    obtain ⟨rfl, rfl, rfl⟩ := hcs
    exact ⟨_, _, _, [], rfl, ⟨rfl, (fun _ h => by cases h), fun h => absurd h (by omega)⟩, Nat.le_refl _, by omega⟩
  · simp [Value.cells] at hcs
    obtain ⟨rfl, rfl, rfl⟩ := hcs
    simp only [Prod.mk.injEq] at hx
    obtain ⟨rfl, rfl⟩ := hx
    simp only [if_true] at hmm
    subst hmm
    rw [cells_inst] at hlt hi
    have each : ∀ i, i < m → ∃ x : Ins, x.wf ∧ InAt W (a.add (i * 9)) x := by
      intro i hic
      obtain ⟨cs, hc, ht⟩ := hi i hic
      obtain ⟨_, hcl, hat⟩ := World.cells?_some hc
      obtain ⟨x, rfl, hw⟩ := nine ht
      have e : ∀ d, d ≠ 0 → (a.add (i * 9)).add d = ⟨(a.add (i * 9)).block, (a.add (i * 9)).off + d, none⟩ := fun d hd => by unfold Addr.add; simp [hd]
      have e0 : (a.add (i * 9)).add 0 = a.add (i * 9) := by unfold Addr.add; simp
      have g0 := hat 0 (by omega)
      have g1 := hat 1 (by omega)
      have g2 := hat 2 (by omega)
      have g3 := hat 3 (by omega)
      have g4 := hat 4 (by omega)
      have g5 := hat 5 (by omega)
      have g6 := hat 6 (by omega)
      have g7 := hat 7 (by omega)
      have g8 := hat 8 (by omega)
      rw [e0] at g0
      rw [e 1 (by omega)] at g1
      rw [e 2 (by omega)] at g2
      rw [e 3 (by omega)] at g3
      rw [e 4 (by omega)] at g4
      rw [e 5 (by omega)] at g5
      rw [e 6 (by omega)] at g6
      rw [e 7 (by omega)] at g7
      rw [e 8 (by omega)] at g8
      exact ⟨x, hw, ⟨g0, g1, g2, g3, g4, g5, g6, g7, g8⟩⟩
    have hm' : m ≤ 9223372036854775807 := by simpa [maxLen] using hm
    have hall : ∃ xs : List Ins, xs.length = len ∧ ∀ (j : Nat) (x : Ins), xs[j]? = some x → x.wf ∧ InAt W (a.add (j * 9)) x := by
      have key : ∀ k, k ≤ len → ∃ xs : List Ins, xs.length = k ∧ ∀ (j : Nat) (x : Ins), xs[j]? = some x → x.wf ∧ InAt W (a.add (j * 9)) x := by
        intro k
        induction k with
        | zero => exact fun _ => ⟨[], rfl, fun j r hj => by simp at hj⟩
        | succ k ih =>
          intro hk
          obtain ⟨xs, hl1, hrs⟩ := ih (by omega)
          obtain ⟨r, h1, h2⟩ := each k (by omega)
          refine ⟨xs ++ [r], by simp [hl1], fun j s hj => ?_⟩
          rcases Nat.lt_or_ge j k with h3 | h3
          · rw [List.getElem?_append_left (by omega)] at hj; exact hrs j s hj
          · rw [List.getElem?_append_right (by omega)] at hj
            have h4 := (List.getElem?_eq_some_iff.1 hj).1
            simp at h4
            have hjk : j = k := by omega
            subst hjk
            rw [hl1, Nat.sub_self] at hj
            obtain rfl : r = s := by simpa using hj
            exact ⟨h1, h2⟩
      exact key len (Nat.le_refl _)
    obtain ⟨xs, hl1, hrs⟩ := hall
    refine ⟨_, _, _, xs, rfl, ⟨hl1, fun r hr => ?_, fun h0 => ⟨a, rfl, ?_, fun j r hj => (hrs j r hj).2⟩⟩, hl, hm'⟩
    · obtain ⟨j, hj⟩ := List.mem_iff_getElem?.1 hr
      exact (hrs j r hj).1
    · obtain ⟨b, off, spot⟩ := a
      exact hlt (.cell b off) (List.mem_append_left _ (MemPlace.mem_row.2 ⟨0, by omega, by simp⟩))
end LawN
end Go.Proofs.YtblmagcekfbgdaaGreatDoor
namespace Go.Proofs.YtblmagcekfbgdaaGreatDoor
namespace LawN
open Go Go.ChangeShapes Go.WideShapes Go.ChangeAt Go.RowKit Go.Lib
open Is Go.Deep
set_option linter.unusedVariables false
/-- the table's cells, as its initialiser lays them -/
def formCells : Array Value := (fmTab.flatMap fun r => [.string ⟨r.1.toArray⟩, .int .u16 r.2.1, .int .i64 r.2.2.1, .int .i64 r.2.2.2.1, .int .i64 r.2.2.2.2]).toArray
def putCells (h : Array Obj) (g : Nat) (cs : Array Value) : Array Obj := h.modify g fun
    | .cells _ t frozen => .cells cs t frozen
    | o => o
def tz32 : List Int := [0, 1, 28, 2, 29, 14, 24, 3, 30, 22, 20, 15, 25, 17, 4, 8, 31, 27, 13, 23, 21, 19, 16, 7, 26, 12, 18, 6, 11, 5, 10, 9]
def u8Cells (zs : List Int) : Array Value := (zs.map (Value.int .u8)).toArray
/-- the settled world, the tables holding what their initialisers lay -/
noncomputable def laidWorld (os : Os) : World :=
  let w0 := World.holding Tryz.prog os ⟨#[], #[], []⟩
  { w0 with heap := putCells (putCells (putCells (putCells w0.heap 0 formCells) 1 (u8Cells ownL)) 2 (u8Cells tz32)) 3 (u8Cells tzAll) }
set_option maxRecDepth 100000 in
theorem laid_met (os : Os) (args : Array Value) : laidMet Tryz.prog laidL ((laidWorld os).forCall (fun _ _ => 0) ⟨#[], args, []⟩).memory :=
  (LaidIn.of_run (l := laidL) [0, 2, 3, 1] 8 (by kernel_rfl) (by kernel_rfl) (by kernel_rfl) (by kernel_rfl)).met
end LawN
end Go.Proofs.YtblmagcekfbgdaaGreatDoor
