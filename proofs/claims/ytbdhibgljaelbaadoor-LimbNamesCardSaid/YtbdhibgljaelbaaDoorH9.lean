/- The document's own run of a limb program: its block, its rows; a register read. | Contracts of the document's own sums, differences, products of words. | The document's own run: an operation that is no loop, no end. -/
import Derived.Test.YtbdhibgljaelbaaDoorF4
import Derived.Test.YtbdhibgljaelbaaDoorN3
import Derived.Test.YtbdhibgljaelbaaDoorA1
import Derived.Test.YtbdhibgljaelbaaDoorMF
import Derived.Test.YtbdhibgljaelbaaDoorSC
import Derived.BigQuiet
import Derived.StillTailTactics
import Derived.Deep.CutBlock
import Derived.Deep.CutRange
namespace Go.Proofs.YtbdhibgljaelbaaDoor
open Go Go.RowKit Go.Sort Go.Shelf
namespace Lb
open Wd Nt Gr
set_option linter.unusedVariables false
set_option linter.unusedSimpArgs false
/-- rows, each in a block of its own -/
structure RowsK (w : World) (B : Nat) (xs : List (Nat × List Int)) : Prop where
  each : ∀ x ∈ xs, B ≤ x.1 ∧ Bk w x.1 31 (us x.2) ∧ Ws x.2
  nd : (xs.map (·.1)).Nodup
section
variable {w w' : World} {B : Nat} {xs : List (Nat × List Int)}
theorem RowsK.below (h : RowsK w B xs) (hb : Below w.heap.size w w') : RowsK w' B xs :=
  ⟨fun x hx => ⟨(h.each x hx).1, (h.each x hx).2.1.below hb (h.each x hx).2.1.lt, (h.each x hx).2.2⟩, h.nd⟩
theorem RowsK.far {a i : Nat} {t' : TypeId} {cs' : Array Value} {u : Value} (h : RowsK w B xs) (h' : Bk w a t' cs') (h2 : 31 ≠ t') : RowsK (w.setCell ⟨a, i, none⟩ u) B xs :=
  ⟨fun x hx => ⟨(h.each x hx).1, bk_far (h.each x hx).2.1 h' h2, (h.each x hx).2.2⟩, h.nd⟩
theorem RowsK.grown {e : TypeId} {s n : Nat} {v : Value} {ys : List Value} {B' : Nat} (h : RowsK w B xs) (ho : w.ownsRow B' e s v n ys) (hne : e ≠ 31) (hg : w.grownBy w' v.ownBlock) : RowsK w' B xs :=
  ⟨fun x hx => ⟨(h.each x hx).1, own_other ho (h.each x hx).2.1 hne hg, (h.each x hx).2.2⟩, h.nd⟩
theorem set_fst {i g : Nat} {ys zs : List Int} (hi : xs[i]? = some (g, ys)) : (xs.set i (g, zs)).map (·.1) = xs.map (·.1) := by
  have hil := (List.getElem?_eq_some_iff.1 hi).1
  apply List.ext_getElem?
  intro k
  rw [List.getElem?_map, List.getElem?_map, List.getElem?_set]
  by_cases e : i = k
  · subst e
    rw [if_pos rfl, if_pos hil, hi]
    rfl
  · rw [if_neg e]
theorem RowsK.store (h : RowsK w B xs) {i g : Nat} {ys : List Int} (hi : xs[i]? = some (g, ys)) (q : Nat) {v : Int} (hv : W v) : RowsK (w.setCell ⟨g, q, none⟩ (.int .u64 v)) B (xs.set i (g, ys.set q v)) := by
  obtain ⟨e1, e2, e3⟩ := h.each _ (List.mem_of_getElem? hi)
  have hil := (List.getElem?_eq_some_iff.1 hi).1
  refine ⟨fun x hx => ?_, by rw [set_fst hi]; exact h.nd⟩
  obtain ⟨k, hk, hxk⟩ := List.getElem_of_mem hx
  have hkl : k < xs.length := by rw [List.length_set] at hk; exact hk
  by_cases e : i = k
  · subst e
    rw [List.getElem_set_self] at hxk
    subst hxk
    exact ⟨e1, by rw [← us_set]; exact e2.set_ q _, e3.set q hv⟩
  · rw [List.getElem_set_ne e] at hxk
    subst hxk
    have hm := List.getElem_mem hkl
    obtain ⟨k1, k2, k3⟩ := h.each _ hm
    refine ⟨k1, k2.far (p := ⟨g, q, none⟩) ?_ _, k3⟩
    intro e4
    have hn := List.pairwise_iff_getElem.1 h.nd
    have ei : xs[i] = (g, ys) := by rw [List.getElem?_eq_getElem hil] at hi; exact Option.some.inj hi
    rcases Nat.lt_or_gt_of_ne e with h5 | h5
    · refine hn i k (by rw [List.length_map]; exact hil) (by rw [List.length_map]; exact hkl) h5 ?_
      rw [List.getElem_map, List.getElem_map, ei]
      exact e4.symm
    · refine hn k i (by rw [List.length_map]; exact hkl) (by rw [List.length_map]; exact hil) h5 ?_
      rw [List.getElem_map, List.getElem_map, ei]
      exact e4
theorem toHr_set {i g : Nat} {ys zs : List Int} (hl : zs.length = ys.length) (hi : xs[i]? = some (g, ys)) : row ((xs.set i (g, zs)).map toHr) = row (xs.map toHr) := by
  rw [row_toHr, row_toHr]
  have hil := (List.getElem?_eq_some_iff.1 hi).1
  apply List.ext_getElem?
  intro k
  rw [List.getElem?_map, List.getElem?_map, List.getElem?_set]
  by_cases e : i = k
  · subst e
    rw [if_pos rfl, if_pos hil, hi]
    show some (slv (g, zs)) = some (slv (g, ys))
    unfold slv
    simp [hl]
  · rw [if_neg e]
end
/-- registers, as a row -/
def rgN (rg : Nat → Int) (n : Nat) : List Int := (List.range n).map rg
theorem rgN_len (rg : Nat → Int) (n : Nat) : (rgN rg n).length = n := by unfold rgN; simp
theorem rgN_get (rg : Nat → Int) {n i : Nat} (h : i < n) : (rgN rg n)[i]? = some (rg i) := by
  unfold rgN
  rw [List.getElem?_map, List.getElem?_range h]
  rfl
theorem rgN_set (rg : Nat → Int) {n i : Nat} (h : i < n) (v : Int) : (rgN rg n).set i v = rgN (put rg (i : Int) v) n := by
  apply List.ext_getElem?
  intro k
  rw [put_nat]
  rcases Nat.lt_or_ge k n with hk | hk
  · rw [rgN_get _ hk, List.getElem?_set, rgN_len]
    by_cases e : i = k
    · subst e; rw [if_pos rfl, if_pos hk, if_pos rfl]
    · rw [if_neg e, rgN_get _ hk, if_neg (fun e' => e e'.symm)]
  · rw [List.getElem?_eq_none (by rw [List.length_set, rgN_len]; exact hk), List.getElem?_eq_none (by rw [rgN_len]; exact hk)]
theorem rgN_Ws {rg : Nat → Int} (h : ∀ i, W (rg i)) (n : Nat) : Ws (rgN rg n) := by
  intro x hx
  unfold rgN at hx
  obtain ⟨i, _, rfl⟩ := List.mem_map.1 hx
  exact h i
theorem put_neg (rg : Nat → Int) (v : Int) : put rg (-1) v = rg := by
  funext i
  unfold put
  rw [if_neg (by rintro ⟨h, _⟩; exact h rfl)]
theorem put_W {rg : Nat → Int} (h : ∀ i, W (rg i)) (r : Int) {v : Int} (hv : W v) : ∀ i, W (put rg r v i) := by
  intro i
  unfold put
  split
  · exact hv
  · exact h i
/-- a program's three cells -/
structure Pc where
  rg : Int
  A : Option Addr
  n : Nat
  c : Nat
  X : Option Addr
  m : Nat
  d : Nat
  I : EnV
/-- the document's own run under way (with a row of ints of its own that stays) -/
structure RfW (w : World) (B R : Nat) (pc : Pc) (G nr : Nat) (rg : Nat → Int) (xs : List (Nat × List Int)) (seen : List Ev) : Prop where
  ex : ∃ bv sv, Bk w R 89 #[.int .i64 pc.rg, .slice pc.A pc.n pc.c, .slice pc.X pc.m pc.d, .slice (some ⟨G, 0, none⟩) nr nr, bv, sv] ∧ Rws 43 B bv (xs.map toHr) w ∧ Rws 46 B sv seen w
  hR : B ≤ R
  rk : RowsK w B ((G, rgN rg nr) :: xs)
  rgs : ∀ i, W (rg i)
  en : Rws 3 B pc.I.v pc.I.xs w
section
variable {w w' : World} {B R : Nat} {pc : Pc} {G nr : Nat} {rg : Nat → Int} {xs : List (Nat × List Int)} {seen : List Ev}
theorem RfW.below (h : RfW w B R pc G nr rg xs seen) (hb : Below w.heap.size w w') : RfW w' B R pc G nr rg xs seen := by
  obtain ⟨bv, sv, h1, h2, h3⟩ := h.ex
  exact ⟨⟨bv, sv, h1.below hb h1.lt, own_below h2 hb, own_below h3 hb⟩, h.hR, h.rk.below hb, h.rgs, own_below h.en hb⟩
theorem RfW.drewN (h : RfW w B R pc G nr rg xs seen) (n : Nat) : RfW (w.drewN n) B R pc G nr rg xs seen := h.below (below_drewN (Below.refl _ _) n)
theorem RfW.cells (h : RfW w B R pc G nr rg xs seen) : w.cell? ⟨R, 0, none⟩ = some (.int .i64 pc.rg) ∧ w.cell? ⟨R, 1, none⟩ = some (.slice pc.A pc.n pc.c) ∧ w.cell? ⟨R, 2, none⟩ = some (.slice pc.X pc.m pc.d) ∧ w.cell? ⟨R, 3, none⟩ = some (.slice (some ⟨G, 0, none⟩) nr nr) ∧ R < w.heap.size ∧ B ≤ G ∧ G < w.heap.size := by
  obtain ⟨bv, sv, h1, h2, h3⟩ := h.ex
  have hg := h.rk.each _ List.mem_cons_self
  exact ⟨h1.cell 0, h1.cell 1, h1.cell 2, h1.cell 3, h1.lt, hg.1, hg.2.1.lt⟩
theorem RfW.reg (h : RfW w B R pc G nr rg xs seen) {j : Nat} (hj : j < nr) : w.cell? ⟨G, j, none⟩ = some (.int .u64 (rg j)) ∧ w.frozen? ⟨G, j, none⟩ = false := by
  have hg := (h.rk.each _ List.mem_cons_self).2.1
  refine ⟨(hg.cell j).trans ?_, hg.frozen j⟩
  unfold us
  rw [List.getElem?_toArray, List.getElem?_map, rgN_get rg hj]
  rfl
/-- a register stored -/
theorem RfW.put (h : RfW w B R pc G nr rg xs seen) {j : Nat} (hj : j < nr) {v : Int} (hv : W v) : RfW (w.setCell ⟨G, j, none⟩ (.int .u64 v)) B R pc G nr (Lb.put rg (j : Int) v) xs seen := by
  obtain ⟨bv, sv, h1, h2, h3⟩ := h.ex
  have hg := (h.rk.each _ List.mem_cons_self).2.1
  have hs := h.rk.store (i := 0) (g := G) (ys := rgN rg nr) rfl j hv
  rw [List.set_cons_zero, rgN_set rg hj] at hs
  exact ⟨⟨bv, sv, bk_far h1 hg (by decide), own_far h2 hg (by decide), own_far h3 hg (by decide)⟩, h.hR, hs, put_W h.rgs _ hv, own_far h.en hg (by decide)⟩
/-- the row of a buffer -/
theorem RfW.row (h : RfW w B R pc G nr rg xs seen) {i g : Nat} {ys : List Int} (hi : xs[i]? = some (g, ys)) :
    ∃ Y c, w.cell? ⟨R, 4, none⟩ = some (.slice (some ⟨Y, 0, none⟩) xs.length c) ∧ w.cell? ⟨Y, i, none⟩ = some (.slice (some ⟨g, 0, none⟩) ys.length ys.length) ∧ (∀ q, q < ys.length → w.cell? ⟨g, q, none⟩ = some (.int .u64 (Nt.at_ ys q))) ∧ (∀ q, w.frozen? ⟨g, q, none⟩ = false) ∧ B ≤ g ∧ g < w.heap.size ∧ Ws ys := by
  obtain ⟨bv, sv, h1, h2, h3⟩ := h.ex
  obtain ⟨A, c, rfl, hc⟩ := rws_form h2
  have hil := (List.getElem?_eq_some_iff.1 hi).1
  obtain ⟨e1, e2, e3⟩ := h.rk.each _ (List.mem_cons_of_mem _ (List.mem_of_getElem? hi))
  obtain ⟨b, o, rfl, hb, hcell⟩ := hr_at (rws_rd h2).2.1 (show (xs.map toHr)[i]? = some (toHr (g, ys)) by rw [List.getElem?_map, hi]; rfl)
  have h4 := h1.cell 4
  rcases h2.2 with ⟨e4, _⟩ | ⟨g', cap, cur, e4, _⟩
  · cases e4
  · cases e4
    rw [Nat.zero_add] at hcell
    refine ⟨b, c, ?_, hcell, fun q hq => (e2.cell q).trans (us_get hq), fun q => e2.frozen q, e1, e2.lt, e3⟩
    rw [h4]
    simp
/-- a limb stored -/
theorem RfW.store (h : RfW w B R pc G nr rg xs seen) {i g : Nat} {ys : List Int} (hi : xs[i]? = some (g, ys)) (q : Nat) {v : Int} (hv : W v) : RfW (w.setCell ⟨g, q, none⟩ (.int .u64 v)) B R pc G nr rg (xs.set i (g, ys.set q v)) seen := by
  obtain ⟨bv, sv, h1, h2, h3⟩ := h.ex
  obtain ⟨e1, e2, e3⟩ := h.rk.each _ (List.mem_cons_of_mem _ (List.mem_of_getElem? hi))
  have hs := h.rk.store (i := i + 1) (g := g) (ys := ys) (by rw [List.getElem?_cons_succ]; exact hi) q hv
  rw [List.set_cons_succ] at hs
  refine ⟨⟨bv, sv, bk_far h1 e2 (by decide), ?_, own_far h3 e2 (by decide)⟩, h.hR, hs, h.rgs, own_far h.en e2 (by decide)⟩
  have h4 := own_far (i := q) (u := .int .u64 v) h2 e2 (show (43 : TypeId) ≠ 31 by decide)
  unfold Rws
  rw [toHr_set (by simp) hi, List.length_map, List.length_set]
  rw [List.length_map] at h4
  exact h4
end
set_option maxRecDepth 100000 in
theorem rat_l (B R : Nat) (pc : Pc) (G nr : Nat) (rg : Nat → Int) (xs : List (Nat × List Int)) (seen : List Ev) (r : Int) (hr : -1 ≤ r ∧ r < nr) (hn : nr ≤ 64) (w : World) (h : RfW w B R pc G nr rg xs seen) :
    Calls Tryd.prog 79 #[.pointer (some ⟨R, 0, none⟩), .int .i64 r] w fun e w' => e = .returned (.int .u64 (hld rg r)) ∧ w' = w := by
  unfold hld
  by_cases h1 : r = -1
  · subst h1
    go_enter Tryd.func79, Tryd.ntmps79
    go_wp2_with fail
    go_ret
    exact ⟨rfl, rfl⟩
  · rw [if_neg h1]
    obtain ⟨j, rfl⟩ : ∃ j : Nat, r = (j : Int) := ⟨r.toNat, by omega⟩
    have hj : j < nr := by omega
    obtain ⟨_, _, _, r3, _⟩ := h.cells
    have hc := (h.reg hj).1
    have h2 : (j : Int) < (nr : Int) := by omega
    have h3 : ¬ (j : Int) < 0 := by omega
    have h0 : (0 : Int) ≤ (j : Int) := by omega
    rw [Int.toNat_natCast]
    generalize rg j = v at *
    clear h h1 hr
    go_enter Tryd.func79, Tryd.ntmps79
    go_wp2_with fail
    go_ret
    exact ⟨rfl, rfl⟩
theorem rbit_l (b : Bool) (w : World) : Calls Tryd.prog 82 #[.bool b] w fun e w' => e = .returned (.int .u64 (b1 b)) ∧ w' = w := by
  cases b <;> (
    go_enter Tryd.func82, Tryd.ntmps82
    go_wp2_with fail
    go_ret
    exact ⟨rfl, rfl⟩)
end Lb
end Go.Proofs.YtbdhibgljaelbaaDoor
namespace Go.Proofs.YtbdhibgljaelbaaDoor
open Go.RowKit
namespace Wd
set_option linter.unusedVariables false
theorem radd_c (a b : Int) (c : Bool) (w : World) (ha : W a) (hb : W b) :
    Calls Tryd.prog 81 #[.int .u64 a, .int .u64 b, .bool c] w fun e w' => e = .returned (.tuple #[.int .u64 (add a b c), .bool (addO a b c)]) ∧ w = w' := by
  obtain ⟨ha, ha'⟩ := ha
  obtain ⟨hb, hb'⟩ := hb
  cases c <;> go_enter Tryd.func81, Tryd.ntmps81 <;> go_wp2 <;> go_ret2 <;> refine ⟨ret_ib ?_ ?_, rfl⟩
  all_goals (try unfold add); (try unfold addO); simp only [b1, IntKind.wrap_u64, if_true, if_false, Bool.false_eq_true] at *
  all_goals first | omega | (rw [Bool.eq_iff_iff]; simp; omega)
theorem rsub_c (a b : Int) (c : Bool) (w : World) (ha : W a) (hb : W b) :
    Calls Tryd.prog 83 #[.int .u64 a, .int .u64 b, .bool c] w fun e w' => e = .returned (.tuple #[.int .u64 (sub a b c), .bool (subO a b c)]) ∧ w = w' := by
  obtain ⟨ha, ha'⟩ := ha
  obtain ⟨hb, hb'⟩ := hb
  cases c <;> go_enter Tryd.func83, Tryd.ntmps83 <;> go_wp2 <;> go_ret2 <;> refine ⟨ret_ib ?_ ?_, rfl⟩
  all_goals (try unfold sub); (try unfold subO); simp only [b1, IntKind.wrap_u64, if_true, if_false, Bool.false_eq_true] at *
  all_goals first | omega | (rw [Bool.eq_iff_iff]; simp; omega)
theorem rmul_c (a b : Int) (w : World) (ha : W a) (hb : W b) :
    Calls Tryd.prog 80 #[.int .u64 a, .int .u64 b] w fun e w' => e = .returned (.tuple #[.int .u64 (mulH a b), .int .u64 (mulL a b)]) ∧ w = w' := by
  have hfin := mul_halves (a / 4294967296) (a % 4294967296) (b / 4294967296) (b % 4294967296)
  obtain ⟨ha, ha'⟩ := ha
  obtain ⟨hb, hb'⟩ := hb
  replace hfin := hfin (by omega) (by omega) (by omega) (by omega) (by omega) (by omega) (by omega) (by omega)
  rw [show a / 4294967296 * 4294967296 + a % 4294967296 = a from by omega, show b / 4294967296 * 4294967296 + b % 4294967296 = b from by omega] at hfin
  have p1 := half_mul (x := a / 4294967296) (y := b / 4294967296) (by omega) (by omega) (by omega) (by omega)
  have p2 := half_mul (x := a / 4294967296) (y := b % 4294967296) (by omega) (by omega) (by omega) (by omega)
  have p3 := half_mul (x := a % 4294967296) (y := b / 4294967296) (by omega) (by omega) (by omega) (by omega)
  have p4 := half_mul (x := a % 4294967296) (y := b % 4294967296) (by omega) (by omega) (by omega) (by omega)
  have l1 := and_low a ha ha'
  have l2 := and_low b hb hb'
  have l3 := and_low (a / 4294967296 * (b % 4294967296) + a % 4294967296 * (b % 4294967296) / 4294967296) (by omega) (by omega)
  have H := Lib.hid hfin
  clear hfin
  go_enter Tryd.func80, Tryd.ntmps80
  go_wp2_with fail
  go_ret2
  refine ⟨ret_ii ?_ ?_, rfl⟩
  · exact H.out.1.symm
  · rw [IntKind.wrap_u64]; rfl
end Wd
end Go.Proofs.YtbdhibgljaelbaaDoor
namespace Go.Proofs.YtbdhibgljaelbaaDoor
open Go Go.RowKit Go.Sort Go.Shelf
namespace Lb
open Wd Nt Gr
set_option linter.unusedVariables false
set_option linter.unusedSimpArgs false
section
variable {w w' : World} {B R : Nat} {pc : Pc} {G nr : Nat} {rg : Nat → Int} {xs : List (Nat × List Int)} {seen : List Ev}
/-- an event seen: the append's run, and what is then -/
theorem RfW.see (h : RfW w B R pc G nr rg xs seen) {gl : Nat} {a b : Int} (hl : Bk w gl 46 #[.int .i64 a, .int .i64 b]) (hB : B ≤ w.heap.size) (hs : seen.length ≤ 20000000) :
    ∃ A n c A' n' c' w3, w.cell? ⟨R, 5, none⟩ = some (.slice A n c) ∧ (Builtin.append_ #[40, 40] 40 #[.slice A n c, .slice (some ⟨gl, 0, none⟩) 1 1]).run Tryd.prog w = .ok (.slice A' n' c') w3 ∧ (w3.cell? ⟨R, 5, none⟩ = some (.slice A n c) ∧ w3.frozen? ⟨R, 5, none⟩ = false ∧ R < w3.heap.size) ∧ RfW (w3.setCell ⟨R, 5, none⟩ (.slice A' n' c')) B R pc G nr rg xs (seen ++ [(a, b)]) ∧ (Below B w w3) := by
  obtain ⟨bv, sv, h1, h2, h3⟩ := h.ex
  obtain ⟨i, hi, hz, q2, q3⟩ := info_parts info_ev
  obtain ⟨A, c, rfl, hc⟩ := rws_form h3
  obtain ⟨A', c', w3, h4, h5, h6, h7⟩ := app_one (z := (a, b)) 40 40 i _ 16 Tryd.underlying40 hi hz q2 q3 rfl h3 hl (by omega) (by simp only [maxLen]; omega) hB
  have k1 := own_other h3 h1 (show (46 : TypeId) ≠ 89 by decide) h6
  have k2 := own_own h2 h3 (show (43 : TypeId) ≠ 46 by decide) h6
  have k3 := h.rk.grown h3 (show (46 : TypeId) ≠ 31 by decide) h6
  refine ⟨A, _, c, A', _, c', w3, h1.cell 5, h4, ⟨k1.cell 5, k1.frozen 5, k1.lt⟩, ⟨⟨bv, _, k1.set_ 5 _, own_far k2 k1 (show (43 : TypeId) ≠ 89 by decide), ?_⟩, h.hR, k3.far k1 (show (31 : TypeId) ≠ 89 by decide), h.rgs, own_far (own_own h.en h3 (show (3 : TypeId) ≠ 46 by decide) h6) k1 (show (3 : TypeId) ≠ 89 by decide)⟩, own_grown h3 h6 (Below.refl _ _) (Nat.le_refl _) hB⟩
  exact own_far h5 k1 (show (46 : TypeId) ≠ 89 by decide)
end
theorem bel_tr' {B : Nat} {a b c : World} {o : Obj} (h1 : Below B a b) (h2 : Below b.heap.size b (b.alloc o)) (h3 : Below B (b.alloc o) c) (hB : B ≤ b.heap.size) : Below B a c := (h1.trans (h2.mono hB)).trans h3
theorem W_at {ys : List Int} (h : Ws ys) {q : Nat} (hq : q < ys.length) : Wd.W (Nt.at_ ys q) := by
  unfold Nt.at_
  rw [List.getElem?_eq_getElem hq]
  exact h _ (List.getElem_mem hq)
/-- what an operation's run comes to -/
def DoA (w : World) (B R : Nat) (pc : Pc) (G nr : Nat) (ops : List Op) (ends : List Int) (s : St) (xs : List (Nat × List Int)) (e : Ending) (w' : World) : Prop :=
  Below B w w' ∧ ((stp ops ends s = none ∧ e = .returned (.bool false) ∧ RfW w' B R pc G nr s.rg xs s.seen) ∨
    ∃ s' xs', stp ops ends s = some s' ∧ e = .returned (.bool true) ∧ RfW w' B R pc G nr s'.rg xs' s'.seen ∧ xs'.map (·.2) = s'.rows ∧ Dim xs.length xs')
set_option maxRecDepth 100000 in
set_option maxHeartbeats 16000000 in
theorem do_r (B R : Nat) (pc : Pc) (G nr : Nat) (rg : Nat → Int) (xs : List (Nat × List Int)) (seen : List Ev) (ops : List Op) (ends : List Int) (i : Nat) (o : Op) (hnr : nr ≤ 64) (ho : ops[i]? = some o) (him : i < pc.m) (hpm : pc.m ≤ 65536) (h16 : o.k ≠ 16) (h17 : o.k ≠ 17) (hst : StOk ops ends xs.length i o) (hl : RgL (nr : Int) o) (hd : Dim xs.length xs) (hno : (hD o.k = false → o.d = -1) ∧ (hE o.k = false → o.e = -1)) (w : World) (h : RfW w B R pc G nr rg xs seen) (hX : Rdr w B pc.X pc.m ops) (hB : B ≤ w.heap.size) (hs : seen.length ≤ 16777216) :
    Calls Tryd.prog 55 #[.pointer (some ⟨R, 0, none⟩), .int .i64 (i : Int)] w (DoA w B R pc G nr ops ends ⟨i, rg, xs.map (·.2), seen⟩ xs) := by
  have oi : opAt ops i = o := opAt_of ho
  have HPL : Hid (mm o.k = false → stp ops ends ⟨i, rg, xs.map (·.2), seen⟩ = some ⟨i + 1, Lb.put (Lb.put rg o.d (resD o.k o.im (hld rg o.a) (hld rg o.b) (hld rg o.c))) o.e (resE o.k (hld rg o.a) (hld rg o.b) (hld rg o.c)), xs.map (·.2), seen ++ [((i : Int), -1)]⟩) := Lib.hid (fun hm => by
    unfold stp
    dsimp only
    rw [oi, if_neg h16, if_neg h17, if_neg (by rw [hm]; decide)])
  have HM0 : Hid (mm o.k = true → ∀ q : Nat, (o.im + hld rg o.a) % 18446744073709551616 = (q : Int) → ((rowAt (xs.map (·.2)) o.bf).length : Int) ≤ (q : Int) → stp ops ends ⟨i, rg, xs.map (·.2), seen⟩ = none) := Lib.hid (fun hm q hq hlt => by
    unfold stp
    dsimp only
    rw [oi, if_neg h16, if_neg h17, if_pos hm, hq, if_pos hlt])
  have HM15 : Hid (o.k = 15 → ∀ q : Nat, (o.im + hld rg o.a) % 18446744073709551616 = (q : Int) → ¬ ((rowAt (xs.map (·.2)) o.bf).length : Int) ≤ (q : Int) → stp ops ends ⟨i, rg, xs.map (·.2), seen⟩ = some ⟨i + 1, rg, (xs.map (·.2)).set o.bf.toNat ((rowAt (xs.map (·.2)) o.bf).set q (rg o.b.toNat)), seen ++ [((i : Int), (q : Int))]⟩) := Lib.hid (fun h15 q hq hlt => by
    unfold stp
    dsimp only
    rw [oi, if_neg h16, if_neg h17, if_pos (by rw [h15]; rfl), hq, if_neg hlt, if_pos h15, Int.toNat_natCast])
  have HM14 : Hid (o.k = 14 → ∀ q : Nat, (o.im + hld rg o.a) % 18446744073709551616 = (q : Int) → ¬ ((rowAt (xs.map (·.2)) o.bf).length : Int) ≤ (q : Int) → stp ops ends ⟨i, rg, xs.map (·.2), seen⟩ = some ⟨i + 1, Lb.put rg o.d (Nt.at_ (rowAt (xs.map (·.2)) o.bf) q), xs.map (·.2), seen ++ [((i : Int), (q : Int))]⟩) := Lib.hid (fun h14 q hq hlt => by
    unfold stp
    dsimp only
    rw [oi, if_neg h16, if_neg h17, if_pos (by rw [h14]; rfl), hq, if_neg hlt, if_neg (by omega), Int.toNat_natCast])
  obtain ⟨r0, r1, r2, r3, hRl, hBG, hGl⟩ := h.cells
  obtain ⟨xb, xo, e1, hxb, x0, x1, x2, x3, x4, x5, x6, x7⟩ := op_at hX ho
  obtain ⟨W1, hW1⟩ : ∃ W, W = w.alloc (.cells #[.int .i64 o.k, .int .i64 o.d, .int .i64 o.e, .int .i64 o.a, .int .i64 o.b, .int .i64 o.c, .int .i64 o.bf, .int .u64 o.im] 33) := ⟨_, rfl⟩
  have HR1 : Hid (RfW W1 B R pc G nr rg xs seen) := Lib.hid (by rw [hW1]; exact h.below (bel_al _))
  have HO1 : Hid (Bk W1 w.heap.size 33 #[.int .i64 o.k, .int .i64 o.d, .int .i64 o.e, .int .i64 o.a, .int .i64 o.b, .int .i64 o.c, .int .i64 o.bf, .int .u64 o.im]) := Lib.hid (by rw [hW1]; exact Bk.new _ _ _)
  have HB1 : Hid (Below B w W1) := Lib.hid (by rw [hW1]; exact (bel_al (w := w) _).mono hB)
  have HLB : Hid (B ≤ w.heap.size) := Lib.hid hB
  have HAT := Lib.hid (fun (r : Int) (hr : -1 ≤ r ∧ r < nr) (n : Nat) => rat_l B R pc G nr rg xs seen r hr hnr (W1.drewN n) (HR1.out.drewN n))
  have HLD := Lib.hid (fun (r : Int) => hld_W h.rgs r)
  have HST := Lib.hid hst
  have HDM := Lib.hid hd
  have ha := hl.a
  have hb := hl.b
  have hc := hl.c
  have hdd := hl.d
  have hde := hl.e
  have hk := hst.k1
  have hxs := hst.sh
  have hiw := hst.im
  have hds := hst.d
  have hbs := hst.b
  have hbf := hst.bf
  have hi0 : (0 : Int) ≤ (i : Int) := by omega
  have hii : (i : Int) < (pc.m : Int) := by omega
  have hpr := HR1.out.rgs
  clear hX h ho oi hst hd hl hB
  obtain ⟨pcr, pcA, pcn, pcc, pcX, pcm, pcd, pcI⟩ := pc
  dsimp only at *
  subst e1
  obtain ⟨ok, od, oe, oa, ob, oc, obf, oim⟩ := o
  dsimp only at *
  go_enter Tryd.func55, Tryd.ntmps55
  go_upto_region 2 with fail
  rw [← hW1]
  obtain ⟨g5, hg5⟩ : ∃ g, w.heap.size = g := ⟨_, rfl⟩
  rw [hg5] at HO1 HLB ⊢
  clear hW1 hg5 x0 x1 x2 x3 x4 x5 x6 x7 r0 r1 r2 r3 hxb
  have y0 := HO1.out.cell 0
  have y3 := HO1.out.cell 3
  have y4 := HO1.out.cell 4
  have y5 := HO1.out.cell 5
  go_quiet (exact Calls.quiet_of_same (HAT.out _ (by with_reducible assumption) _))
  have HVA := HLD.out oa
  have HVB := HLD.out ob
  have HVC := HLD.out oc
  have HRB : 0 ≤ ob → rg ob.toNat = hld rg ob := fun h0 => by unfold hld; rw [if_neg (by omega)]
  have hod : ((hld rg oc).tmod 2 == 1) = odd (hld rg oc) := by
    unfold odd
    rw [Int.tmod_eq_emod_of_nonneg HVC.1]
    rfl
  rw [hod]
  clear hod HAT
  obtain ⟨W2, hW2⟩ : ∃ W, W = W1.drewN nq := ⟨_, rfl⟩
  have HR2 : Hid (RfW W2 B R ⟨pcr, pcA, pcn, pcc, some ⟨xb, xo, none⟩, pcm, pcd, pcI⟩ G nr rg xs seen) := Lib.hid (by rw [hW2]; exact HR1.out.drewN nq)
  have HO2 : Hid (Bk W2 g5 33 #[.int .i64 ok, .int .i64 od, .int .i64 oe, .int .i64 oa, .int .i64 ob, .int .i64 oc, .int .i64 obf, .int .u64 oim]) := Lib.hid (by rw [hW2]; exact HO1.out.below (below_drewN (Below.refl _ _) nq) HO1.out.lt)
  have HB2 : Hid (Below B w W2) := Lib.hid (by rw [hW2]; exact below_drewN HB1.out nq)
  have HS2 : Hid (B ≤ W2.heap.size) := Lib.hid (by rw [hW2]; exact Nat.le_trans HLB.out (by have := HO1.out.lt; show g5 ≤ W1.heap.size; omega))
  rw [← hW2]
  clear hW2 HR1 HO1 HB1 y0 y3 y4 y5 hRl hGl HLB
  have HRI := Lib.hid HRB
  generalize hld rg oa = av at *
  generalize hld rg ob = bv at *
  generalize hld rg oc = cv at *
  have y0 : W2.cell? ⟨g5, 0, none⟩ = some (.int .i64 ok) := HO2.out.cell 0
  have y7 : W2.cell? ⟨g5, 7, none⟩ = some (.int .u64 oim) := HO2.out.cell 7
  have y6 : W2.cell? ⟨g5, 6, none⟩ = some (.int .i64 obf) := HO2.out.cell 6
  obtain ⟨cb, hcb⟩ : ∃ b, odd cv = b := ⟨_, rfl⟩
  have HCB := Lib.hid hcb
  rw [hcb]
  clear hcb
  go_upto_block 0 with fail
  go_cut [9, 10, 11] from 41 to 167 (fun v9 v10 v11 W => ∃ (q : Int) (d e : Int) (xs' : List (Nat × List Int)), v9 = .int .i64 q ∧ v10 = .int .u64 d ∧ v11 = .int .u64 e ∧ Hid (RfW W B R ⟨pcr, pcA, pcn, pcc, some ⟨xb, xo, none⟩, pcm, pcd, pcI⟩ G nr rg xs' seen ∧ Bk W g5 33 #[.int .i64 ok, .int .i64 od, .int .i64 oe, .int .i64 oa, .int .i64 ob, .int .i64 oc, .int .i64 obf, .int .u64 oim] ∧ Below B w W ∧ B ≤ W.heap.size ∧ stp ops ends ⟨i, rg, xs.map (·.2), seen⟩ = some ⟨i + 1, Lb.put (Lb.put rg od d) oe e, xs'.map (·.2), seen ++ [((i : Int), q)]⟩ ∧ Wd.W d ∧ Wd.W e ∧ Dim xs.length xs'))
  case first =>
    have HADD := Lib.hid (radd_c av bv (odd cv) W2 HVA HVB)
    have HSUB := Lib.hid (rsub_c av bv (odd cv) W2 HVA HVB)
    have HMUL := Lib.hid (rmul_c av bv W2 HVA HVB)
    have HBIT := Lib.hid (fun (b : Bool) (W : World) => rbit_l b W)
    have HF : Hid (mm ok = false → ∃ (d e : Int), d = resD ok oim av bv cv ∧ e = resE ok av bv cv ∧ RfW W2 B R ⟨pcr, pcA, pcn, pcc, some ⟨xb, xo, none⟩, pcm, pcd, pcI⟩ G nr rg xs seen ∧ Bk W2 g5 33 #[.int .i64 ok, .int .i64 od, .int .i64 oe, .int .i64 oa, .int .i64 ob, .int .i64 oc, .int .i64 obf, .int .u64 oim] ∧ Below B w W2 ∧ B ≤ W2.heap.size ∧ stp ops ends ⟨i, rg, xs.map (·.2), seen⟩ = some ⟨i + 1, Lb.put (Lb.put rg od d) oe e, xs.map (·.2), seen ++ [((i : Int), -1)]⟩ ∧ Wd.W d ∧ Wd.W e ∧ Dim xs.length xs) := Lib.hid (fun hm => ⟨_, _, rfl, rfl, HR2.out, HO2.out, HB2.out, HS2.out, HPL.out hm, resD_W hiw HVA HVB HVC, resE_W, HDM.out⟩)
    rw [HCB.out] at HADD HSUB
    clear HVA HVC HRB
    have hk15 : ok = 1 ∨ ok = 2 ∨ ok = 3 ∨ ok = 4 ∨ ok = 5 ∨ ok = 6 ∨ ok = 7 ∨ ok = 8 ∨ ok = 9 ∨ ok = 10 ∨ ok = 11 ∨ ok = 12 ∨ ok = 13 ∨ ok = 14 ∨ ok = 15 := by omega
    clear hk h16 h17
    obtain rfl | rfl | rfl | rfl | rfl | rfl | rfl | rfl | rfl | rfl | rfl | rfl | rfl | rfl | rfl := hk15
    iterate 2 (
      · obtain ⟨d, e, hd, he, hf⟩ := HF.out rfl
        have HG := Lib.hid hf
        have HD := Lib.hid hd
        have HE := Lib.hid he
        clear hf hd he HF HPL HM0 HM14 HM15 HADD HSUB HMUL HBIT
        go_wp2_with fail
        go_meet
        case rel => exact ⟨-1, d, e, xs, rfl, by rw [HD.out]; rfl, by rw [HE.out]; rfl, HG⟩)
    iterate 2 (
      · obtain ⟨d, e, hd, he, hf⟩ := HF.out rfl
        have HG := Lib.hid hf
        have HD := Lib.hid hd
        have HE := Lib.hid he
        clear hf hd he HF HPL HM0 HM14 HM15 HADD HSUB HMUL HBIT
        go_wp2_with fail
        go_meet
        case rel => exact ⟨-1, d, e, xs, rfl, by rw [HD.out, IntKind.wrap_u64]; rfl, by rw [HE.out]; rfl, HG⟩)
    iterate 3 (
      · obtain ⟨d, e, hd, he, hf⟩ := HF.out rfl
        have HG := Lib.hid hf
        have HD := Lib.hid hd
        have HE := Lib.hid he
        clear hf hd he HF HPL HM0 HM14 HM15 HADD HSUB HMUL HBIT
        go_wp2_with fail
        go_meet
        case rel => exact ⟨-1, d, e, xs, rfl, by rw [HD.out]; rfl, by rw [HE.out]; rfl, HG⟩)
    · obtain ⟨d, e, hd, he, hf⟩ := HF.out rfl
      obtain ⟨h1, h2⟩ := hxs (by first | exact .inl rfl | simp)
      have hb64 : oim.toNat ≤ 64 := by omega
      have HG := Lib.hid hf
      have HD := Lib.hid hd
      have HE := Lib.hid he
      clear hf hd he HF HPL HM0 HM14 HM15 HADD HSUB HMUL HBIT hxs
      go_wp2_with fail
      go_meet
      case rel => exact ⟨-1, d, e, xs, rfl, by rw [HD.out, IntKind.wrap_u64]; rfl, by rw [HE.out]; rfl, HG⟩
    · obtain ⟨d, e, hd, he, hf⟩ := HF.out rfl
      obtain ⟨h1, h2⟩ := hxs (by first | exact .inr rfl | simp)
      have hb64 : oim.toNat ≤ 64 := by omega
      have HG := Lib.hid hf
      have HD := Lib.hid hd
      have HE := Lib.hid he
      clear hf hd he HF HPL HM0 HM14 HM15 HADD HSUB HMUL HBIT hxs
      go_wp2_with fail
      go_meet
      case rel => exact ⟨-1, d, e, xs, rfl, by rw [HD.out]; rfl, by rw [HE.out]; rfl, HG⟩
    · obtain ⟨d, e, hd, he, hf⟩ := HF.out rfl
      have HG := Lib.hid hf
      have HD := Lib.hid hd
      have HE := Lib.hid he
      clear hf hd he HF HPL HM0 HM14 HM15 HADD HSUB HBIT hxs
      go_wp2_with fail
      go_at_call 80
      refine HMUL.out.mono ?_
      rintro e' w' ⟨rfl, rfl⟩
      go_wp2_with fail
      go_meet
      case rel => exact ⟨-1, d, e, xs, rfl, by rw [HD.out]; rfl, by rw [HE.out]; rfl, HG⟩
    · obtain ⟨d, e, hd, he, hf⟩ := HF.out rfl
      have HG := Lib.hid hf
      have HD := Lib.hid hd
      have HE := Lib.hid he
      clear hf hd he HF HPL HM0 HM14 HM15 HMUL HSUB hxs
      go_wp2_with fail
      go_at_call 81
      refine HADD.out.mono ?_
      rintro e' w' ⟨rfl, rfl⟩
      go_wp2_with fail
      go_at_call 82
      refine (HBIT.out _ _).mono ?_
      rintro e' w' ⟨rfl, rfl⟩
      go_wp2_with fail
      go_meet
      case rel => exact ⟨-1, d, e, xs, rfl, by rw [HD.out, ← HCB.out]; rfl, by rw [HE.out, ← HCB.out]; rfl, HG⟩
    · obtain ⟨d, e, hd, he, hf⟩ := HF.out rfl
      have HG := Lib.hid hf
      have HD := Lib.hid hd
      have HE := Lib.hid he
      clear hf hd he HF HPL HM0 HM14 HM15 HMUL HADD hxs
      go_wp2_with fail
      go_at_call 83
      refine HSUB.out.mono ?_
      rintro e' w' ⟨rfl, rfl⟩
      go_wp2_with fail
      go_at_call 82
      refine (HBIT.out _ _).mono ?_
      rintro e' w' ⟨rfl, rfl⟩
      go_wp2_with fail
      go_meet
      case rel => exact ⟨-1, d, e, xs, rfl, by rw [HD.out, ← HCB.out]; rfl, by rw [HE.out, ← HCB.out]; rfl, HG⟩
    · obtain ⟨d, e, hd, he, hf⟩ := HF.out rfl
      have HG := Lib.hid hf
      have HD := Lib.hid hd
      have HE := Lib.hid he
      clear hf hd he HF HPL HM0 HM14 HM15 HMUL HADD HSUB HBIT hxs
      cases cb
      · go_wp2_with fail
        go_meet
        case rel => exact ⟨-1, d, e, xs, rfl, by rw [HD.out]; unfold resD; rw [HCB.out]; rfl, by rw [HE.out]; rfl, HG⟩
      · go_wp2_with fail
        go_meet
        case rel => exact ⟨-1, d, e, xs, rfl, by rw [HD.out]; unfold resD; rw [HCB.out]; rfl, by rw [HE.out]; rfl, HG⟩
    · obtain ⟨ix, hix, hin⟩ := hbf (by first | exact .inl rfl | exact .inr rfl | simp)
      obtain ⟨⟨g, ys⟩, hxi⟩ : ∃ x, xs[ix]? = some x := ⟨_, List.getElem?_eq_getElem hin⟩
      obtain ⟨Y, cY, t1, t2, t3, t4, hBg, hgl, hws⟩ := HR2.out.row hxi
      have hrow : rowAt (xs.map (·.2)) obf = ys := by unfold rowAt; rw [hix, Int.toNat_natCast, List.getElem?_map, hxi]; rfl
      rw [hrow] at HM0 HM14 HM15
      have hyl : ys.length ≤ 65536 := HDM.out.le _ (List.mem_of_getElem? hxi)
      obtain ⟨q, hq⟩ : ∃ q : Nat, (oim + av) % 18446744073709551616 = (q : Int) := ⟨((oim + av) % 18446744073709551616).toNat, by omega⟩
      have HOE := Lib.hid (hno.2 rfl)
      have HOD := Lib.hid (fun h => hno.1 h)
      clear hno
      have ewq : IntKind.u64.wrap (oim + av) = (q : Int) := by rw [IntKind.wrap_u64]; exact hq
      have ewl : IntKind.u64.wrap (ys.length : Int) = (ys.length : Int) := by rw [IntKind.wrap_u64]; omega
      have hix0 : (0 : Int) ≤ (ix : Int) := by omega
      have hixl : (ix : Int) < (xs.length : Int) := by omega
      rw [hix] at y6
      have HXI := Lib.hid hxi
      have HYL := Lib.hid hyl
      have HROW := Lib.hid hrow
      have HIX := Lib.hid hix
      have HW := Lib.hid hws
      have HSTP0 := Lib.hid (fun h => HM0.out rfl q hq h)
      have HSTPK := Lib.hid (fun h => HM14.out rfl q hq h)
      clear hq hxi hrow hix hws HF HPL HM0 HM14 HM15 HMUL HADD HSUB HBIT hxs
      by_cases hge : (ys.length : Int) ≤ (q : Int)
      · have hbge : ((ys.length : Int) ≤ (q : Int)) = True := by simp [hge]
        go_upto_region 39 with fail
        go_quiet (fail)
        go_wp2_with fail
        go_ret
        unfold DoA
        exact ⟨below_drewN HB2.out _, .inl ⟨HSTP0.out hge, rfl, HR2.out.drewN _⟩⟩
      · have hql : q < ys.length := by omega
        have ewi : IntKind.i64.wrap (q : Int) = (q : Int) := IntWalk.i64_in _ (by omega)
        have hq0 : (0 : Int) ≤ (q : Int) := by omega
        have hqi : (q : Int) < (ys.length : Int) := by omega
        have HST2 := Lib.hid (HSTPK.out hge)
        have u1 := t3 q hql
        have u2 := t4 q
        clear t3 t4 HSTP0 HSTPK
        generalize hyn : ys.length = yn at *
        generalize hxn : xs.length = xn at *
        go_upto_region 39 with fail
        go_quiet (fail)
        have HC := Lib.hid (fun n n2 => (show RfW ((W2.drewN n).drewN n2) B R ⟨pcr, pcA, pcn, pcc, some ⟨xb, xo, none⟩, pcm, pcd, pcI⟩ G nr rg xs seen ∧ Bk ((W2.drewN n).drewN n2) g5 33 #[.int .i64 14, .int .i64 od, .int .i64 oe, .int .i64 oa, .int .i64 ob, .int .i64 oc, .int .i64 obf, .int .u64 oim] ∧ Below B w ((W2.drewN n).drewN n2) ∧ B ≤ ((W2.drewN n).drewN n2).heap.size ∧ stp ops ends ⟨i, rg, xs.map (·.2), seen⟩ = some ⟨i + 1, Lb.put (Lb.put rg od (Nt.at_ ys q)) oe 0, xs.map (·.2), seen ++ [((i : Int), (q : Int))]⟩ ∧ Wd.W (Nt.at_ ys q) ∧ Wd.W 0 ∧ Dim xn xs from ⟨(HR2.out.drewN n).drewN n2, (HO2.out.below (below_drewN (Below.refl _ _) n) HO2.out.lt).below (below_drewN (Below.refl _ _) n2) HO2.out.lt, below_drewN (below_drewN HB2.out n) n2, HS2.out, by rw [HST2.out, HOE.out, put_neg], W_at HW.out (by omega), (by unfold Wd.W; decide), HDM.out⟩))
        go_wp2_with fail
        go_quiet (fail)
        go_wp2_with fail
        go_meet
        case rel => exact ⟨(q : Int), Nt.at_ ys q, 0, xs, rfl, rfl, rfl, Lib.hid (by first | exact HC.out _ _ | (rw [← World.drewN_drewN]; exact HC.out _ _))⟩
    · obtain ⟨ix, hix, hin⟩ := hbf (by first | exact .inl rfl | exact .inr rfl | simp)
      obtain ⟨⟨g, ys⟩, hxi⟩ : ∃ x, xs[ix]? = some x := ⟨_, List.getElem?_eq_getElem hin⟩
      obtain ⟨Y, cY, t1, t2, t3, t4, hBg, hgl, hws⟩ := HR2.out.row hxi
      have hrow : rowAt (xs.map (·.2)) obf = ys := by unfold rowAt; rw [hix, Int.toNat_natCast, List.getElem?_map, hxi]; rfl
      rw [hrow] at HM0 HM14 HM15
      have hyl : ys.length ≤ 65536 := HDM.out.le _ (List.mem_of_getElem? hxi)
      obtain ⟨q, hq⟩ : ∃ q : Nat, (oim + av) % 18446744073709551616 = (q : Int) := ⟨((oim + av) % 18446744073709551616).toNat, by omega⟩
      have HOE := Lib.hid (hno.2 rfl)
      have HOD := Lib.hid (fun h => hno.1 h)
      clear hno
      have ewq : IntKind.u64.wrap (oim + av) = (q : Int) := by rw [IntKind.wrap_u64]; exact hq
      have ewl : IntKind.u64.wrap (ys.length : Int) = (ys.length : Int) := by rw [IntKind.wrap_u64]; omega
      have hix0 : (0 : Int) ≤ (ix : Int) := by omega
      have hixl : (ix : Int) < (xs.length : Int) := by omega
      rw [hix] at y6
      have HXI := Lib.hid hxi
      have HYL := Lib.hid hyl
      have HROW := Lib.hid hrow
      have HIX := Lib.hid hix
      have HW := Lib.hid hws
      have HSTP0 := Lib.hid (fun h => HM0.out rfl q hq h)
      have HSTPK := Lib.hid (fun h => HM15.out rfl q hq h)
      clear hq hxi hrow hix hws HF HPL HM0 HM14 HM15 HMUL HADD HSUB HBIT hxs
      by_cases hge : (ys.length : Int) ≤ (q : Int)
      · have hbge : ((ys.length : Int) ≤ (q : Int)) = True := by simp [hge]
        go_upto_region 39 with fail
        go_quiet (fail)
        go_wp2_with fail
        go_ret
        unfold DoA
        exact ⟨below_drewN HB2.out _, .inl ⟨HSTP0.out hge, rfl, HR2.out.drewN _⟩⟩
      · have hql : q < ys.length := by omega
        have ewi : IntKind.i64.wrap (q : Int) = (q : Int) := IntWalk.i64_in _ (by omega)
        have hq0 : (0 : Int) ≤ (q : Int) := by omega
        have hqi : (q : Int) < (ys.length : Int) := by omega
        have HST2 := Lib.hid (HSTPK.out hge)
        have u1 := t3 q hql
        have u2 := t4 q
        clear t3 t4 HSTP0 HSTPK
        generalize hyn : ys.length = yn at *
        generalize hxn : xs.length = xn at *
        go_upto_region 39 with fail
        go_quiet (fail)
        have hbv : Wd.W bv := HVB
        have hrb : rg ob.toNat = bv := HRI.out (hbs rfl)
        go_upto_region 43 with fail
        generalize hW3 : W2.drewN _ = W3
        have HR3 : Hid (RfW W3 B R ⟨pcr, pcA, pcn, pcc, some ⟨xb, xo, none⟩, pcm, pcd, pcI⟩ G nr rg xs seen) := Lib.hid (by rw [← hW3]; exact HR2.out.drewN _)
        have HO3 : Hid (Bk W3 g5 33 #[.int .i64 15, .int .i64 od, .int .i64 oe, .int .i64 oa, .int .i64 ob, .int .i64 oc, .int .i64 obf, .int .u64 oim]) := Lib.hid (by rw [← hW3]; exact HO2.out.below (below_drewN (Below.refl _ _) _) HO2.out.lt)
        have HB3 : Hid (Below B w W3) := Lib.hid (by rw [← hW3]; exact below_drewN HB2.out _)
        have HS3 : Hid (B ≤ W3.heap.size) := Lib.hid (by rw [← hW3]; exact HS2.out)
        have v1 : W3.drew.cell? ⟨R, 4, none⟩ = some (.slice (some ⟨Y, 0, none⟩) xn cY) := by rw [← hW3]; exact t1
        have v2 : W3.drew.cell? ⟨Y, ix, none⟩ = some (.slice (some ⟨g, 0, none⟩) yn yn) := by rw [← hW3]; exact t2
        have v3 : W3.drew.cell? ⟨g, q, none⟩ = some (.int .u64 (Nt.at_ ys q)) := by rw [← hW3]; exact u1
        have v4 : W3.drew.frozen? ⟨g, q, none⟩ = false := by rw [← hW3]; exact u2
        have v6 : W3.drew.cell? ⟨g5, 6, none⟩ = some (.int .i64 (ix : Int)) := by rw [← hW3]; exact y6
        have HST3 : Hid (RfW (W3.drew.setCell ⟨g, q, none⟩ (.int .u64 bv)) B R ⟨pcr, pcA, pcn, pcc, some ⟨xb, xo, none⟩, pcm, pcd, pcI⟩ G nr rg (xs.set ix (g, ys.set q bv)) seen ∧ Bk (W3.drew.setCell ⟨g, q, none⟩ (.int .u64 bv)) g5 33 #[.int .i64 15, .int .i64 od, .int .i64 oe, .int .i64 oa, .int .i64 ob, .int .i64 oc, .int .i64 obf, .int .u64 oim] ∧ Below B w (W3.drew.setCell ⟨g, q, none⟩ (.int .u64 bv)) ∧ B ≤ (W3.drew.setCell ⟨g, q, none⟩ (.int .u64 bv)).heap.size ∧ stp ops ends ⟨i, rg, xs.map (·.2), seen⟩ = some ⟨i + 1, Lb.put (Lb.put rg od 0) oe 0, (xs.set ix (g, ys.set q bv)).map (·.2), seen ++ [((i : Int), (q : Int))]⟩ ∧ Wd.W 0 ∧ Wd.W 0 ∧ Dim xn (xs.set ix (g, ys.set q bv))) := Lib.hid (by
          have hg : Bk W3.drew g 31 (us ys) := ((HR3.out.drewN 1).rk.each _ (List.mem_cons_of_mem _ (List.mem_of_getElem? HXI.out))).2.1
          refine ⟨(HR3.out.drewN 1).store HXI.out q hbv, bk_far (Bk.drew HO3.out) hg (by decide), (below_drewN HB3.out 1).setCell (p := ⟨g, q, none⟩) hBg _, by rw [World.size_setCell]; exact HS3.out, ?_, by unfold Wd.W; decide, by unfold Wd.W; decide, HDM.out.set HXI.out⟩
          rw [HST2.out, HOD.out rfl, HOE.out, put_neg, put_neg, HIX.out, Int.toNat_natCast, hrb, List.map_set])
        clear hW3 t1 t2 u1 u2 y0 y6 y7 HR3 HO3 HB3 HS3 HST2
        refine wp_region_still_tail 11 (by kernel_rfl) (by kernel_rfl) ?_
        simp only [List.take_succ_cons, List.take_zero, List.drop_succ_cons, List.drop_zero]
        iterate 11 still_step
        refine wpStill_nil ?_
        go_wp2_with fail
        go_meet
        case rel => exact ⟨(q : Int), 0, 0, xs.set ix (g, ys.set q bv), rfl, rfl, rfl, HST3⟩
  case rest =>
    obtain ⟨q, d, e, xs', rfl, rfl, rfl, HC⟩ := hcut
    have HSTQ := Lib.hid HC.out.2.2.2.2.1
    have HDQ := Lib.hid HC.out.2.2.2.2.2.2.2
    have HWD := Lib.hid HC.out.2.2.2.2.2.1
    have HWE := Lib.hid HC.out.2.2.2.2.2.2.1
    have HP0 : Hid (RfW wc B R ⟨pcr, pcA, pcn, pcc, some ⟨xb, xo, none⟩, pcm, pcd, pcI⟩ G nr rg xs' seen ∧ Bk wc g5 33 #[.int .i64 ok, .int .i64 od, .int .i64 oe, .int .i64 oa, .int .i64 ob, .int .i64 oc, .int .i64 obf, .int .u64 oim] ∧ Below B w wc ∧ B ≤ wc.heap.size) := Lib.hid ⟨HC.out.1, HC.out.2.1, HC.out.2.2.1, HC.out.2.2.2.1⟩
    clear HC y0 y6 y7 HR2 HO2 HB2 HS2 HPL HM0 HM14 HM15 HVA HVB HVC HRB HRI HLD
    have HPUT := Lib.hid (fun (W : World) (rg0 : Nat → Int) (j : Nat) (v : Int) (hj : j < nr) (hv : Wd.W v) (h : RfW W B R ⟨pcr, pcA, pcn, pcc, some ⟨xb, xo, none⟩, pcm, pcd, pcI⟩ G nr rg0 xs' seen ∧ Bk W g5 33 #[.int .i64 ok, .int .i64 od, .int .i64 oe, .int .i64 oa, .int .i64 ob, .int .i64 oc, .int .i64 obf, .int .u64 oim] ∧ Below B w W ∧ B ≤ W.heap.size) => (show RfW (W.drew.setCell ⟨G, j, none⟩ (.int .u64 v)) B R ⟨pcr, pcA, pcn, pcc, some ⟨xb, xo, none⟩, pcm, pcd, pcI⟩ G nr (Lb.put rg0 (j : Int) v) xs' seen ∧ Bk (W.drew.setCell ⟨G, j, none⟩ (.int .u64 v)) g5 33 #[.int .i64 ok, .int .i64 od, .int .i64 oe, .int .i64 oa, .int .i64 ob, .int .i64 oc, .int .i64 obf, .int .u64 oim] ∧ Below B w (W.drew.setCell ⟨G, j, none⟩ (.int .u64 v)) ∧ B ≤ (W.drew.setCell ⟨G, j, none⟩ (.int .u64 v)).heap.size from by
      have hg : Bk W.drew G 31 (us (rgN rg0 nr)) := ((h.1.drewN 1).rk.each _ List.mem_cons_self).2.1
      exact ⟨(h.1.drewN 1).put hj hv, bk_far (Bk.drew h.2.1) hg (by decide), (below_drewN h.2.2.1 1).setCell (p := ⟨G, j, none⟩) hBG _, by rw [World.size_setCell]; exact h.2.2.2⟩))
    have y1 : wc.cell? ⟨g5, 1, none⟩ = some (.int .i64 od) := HP0.out.2.1.cell 1
    have y2 : wc.cell? ⟨g5, 2, none⟩ = some (.int .i64 oe) := HP0.out.2.1.cell 2
    by_cases hd0 : (0 : Int) ≤ od
    · have HQ := HP0
      have hg1 : ¬ od < 0 := by omega
      obtain ⟨j, hj⟩ : ∃ j : Nat, od = (j : Int) := ⟨od.toNat, by omega⟩
      have hjn : j < nr := by omega
      have hjl : (j : Int) < (nr : Int) := by omega
      have hj0 : (0 : Int) ≤ (j : Int) := by omega
      have HQ2 := Lib.hid (HPUT.out wc rg j d hjn HWD.out HQ.out)
      have yd : wc.drew.cell? ⟨g5, 1, none⟩ = some (.int .i64 (j : Int)) := by rw [← hj]; exact y1
      have r3 : wc.drew.cell? ⟨R, 3, none⟩ = some (.slice (some ⟨G, 0, none⟩) nr nr) := HQ.out.1.cells.2.2.2.1
      have c1 : wc.drew.cell? ⟨G, j, none⟩ = some (.int .u64 (rg j)) := (HQ.out.1.reg hjn).1
      have f1 : wc.drew.frozen? ⟨G, j, none⟩ = false := (HQ.out.1.reg hjn).2
      go_upto_region 46 with fail
      refine wp_region_still_tail 8 (by kernel_rfl) (by kernel_rfl) ?_
      simp only [List.take_succ_cons, List.take_zero, List.drop_succ_cons, List.drop_zero]
      iterate 8 still_step
      refine wpStill_nil ?_
      go_upto_region 47 with fail
      generalize hW4 : World.drew (World.setCell _ _ _) = W4
      have HQ4 : Hid (RfW W4 B R ⟨pcr, pcA, pcn, pcc, some ⟨xb, xo, none⟩, pcm, pcd, pcI⟩ G nr (Lb.put rg od d) xs' seen ∧ Bk W4 g5 33 #[.int .i64 ok, .int .i64 od, .int .i64 oe, .int .i64 oa, .int .i64 ob, .int .i64 oc, .int .i64 obf, .int .u64 oim] ∧ Below B w W4 ∧ B ≤ W4.heap.size) := Lib.hid (by rw [← hW4]; have h := HQ2.out; rw [← hj] at h; exact h)
      clear hW4 HQ2 HQ yd r3 c1 f1 y1 y2 hj hjn hjl hj0
      have HQ := HQ4
      have y2 : W4.cell? ⟨g5, 2, none⟩ = some (.int .i64 oe) := HQ.out.2.1.cell 2
      by_cases he : (0 : Int) ≤ oe
      · have hg2 : ¬ oe < 0 := by omega
        obtain ⟨j, hj⟩ : ∃ j : Nat, oe = (j : Int) := ⟨oe.toNat, by omega⟩
        have hjn : j < nr := by omega
        have hjl : (j : Int) < (nr : Int) := by omega
        have hj0 : (0 : Int) ≤ (j : Int) := by omega
        have HQ2 := Lib.hid (HPUT.out W4 (Lb.put rg od d) j e hjn HWE.out HQ.out)
        have yd : W4.drew.cell? ⟨g5, 2, none⟩ = some (.int .i64 (j : Int)) := by rw [← hj]; exact y2
        have r3 : W4.drew.cell? ⟨R, 3, none⟩ = some (.slice (some ⟨G, 0, none⟩) nr nr) := HQ.out.1.cells.2.2.2.1
        have c1 : W4.drew.cell? ⟨G, j, none⟩ = some (.int .u64 ((Lb.put rg od d) j)) := (HQ.out.1.reg hjn).1
        have f1 : W4.drew.frozen? ⟨G, j, none⟩ = false := (HQ.out.1.reg hjn).2
        go_upto_region 48 with fail
        refine wp_region_still_tail 8 (by kernel_rfl) (by kernel_rfl) ?_
        simp only [List.take_succ_cons, List.take_zero, List.drop_succ_cons, List.drop_zero]
        iterate 8 still_step
        refine wpStill_nil ?_
        go_upto_region 49 with fail
        generalize hW6 : World.drew (World.setCell _ _ _) = W6
        have HQ6 : Hid (RfW W6 B R ⟨pcr, pcA, pcn, pcc, some ⟨xb, xo, none⟩, pcm, pcd, pcI⟩ G nr (Lb.put (Lb.put rg od d) oe e) xs' seen ∧ Bk W6 g5 33 #[.int .i64 ok, .int .i64 od, .int .i64 oe, .int .i64 oa, .int .i64 ob, .int .i64 oc, .int .i64 obf, .int .u64 oim] ∧ Below B w W6 ∧ B ≤ W6.heap.size) := Lib.hid (by rw [← hW6]; have h := HQ2.out; rw [← hj] at h; exact h)
        clear hW6 HQ2 HQ yd r3 c1 f1
        have HQ := HQ6
        obtain ⟨Ae, ne, ce, An, nn, cn, w5, k1, hap, ⟨z0, z1, z2⟩, hrf5, hb5⟩ := (HQ.out.1.below (bel_al (.cells #[.int .i64 (i : Int), .int .i64 q] 46))).see (Bk.new W6 _ _) (by rw [World.size_alloc]; have := HQ.out.2.2.2; omega) (by omega)
        have k0 : W6.cell? ⟨R, 5, none⟩ = some (.slice Ae ne ce) := (World.cell?_alloc_lt _ _ _ HQ.out.1.cells.2.2.2.2.1).symm.trans k1
        have HF1 : Hid (Below B w (w5.setCell ⟨R, 5, none⟩ (.slice An nn cn))) := Lib.hid ((bel_tr' HQ.out.2.2.1 (bel_al (w := W6) _) hb5 HQ.out.2.2.2).setCell (p := ⟨R, 5, none⟩) HQ.out.1.hR _)
        have HF2 := Lib.hid hrf5
        clear hrf5 hb5 k1
        go_wp2_with (first | (at_builtin; refine wpList_append_eq rfl _ _ 40 rfl _ _ rfl rfl _ _ hap ?_) | fail)
        go_ret
        unfold DoA
        exact ⟨HF1.out, .inr ⟨_, xs', HSTQ.out, rfl, HF2.out, rfl, HDQ.out⟩⟩
      · have he1 : oe = -1 := by omega
        have HQ7 : Hid (RfW W4 B R ⟨pcr, pcA, pcn, pcc, some ⟨xb, xo, none⟩, pcm, pcd, pcI⟩ G nr (Lb.put (Lb.put rg od d) oe e) xs' seen ∧ Bk W4 g5 33 #[.int .i64 ok, .int .i64 od, .int .i64 oe, .int .i64 oa, .int .i64 ob, .int .i64 oc, .int .i64 obf, .int .u64 oim] ∧ Below B w W4 ∧ B ≤ W4.heap.size) := Lib.hid (by rw [he1, put_neg]; rw [he1] at HQ; exact HQ.out)
        clear HQ
        have HQ := HQ7
        go_upto_region 49 with fail
        obtain ⟨Ae, ne, ce, An, nn, cn, w5, k1, hap, ⟨z0, z1, z2⟩, hrf5, hb5⟩ := (HQ.out.1.below (bel_al (.cells #[.int .i64 (i : Int), .int .i64 q] 46))).see (Bk.new W4 _ _) (by rw [World.size_alloc]; have := HQ.out.2.2.2; omega) (by omega)
        have k0 : W4.cell? ⟨R, 5, none⟩ = some (.slice Ae ne ce) := (World.cell?_alloc_lt _ _ _ HQ.out.1.cells.2.2.2.2.1).symm.trans k1
        have HF1 : Hid (Below B w (w5.setCell ⟨R, 5, none⟩ (.slice An nn cn))) := Lib.hid ((bel_tr' HQ.out.2.2.1 (bel_al (w := W4) _) hb5 HQ.out.2.2.2).setCell (p := ⟨R, 5, none⟩) HQ.out.1.hR _)
        have HF2 := Lib.hid hrf5
        clear hrf5 hb5 k1
        go_wp2_with (first | (at_builtin; refine wpList_append_eq rfl _ _ 40 rfl _ _ rfl rfl _ _ hap ?_) | fail)
        go_ret
        unfold DoA
        exact ⟨HF1.out, .inr ⟨_, xs', HSTQ.out, rfl, HF2.out, rfl, HDQ.out⟩⟩
    · have hd1 : od = -1 := by omega
      have HQ : Hid (RfW wc B R ⟨pcr, pcA, pcn, pcc, some ⟨xb, xo, none⟩, pcm, pcd, pcI⟩ G nr (Lb.put rg od d) xs' seen ∧ Bk wc g5 33 #[.int .i64 ok, .int .i64 od, .int .i64 oe, .int .i64 oa, .int .i64 ob, .int .i64 oc, .int .i64 obf, .int .u64 oim] ∧ Below B w wc ∧ B ≤ wc.heap.size) := Lib.hid (by rw [hd1, put_neg]; rw [hd1] at HP0; exact HP0.out)
      by_cases he : (0 : Int) ≤ oe
      · have hg2 : ¬ oe < 0 := by omega
        obtain ⟨j, hj⟩ : ∃ j : Nat, oe = (j : Int) := ⟨oe.toNat, by omega⟩
        have hjn : j < nr := by omega
        have hjl : (j : Int) < (nr : Int) := by omega
        have hj0 : (0 : Int) ≤ (j : Int) := by omega
        have HQ2 := Lib.hid (HPUT.out wc (Lb.put rg od d) j e hjn HWE.out HQ.out)
        have yd : wc.drew.cell? ⟨g5, 2, none⟩ = some (.int .i64 (j : Int)) := by rw [← hj]; exact y2
        have r3 : wc.drew.cell? ⟨R, 3, none⟩ = some (.slice (some ⟨G, 0, none⟩) nr nr) := HQ.out.1.cells.2.2.2.1
        have c1 : wc.drew.cell? ⟨G, j, none⟩ = some (.int .u64 ((Lb.put rg od d) j)) := (HQ.out.1.reg hjn).1
        have f1 : wc.drew.frozen? ⟨G, j, none⟩ = false := (HQ.out.1.reg hjn).2
        go_upto_region 48 with fail
        refine wp_region_still_tail 8 (by kernel_rfl) (by kernel_rfl) ?_
        simp only [List.take_succ_cons, List.take_zero, List.drop_succ_cons, List.drop_zero]
        iterate 8 still_step
        refine wpStill_nil ?_
        go_upto_region 49 with fail
        generalize hW6 : World.drew (World.setCell _ _ _) = W6
        have HQ6 : Hid (RfW W6 B R ⟨pcr, pcA, pcn, pcc, some ⟨xb, xo, none⟩, pcm, pcd, pcI⟩ G nr (Lb.put (Lb.put rg od d) oe e) xs' seen ∧ Bk W6 g5 33 #[.int .i64 ok, .int .i64 od, .int .i64 oe, .int .i64 oa, .int .i64 ob, .int .i64 oc, .int .i64 obf, .int .u64 oim] ∧ Below B w W6 ∧ B ≤ W6.heap.size) := Lib.hid (by rw [← hW6]; have h := HQ2.out; rw [← hj] at h; exact h)
        clear hW6 HQ2 HQ yd r3 c1 f1
        have HQ := HQ6
        obtain ⟨Ae, ne, ce, An, nn, cn, w5, k1, hap, ⟨z0, z1, z2⟩, hrf5, hb5⟩ := (HQ.out.1.below (bel_al (.cells #[.int .i64 (i : Int), .int .i64 q] 46))).see (Bk.new W6 _ _) (by rw [World.size_alloc]; have := HQ.out.2.2.2; omega) (by omega)
        have k0 : W6.cell? ⟨R, 5, none⟩ = some (.slice Ae ne ce) := (World.cell?_alloc_lt _ _ _ HQ.out.1.cells.2.2.2.2.1).symm.trans k1
        have HF1 : Hid (Below B w (w5.setCell ⟨R, 5, none⟩ (.slice An nn cn))) := Lib.hid ((bel_tr' HQ.out.2.2.1 (bel_al (w := W6) _) hb5 HQ.out.2.2.2).setCell (p := ⟨R, 5, none⟩) HQ.out.1.hR _)
        have HF2 := Lib.hid hrf5
        clear hrf5 hb5 k1
        go_wp2_with (first | (at_builtin; refine wpList_append_eq rfl _ _ 40 rfl _ _ rfl rfl _ _ hap ?_) | fail)
        go_ret
        unfold DoA
        exact ⟨HF1.out, .inr ⟨_, xs', HSTQ.out, rfl, HF2.out, rfl, HDQ.out⟩⟩
      · have he1 : oe = -1 := by omega
        have HQ7 : Hid (RfW wc B R ⟨pcr, pcA, pcn, pcc, some ⟨xb, xo, none⟩, pcm, pcd, pcI⟩ G nr (Lb.put (Lb.put rg od d) oe e) xs' seen ∧ Bk wc g5 33 #[.int .i64 ok, .int .i64 od, .int .i64 oe, .int .i64 oa, .int .i64 ob, .int .i64 oc, .int .i64 obf, .int .u64 oim] ∧ Below B w wc ∧ B ≤ wc.heap.size) := Lib.hid (by rw [he1, put_neg]; rw [he1] at HQ; exact HQ.out)
        clear HQ
        have HQ := HQ7
        go_upto_region 49 with fail
        obtain ⟨Ae, ne, ce, An, nn, cn, w5, k1, hap, ⟨z0, z1, z2⟩, hrf5, hb5⟩ := (HQ.out.1.below (bel_al (.cells #[.int .i64 (i : Int), .int .i64 q] 46))).see (Bk.new wc _ _) (by rw [World.size_alloc]; have := HQ.out.2.2.2; omega) (by omega)
        have k0 : wc.cell? ⟨R, 5, none⟩ = some (.slice Ae ne ce) := (World.cell?_alloc_lt _ _ _ HQ.out.1.cells.2.2.2.2.1).symm.trans k1
        have HF1 : Hid (Below B w (w5.setCell ⟨R, 5, none⟩ (.slice An nn cn))) := Lib.hid ((bel_tr' HQ.out.2.2.1 (bel_al (w := wc) _) hb5 HQ.out.2.2.2).setCell (p := ⟨R, 5, none⟩) HQ.out.1.hR _)
        have HF2 := Lib.hid hrf5
        clear hrf5 hb5 k1
        go_wp2_with (first | (at_builtin; refine wpList_append_eq rfl _ _ 40 rfl _ _ rfl rfl _ _ hap ?_) | fail)
        go_ret
        unfold DoA
        exact ⟨HF1.out, .inr ⟨_, xs', HSTQ.out, rfl, HF2.out, rfl, HDQ.out⟩⟩
end Lb
end Go.Proofs.YtbdhibgljaelbaaDoor
