/- SecrecyNames' programs, what is told of each; literal rows. -/
import Derived.Test.YtjdpbelfagkaiaaDoorF4
import Derived.Test.YtjdpbelfagkaiaaDoorF1
import Derived.Test.YtjdpbelfagkaiaaDoorS9
namespace Go.Proofs.YtjdpbelfagkaiaaDoor
open Go Go.RowKit Go.Sort Go.Shelf
namespace Lb
open Wd Nt Gr
set_option linter.unusedVariables false
set_option linter.unusedSimpArgs false
def nO (k d a b bf im : Int) : Op := ⟨k, d, -1, a, b, -1, bf, im⟩
def nP1 : Pg := ⟨3, sxB, [sxO1, nO 15 (-1) (-1) 0 1 0]⟩
def nP2 : Pg := ⟨3, sxB, [nO 1 1 (-1) (-1) 0 1, nO 14 0 1 (-1) 1 0, nO 14 2 0 (-1) 0 0, nO 3 0 0 1 0 0]⟩
def nP3 : Pg := ⟨3, sxB, [sxO1] ++ [nO 2 1 0 (-1) 0 0, nO 1 0 (-1) (-1) 0 0]⟩
def nP4 : Pg := ⟨3, sxB, [nO 16 0 (-1) (-1) 0 2, nO 17 (-1) (-1) (-1) 0 0, nO 14 0 (-1) (-1) 0 0]⟩
def nP5 : Pg := ⟨-1, [], []⟩
theorem sxB_wf : ∀ b ∈ sxB, b.wf := fun b hb => by
  simp only [sxB, List.mem_cons, List.not_mem_nil, or_false] at hb
  rcases hb with rfl | rfl <;> exact ⟨by unfold I64; decide, by unfold I64; decide⟩
theorem sxO1_wf : sxO1.wf := ⟨by unfold I64; decide, by unfold I64; decide, by unfold I64; decide, by unfold I64; decide, by unfold I64; decide, by unfold I64; decide, by unfold I64; decide, by unfold W; decide⟩
theorem i64_m1 : I64 (-1) := by unfold I64; decide
theorem nO_wf {k d a b bf im : Int} (h1 : I64 k) (h2 : I64 d) (h3 : I64 a) (h4 : I64 b) (h5 : I64 bf) (h6 : W im) : (nO k d a b bf im).wf := ⟨h1, h2, i64_m1, h3, h4, i64_m1, h5, h6⟩
theorem nP1_wf : nP1.wf := ⟨by unfold I64 nP1; decide, sxB_wf, fun o ho => by
  simp only [nP1, List.mem_cons, List.not_mem_nil, or_false] at ho
  rcases ho with rfl | rfl
  · exact sxO1_wf
  · exact nO_wf (by unfold I64; decide) (by unfold I64; decide) (by unfold I64; decide) (by unfold I64; decide) (by unfold I64; decide) (by unfold W; decide)⟩
theorem nP2_wf : nP2.wf := ⟨by unfold I64 nP2; decide, sxB_wf, fun o ho => by
  simp only [nP2, List.mem_cons, List.not_mem_nil, or_false] at ho
  rcases ho with rfl | rfl | rfl | rfl <;> exact nO_wf (by unfold I64; decide) (by unfold I64; decide) (by unfold I64; decide) (by unfold I64; decide) (by unfold I64; decide) (by unfold W; decide)⟩
theorem nP3_wf : nP3.wf := ⟨by unfold I64 nP3; decide, sxB_wf, fun o ho => by
  simp only [nP3, List.cons_append, List.nil_append, List.mem_cons, List.not_mem_nil, or_false] at ho
  rcases ho with rfl | rfl | rfl
  · exact sxO1_wf
  all_goals exact nO_wf (by unfold I64; decide) (by unfold I64; decide) (by unfold I64; decide) (by unfold I64; decide) (by unfold I64; decide) (by unfold W; decide)⟩
theorem nP4_wf : nP4.wf := ⟨by unfold I64 nP4; decide, sxB_wf, fun o ho => by
  simp only [nP4, List.mem_cons, List.not_mem_nil, or_false] at ho
  rcases ho with rfl | rfl | rfl <;> exact nO_wf (by unfold I64; decide) (by unfold I64; decide) (by unfold I64; decide) (by unfold I64; decide) (by unfold I64; decide) (by unfold W; decide)⟩
theorem nP5_wf : nP5.wf := ⟨by unfold I64 nP5; decide, fun b hb => absurd hb (by simp [nP5]), fun o ho => absurd ho (by simp [nP5])⟩
theorem n1_is {r : Nat × Int} (h : SecA nP1 r) : r = (1, 12) := by
  rw [h.is (n := 3) (t := 1) (by decide +kernel) (by decide +kernel) (by decide +kernel)]
  decide +kernel
theorem n2_is {r : Nat × Int} (h : SecA nP2 r) : r = (4, 0) := by
  rw [h.is (n := 3) (t := 4) (by decide +kernel) (by decide +kernel) (by decide +kernel)]
  decide +kernel
theorem n4_is {r : Nat × Int} (h : SecA nP4 r) : r = (0, 12) := by
  rw [h.is (n := 3) (t := 1) (by decide +kernel) (by decide +kernel) (by decide +kernel)]
  decide +kernel
theorem n3_is {l : List Bool} (h : SecL nP3 l) : l = [true, true, false] := by
  unfold SecL at h
  rw [if_neg (by decide +kernel)] at h
  obtain ⟨s, hs, rfl⟩ := h
  rw [hs.is (n := 3) (t := 3) (by decide +kernel) (by decide +kernel)]
  decide +kernel
theorem n5_is {l : List Bool} (h : SecL nP5 l) : l = [] := by
  unfold SecL at h
  rw [if_pos (by decide +kernel)] at h
  exact h
theorem nPub1 : pubP nP2 [[1, 2], [3, 4]] [[9, 9], [3, 4]] = true := by decide +kernel
theorem nPub2 : pubP nP2 [[1, 2], [3, 4]] [[1, 2], [3, 5]] = false := by decide +kernel
theorem nPub3 : pubP nP2 [[1, 2], [3, 4]] [] = false := by decide +kernel
/-- a whole operation stored anew -/
theorem own_put8 {w : World} {B gl n c j : Nat} {e : TypeId} {xs : List Op} {x y : Op} (h : Rws e B (.slice (some ⟨gl, 0, none⟩) n c) xs w) (hn : n = xs.length) (hx : xs[j]? = some x) :
    Rws e B (.slice (some ⟨gl, 0, none⟩) n c) (xs.set j y) ((((((((w.setCell ⟨gl, j * 8, none⟩ (.int .i64 y.k)).setCell ⟨gl, j * 8 + 1, none⟩ (.int .i64 y.d)).setCell ⟨gl, j * 8 + 2, none⟩ (.int .i64 y.e)).setCell ⟨gl, j * 8 + 3, none⟩ (.int .i64 y.a)).setCell ⟨gl, j * 8 + 4, none⟩ (.int .i64 y.b)).setCell ⟨gl, j * 8 + 5, none⟩ (.int .i64 y.c)).setCell ⟨gl, j * 8 + 6, none⟩ (.int .i64 y.bf)).setCell ⟨gl, j * 8 + 7, none⟩ (.int .u64 y.im)) := by
  have hl := (List.getElem?_eq_some_iff.1 hx).1
  have st : ∀ (d : Nat) (a b : Op) (v : Value) (w : World), d < 8 → (Op.vs a).set d v = Op.vs b → Rws e B (.slice (some ⟨gl, 0, none⟩) n c) (xs.set j a) w → Rws e B (.slice (some ⟨gl, 0, none⟩) n c) (xs.set j b) (w.setCell ⟨gl, j * 8 + d, none⟩ v) := fun d a b v w hd hv h0 => by
    have h1 := own_put (d := d) (y := b) (u := v) h0 (by rw [List.length_set]; exact hn) (List.getElem?_set_self hl) hd hv
    rw [List.set_set] at h1
    exact h1
  have h0 : Rws e B (.slice (some ⟨gl, 0, none⟩) n c) (xs.set j x) w := by
    have e1 : xs.set j x = xs := by
      apply List.ext_getElem?
      intro i
      rw [List.getElem?_set]
      split
      · rename_i hi
        subst hi
        rw [hx]
      · rfl
    rw [e1]
    exact h
  have k0 := st 0 x ⟨y.k, x.d, x.e, x.a, x.b, x.c, x.bf, x.im⟩ (.int .i64 y.k) w (by decide) rfl h0
  have k1 := st 1 ⟨y.k, x.d, x.e, x.a, x.b, x.c, x.bf, x.im⟩ ⟨y.k, y.d, x.e, x.a, x.b, x.c, x.bf, x.im⟩ (.int .i64 y.d) _ (by decide) rfl k0
  have k2 := st 2 ⟨y.k, y.d, x.e, x.a, x.b, x.c, x.bf, x.im⟩ ⟨y.k, y.d, y.e, x.a, x.b, x.c, x.bf, x.im⟩ (.int .i64 y.e) _ (by decide) rfl k1
  have k3 := st 3 ⟨y.k, y.d, y.e, x.a, x.b, x.c, x.bf, x.im⟩ ⟨y.k, y.d, y.e, y.a, x.b, x.c, x.bf, x.im⟩ (.int .i64 y.a) _ (by decide) rfl k2
  have k4 := st 4 ⟨y.k, y.d, y.e, y.a, x.b, x.c, x.bf, x.im⟩ ⟨y.k, y.d, y.e, y.a, y.b, x.c, x.bf, x.im⟩ (.int .i64 y.b) _ (by decide) rfl k3
  have k5 := st 5 ⟨y.k, y.d, y.e, y.a, y.b, x.c, x.bf, x.im⟩ ⟨y.k, y.d, y.e, y.a, y.b, y.c, x.bf, x.im⟩ (.int .i64 y.c) _ (by decide) rfl k4
  have k6 := st 6 ⟨y.k, y.d, y.e, y.a, y.b, y.c, x.bf, x.im⟩ ⟨y.k, y.d, y.e, y.a, y.b, y.c, y.bf, x.im⟩ (.int .i64 y.bf) _ (by decide) rfl k5
  exact st 7 ⟨y.k, y.d, y.e, y.a, y.b, y.c, y.bf, x.im⟩ y (.int .u64 y.im) _ (by decide) rfl k6
/-- two rows, written out -/
theorem lit_u2 (w : World) (ys zs : List Int) (hw : Ws ys) (hv : Ws zs) (hl : ys.length ≤ 1000000) (hm : zs.length ≤ 1000000) :
    HrW (((w.alloc (.cells (us ys) 31)).alloc (.cells (us zs) 31)).alloc (.cells #[.slice (some ⟨w.heap.size, 0, none⟩) ys.length ys.length, .slice (some ⟨w.heap.size + 1, 0, none⟩) zs.length zs.length] 43)) (w.heap.size + 3) (some ⟨w.heap.size + 2, 0, none⟩) 2 [⟨some ⟨w.heap.size, 0, none⟩, ys.length, ys.length, ys⟩, ⟨some ⟨w.heap.size + 1, 0, none⟩, zs.length, zs.length, zs⟩] := by
  have k1 : Bk (((w.alloc (.cells (us ys) 31)).alloc (.cells (us zs) 31)).alloc (.cells #[.slice (some ⟨w.heap.size, 0, none⟩) ys.length ys.length, .slice (some ⟨w.heap.size + 1, 0, none⟩) zs.length zs.length] 43)) w.heap.size 31 (us ys) := ((Bk.new w _ _).alloc _).alloc _
  have k2 : Bk (((w.alloc (.cells (us ys) 31)).alloc (.cells (us zs) 31)).alloc (.cells #[.slice (some ⟨w.heap.size, 0, none⟩) ys.length ys.length, .slice (some ⟨w.heap.size + 1, 0, none⟩) zs.length zs.length] 43)) (w.heap.size + 1) 31 (us zs) := (Bk.new' (by simp)).alloc _
  have k3 : Bk (((w.alloc (.cells (us ys) 31)).alloc (.cells (us zs) 31)).alloc (.cells #[.slice (some ⟨w.heap.size, 0, none⟩) ys.length ys.length, .slice (some ⟨w.heap.size + 1, 0, none⟩) zs.length zs.length] 43)) (w.heap.size + 2) 43 (row [(⟨some ⟨w.heap.size, 0, none⟩, ys.length, ys.length, ys⟩ : Hr), ⟨some ⟨w.heap.size + 1, 0, none⟩, zs.length, zs.length, zs⟩]).toArray := Bk.new' (by simp)
  refine ⟨bk_rdr k3 (by omega), fun h hh => ?_⟩
  simp only [List.mem_cons, List.not_mem_nil, or_false] at hh
  rcases hh with rfl | rfl
  · exact ⟨k1.rd0 (by omega) hw rfl, Nat.le_refl _, by show ys.length ≤ 9223372036854775807; omega⟩
  · exact ⟨k2.rd0 (by omega) hv rfl, Nat.le_refl _, by show zs.length ≤ 9223372036854775807; omega⟩
end Lb
end Go.Proofs.YtjdpbelfagkaiaaDoor
