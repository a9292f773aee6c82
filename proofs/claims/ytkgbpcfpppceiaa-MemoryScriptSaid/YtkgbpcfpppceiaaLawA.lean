/- An argument that is a slice of acts, read as the statements' rows read it. -/
import Derived.Test.YtkgbpcfpppceiaaLawM
import Derived.Test.YtkgbpcfpppceiaaA16
namespace Go.Proofs.Ytkgbpcfpppceiaa
namespace LawN
open Go Go.ChangeShapes Go.WideShapes Go.ChangeAt Go.RowKit Go.Lib Go.Deep
open Mm
set_option linter.unusedVariables false
theorem cells_act : Try.prog.cellsOf 48 = 4 := by kernel_rfl
theorem cells_int : Try.prog.cellsOf 3 = 1 := by kernel_rfl
theorem wf_W {z : Int} (h : (Lit.int .u64 z).wf = true) : Wd.W z := by
  unfold Wd.W
  simp [Lit.wf, IntKind.min, IntKind.max, IntKind.signed, IntKind.bits] at h; omega
set_option maxRecDepth 100000 in
/-- the acts of a slice that came in -/
theorem open_acts {H : Type} {enc : TypeId × Value → H} {W : World} {base : Nat} {v : Value} {d : DataW H} {p : List MemPlace} (hval : Value.okWide Try.prog W .any base 40 v)
    (h : DataW.Trod enc Try.prog W 0 (fun _ => true) true 40 v d p) (hlt : ∀ x ∈ p, x.block < W.heap.size) :
    ∃ A n c xs, v = .slice A n c ∧ RdA W W.heap.size A n xs ∧ n ≤ c ∧ c ≤ 9223372036854775807 := by
  obtain ⟨a0, len, cap, rfl⟩ := okWide_slice Try.underlying40 hval
  obtain ⟨fuel, hf⟩ := h
  rcases open_slice Try.underlying40 hf with ⟨hcs, hx⟩ | ⟨a, l1, k1, m, n, D, Pl, hcs, _, hl, hm, hmm, hx, hi⟩
  · simp [Value.cells] at hcs
    obtain ⟨rfl, rfl, rfl⟩ := hcs
    exact ⟨_, _, _, [], rfl, ⟨rfl, (fun _ h => by cases h), fun h => absurd h (by omega)⟩, Nat.le_refl _, by omega⟩
  · simp [Value.cells] at hcs
    obtain ⟨rfl, rfl, rfl⟩ := hcs
    simp only [Prod.mk.injEq] at hx
    obtain ⟨rfl, rfl⟩ := hx
    simp only [if_true] at hmm
    subst hmm
    rw [cells_act] at hlt hi
    have each : ∀ i, i < m → ∃ x : Ac, x.ok ∧ AcAt W (a.add (i * 4)) x := by
      intro i hic
      obtain ⟨cs, hc, ht⟩ := hi i hic
      obtain ⟨_, hcl, hat⟩ := World.cells?_some hc
      obtain ⟨ys, n', _, hy, _, hyl, hfld⟩ := DataW.trod_struct Try.underlying48 ht
      obtain ⟨c0, c1, c2, c3, rfl⟩ : ∃ c0 c1 c2 c3, cs = [c0, c1, c2, c3] := by
        match cs, hcl with
        | [c0, c1, c2, c3], _ => exact ⟨c0, c1, c2, c3, rfl⟩
      have hyl3 : ys.length = 4 := hyl
      obtain ⟨y0, y1, y2, y3, rfl⟩ : ∃ y0 y1 y2 y3, ys = [y0, y1, y2, y3] := by
        match ys, hyl3 with
        | [y0, y1, y2, y3], _ => exact ⟨y0, y1, y2, y3, rfl⟩
      have t0 := hfld 0 _ rfl
      change DataW.trod enc Try.prog W 0 (fun _ => true) true n' 3 (([c0, c1, c2, c3].drop 0).take (Try.prog.cellsOf 3)) = some y0 at t0
      rw [cells_int] at t0
      change DataW.trod enc Try.prog W 0 (fun _ => true) true n' 3 [c0] = some y0 at t0
      have t1 := hfld 1 _ rfl
      change DataW.trod enc Try.prog W 0 (fun _ => true) true n' 28 (([c0, c1, c2, c3].drop 1).take (Try.prog.cellsOf 28)) = some y1 at t1
      rw [cells_word] at t1
      change DataW.trod enc Try.prog W 0 (fun _ => true) true n' 28 [c1] = some y1 at t1
      have t2 := hfld 2 _ rfl
      change DataW.trod enc Try.prog W 0 (fun _ => true) true n' 28 (([c0, c1, c2, c3].drop 2).take (Try.prog.cellsOf 28)) = some y2 at t2
      rw [cells_word] at t2
      change DataW.trod enc Try.prog W 0 (fun _ => true) true n' 28 [c2] = some y2 at t2
      have t3 := hfld 3 _ rfl
      change DataW.trod enc Try.prog W 0 (fun _ => true) true n' 3 (([c0, c1, c2, c3].drop 3).take (Try.prog.cellsOf 3)) = some y3 at t3
      rw [cells_int] at t3
      change DataW.trod enc Try.prog W 0 (fun _ => true) true n' 3 [c3] = some y3 at t3
      obtain ⟨z0, hz0, _, hw0⟩ := DataW.trod_int Try.underlying3 t0
      obtain rfl : c0 = .int .i64 z0 := by simpa using hz0
      obtain ⟨z1, hz1, _, hw1⟩ := DataW.trod_int Try.underlying28 t1
      obtain rfl : c1 = .int .u64 z1 := by simpa using hz1
      obtain ⟨z2, hz2, _, hw2⟩ := DataW.trod_int Try.underlying28 t2
      obtain rfl : c2 = .int .u64 z2 := by simpa using hz2
      obtain ⟨z3, hz3, _, hw3⟩ := DataW.trod_int Try.underlying3 t3
      obtain rfl : c3 = .int .i64 z3 := by simpa using hz3
      have e : ∀ d, d ≠ 0 → (a.add (i * 4)).add d = ⟨(a.add (i * 4)).block, (a.add (i * 4)).off + d, none⟩ := fun d hd => by unfold Addr.add; simp [hd]
      have g0 := hat 0 (by omega)
      have g1 := hat 1 (by omega)
      have g2 := hat 2 (by omega)
      have g3 := hat 3 (by omega)
      have e0 : (a.add (i * 4)).add 0 = a.add (i * 4) := by unfold Addr.add; simp
      rw [e0] at g0
      rw [e 1 (by omega)] at g1
      rw [e 2 (by omega)] at g2
      rw [e 3 (by omega)] at g3
      exact ⟨⟨z0, z1, z2, z3⟩, ⟨hw0, wf_W hw1, wf_W hw2, hw3⟩, ⟨g0, g1, g2, g3⟩⟩
    have hm' : m ≤ 9223372036854775807 := by simpa [maxLen] using hm
    have hall : ∃ xs : List Ac, xs.length = len ∧ ∀ (j : Nat) (x : Ac), xs[j]? = some x → x.ok ∧ AcAt W (a.add (j * 4)) x := by
      have key : ∀ k, k ≤ len → ∃ xs : List Ac, xs.length = k ∧ ∀ (j : Nat) (x : Ac), xs[j]? = some x → x.ok ∧ AcAt W (a.add (j * 4)) x := by
        intro k
        induction k with
        | zero => exact fun _ => ⟨[], rfl, fun j r hj => by simp at hj⟩
        | succ k ih =>
          intro hk
          obtain ⟨xs, hl1, hrs⟩ := ih (by omega)
          obtain ⟨r, h1, h2⟩ := each k (by omega)
          refine ⟨xs ++ [r], by simp [hl1], fun j s hj => ?_⟩
          rcases Nat.lt_or_ge j k with h3 | h3
          · rw [List.getElem?_append_left (by omega)] at hj; exact hrs j s hj
          · rw [List.getElem?_append_right (by omega)] at hj
            have h4 := (List.getElem?_eq_some_iff.1 hj).1
            simp at h4
            have hjk : j = k := by omega
            subst hjk
            rw [hl1, Nat.sub_self] at hj
            obtain rfl : r = s := by simpa using hj
            exact ⟨h1, h2⟩
      exact key len (Nat.le_refl _)
    obtain ⟨xs, hl1, hrs⟩ := hall
    refine ⟨_, _, _, xs, rfl, ⟨hl1, fun r hr => ?_, fun h0 => ⟨a, rfl, ?_, fun j r hj => (hrs j r hj).2⟩⟩, hl, hm'⟩
    · obtain ⟨j, hj⟩ := List.mem_iff_getElem?.1 hr
      exact (hrs j r hj).1
    · obtain ⟨b, off, spot⟩ := a
      exact hlt (.cell b off) (List.mem_append_left _ (MemPlace.mem_row.2 ⟨0, by omega, by simp⟩))
end LawN
end Go.Proofs.Ytkgbpcfpppceiaa
