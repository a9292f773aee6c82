/- Arguments that are slices of regions, read as the statements' rows read them. -/
import Derived.Test.YtkgbpcfpppceiaaLawP
import Derived.Test.YtkgbpcfpppceiaaA3
import Derived.Deep.Slices
import Derived.Deep.Fields
namespace Go.Proofs.Ytkgbpcfpppceiaa
namespace LawN
open Go Go.ChangeShapes Go.WideShapes Go.ChangeAt Go.RowKit Go.Lib Go.Deep
open Mm
set_option linter.unusedVariables false
theorem cells_u8 : Try.prog.cellsOf 5 = 1 := by kernel_rfl
theorem cells_reg : Try.prog.cellsOf 31 = 3 := by kernel_rfl
theorem cells_word : Try.prog.cellsOf 28 = 1 := by kernel_rfl
theorem cells_sl8 : Try.prog.cellsOf 29 = 1 := by kernel_rfl
theorem cells_bool : Try.prog.cellsOf 4 = 1 := by kernel_rfl
set_option maxRecDepth 100000 in
/-- the bytes of a slice that came in -/
theorem open_b8 {H : Type} {enc : TypeId × Value → H} {W : World} {n : Nat} {v : Value} {x : DataW H × List MemPlace} (h : DataW.trod enc Try.prog W 0 (fun _ => true) true n 29 [v] = some x) (hlt : ∀ y ∈ x.2, y.block < W.heap.size) :
    ∃ A n c bs, v = .slice A n c ∧ Rd8 W W.heap.size A n bs ∧ n ≤ c ∧ c ≤ 9223372036854775807 := by
  rcases open_ints Try.underlying29 Try.underlying5 cells_u8 h with ⟨hcs, hx⟩ | ⟨a, len, cap, zs, hcs, _, hl, hm, hz, hx, hcell, hwz⟩
  · obtain rfl : v = .slice none 0 0 := by simpa using hcs
    exact ⟨none, 0, 0, [], rfl, Rd8.nil, Nat.le_refl _, by omega⟩
  · obtain rfl : v = .slice (some a) len cap := by simpa using hcs
    subst hx
    simp only [if_true] at hz
    refine ⟨_, _, _, zs.take len, rfl, ⟨by rw [List.length_take]; omega, ?_, fun h0 => ⟨a, rfl, ?_, ?_⟩⟩, hl, by simpa [maxLen] using hm⟩
    · intro y hy
      have := hwz y (List.mem_of_mem_take hy)
      simp [Lit.wf, IntKind.min, IntKind.max, IntKind.signed, IntKind.bits] at this; omega
    · obtain ⟨b, off, spot⟩ := a
      exact hlt (.cell b off) (MemPlace.mem_row.2 ⟨0, by omega, by simp⟩)
    · intro j hj
      rw [hcell j (by omega)]
      unfold bt
      rw [List.getElem?_take, if_pos hj]
      rfl
set_option maxRecDepth 100000 in
/-- the regions of a slice that came in -/
theorem open_regs {H : Type} {enc : TypeId × Value → H} {W : World} {base : Nat} {v : Value} {d : DataW H} {p : List MemPlace} (hval : Value.okWide Try.prog W .any base 32 v)
    (h : DataW.Trod enc Try.prog W 0 (fun _ => true) true 32 v d p) (hlt : ∀ x ∈ p, x.block < W.heap.size) :
    ∃ A n c rs, v = .slice A n c ∧ RdR W W.heap.size A n rs ∧ n ≤ c ∧ c ≤ 9223372036854775807 := by
  obtain ⟨a0, len, cap, rfl⟩ := okWide_slice Try.underlying32 hval
  obtain ⟨fuel, hf⟩ := h
  rcases open_slice Try.underlying32 hf with ⟨hcs, hx⟩ | ⟨a, l1, k1, m, n, D, Pl, hcs, _, hl, hm, hmm, hx, hi⟩
  · simp [Value.cells] at hcs
    obtain ⟨rfl, rfl, rfl⟩ := hcs
    exact ⟨_, _, _, [], rfl, RdR.nil, Nat.le_refl _, by omega⟩
  · simp [Value.cells] at hcs
    obtain ⟨rfl, rfl, rfl⟩ := hcs
    simp only [Prod.mk.injEq] at hx
    obtain ⟨rfl, rfl⟩ := hx
    simp only [if_true] at hmm
    subst hmm
    rw [cells_reg] at hlt hi
    have each : ∀ i, i < m → ∃ r : Reg, r.ok ∧ RegAt W W.heap.size (a.add (i * 3)) r := by
      intro i hic
      obtain ⟨cs, hc, ht⟩ := hi i hic
      obtain ⟨_, hcl, hat⟩ := World.cells?_some hc
      obtain ⟨ys, n', _, hy, _, hyl, hfld⟩ := DataW.trod_struct Try.underlying31 ht
      obtain ⟨c0, c1, c2, rfl⟩ : ∃ c0 c1 c2, cs = [c0, c1, c2] := by
        match cs, hcl with
        | [c0, c1, c2], _ => exact ⟨c0, c1, c2, rfl⟩
      have hyl3 : ys.length = 3 := hyl
      obtain ⟨y0, y1, y2, rfl⟩ : ∃ y0 y1 y2, ys = [y0, y1, y2] := by
        match ys, hyl3 with
        | [y0, y1, y2], _ => exact ⟨y0, y1, y2, rfl⟩
      have t0 := hfld 0 _ rfl
      change DataW.trod enc Try.prog W 0 (fun _ => true) true n' 28 (([c0, c1, c2].drop 0).take (Try.prog.cellsOf 28)) = some y0 at t0
      rw [cells_word] at t0
      change DataW.trod enc Try.prog W 0 (fun _ => true) true n' 28 [c0] = some y0 at t0
      have t1 := hfld 1 _ rfl
      change DataW.trod enc Try.prog W 0 (fun _ => true) true n' 29 (([c0, c1, c2].drop 1).take (Try.prog.cellsOf 29)) = some y1 at t1
      rw [cells_sl8] at t1
      change DataW.trod enc Try.prog W 0 (fun _ => true) true n' 29 [c1] = some y1 at t1
      have t2 := hfld 2 _ rfl
      change DataW.trod enc Try.prog W 0 (fun _ => true) true n' 4 (([c0, c1, c2].drop 2).take (Try.prog.cellsOf 4)) = some y2 at t2
      rw [cells_bool] at t2
      change DataW.trod enc Try.prog W 0 (fun _ => true) true n' 4 [c2] = some y2 at t2
      obtain ⟨z, hz, _, hzw⟩ := DataW.trod_int Try.underlying28 t0
      obtain rfl : c0 = .int .u64 z := by simpa using hz
      obtain ⟨b, hb, _⟩ := DataW.trod_bool Try.underlying4 t2
      obtain rfl : c2 = .bool b := by simpa using hb
      have hpl : Pl i = y0.2 ++ (y1.2 ++ y2.2) := by
        simp only [Prod.mk.injEq] at hy
        rw [hy.2]; simp
      obtain ⟨A, l, c, bs, rfl, hrd, hlc, hcm⟩ := open_b8 t1 (fun y hy1 => hlt y (List.mem_append_right _ (List.mem_flatMap.2 ⟨i, List.mem_range.2 hic, by rw [hpl]; simp [hy1]⟩)))
      have hW : Wd.W z := by
        unfold Wd.W
        simp [Lit.wf, IntKind.min, IntKind.max, IntKind.signed, IntKind.bits] at hzw; omega
      have e : ∀ d, d ≠ 0 → (a.add (i * 3)).add d = ⟨(a.add (i * 3)).block, (a.add (i * 3)).off + d, none⟩ := fun d hd => by unfold Addr.add; simp [hd]
      have g0 := hat 0 (by omega)
      have g1 := hat 1 (by omega)
      have g2 := hat 2 (by omega)
      have e0 : (a.add (i * 3)).add 0 = a.add (i * 3) := by unfold Addr.add; simp
      rw [e0] at g0
      rw [e 1 (by omega)] at g1
      rw [e 2 (by omega)] at g2
      exact ⟨⟨z, bs, b⟩, ⟨hW, hrd.ok⟩, A, l, c, g0, g1, g2, hrd, hlc, hcm⟩
    have hm' : m ≤ 9223372036854775807 := by simpa [maxLen] using hm
    have hall : ∃ rs : List Reg, rs.length = len ∧ ∀ (j : Nat) (r : Reg), rs[j]? = some r → r.ok ∧ RegAt W W.heap.size (a.add (j * 3)) r := by
      have key : ∀ k, k ≤ len → ∃ rs : List Reg, rs.length = k ∧ ∀ (j : Nat) (r : Reg), rs[j]? = some r → r.ok ∧ RegAt W W.heap.size (a.add (j * 3)) r := by
        intro k
        induction k with
        | zero => exact fun _ => ⟨[], rfl, fun j r hj => by simp at hj⟩
        | succ k ih =>
          intro hk
          obtain ⟨rs, hl1, hrs⟩ := ih (by omega)
          obtain ⟨r, h1, h2⟩ := each k (by omega)
          refine ⟨rs ++ [r], by simp [hl1], fun j s hj => ?_⟩
          rcases Nat.lt_or_ge j k with h3 | h3
          · rw [List.getElem?_append_left (by omega)] at hj; exact hrs j s hj
          · rw [List.getElem?_append_right (by omega)] at hj
            have h4 := (List.getElem?_eq_some_iff.1 hj).1
            simp at h4
            have hjk : j = k := by omega
            subst hjk
            rw [hl1, Nat.sub_self] at hj
            obtain rfl : r = s := by simpa using hj
            exact ⟨h1, h2⟩
      exact key len (Nat.le_refl _)
    obtain ⟨rs, hl1, hrs⟩ := hall
    refine ⟨_, _, _, rs, rfl, ⟨hl1, fun r hr => ?_, fun h0 => ⟨a, rfl, ?_, fun j r hj => (hrs j r hj).2⟩⟩, hl, hm'⟩
    · obtain ⟨j, hj⟩ := getElem?_of_mem hr
      exact (hrs j r hj).1
    · obtain ⟨b, off, spot⟩ := a
      exact hlt (.cell b off) (List.mem_append_left _ (MemPlace.mem_row.2 ⟨0, by omega, by simp⟩))
end LawN
end Go.Proofs.Ytkgbpcfpppceiaa
