/- mulAdd: a product of words, with what lies under it and what is carried; marks of ranges at a function's end. -/
import Derived.Test.YtdklchejnpaenaaDoorNatTake
namespace Go.Proofs.YtdklchejnpaenaaDoor
open Go Go.RowKit Go.Shelf
attribute [local go_sem] Oper.semAt_some
namespace Nt
open Wd Sti
set_option linter.unusedVariables false

def maL (x y u c : Int) : Int := (x * y + u + c) % 18446744073709551616
def maH (x y u c : Int) : Int := (x * y + u + c) / 18446744073709551616
theorem maL_W (x y u c : Int) : W (maL x y u c) := W_mod _
theorem maH_W {x y u c : Int} (hx : W x) (hy : W y) (hu : W u) (hc : W c) : W (maH x y u c) := by
  have := mul_le hx hy
  unfold W at hu hc
  unfold W maH; omega
theorem ma_eq (x y u c : Int) : maL x y u c + 18446744073709551616 * maH x y u c = x * y + u + c := by unfold maL maH; omega
theorem ma_parts {x y u c : Int} (hx : W x) (hy : W y) (hu : W u) (hc : W c) :
    Wd.add (Wd.add (mulL x y) u false) c false = maL x y u c ∧
    Wd.add (Wd.add (mulH x y) 0 (addO (mulL x y) u false)) 0 (addO (Wd.add (mulL x y) u false) c false) = maH x y u c := by
  have h0 := mul_le hx hy
  have e1 := add_eq (W_mulL x y) hu false
  have e2 := add_eq (W_add (mulL x y) u false) hc false
  have e := mul_eq x y
  have b1' := b1_01 (addO (mulL x y) u false)
  have b2' := b1_01 (addO (Wd.add (mulL x y) u false) c false)
  have w1 := W_add (Wd.add (mulL x y) u false) c false
  have eq1 : Wd.add (mulH x y) 0 (addO (mulL x y) u false) = (mulH x y + 0 + b1 (addO (mulL x y) u false)) % 18446744073709551616 := rfl
  have eq2 : Wd.add (Wd.add (mulH x y) 0 (addO (mulL x y) u false)) 0 (addO (Wd.add (mulL x y) u false) c false) = (Wd.add (mulH x y) 0 (addO (mulL x y) u false) + 0 + b1 (addO (Wd.add (mulL x y) u false) c false)) % 18446744073709551616 := rfl
  rw [eq2, eq1]
  unfold maL maH
  simp only [b1_f] at e1 e2
  unfold W at hu hc w1
  generalize Wd.add (Wd.add (mulL x y) u false) c false = s at *
  generalize Wd.add (mulL x y) u false = r at *
  generalize b1 (addO r c false) = d at *
  generalize b1 (addO (mulL x y) u false) = f at *
  generalize mulL x y = ml at *
  generalize mulH x y = mh at *
  generalize x * y = p at *
  omega
set_option maxHeartbeats 1000000 in
theorem mulAdd_c (x y u c : Int) (w : World) (hx : W x) (hy : W y) (hu : W u) (hc : W c) :
    Calls Tryd.prog 54 #[.int .u64 x, .int .u64 y, .int .u64 u, .int .u64 c] w fun e w' => e = .returned (.tuple #[.int .u64 (maL x y u c), .int .u64 (maH x y u c)]) ∧ w' = w := by
  obtain ⟨H1, H2⟩ := ma_parts hx hy hu hc
  have C1 := Lib.hid (mul_c x y w hx hy)
  have C2 := Lib.hid (add_c (mulL x y) u false w (W_mulL _ _) hu)
  have C3 := Lib.hid (add_c (mulH x y) 0 (addO (mulL x y) u false) w (W_mulH hx hy) W_zero)
  have C4 := Lib.hid (add_c (Wd.add (mulL x y) u false) c false w (W_add _ _ _) hc)
  have C5 := Lib.hid (add_c (Wd.add (mulH x y) 0 (addO (mulL x y) u false)) 0 (addO (Wd.add (mulL x y) u false) c false) w (W_add _ _ _) W_zero)
  rw [← H1, ← H2]
  clear H1 H2 hx hy hu hc
  go_enter Tryd.func54, Tryd.ntmps54
  go_wp2_with fail
  go_at_call 71
  refine C1.out.mono ?_; rintro e w' ⟨rfl, rfl⟩
  go_wp2_with fail
  go_at_call 53
  refine C2.out.mono ?_; rintro e w' ⟨rfl, rfl⟩
  go_wp2_with fail
  go_at_call 53
  refine C3.out.mono ?_; rintro e w' ⟨rfl, rfl⟩
  go_wp2_with fail
  go_at_call 53
  refine C4.out.mono ?_; rintro e w' ⟨rfl, rfl⟩
  go_wp2_with fail
  go_at_call 53
  refine C5.out.mono ?_; rintro e w' ⟨rfl, rfl⟩
  go_wp2_with fail
  go_ret2
  exact ⟨rfl, rfl⟩

/-! ### marks -/
def mark (D : Nat) : Deferred := { target := .collected D, args := #[] }
/-- the blocks of marks, the youngest first: each stands open -/
def Open (Ds : List Nat) (W : World) : Prop := Ds.Pairwise (fun a b => b < a) ∧ ∀ D ∈ Ds, W.heap[D]? = some (.deferred (some []))
theorem Open.nil (W : World) : Open [] W := ⟨List.Pairwise.nil, fun D h => by cases h⟩
theorem Open.lt {Ds : List Nat} {W : World} (h : Open Ds W) {D : Nat} (hD : D ∈ Ds) : D < W.heap.size := (Array.getElem?_eq_some_iff.1 (h.2 D hD)).1
theorem Open.cons {Ds : List Nat} {W : World} {D : Nat} (h : Open Ds W) (hD : ∀ d ∈ Ds, d < D) (hK : W.heap[D]? = some (.deferred (some []))) : Open (D :: Ds) W :=
  ⟨List.Pairwise.cons hD h.1, fun d hd => by
    rcases List.mem_cons.1 hd with rfl | hd
    · exact hK
    · exact h.2 d hd⟩
theorem Open.kept {Ds : List Nat} {W W' : World} (h : Open Ds W) (hk : ∀ k o, W.heap[k]? = some o → o.isCells = false → k ∈ Ds → W'.heap[k]? = some o) : Open Ds W' := ⟨h.1, fun D hD => hk D _ (h.2 D hD) rfl hD⟩
theorem Open.others {Ds : List Nat} {W W' : World} (h : Open Ds W) (hk : KeepsOthers W W') : Open Ds W' := h.kept fun k o ho hc _ => hk.same k o ho hc
theorem leaves_open {F : Fence} {n : Nat} {P : Program} {fn : Func} {tmps : Array Value} {R : Ending → World → Prop} (B : Nat) : ∀ (Ds : List Nat) (W : World), Open Ds W → (∀ D ∈ Ds, B ≤ D) →
    (∀ W', (∀ k t cs, Bk W k t cs → Bk W' k t cs) → Below B W W' → ∃ v, (results fn tmps).run P W' = .ok v W' ∧ R (.returned v) W') → LeavesInM F n P fn tmps R (Ds.map mark) .returning W := by
  intro Ds
  induction Ds with
  | nil =>
    intro W _ _ h
    obtain ⟨v, h1, h2⟩ := h W (fun _ _ _ h => h) (Below.refl _ _)
    exact ⟨v, h1, h2⟩
  | cons D Ds ih =>
    intro W ho hB h
    have hK := ho.2 D (List.mem_cons_self ..)
    refine ⟨by simp, .inl ⟨D, _, rfl, run_takeDeferred hK, ?_⟩⟩
    refine ih _ ⟨(List.pairwise_cons.1 ho.1).2, fun d hd => ?_⟩ (fun d hd => hB d (List.mem_cons_of_mem _ hd)) (fun W' hk hb => ?_)
    · have hlt := (List.pairwise_cons.1 ho.1).1 d hd
      exact (World.putObj_heap_other (by omega)).trans (ho.2 d (List.mem_cons_of_mem _ hd))
    · refine h W' (fun k t cs hc => hk k t cs (hc.putObj _ hK rfl)) ?_
      exact (below_putObj (Below.refl B W) (by have := ho.lt (List.mem_cons_self ..); have := hB D (List.mem_cons_self ..); omega) (hB D (List.mem_cons_self ..)) _).trans hb
end Nt
end Go.Proofs.YtdklchejnpaenaaDoor
