/- Acts: a slice of calls, as MemoryScript reads it. -/
import Derived.Test.YtkgbpcfpppceiaaA15
namespace Go.Proofs.Ytkgbpcfpppceiaa
open Go Go.RowKit
namespace Mm
open Wd Nt
set_option linter.unusedVariables false
structure Ac where
  k : Int
  p : Int
  v : Int
  n : Int
structure Ac.ok (x : Ac) : Prop where
  k : (Lit.int .i64 x.k).wf = true
  p : W x.p
  v : W x.v
  n : (Lit.int .i64 x.n).wf = true
structure AcAt (w : World) (ad : Addr) (x : Ac) : Prop where
  k : w.cell? ad = some (.int .i64 x.k)
  p : w.cell? ⟨ad.block, ad.off + 1, none⟩ = some (.int .u64 x.p)
  v : w.cell? ⟨ad.block, ad.off + 2, none⟩ = some (.int .u64 x.v)
  n : w.cell? ⟨ad.block, ad.off + 3, none⟩ = some (.int .i64 x.n)
structure RdA (w : World) (B : Nat) (A : Option Addr) (n : Nat) (xs : List Ac) : Prop where
  len : xs.length = n
  oks : ∀ x ∈ xs, x.ok
  rd : 0 < n → ∃ ad, A = some ad ∧ ad.block < B ∧ ∀ (j : Nat) (x : Ac), xs[j]? = some x → AcAt w (ad.add (j * 4)) x
theorem RdA.below {w w' : World} {B n : Nat} {A : Option Addr} {xs : List Ac} (h : RdA w B A n xs) (hb : Below B w w') : RdA w' B A n xs :=
  ⟨h.len, h.oks, fun h0 => by
    obtain ⟨ad, e, hB, hc⟩ := h.rd h0
    refine ⟨ad, e, hB, fun j x hj => ?_⟩
    obtain ⟨h1, h2, h3, h4⟩ := hc j x hj
    have hbb : (ad.add (j * 4)).block < B := by rw [Nt.block_add]; exact hB
    exact ⟨by rw [hb.cell hbb]; exact h1, by rw [hb.cell (by exact hbb)]; exact h2, by rw [hb.cell (by exact hbb)]; exact h3, by rw [hb.cell (by exact hbb)]; exact h4⟩⟩
end Mm
end Go.Proofs.Ytkgbpcfpppceiaa
