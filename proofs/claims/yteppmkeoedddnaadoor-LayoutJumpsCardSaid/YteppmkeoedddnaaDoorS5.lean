/- The landed package decode: RM read, whole. | The landed package decode: what a byte, a digit tell; instructions of one byte, of a number. | The landed package decode: what bytes and digits tell; two registers, the one in the middle made; a jump that hangs on a flag. -/
import Derived.Test.YteppmkeoedddnaaDoorS1
import Derived.Deep.RegionHeld3
namespace Go.Proofs.YteppmkeoedddnaaDoor
open Go Go.RowKit
namespace Is
open Nt
set_option linter.unusedVariables false
set_option linter.unusedSimpArgs false
theorem or_i8 {a c : Int} (h1 : 0 ≤ a) (h2 : a ≤ 7) (hc : c = 0 ∨ c = 8) : bits .or .i64 a c = a + c := or_8 h1 h2 hc
end Is
end Go.Proofs.YteppmkeoedddnaaDoor
namespace Go.Proofs.YteppmkeoedddnaaDoor
open Go Go.RowKit
namespace Is
open Nt
set_option linter.unusedVariables false
set_option linter.unusedSimpArgs false
set_option maxRecDepth 100000 in
theorem ret_inst {fn : Func} {p : Tmp} {R : Ending → World → Prop} {a : Act} {w : World} {g : Nat} {cs : Array Value} (h : fn.results = #[.cell p 35]) (hp : a.tmps.getD p undef = .pointer (some ⟨g, 0, none⟩)) (hd : a.defers = [])
    (hb : Bk w g 35 cs) (h9 : cs.size = 9) (hR : R (.returned (.agg cs)) w) : bodyPost Tryd.prog fn R .ret a w :=
  bodyPost_ret (results_cell_row h _ _ g 35 cs (0, 0) _ hp hb Tryd.underlying35 rfl (by rw [h9]; kernel_rfl)) hd hR
/-- an instruction stored, cell by cell -/
def put9 (w : World) (g : Nat) (c0 c1 c2 c3 c4 c5 c6 c7 c8 : Value) : World := (((((((((w).setCell ⟨g, 0, none⟩ c0).setCell ⟨g, 1, none⟩ c1).setCell ⟨g, 2, none⟩ c2).setCell ⟨g, 3, none⟩ c3).setCell ⟨g, 4, none⟩ c4).setCell ⟨g, 5, none⟩ c5).setCell ⟨g, 6, none⟩ c6).setCell ⟨g, 7, none⟩ c7).setCell ⟨g, 8, none⟩ c8
theorem put9_bk {w : World} {g : Nat} {t : TypeId} {x0 x1 x2 x3 x4 x5 x6 x7 x8 c0 c1 c2 c3 c4 c5 c6 c7 c8 : Value} (h : Bk w g t #[x0, x1, x2, x3, x4, x5, x6, x7, x8]) : Bk (put9 w g c0 c1 c2 c3 c4 c5 c6 c7 c8) g t #[c0, c1, c2, c3, c4, c5, c6, c7, c8] := by
  have h0 : Bk (_) g t #[c0, x1, x2, x3, x4, x5, x6, x7, x8] := h.set_ 0 c0
  have h1 : Bk (_) g t #[c0, c1, x2, x3, x4, x5, x6, x7, x8] := h0.set_ 1 c1
  have h2 : Bk (_) g t #[c0, c1, c2, x3, x4, x5, x6, x7, x8] := h1.set_ 2 c2
  have h3 : Bk (_) g t #[c0, c1, c2, c3, x4, x5, x6, x7, x8] := h2.set_ 3 c3
  have h4 : Bk (_) g t #[c0, c1, c2, c3, c4, x5, x6, x7, x8] := h3.set_ 4 c4
  have h5 : Bk (_) g t #[c0, c1, c2, c3, c4, c5, x6, x7, x8] := h4.set_ 5 c5
  have h6 : Bk (_) g t #[c0, c1, c2, c3, c4, c5, c6, x7, x8] := h5.set_ 6 c6
  have h7 : Bk (_) g t #[c0, c1, c2, c3, c4, c5, c6, c7, x8] := h6.set_ 7 c7
  have h8 : Bk (_) g t #[c0, c1, c2, c3, c4, c5, c6, c7, c8] := h7.set_ 8 c8
  exact h8
theorem put9_far {w : World} {g C : Nat} {t : TypeId} {cs : Array Value} {c0 c1 c2 c3 c4 c5 c6 c7 c8 : Value} (h : Bk w C t cs) (hn : C ≠ g) : Bk (put9 w g c0 c1 c2 c3 c4 c5 c6 c7 c8) C t cs :=
  ((((((((h.far (by exact hn) c0).far (by exact hn) c1).far (by exact hn) c2).far (by exact hn) c3).far (by exact hn) c4).far (by exact hn) c5).far (by exact hn) c6).far (by exact hn) c7).far (by exact hn) c8
theorem put9_mu {S : List Nat} {a w : World} {g : Nat} {c0 c1 c2 c3 c4 c5 c6 c7 c8 : Value} (h : Mu S a w) (hg : g < a.heap.size → g ∈ S) : Mu S a (put9 w g c0 c1 c2 c3 c4 c5 c6 c7 c8) :=
  ((((((((h.set_ _ (by exact hg) c0).set_ _ (by exact hg) c1).set_ _ (by exact hg) c2).set_ _ (by exact hg) c3).set_ _ (by exact hg) c4).set_ _ (by exact hg) c5).set_ _ (by exact hg) c6).set_ _ (by exact hg) c7).set_ _ (by exact hg) c8
/-- the end of a function that answers an instruction, which is stored last -/
theorem ret_put {fn : Func} {p : Tmp} {R : Ending → World → Prop} {a : Act} {w : World} {g : Nat} {x0 x1 x2 x3 x4 x5 x6 x7 x8 c0 c1 c2 c3 c4 c5 c6 c7 c8 : Value} (h : fn.results = #[.cell p 35]) (hp : a.tmps.getD p undef = .pointer (some ⟨g, 0, none⟩)) (hd : a.defers = [])
    (hb : Bk w g 35 #[x0, x1, x2, x3, x4, x5, x6, x7, x8]) (hR : R (.returned (.agg #[c0, c1, c2, c3, c4, c5, c6, c7, c8])) (put9 w g c0 c1 c2 c3 c4 c5 c6 c7 c8)) : bodyPost Tryd.prog fn R .ret a (put9 w g c0 c1 c2 c3 c4 c5 c6 c7 c8) :=
  ret_inst h hp hd (put9_bk hb) rfl hR
end Is
end Go.Proofs.YteppmkeoedddnaaDoor
namespace Go.Proofs.YteppmkeoedddnaaDoor
open Go Go.RowKit
namespace Is
open Nt
set_option linter.unusedVariables false
set_option linter.unusedSimpArgs false
theorem or_dig : ∀ d : Nat, d < 16 → ∀ b : Nat, b < 256 → (b * 16) ||| d = b * 16 + d := fun d hd b _ => nat_join 4 (b * 16) d (by omega) (by omega)
theorem or_16 {b d : Int} (b0 : 0 ≤ b) (b1 : b ≤ 255) (d0 : 0 ≤ d) (d1 : d ≤ 15) : bits .or .i64 (b * 16) d = b * 16 + d := by
  obtain ⟨x, rfl⟩ := Int.eq_ofNat_of_zero_le b0
  obtain ⟨y, rfl⟩ := Int.eq_ofNat_of_zero_le d0
  have e1 : ((y : Nat) : Int) = wrap64 ((y : Nat) : Int) := (w64i (by omega) (by omega)).symm
  have h := or_i64 y (x * 16) 4 (by omega) (by omega) (by omega) (by omega)
  have hc : bits .or .i64 ((x : Int) * 16) (y : Int) = bits .or .i64 (y : Int) ((x : Int) * 16) := by
    show IntKind.i64.wrap ((BitVec.ofInt 64 ((x : Int) * 16) ||| BitVec.ofInt 64 (y : Int)).toNat : Int) = IntKind.i64.wrap ((BitVec.ofInt 64 (y : Int) ||| BitVec.ofInt 64 ((x : Int) * 16)).toNat : Int)
    rw [BitVec.or_comm]
  have e2 : ((x * 16 : Nat) : Int) = (x : Int) * 16 := by omega
  rw [hc]
  rw [w64i (z := ((x * 16 : Nat) : Int)) (by omega) (by omega), w64i (by omega) (by omega), e2] at h
  rw [h]
  omega
end Is
end Go.Proofs.YteppmkeoedddnaaDoor
