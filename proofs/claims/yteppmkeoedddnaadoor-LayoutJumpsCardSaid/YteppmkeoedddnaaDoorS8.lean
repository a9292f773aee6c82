/- The landed package decode: its forms. | The landed package decode: a product, a digit, two operands. | The landed package decode: two operands. -/
import Derived.Test.YteppmkeoedddnaaDoorS5
namespace Go.Proofs.YteppmkeoedddnaaDoor
open Go Go.RowKit
namespace Is
open Nt
set_option linter.unusedVariables false
set_option linter.unusedSimpArgs false
def zC : Array Value := #[.int .i64 0, .int .i64 0, .int .i64 0, .int .i64 0, .int .i64 0, .int .i64 0, .int .i64 0, .int .i64 0, .int .i64 0]
theorem bel_fresh {w : World} {o : Obj} {S : List Nat} {w2 : World} {T : List Nat} (h : Mu T (w.alloc o) w2) (hT : ∀ j, j ∈ T → j < w.heap.size → j ∈ S) : Mu S w w2 := ((Mu.refl S w).alloc o).trans h hT
end Is
end Go.Proofs.YteppmkeoedddnaaDoor
namespace Go.Proofs.YteppmkeoedddnaaDoor
open Go Go.RowKit
namespace Is
open Nt
set_option linter.unusedVariables false
set_option linter.unusedSimpArgs false
theorem twoM_z (B : Nat → Int) (k : Nat) (r op : Int) : (twoM B k r op).b = 0 ∧ (twoM B k r op).x = 0 ∧ (twoM B k r op).sc = 0 ∧ (twoM B k r op).di = 0 ∧ (twoM B k r op).im = 0 := by
  unfold twoM zI
  split <;> exact ⟨rfl, rfl, rfl, rfl, rfl⟩
set_option maxRecDepth 100000 in
theorem ret_putD {fn : Func} {p : Tmp} {R : Ending → World → Prop} {a : Act} {w : World} {g : Nat} {x0 x1 x2 x3 x4 x5 x6 x7 x8 c0 c1 c2 c3 c4 c5 c6 c7 c8 : Value} (h : fn.results = #[.cell p 35]) (hp : a.tmps.getD p undef = .pointer (some ⟨g, 0, none⟩)) (hd : a.defers = [])
    (hb : Bk w g 35 #[x0, x1, x2, x3, x4, x5, x6, x7, x8]) (hR : R (.returned (.agg #[c0, c1, c2, c3, c4, c5, c6, c7, c8])) (put9 w g c0 c1 c2 c3 c4 c5 c6 c7 c8).drew) : bodyPost Tryd.prog fn R .ret a (put9 w g c0 c1 c2 c3 c4 c5 c6 c7 c8).drew :=
  ret_inst h hp hd (put9_bk hb).drew rfl hR
set_option maxRecDepth 100000 in
theorem ret_putA {fn : Func} {p : Tmp} {R : Ending → World → Prop} {a : Act} {w : World} {o : Obj} {g : Nat} {x0 x1 x2 x3 x4 x5 x6 x7 x8 c0 c1 c2 c3 c4 c5 c6 c7 c8 : Value} (h : fn.results = #[.cell p 35]) (hp : a.tmps.getD p undef = .pointer (some ⟨g, 0, none⟩)) (hd : a.defers = [])
    (hb : Bk w g 35 #[x0, x1, x2, x3, x4, x5, x6, x7, x8]) (hR : R (.returned (.agg #[c0, c1, c2, c3, c4, c5, c6, c7, c8])) ((put9 w g c0 c1 c2 c3 c4 c5 c6 c7 c8).alloc o)) : bodyPost Tryd.prog fn R .ret a ((put9 w g c0 c1 c2 c3 c4 c5 c6 c7 c8).alloc o) :=
  ret_inst h hp hd ((put9_bk hb).alloc o) rfl hR
theorem xor_255 : ∀ n : Nat, n < 256 → (255 ^^^ n = 255 - n) := by decide +kernel
theorem xor255 {b : Int} (h0 : 0 ≤ b) (h1 : b ≤ 255) : bits .xor .u8 IntKind.u8.max b = 255 - b := by
  have e : IntKind.u8.max = 255 := rfl
  rw [e, u8_xor 255 b (by decide) (by decide) h0 (by omega), show (255 : Int).toNat = 255 from rfl, xor_255 b.toNat (by omega)]
  omega
end Is
end Go.Proofs.YteppmkeoedddnaaDoor
namespace Go.Proofs.YteppmkeoedddnaaDoor
open Go Go.RowKit
namespace Is
open Nt
set_option linter.unusedVariables false
set_option linter.unusedSimpArgs false
end Is
end Go.Proofs.YteppmkeoedddnaaDoor
