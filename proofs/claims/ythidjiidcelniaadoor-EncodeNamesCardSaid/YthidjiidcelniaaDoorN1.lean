/- What is asked of the landed package encode; rows of instructions; the chapter's examples as each law asks them first. -/
import Derived.Test.YthidjiidcelniaaDoorM2
namespace Go.Proofs.YthidjiidcelniaaDoor
open Go Go.RowKit
namespace Is
open Nt
set_option linter.unusedVariables false
set_option linter.unusedSimpArgs false
/-- an instruction in memory -/
structure InAt (w : World) (ad : Addr) (i : Ins) : Prop where
  op : w.cell? ad = some (.int .i64 i.op)
  d : w.cell? ⟨ad.block, ad.off + 1, none⟩ = some (.int .i64 i.d)
  s : w.cell? ⟨ad.block, ad.off + 2, none⟩ = some (.int .i64 i.s)
  t : w.cell? ⟨ad.block, ad.off + 3, none⟩ = some (.int .i64 i.t)
  b : w.cell? ⟨ad.block, ad.off + 4, none⟩ = some (.int .i64 i.b)
  x : w.cell? ⟨ad.block, ad.off + 5, none⟩ = some (.int .i64 i.x)
  sc : w.cell? ⟨ad.block, ad.off + 6, none⟩ = some (.int .i64 i.sc)
  di : w.cell? ⟨ad.block, ad.off + 7, none⟩ = some (.int .i64 i.di)
  im : w.cell? ⟨ad.block, ad.off + 8, none⟩ = some (.int .i64 i.im)
/-- a slice of instructions -/
structure RdX (w : World) (B : Nat) (A : Option Addr) (n : Nat) (is : List Ins) : Prop where
  len : is.length = n
  oks : ∀ i ∈ is, i.wf
  rd : 0 < n → ∃ ad, A = some ad ∧ ad.block < B ∧ ∀ (j : Nat) (i : Ins), is[j]? = some i → InAt w (ad.add (j * 9)) i
theorem RdX.below {w w' : World} {B n : Nat} {A : Option Addr} {is : List Ins} (h : RdX w B A n is) (hb : Below B w w') : RdX w' B A n is :=
  ⟨h.len, h.oks, fun h0 => by
    obtain ⟨ad, e, hB, hc⟩ := h.rd h0
    refine ⟨ad, e, hB, fun j x hj => ?_⟩
    obtain ⟨h1, h2, h3, h4, h5, h6, h7, h8, h9⟩ := hc j x hj
    have hbb : (ad.add (j * 9)).block < B := by rw [Nt.block_add]; exact hB
    exact ⟨by rw [hb.cell hbb]; exact h1, by rw [hb.cell (by exact hbb)]; exact h2, by rw [hb.cell (by exact hbb)]; exact h3, by rw [hb.cell (by exact hbb)]; exact h4, by rw [hb.cell (by exact hbb)]; exact h5, by rw [hb.cell (by exact hbb)]; exact h6, by rw [hb.cell (by exact hbb)]; exact h7, by rw [hb.cell (by exact hbb)]; exact h8, by rw [hb.cell (by exact hbb)]; exact h9⟩⟩
/-- the bytes of a row, one behind the other; the first error -/
def catU : List Ins → List Int
  | [] => []
  | i :: is => encL i ++ catU is
def allOk (is : List Ins) : Bool := is.all okI
def allS (is : List Ins) : ByteArray := if allOk is then strU (catU is) else ⟨#[]⟩
def allE (is : List Ins) : Int := if allOk is then 0 else 2
/-- all that is asked of the landed package, where G says what its tables hold -/
structure EncC (G : World → Prop) : Prop where
  keep : ∀ (w w' : World), G w → Below w.heap.size w w' → G w'
  inst : ∀ (i : Ins) (w : World), G w → i.wf → Calls Tryd.prog 9 #[.agg i.vs] w fun e w' => e = .returned (.tuple #[.string (encS i), .int .i64 (chk i)]) ∧ Below w.heap.size w w'
  size : ∀ (i : Ins) (w : World), G w → i.wf → Calls Tryd.prog 12 #[.agg i.vs] w fun e w' => e = .returned (.int .i64 ((encS i).size : Int)) ∧ Below w.heap.size w w'
  all : ∀ (A : Option Addr) (n c : Nat) (is : List Ins) (w : World), G w → RdX w w.heap.size A n is → n ≤ 40 → n ≤ c → Calls Tryd.prog 10 #[.slice A n c] w fun e w' => e = .returned (.tuple #[.string (allS is), .int .i64 (allE is)]) ∧ Below w.heap.size w w'
theorem EncC.tb {G : World → Prop} (ec : EncC G) {w W : World} (h : Hid (G w)) (hb : Hid (Below w.heap.size w W)) : G W := ec.keep _ _ h.out hb.out
theorem i64e {z : Int} (h : -9223372036854775808 ≤ z) (h' : z ≤ 9223372036854775807) : I64 z := ⟨h, h'⟩
set_option maxRecDepth 100000 in
set_option maxHeartbeats 2000000 in
theorem elives_c {G : World → Prop} (ec : EncC G) (w : World) (HG : Hid (G w)) : Calls Tryd.prog 8 #[] w fun e w' => e = .returned (.bool true) ∧ Below w.heap.size w w' := by
  have HB0 := Lib.hid (Below.refl w.heap.size w)
  have hw1 : (⟨7, 0, 1, 0, 0, 0, 0, 0, 0⟩ : Ins).wf := by constructor <;> exact i64e (by decide) (by decide)
  have hw2 : (⟨3, 9, 0, 0, 4, -1, 1, 8, 0⟩ : Ins).wf := by constructor <;> exact i64e (by decide) (by decide)
  have hw3 : (⟨19, 0, 1, 6, 0, 0, 0, 0, 0⟩ : Ins).wf := by constructor <;> exact i64e (by decide) (by decide)
  have H1 := Lib.hid (fun W hg => ec.inst ⟨7, 0, 1, 0, 0, 0, 0, 0, 0⟩ W hg hw1)
  have H2 := Lib.hid (fun W hg => ec.inst ⟨3, 9, 0, 0, 4, -1, 1, 8, 0⟩ W hg hw2)
  have H3 := Lib.hid (fun W hg => ec.inst ⟨19, 0, 1, 6, 0, 0, 0, 0, 0⟩ W hg hw3)
  rw [show encS ⟨7, 0, 1, 0, 0, 0, 0, 0, 0⟩ = ⟨#[72, 17, 200]⟩ from by decide +kernel, show chk ⟨7, 0, 1, 0, 0, 0, 0, 0, 0⟩ = 0 from by decide] at H1
  rw [show encS ⟨3, 9, 0, 0, 4, -1, 1, 8, 0⟩ = ⟨#[76, 139, 76, 36, 8]⟩ from by decide +kernel, show chk ⟨3, 9, 0, 0, 4, -1, 1, 8, 0⟩ = 0 from by decide] at H2
  rw [show encS ⟨19, 0, 1, 6, 0, 0, 0, 0, 0⟩ = ⟨#[196, 226, 243, 246, 198]⟩ from by decide +kernel, show chk ⟨19, 0, 1, 6, 0, 0, 0, 0, 0⟩ = 0 from by decide] at H3
  unfold Ins.vs at H1 H2 H3
  go_enter Tryd.func8, Tryd.ntmps8
  go_wp2_with fail
  go_at_call 9
  refine (H1.out _ (ec.tb HG (by assumption))).mono ?_
  rintro e w1 ⟨rfl, hb⟩
  have HB1 := Lib.hid (HB0.out.trans (hb.mono HB0.out.size))
  clear hb
  go_wp2_with fail
  go_at_call 9
  refine (H2.out _ (ec.tb HG (by assumption))).mono ?_
  rintro e w2 ⟨rfl, hb⟩
  have HB2 := Lib.hid (HB1.out.trans (hb.mono HB1.out.size))
  clear hb
  go_wp2_with fail
  go_at_call 9
  refine (H3.out _ (ec.tb HG (by assumption))).mono ?_
  rintro e w3 ⟨rfl, hb⟩
  have HB3 := Lib.hid (HB2.out.trans (hb.mono HB2.out.size))
  clear hb
  go_wp2_with fail
  go_ret
  exact ⟨rfl, HB3.out⟩
end Is
end Go.Proofs.YthidjiidcelniaaDoor
