/- The landed code of package modular: Gcd, Const, Pow and its closure; what turns nothing but one block. -/
import Derived.Test.YtopajockmcgpmaaMA
namespace Go.Proofs.Ytopajockmcgpmaa
open Go Go.RowKit
namespace Nt
open Wd Sti
set_option linter.unusedVariables false
/-- nothing that was there has turned, but for block D -/
structure Asd (D : Nat) (w w' : World) : Prop where
  low : Below D w w'
  oth : ∀ i, i < w.heap.size → i ≠ D → w'.heap[i]? = w.heap[i]?
theorem Asd.refl (D : Nat) (w : World) : Asd D w w := ⟨Below.refl _ _, fun _ _ _ => rfl⟩
theorem Asd.of {D : Nat} {w w' : World} (h : Below w.heap.size w w') (hD : D ≤ w.heap.size) : Asd D w w' := ⟨h.mono hD, fun i hi _ => h.block i hi⟩
theorem Asd.trans {D : Nat} {a b c : World} (h : Asd D a b) (k : Asd D b c) : Asd D a c :=
  ⟨h.low.trans k.low, fun i hi hne => (k.oth i (by have := h.low.size; omega) hne).trans (h.oth i hi hne)⟩
theorem Asd.set (w : World) (D i : Nat) (u : Value) : Asd D w (w.setCell ⟨D, i, none⟩ u) :=
  ⟨(Below.refl _ _).setCell (Nat.le_refl D) _, fun j _ hne => Below.heap_setCell _ _ _ _ hne⟩
theorem Asd.drew (D : Nat) (w : World) : Asd D w w.drew := ⟨(Below.refl _ _).drew, fun _ _ _ => rfl⟩
theorem Asd.bk {D g : Nat} {w w' : World} {t : TypeId} {cs : Array Value} (h : Asd D w w') (hb : Bk w g t cs) (hne : g ≠ D) : Bk w' g t cs := (h.oth g hb.lt hne).trans hb
/-- no limb lies in such a block -/
def noInts (cs : Array Value) : Prop := ∀ (i : Nat) (x : Int), cs[i]? ≠ some (.int .u64 x)
theorem Gd.aside {D : Nat} {w w' : World} {A : Option Addr} {n c K : Nat} {xs : List Int} {t : TypeId} {cs : Array Value} (h : Hid (Gd w A n c xs K)) (ha : Asd D w w') (hD : Bk w D t cs) (hcs : noInts cs) : Hid (Gd w' A n c xs K) := by
  refine Lib.hid ⟨⟨h.out.at_.len, h.out.at_.ws, fun h0 => ?_⟩, h.out.cap, h.out.max, h.out.le⟩
  obtain ⟨ad, e, hb, hc⟩ := h.out.at_.rd h0
  have hbl : ∀ j, (ad.add j).block = ad.block := fun j => by unfold Addr.add; split <;> rfl
  have hne : ad.block ≠ D := by
    intro hd
    have h1 := hc 0 h0
    unfold World.cell? at h1
    rw [hbl 0, hd] at h1
    unfold Bk at hD
    rw [hD] at h1
    dsimp only at h1
    split at h1
    · cases h1
    · exact hcs _ _ h1
  refine ⟨ad, e, Nat.lt_of_lt_of_le hb ha.low.size, fun j hj => ?_⟩
  rw [← hc j hj]
  exact World.cell?_of_block (by rw [hbl]; exact ha.oth _ hb hne)

section
variable {w : World} {A B C : Option Addr} {na ca nb cb nc cc K L : Nat} {xs ys zs : List Int}
theorem bitsZ_m (hb : Hid (Gd w B nb cb ys L)) (hL : L ≤ 131072) (h0 : V ys = 0) :
    Calls Try.prog 40 #[.slice B nb cb] w fun e w' => e = .returned (.int .i64 0) ∧ Below w.heap.size w w' :=
  bitsv_u (Lib.hid hb.out.at_) (by have := hb.out.le; omega) hb.out.cap hb.out.max 0 ⟨by rw [h0]; decide, fun h => absurd h0 h, fun _ => rfl⟩
theorem bitsP_m (hb : Hid (Gd w B nb cb ys L)) (hL : L ≤ 131072) (h0 : V ys ≠ 0) :
    ∃ m : Nat, (0 : Int) < (m : Int) ∧ Calls Try.prog 40 #[.slice B nb cb] w fun e w' => e = .returned (.int .i64 (m : Int)) ∧ Below w.heap.size w w' := by
  obtain ⟨m, h1, h2⟩ := bits_ex hb.out.at_
  exact ⟨m, by have := (h1.lo h0).1; omega, bitsv_u (Lib.hid hb.out.at_) (by have := hb.out.le; omega) hb.out.cap hb.out.max m h1⟩
set_option maxRecDepth 100000 in
set_option maxHeartbeats 2000000 in
theorem gcd_m (ha : Hid (Gd w A na ca xs K)) (hb : Hid (Gd w B nb cb ys K)) (hK : K ≤ 131072) :
    Calls Try.prog 20 #[.slice A na ca, .slice B nb cb] w fun e w' => ∃ v, e = .returned v ∧ Res w w' v (gc (V xs) (V ys)) K := by
  obtain ⟨X, hX⟩ : ∃ X, X = gc (V xs) (V ys) := ⟨_, rfl⟩
  have HX := Lib.hid hX
  rw [← hX]
  clear hX
  go_enter Try.func20, Try.ntmps20
  go_wp2_with fail
  go_loopw [0, 1] (fun a b W => ∃ (A1 : Option Addr) (n1 c1 : Nat) (o1 : List Int) (A2 : Option Addr) (n2 c2 : Nat) (o2 : List Int), a = .slice A1 n1 c1 ∧ b = .slice A2 n2 c2 ∧ Hid (X = gc (V o1) (V o2)) ∧ Hid (Gd W A1 n1 c1 o1 K) ∧ Hid (Gd W A2 n2 c2 o2 K) ∧ Hid (Below w.heap.size w W)) (fun _ b W => (memV W b).toNat)
  case atStart => exact ⟨A, na, ca, xs, B, nb, cb, ys, rfl, rfl, HX, ha, hb, Lib.hid (Below.refl _ _)⟩
  case round =>
    obtain ⟨A3, n3, c3, o1, A4, n4, c4, o2, rfl, rfl, hg, g3, g4, HW⟩ := hrel
    have hx := V_nonneg g3.out.at_.ws
    have hy := V_nonneg g4.out.at_.ws
    by_cases h0 : V o2 = 0
    · have HB := Lib.hid (bitsZ_m g4 hK h0)
      have hg' : Hid (X = V o1) := Lib.hid (by rw [hg.out, h0, gc_zero _ hx])
      clear hx hy h0 hg ha hb HX
      go_wp2_with fail
      go_at_call 40
      refine HB.out.mono ?_
      rintro e w3 ⟨rfl, hb3⟩
      replace HW := Lib.hid (below_trans HW.out hb3)
      have H5 := Lib.hid (trim_m (Gd.step g3 hb3) hK)
      clear HB hb3 g4 g3
      go_wp2_with fail
      go_at_call 50
      refine H5.out.mono ?_
      rintro e w5 ⟨v, rfl, hr⟩
      have HR := Lib.hid ((hr.from HW.out).eq hg'.out.symm)
      obtain ⟨A5, n5, c5, rfl⟩ := hr.shape
      clear hr H5
      go_wp2_with fail
      go_ret
      exact ⟨_, rfl, HR.out⟩
    · obtain ⟨m, hm, hB⟩ := bitsP_m g4 hK h0
      have HB := Lib.hid hB
      have HM0 := Lib.hid (memV_at c4 g4.out.at_)
      have hg' : Hid (X = gc (V o2) (V o1 % V o2)) := Lib.hid (by rw [gc_step hx (by omega)]; exact hg.out)
      have HYP := Lib.hid (show 0 < V o2 by omega)
      have H0 := Lib.hid h0
      clear hx hy h0 hg hB ha hb HX
      go_wp2_with fail
      go_at_call 40
      refine HB.out.mono ?_
      rintro e w3 ⟨rfl, hb3⟩
      replace HW := Lib.hid (below_trans HW.out hb3)
      replace g3 := Gd.step g3 hb3
      replace g4 := Gd.step g4 hb3
      have H3 := Lib.hid (div_m g3 g4 hK hK H0.out)
      clear HB hb3 g3
      go_wp2_with fail
      go_at_call 49
      refine H3.out.mono ?_
      rintro e w4 ⟨v1, v2, rfl, ⟨A5, n5, c5, o5, rfl, i5, g5, hb5⟩, ⟨A6, n6, c6, o6, rfl, i6, g6, hb6⟩⟩
      have HM := Lib.hid (show (memV w4 (.slice A6 n6 c6)).toNat < (memV wr (.slice A4 n4 c4)).toNat by
        rw [HM0.out, memV_at c6 g6.out.at_, i6.out.v]
        have := Int.emod_nonneg (V o1) H0.out
        have := Int.emod_lt_of_pos (V o1) HYP.out
        omega)
      rw [← i6.out.v] at hg'
      replace HW := Lib.hid (below_trans HW.out hb6)
      replace g4 := Gd.step g4 hb6
      clear H3 i5 g5 hb5 hb6 i6 HM0
      go_wp2_with fail
      go_roundw
      case rel => exact ⟨A4, n4, c4, o2, A6, n6, c6, o6, rfl, rfl, hg', g4, g6, HW⟩
      case measure => exact HM.out

/-! ### Const -/
theorem bit0_m (hc : Hid (Gd w C nc cc zs L)) (b : Bool) (h : decide (V zs % 2 = 1) = b) :
    Calls Try.prog 43 #[.slice C nc cc, .int .i64 0] w fun e w' => e = .returned (.bool b) ∧ Below w.heap.size w w' := by
  refine (bit_n C nc cc w.heap.size 0 zs w hc.out.at_ (by decide)).mono fun e w' ⟨h1, h2⟩ => ⟨?_, by rw [h2]; exact Below.refl _ _⟩
  rw [h1, ← h]
  unfold bitAt
  rw [decide_eq_true (by omega), Bool.true_and]
  show Ending.returned (.bool (decide (V zs / 2 ^ 0 % 2 = 1))) = _
  rw [Int.pow_zero, Int.ediv_one]
theorem constE_m (hc : Hid (Gd w C nc cc zs L)) (hL : L ≤ 131072) (ho : V zs % 2 ≠ 1) :
    Calls Try.prog 13 #[.slice C nc cc] w fun e w' => e = .returned (.tuple #[.int .u64 0, .int .i64 2]) ∧ Below w.heap.size w w' := by
  have H1 := Lib.hid (bit0_m hc false (decide_eq_false ho))
  clear hc ho
  go_enter Try.func13, Try.ntmps13
  go_wp2_with fail
  go_at_call 43
  refine H1.out.mono ?_
  rintro e w1 ⟨rfl, hb⟩
  have HB := Lib.hid hb
  clear hb H1
  go_wp2_with fail
  go_ret2
  exact ⟨rfl, HB.out⟩
theorem const_m (hc : Hid (Gd w C nc cc zs L)) (hL : L ≤ 131072) (ho : V zs % 2 = 1) :
    Calls Try.prog 13 #[.slice C nc cc] w fun e w' => ∃ x, e = .returned (.tuple #[.int .u64 x, .int .i64 0]) ∧ Wd.W x ∧ (Nt.at_ zs 0 * x + 1) % 18446744073709551616 = 0 ∧ Below w.heap.size w w' := by
  have H1 := Lib.hid (bit0_m hc true (decide_eq_true ho))
  have hn0 : 0 < nc := by
    rcases Nat.eq_zero_or_pos nc with rfl | h0
    · rw [List.eq_nil_of_length_eq_zero hc.out.at_.len] at ho
      exact absurd ho (by decide)
    · exact h0
  rw [V_par] at ho
  have HO := Lib.hid ho
  clear ho
  go_enter Try.func13, Try.ntmps13
  go_wp2_with fail
  go_at_call 43
  refine H1.out.mono ?_
  rintro e w1 ⟨rfl, hb⟩
  replace hc := Gd.step hc hb
  obtain ⟨ad, rfl, _, hcell⟩ := Rd.at_ hc.out.at_ hn0
  have hw := hc.out.at_.ws.at_ 0
  have h0i : (0 : Int) < (nc : Int) := by omega
  have HB := Lib.hid hb
  have hcell' : w1.cell? ad = some (.int .u64 (Nt.at_ zs 0)) := by
    have e : ad.add 0 = ad := by unfold Addr.add; simp
    rw [e] at hcell; exact hcell
  have HI := fun w => inverse_c (Nt.at_ zs 0) w hw
  have e9 : invV (Nt.at_ zs 0) = .tuple #[.int .u64 (newt (Nt.at_ zs 0) 6), .bool true] := if_neg (by have := HO.out; omega)
  rw [e9] at HI
  replace HI := fun w => Lib.hid (HI w)
  have HNR := Lib.hid (newt_right (Nt.at_ zs 0) HO.out)
  have W6 := newt_W (Nt.at_ zs 0) 6
  have HX : Hid (Wd.W (IntKind.u64.wrap (-(newt (Nt.at_ zs 0) 6))) ∧ (Nt.at_ zs 0 * IntKind.u64.wrap (-(newt (Nt.at_ zs 0) 6)) + 1) % 18446744073709551616 = 0) := Lib.hid (by
    rw [IntKind.wrap_u64]
    refine ⟨W_mod _, ?_⟩
    rw [Int.add_emod, Int.mul_emod, Int.emod_emod_of_dvd _ (Int.dvd_refl _), ← Int.mul_emod, Int.mul_neg]
    have := HNR.out
    generalize Nt.at_ zs 0 * newt (Nt.at_ zs 0) 6 = p at *
    omega)
  clear H1 hb hc hcell HNR e9 hn0
  generalize newt (Nt.at_ zs 0) 6 = x at *
  unfold Wd.W at W6 hw
  go_wp2_with fail
  go_at_call 44
  refine (HI _).out.mono ?_
  rintro e w' ⟨rfl, rfl⟩
  go_wp2_with fail
  go_ret2
  exact ⟨_, rfl, HX.out.1, HX.out.2, HB.out⟩
end
end Nt
end Go.Proofs.Ytopajockmcgpmaa
