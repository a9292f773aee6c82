/- Div in one shape. -/
import Derived.Test.YtdklchejnpaenaaDoorNatDiv
namespace Go.Proofs.YtdklchejnpaenaaDoor
open Go Go.RowKit
namespace Nt
open Wd Sti
set_option linter.unusedVariables false
section
variable {w : World} {A B : Option Addr} {na ca nb cb : Nat} {xs ys : List Int}
theorem div_u (K L : Nat) (ha : Hid (At w A na xs)) (hb : Hid (At w B nb ys)) (la : na ≤ 1048576) (lb : nb ≤ 1048576) (hA : na ≤ ca) (hB : nb ≤ cb) (hA' : ca ≤ 9223372036854775807) (hB' : cb ≤ 9223372036854775807) (hK : na + 2 ≤ K) (hL : nb + 2 ≤ L) (h0 : V ys ≠ 0) :
    Calls Tryd.prog 12 #[.slice A na ca, .slice B nb cb] w fun e w' => ∃ v1 v2, e = .returned (.tuple #[v1, v2, .int .i64 0]) ∧ New w w' v1 (V xs / V ys) K ∧ New w w' v2 (V xs % V ys) L :=
  (div_n A B na ca nb cb xs ys w ha.out hb.out ⟨hA, la⟩ hA' ⟨hB, lb⟩ hB' h0).mono fun e w' ⟨v1, v2, h, g1, g2⟩ => ⟨v1, v2, h, New.of g1 hK, New.of g2 hL⟩
theorem div0_u (hb : Hid (At w B nb ys)) (lb : nb ≤ 1048576) (hB : nb ≤ cb) (hB' : cb ≤ 9223372036854775807) (h0 : V ys = 0) :
    Calls Tryd.prog 12 #[.slice A na ca, .slice B nb cb] w fun e w' => e = .returned (.tuple #[.slice none 0 0, .slice none 0 0, .int .i64 2]) ∧ Below w.heap.size w w' :=
  div_zero A B na ca nb cb [] ys w hb.out ⟨hB, lb⟩ hB' h0
theorem len_zero {N : Int} {zs : List Int} {n : Nat} {w : World} {A : Option Addr} (h : Hid (At w A n zs)) (hi : Hid (Is zs N)) (h0 : N = 0) : n = 0 := by
  subst h0
  have := hi.out.uniq Is.nil
  rw [← h.out.len, this]; rfl
theorem len_pos {N : Int} {zs : List Int} {n : Nat} {w : World} {A : Option Addr} (h : Hid (At w A n zs)) (hi : Hid (Is zs N)) (h0 : N ≠ 0) : n ≠ 0 := by
  intro e
  have := h.out.len
  rw [e] at this
  have hz : zs = [] := List.eq_nil_of_length_eq_zero this
  apply h0
  rw [← hi.out.v, hz]; rfl
end
end Nt
end Go.Proofs.YtdklchejnpaenaaDoor
