/- More contracts in one shape. -/
import Derived.Test.YtdklchejnpaenaaDoorApp
import Derived.Test.YtdklchejnpaenaaDoorPick
namespace Go.Proofs.YtdklchejnpaenaaDoor
open Go Go.RowKit
namespace Nt
open Wd Sti
set_option linter.unusedVariables false

theorem pick_u {w : World} (n m : Int) (hn : (Lit.int .i64 n).wf = true) (hm : (Lit.int .i64 m).wf = true) (k : Nat) (h : Kit.pick n m = (k : Int)) :
    Calls Tryd.prog 41 #[.int .i64 n, .int .i64 m] w fun e w' => e = .returned (.int .i64 (k : Int)) ∧ Below w.heap.size w w' := by
  rw [← h]
  exact (Kit.pick_c n m w hn hm).mono fun e w' ⟨h, g⟩ => ⟨h, by rw [← g]; exact Below.refl _ _⟩
section
variable {w : World} {A B : Option Addr} {na ca nb cb : Nat} {xs ys : List Int}
theorem bits_ex {n : Nat} {B : Nat} (h : Rd w B A n xs) : ∃ m : Nat, BitsR (V xs) m ∧ m ≤ 64 * n := by
  refine ⟨nbits (trim xs), ?_, ?_⟩
  · have := nbits_R h.ws.trim (trim_trim xs)
    rwa [V_trim] at this
  · have h1 := nbits_le h.ws.trim
    have h2 := trim_le xs
    have h3 := h.len
    omega
theorem bitsv_u (ha : Hid (At w A na xs)) (la : na ≤ 1048576) (hA : na ≤ ca) (hA' : ca ≤ 9223372036854775807) (m : Nat) (h : BitsR (V xs) m) :
    Calls Tryd.prog 23 #[.slice A na ca] w fun e w' => e = .returned (.int .i64 (m : Int)) ∧ Below w.heap.size w w' := by
  have := nbits_R ha.out.ws.trim (trim_trim xs)
  rw [V_trim] at this
  rw [h.uniq this]
  exact bits_u ha la hA hA'
theorem cmpv_u (ha : Hid (At w A na xs)) (hb : Hid (At w B nb ys)) (la : na ≤ 1048576) (lb : nb ≤ 1048576) (v : Int) (h : cmpN (V xs) (V ys) = v) :
    Calls Tryd.prog 21 #[.slice A na ca, .slice B nb cb] w fun e w' => e = .returned (.int .i64 v) ∧ Below w.heap.size w w' := by
  rw [← h]; exact cmp_u ha hb la lb
theorem cmp_lt' {a b : Int} (h : a < b) : cmpN a b = -1 := if_pos h
theorem cmp_eq' {a b : Int} (h : a = b) : cmpN a b = 0 := by unfold cmpN; rw [if_neg (by omega), if_pos h]
theorem cmp_gt' {a b : Int} (h : b < a) : cmpN a b = 1 := by unfold cmpN; rw [if_neg (by omega), if_neg (by omega)]
end
end Nt
end Go.Proofs.YtdklchejnpaenaaDoor
