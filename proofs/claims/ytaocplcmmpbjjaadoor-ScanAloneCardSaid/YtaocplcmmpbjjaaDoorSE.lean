/- A rune of a source: is its UTF-8 right? -/
import Derived.Test.YtaocplcmmpbjjaaDoorSD
import Derived.Test.YtaocplcmmpbjjaaDoorShelf
import Derived.Lib.RuneCountTail
namespace Go.Proofs.YtaocplcmmpbjjaaDoor
open Go Go.RowKit
namespace Sn
open Nt
set_option linter.unusedVariables false
set_option linter.unusedSimpArgs false
def okR (s : ByteArray) (p : Nat) : Bool := decide ((Utf8.decode s p).1 ≠ 65533) || decide (1 < (Utf8.decode s p).2)
set_option maxRecDepth 100000 in
theorem right_l (R : Nat) (s : ByteArray) (f m : Value) (k p a y : Int) (b : Nat) (hb : b < s.size) (hs : s.size ≤ 100000) (w : World) (h : Rdg w R s f m k p a y) (hT : Lib.Utf8Tabs 0 1 w) :
    Calls Tryd.prog 36 #[.pointer (some ⟨R, 0, none⟩), .int .i64 (b : Int), .int .i32 ((Utf8.decode s b).1 : Int)] w fun e w' => e = .returned (.bool (okR s b)) ∧ Below w.heap.size w w' := by
  obtain ⟨c0, c1, c2, c3, c4, c5, c6⟩ := h.cells
  clear h
  have HD := Lib.hid (Tryd.utf8_DecodeRuneInString (s.extract b s.size) w hT)
  have hde : Lib.decodeGo (s.extract b s.size) = Utf8.decode s b := by
    unfold Lib.decodeGo
    rw [if_neg (by rw [ByteArray.size_extract]; omega), Lib.tail_decode, Nat.add_zero]
  rw [hde] at HD
  clear hde
  unfold okR
  generalize (Utf8.decode s b).1 = c at *
  generalize (Utf8.decode s b).2 = n at *
  by_cases hc : c = 65533
  · subst hc
    have hb1 : (b : Int) ≤ (s.size : Int) := by omega
    have hb0 : (0 : Int) ≤ (b : Int) := by omega
    have hs1 : (s.size : Int) ≤ 100000 := by omega
    have HN : Hid (decide ((1 : Int) < (n : Int)) = (decide (65533 ≠ 65533) || decide (1 < n))) := Lib.hid (by rw [Bool.eq_iff_iff]; simp; omega)
    rw [← HN.out]
    clear HN hb hs
    go_enter Tryd.func36, Tryd.ntmps36
    go_wp2_with fail
    go_at_call 40
    refine HD.out.mono ?_
    rintro e w1 ⟨rfl, hb⟩
    have HB := Lib.hid hb
    clear hb
    go_wp2_with fail
    go_ret
    exact ⟨rfl, HB.out⟩
  · have e1 : ((c : Int) != 65533) = true := by simp; omega
    rw [decide_eq_true hc, Bool.true_or]
    clear hc hb hs
    go_enter Tryd.func36, Tryd.ntmps36
    go_wp2_with fail
    go_ret
    exact ⟨rfl, Below.refl _ _⟩
end Sn
end Go.Proofs.YtaocplcmmpbjjaaDoor
