/- Numbers told by digits, by the program. -/
import Derived.Test.YtaocplcmmpbjjaaDoorSB
import Derived.Lib.TrimU
import Derived.LoopTactic
import Derived.Laws.RangeAny
import Derived.Below
namespace Go.Proofs.YtaocplcmmpbjjaaDoor
open Go Go.RowKit
namespace Sn
set_option linter.unusedVariables false
set_option linter.unusedSimpArgs false
def numF (s : ByteArray) : Nat → Nat → Nat → Option Nat
  | 0, _, n => some n
  | f + 1, p, n => if p < s.size then
      (if digR (Utf8.decode s p).1 then (if (18446744073709551615 - ((Utf8.decode s p).1 - 48)) / 10 < n then none else numF s f (p + (Utf8.decode s p).2) (10 * n + ((Utf8.decode s p).1 - 48))) else none)
    else some n
def numR (s : ByteArray) : Option Nat := if s.size = 0 then none else numF s s.size 0 0
theorem numF_end (s : ByteArray) (f p n : Nat) (h : ¬ p < s.size) : numF s f p n = some n := by
  cases f with
  | zero => rfl
  | succ f => simp [numF, h]
/-- what Number answers -/
def numT (o : Option Nat) : Value := .tuple #[.int .u64 ((o.getD 0 : Nat) : Int), .bool o.isSome]
theorem below_iter (w : World) (s : ByteArray) (pos : Nat) : Below w.heap.size w (w.iter s pos) := (Below.refl _ w).alloc (Nat.le_refl _) _
theorem numF_step (s : ByteArray) (f p n : Nat) (hp : p < s.size) : numF s (f + 1) p n = (if digR (Utf8.decode s p).1 then (if (18446744073709551615 - ((Utf8.decode s p).1 - 48)) / 10 < n then none else numF s f (p + (Utf8.decode s p).2) (10 * n + ((Utf8.decode s p).1 - 48))) else none) := by
  show (if p < s.size then _ else _) = _
  rw [if_pos hp]
theorem ne_list {s : ByteArray} (h : ¬ s.size = 0) : s.toList.isEmpty = false := by
  rw [ByteArray.toList_eq, Bool.eq_false_iff]
  intro h1
  rw [List.isEmpty_iff] at h1
  exact h (by
    show s.data.size = 0
    rw [← Array.length_toList, h1]
    rfl)
set_option maxRecDepth 100000 in
set_option maxHeartbeats 1000000 in
theorem Number_l (s : ByteArray) (w : World) : Calls Tryd.prog 10 #[.string s] w fun e w' => e = .returned (numT (numR s)) ∧ Below w.heap.size w w' := by
  unfold numR
  by_cases h0 : s.size = 0
  · have e0 : s = ⟨#[]⟩ := by
      obtain ⟨d⟩ := s
      have : d.size = 0 := h0
      rw [Array.eq_empty_of_size_eq_zero this]
    rw [if_pos h0]
    subst e0
    clear h0
    go_enter Tryd.func10, Tryd.ntmps10
    go_wp2_with fail
    go_ret2
    exact ⟨rfl, Below.refl _ _⟩
  rw [if_neg h0]
  have hne := ne_list h0
  clear h0
  go_enter Tryd.func10, Tryd.ntmps10
  go_wp2_with fail
  go_loopw [4] (fun v wr => ∃ pos b n : Nat, wr = w.iter s pos ∧ v = .int .u64 (n : Int) ∧ n ≤ 18446744073709551615 ∧ Hid (numF s b pos n = numF s s.size 0 0) ∧ Hid (s.size ≤ pos + b)) (fun _ wr => s.size - wr.iterPos w.heap.size)
  case atStart => exact ⟨0, s.size, 0, rfl, rfl, by omega, Lib.hid rfl, Lib.hid (by omega)⟩
  case round =>
    obtain ⟨pos, b, n, rfl, rfl, hn, HC, HB⟩ := hrel
    by_cases hp : pos < s.size
    · have hnx : ∀ ty, (Instr.next (.pointer (some ⟨w.heap.size, 0, none⟩)) true ty).run Tryd.prog (w.iter s pos) = _ := fun ty => run_next_any w s pos ty hp
      have hwd := Lib.width_pos s pos
      have hrl := Lib.rune_le s pos
      cases b with
      | zero => have := HB.out; omega
      | succ b =>
        have HE := (numF_step s b pos n hp).symm.trans HC.out
        have HD := Lib.hid (fun W => isDigit_l (Utf8.decode s pos).1 (by omega) W)
        generalize (Utf8.decode s pos).1 = c at *
        generalize hwq : (Utf8.decode s pos).2 = wd at *
        have HWD := Lib.hid hwd
        have HPP := Lib.hid hp
        have HE2 := Lib.hid HE
        have HDE : Hid (digR c = (decide (48 ≤ c) && decide (c ≤ 57))) := Lib.hid rfl
        clear HE HC hwd
        generalize digR c = D at *
        cases D with
        | false =>
          have HE3 := Lib.hid (show numF s s.size 0 0 = none from (by have := HE2.out; rw [if_neg (by decide)] at this; exact this.symm))
          go_wp2_with fail
          go_at_call 22
          refine (HD.out _).mono ?_
          rintro e w1 ⟨rfl, rfl⟩
          go_wp2_with fail
          go_ret2
          exact ⟨by rw [HE3.out]; rfl, below_iter w s _⟩
        | true =>
          have hd := HDE.out
          rw [eq_comm, Bool.and_eq_true, decide_eq_true_eq, decide_eq_true_eq] at hd
          obtain ⟨d, rfl⟩ : ∃ d, c = 48 + d := ⟨c - 48, by omega⟩
          have HE3 := HE2.out
          rw [if_pos rfl, show 48 + d - 48 = d by omega] at HE3
          have hd9 : (d : Int) ≤ 9 := by omega
          have hd0 : (0 : Int) ≤ (d : Int) := by omega
          have ed : ((48 + d : Nat) : Int) - 48 = (d : Int) := by omega
          have en : (n : Int) ≤ 18446744073709551615 := by omega
          have en0 : (0 : Int) ≤ (n : Int) := by omega
          clear HE2 HDE hd hrl
          have hcast : ((48 + d : Nat) : Int) = 48 + (d : Int) := by omega
          have e48 : (48 : Int) + (d : Int) - 48 = (d : Int) := by omega
          by_cases hbig : (18446744073709551615 - d) / 10 < n
          · rw [if_pos hbig] at HE3
            have HE4 := Lib.hid HE3
            have hb1 : (18446744073709551615 - (48 + (d : Int) - 48)) / 10 < (n : Int) := by omega
            clear hbig HE3
            go_wp2_with fail
            go_at_call 22
            refine (HD.out _).mono ?_
            rintro e w1 ⟨rfl, rfl⟩
            go_wp2_with fail
            go_ret2
            exact ⟨by rw [← HE4.out]; rfl, below_iter w s _⟩
          · rw [if_neg hbig] at HE3
            have hb1 : ¬ (18446744073709551615 - (48 + (d : Int) - 48)) / 10 < (n : Int) := by omega
            have HN : Hid (10 * n + d ≤ 18446744073709551615) := Lib.hid (by omega)
            have HE4 := Lib.hid HE3
            clear hbig HE3
            go_wp2_with fail
            go_at_call 22
            refine (HD.out _).mono ?_
            rintro e w1 ⟨rfl, rfl⟩
            go_wp2_with fail
            go_roundw
            case rel =>
              refine ⟨pos + wd, b, 10 * n + d, rfl, ?_, HN.out, HE4, Lib.hid (by have := HB.out; have := HWD.out; omega)⟩
              have e10 : (10 : Int) * (n : Int) + (d : Int) = ((10 * n + d : Nat) : Int) := by omega
              rw [e10]
            case measure =>
              have := HWD.out
              have := HPP.out
              simp
              omega
    · have hnx : ∀ ty, (Instr.next (.pointer (some ⟨w.heap.size, 0, none⟩)) true ty).run Tryd.prog (w.iter s pos) = _ := fun ty => run_next_end w s pos ty hp
      have HE := Lib.hid (HC.out.symm.trans (numF_end s b pos n hp))
      clear HC
      go_wp2_with fail
      go_ret2
      exact ⟨by rw [HE.out]; rfl, below_iter w s _⟩
end Sn
end Go.Proofs.YtaocplcmmpbjjaaDoor
