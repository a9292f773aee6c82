/- The landed package secrecy: rules; which operation may be. -/
import Derived.Test.YtbdhibgljaelbaaDoorS5
namespace Go.Proofs.YtbdhibgljaelbaaDoor
open Go Go.RowKit Go.Sort Go.Shelf
namespace Lb
open Wd Nt Gr
set_option linter.unusedVariables false
set_option linter.unusedSimpArgs false
/-- known: the buffers, the set -/
def knV (A : Option Addr) (n c s : Nat) : Value := .agg #[.slice A n c, .int .u64 (s : Int)]
def rl1 (s : Nat) (o : Op) : Bool := !(decide (o.k = 14) || decide (o.k = 15)) || !hasN s o.a
def rl2 (bufs : List Bf) (s : Nat) (o : Op) : Bool := decide (o.k ≠ 15) || (bfAt bufs o.bf).sec || !hasN s o.b
def rl3 (s : Nat) (o : Op) : Bool := decide (o.k ≠ 16) || !hasN s o.d
theorem allows_eq (bufs : List Bf) (s : Nat) (o : Op) : allowsN bufs s o = (rl1 s o && rl2 bufs s o && rl3 s o) := rfl
section
variable (s : Nat) (hs : s < 18446744073709551616) (A : Option Addr) (n c : Nat) (bufs : List Bf) (o : Op) (hrg : o.a < 64 ∧ o.b < 64 ∧ o.d < 64) (hbf : o.k = 15 → ∃ i : Nat, o.bf = (i : Int) ∧ i < bufs.length) (w : World)
include hs hrg
set_option maxRecDepth 100000 in
set_option maxHeartbeats 2000000 in
theorem place_s : Calls Tryd.prog 86 #[knV A n c s, .agg (Op.vs o).toArray] w fun e w' => e = .returned (.bool (rl1 s o)) ∧ Below w.heap.size w w' := by
  have HE : Hid (rl1 s o = (!(decide (o.k = 14) || decide (o.k = 15)) || !hasN s o.a)) := Lib.hid rfl
  have H1 := Lib.hid (fun W => has_s s o.a hs hrg.1 W)
  have HB := Lib.hid (bel_al' (bel_al (w := w) (.cells #[.slice A n c, .int .u64 (s : Int)] 94)) (.cells (Op.vs o).toArray 33))
  clear hrg hs
  generalize rl1 s o = res at *
  generalize hasN s o.a = b1 at *
  obtain ⟨k, d, e, a, b, c2, bf, im⟩ := o
  unfold Op.vs knV at *
  dsimp only at *
  simp only [List.toArray] at *
  by_cases h14 : k = 14
  · subst h14
    cases b1
    all_goals (
      go_enter Tryd.func86, Tryd.ntmps86
      go_wp2_with fail
      go_at_call 99
      refine (H1.out _).mono ?_
      rintro r w1 ⟨rfl, rfl⟩
      go_wp2_with fail
      go_ret
      exact ⟨by rw [HE.out]; rfl, HB.out⟩)
  · have hn14 : (k == 14) = false := by rw [beq_eq_false_iff_ne]; exact h14
    rw [decide_eq_false h14] at HE
    by_cases h15 : k = 15
    · subst h15
      cases b1
      all_goals (
        go_enter Tryd.func86, Tryd.ntmps86
        go_wp2_with fail
        go_at_call 99
        refine (H1.out _).mono ?_
        rintro r w1 ⟨rfl, rfl⟩
        go_wp2_with fail
        go_ret
        exact ⟨by rw [HE.out]; rfl, HB.out⟩)
    · have hn15 : (k == 15) = false := by rw [beq_eq_false_iff_ne]; exact h15
      rw [decide_eq_false h15] at HE
      clear h14 h15
      go_enter Tryd.func86, Tryd.ntmps86
      go_wp2_with fail
      go_ret
      exact ⟨by rw [HE.out]; rfl, HB.out⟩
set_option maxRecDepth 100000 in
set_option maxHeartbeats 2000000 in
theorem times_s : Calls Tryd.prog 88 #[knV A n c s, .agg (Op.vs o).toArray] w fun e w' => e = .returned (.bool (rl3 s o)) ∧ Below w.heap.size w w' := by
  have HE : Hid (rl3 s o = (decide (o.k ≠ 16) || !hasN s o.d)) := Lib.hid rfl
  have H1 := Lib.hid (fun W => has_s s o.d hs hrg.2.2 W)
  have HB := Lib.hid (bel_al' (bel_al (w := w) (.cells #[.slice A n c, .int .u64 (s : Int)] 94)) (.cells (Op.vs o).toArray 33))
  clear hrg hs
  generalize rl3 s o = res at *
  generalize hasN s o.d = b1 at *
  obtain ⟨k, d, e, a, b, c2, bf, im⟩ := o
  unfold Op.vs knV at *
  dsimp only at *
  simp only [List.toArray] at *
  by_cases h14 : k = 16
  · subst h14
    cases b1
    all_goals (
      go_enter Tryd.func88, Tryd.ntmps88
      go_wp2_with fail
      go_at_call 99
      refine (H1.out _).mono ?_
      rintro r w1 ⟨rfl, rfl⟩
      go_wp2_with fail
      go_ret
      exact ⟨by rw [HE.out]; rfl, HB.out⟩)
  · have hn14 : (k != 16) = true := by simpa using h14
    rw [decide_eq_true h14] at HE
    clear h14
    go_enter Tryd.func88, Tryd.ntmps88
    go_wp2_with fail
    go_ret
    exact ⟨by rw [HE.out]; rfl, HB.out⟩
include hbf
set_option maxRecDepth 100000 in
set_option maxHeartbeats 2000000 in
theorem limbs_s (hR : Rdr w w.heap.size A n bufs) : Calls Tryd.prog 87 #[knV A n c s, .agg (Op.vs o).toArray] w fun e w' => e = .returned (.bool (rl2 bufs s o)) ∧ Below w.heap.size w w' := by
  have HE : Hid (rl2 bufs s o = (decide (o.k ≠ 15) || (bfAt bufs o.bf).sec || !hasN s o.b)) := Lib.hid rfl
  have H1 := Lib.hid (fun W => has_s s o.b hs hrg.2.1 W)
  have HB := Lib.hid (bel_al' (bel_al (w := w) (.cells #[.slice A n c, .int .u64 (s : Int)] 94)) (.cells (Op.vs o).toArray 33))
  have HR := Lib.hid (hR.below HB.out)
  have HL := Lib.hid hR.len
  clear hrg hs hR
  generalize rl2 bufs s o = res at *
  generalize hasN s o.b = b1 at *
  obtain ⟨k, d, e, a, b, c2, bf, im⟩ := o
  unfold Op.vs knV at *
  dsimp only at *
  simp only [List.toArray] at *
  by_cases h14 : k = 15
  · obtain ⟨i, rfl, hi⟩ := hbf h14
    subst h14
    rw [decide_eq_false (by decide), Bool.false_or] at HE
    obtain ⟨bb, bo, rfl, hbb, s0, s1, s2⟩ := bf_at HR.out (bfAt_some hi)
    generalize bfAt bufs (i : Int) = bx at *
    obtain ⟨sz, kd, sec⟩ := bx
    dsimp only at *
    have hn : (i : Int) < (n : Int) := by have := HL.out; omega
    have hi0 : (0 : Int) ≤ (i : Int) := by omega
    have hS : bb < w.heap.size + 2 := by have := hbb; omega
    clear hbf hi hbb
    cases sec
    · rw [Bool.false_or] at HE
      cases b1
      all_goals (
        go_enter Tryd.func87, Tryd.ntmps87
        go_wp2_with fail
        go_at_call 99
        refine (H1.out _).mono ?_
        rintro r w1 ⟨rfl, rfl⟩
        go_wp2_with fail
        go_ret
        exact ⟨by rw [HE.out]; rfl, HB.out⟩)
    · rw [Bool.true_or] at HE
      go_enter Tryd.func87, Tryd.ntmps87
      go_wp2_with fail
      go_ret
      exact ⟨by rw [HE.out]; rfl, HB.out⟩
  · have hn14 : (k != 15) = true := by simpa using h14
    rw [decide_eq_true h14, Bool.true_or, Bool.true_or] at HE
    clear hbf h14
    go_enter Tryd.func87, Tryd.ntmps87
    go_wp2_with fail
    go_ret
    exact ⟨by rw [HE.out]; rfl, HB.out⟩
end
end Lb
end Go.Proofs.YtbdhibgljaelbaaDoor
