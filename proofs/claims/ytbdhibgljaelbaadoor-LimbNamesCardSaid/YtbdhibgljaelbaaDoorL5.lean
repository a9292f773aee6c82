/- The landed package limb: which program may not be, whatever its operations. -/
import Derived.Test.YtbdhibgljaelbaaDoorL4
import Derived.Shelf.Abstract
namespace Go.Proofs.YtbdhibgljaelbaaDoor
open Go Go.RowKit Go.Sort Go.Shelf
namespace Lb
open Wd Nt Gr
set_option linter.unusedVariables false
set_option linter.unusedSimpArgs false
theorem long_l (b : Bf) (w : World) : Calls Tryd.prog 71 #[.agg (Bf.vs b).toArray] w fun e w' => e = .returned (.bool (longB b)) ∧ Below w.heap.size w w' := by
  have HB := Lib.hid (bel_al (w := w) (.cells (Bf.vs b).toArray 29))
  unfold longB
  obtain ⟨sz, kd, sec⟩ := b
  unfold Bf.vs at *
  dsimp only at *
  simp only [List.toArray] at *
  go_enter Tryd.func71, Tryd.ntmps71
  go_wp2_with fail
  go_ret
  exact ⟨rfl, HB.out⟩
theorem wrong_l (b : Bf) (w : World) : Calls Tryd.prog 72 #[.agg (Bf.vs b).toArray] w fun e w' => e = .returned (.bool (wrongB b)) ∧ Below w.heap.size w w' := by
  have HB := Lib.hid (bel_al (w := w) (.cells (Bf.vs b).toArray 29))
  have HE : Hid (wrongB b = (decide (b.sz ≤ 0) || decide (b.kd < 1) || decide (3 < b.kd))) := Lib.hid rfl
  generalize wrongB b = res at *
  obtain ⟨sz, kd, sec⟩ := b
  unfold Bf.vs at *
  dsimp only at *
  simp only [List.toArray] at *
  by_cases h1 : sz ≤ 0
  · rw [decide_eq_true h1] at HE
    go_enter Tryd.func72, Tryd.ntmps72
    go_wp2_with fail
    go_ret
    exact ⟨by rw [HE.out]; rfl, HB.out⟩
  · rw [decide_eq_false h1] at HE
    have h1' : 0 < sz := by omega
    by_cases h2 : kd < 1
    · rw [decide_eq_true h2] at HE
      go_enter Tryd.func72, Tryd.ntmps72
      go_wp2_with fail
      go_ret
      exact ⟨by rw [HE.out]; rfl, HB.out⟩
    · rw [decide_eq_false h2] at HE
      have h2' : 1 ≤ kd := by omega
      go_enter Tryd.func72, Tryd.ntmps72
      go_wp2_with fail
      go_ret
      exact ⟨by rw [HE.out]; rfl, HB.out⟩
set_option maxHeartbeats 1000000 in
theorem index_l (g : Nat) (f : Bf → Bool) (heg : ∀ args w, (callFunc g args).run Tryd.prog w = .ok (.enter g args) w)
    (hf : ∀ b W, Calls Tryd.prog g #[.agg (Bf.vs b).toArray] W fun e w' => e = .returned (.bool (f b)) ∧ Below W.heap.size W w')
    (A : Option Addr) (n c : Nat) (bufs : List Bf) (w : World) (hR : Rdr w w.heap.size A n bufs) (hn : n ≤ 1000000) :
    Calls Tryd.prog 93 #[.slice A n c, .func (.func g) #[] #[]] w fun e w' => (∃ r : Int, e = .returned (.int .i64 r) ∧ decide (0 ≤ r) = bufs.any f) ∧ Below w.heap.size w w' := by
  have HL := Lib.hid hR.len
  have HR := Lib.hid hR
  have HF := Lib.hid hf
  clear hR hf
  go_enter Tryd.func93, Tryd.ntmps93
  go_wp2_with fail
  go_loopw [8] (fun i W => ∃ k : Nat, k ≤ n ∧ i = .int .i64 (k : Int) ∧ Hid ((bufs.take k).any f = false) ∧ Hid (Below w.heap.size w W)) (fun i _ => n - (intOf i).toNat)
  case atStart => exact ⟨0, Nat.zero_le _, rfl, Lib.hid (by simp), Lib.hid (Below.refl _ _)⟩
  case round =>
    obtain ⟨k, hk, rfl, HA, HB⟩ := hrel
    rcases Nat.lt_or_ge k n with hlt | hge
    · have hki : (k : Int) < (n : Int) := by omega
      have hkl : k < bufs.length := by rw [HL.out]; exact hlt
      obtain ⟨b, o, rfl, hblt, s0, s1, s2⟩ := bf_at (HR.out.below HB.out) (bfAt_some hkl)
      have HTK : Hid (bufs.take (k + 1) = bufs.take k ++ [bfAt bufs (k : Int)]) := Lib.hid (by rw [List.take_add_one, bfAt_some hkl]; rfl)
      have HMEM := Lib.hid (List.mem_of_getElem? (bfAt_some hkl))
      have HC := Lib.hid (HF.out (bfAt bufs (k : Int)) wr)
      generalize bfAt bufs (k : Int) = bb at *
      unfold Bf.vs at HC
      simp only [List.toArray] at HC
      cases hv : f bb with
      | true =>
        have HT : Hid (bufs.any f = true) := Lib.hid (List.any_eq_true.2 ⟨bb, HMEM.out, hv⟩)
        rw [hv] at HC
        clear hv
        go_wp2_with fail
        refine HC.out.mono ?_
        rintro e' w2 ⟨rfl, hb⟩
        have HB2 := Lib.hid (bel_tr HB.out hb)
        clear hb s0 s1 s2
        go_wp2_with fail
        go_ret
        exact ⟨⟨_, rfl, by rw [HT.out]; simp⟩, HB2.out⟩
      | false =>
        have HA2 : Hid ((bufs.take (k + 1)).any f = false) := Lib.hid (by rw [HTK.out, List.any_append, HA.out]; simp [hv])
        rw [hv] at HC
        clear hv
        go_wp2_with fail
        refine HC.out.mono ?_
        rintro e' w2 ⟨rfl, hb⟩
        have HB2 := Lib.hid (bel_tr HB.out hb)
        clear hb s0 s1 s2
        go_wp2_with fail
        go_roundw
        case rel => exact ⟨k + 1, by omega, by go_num, HA2, HB2⟩
        case measure => (simp [intOf] <;> omega)
    · obtain rfl : k = n := by omega
      have HT : Hid (bufs.any f = false) := Lib.hid (by have h := HA.out; rw [List.take_of_length_le (by rw [HL.out]; exact Nat.le_refl _)] at h; exact h)
      go_wp2_with fail
      go_ret
      exact ⟨⟨_, rfl, by rw [HT.out]; simp⟩, HB.out⟩
theorem contains_l (g : Nat) (f : Bf → Bool) (heg : ∀ args w, (callFunc g args).run Tryd.prog w = .ok (.enter g args) w)
    (hf : ∀ b W, Calls Tryd.prog g #[.agg (Bf.vs b).toArray] W fun e w' => e = .returned (.bool (f b)) ∧ Below W.heap.size W w')
    (A : Option Addr) (n c : Nat) (bufs : List Bf) (w : World) (hR : Rdr w w.heap.size A n bufs) (hn : n ≤ 1000000) :
    Calls Tryd.prog 70 #[.slice A n c, .func (.func g) #[] #[]] w fun e w' => e = .returned (.bool (bufs.any f)) ∧ Below w.heap.size w w' := by
  have HC := Lib.hid (index_l g f heg hf A n c bufs w hR hn)
  generalize bufs.any f = res at *
  clear hf hR
  go_enter Tryd.func70, Tryd.ntmps70
  go_wp2_with fail
  refine HC.out.mono ?_
  rintro e w' ⟨⟨r, rfl, hr⟩, hb⟩
  have HR := Lib.hid hr
  have HB := Lib.hid hb
  clear hr hb
  go_wp2_with fail
  go_ret
  exact ⟨by rw [← HR.out]; rfl, HB.out⟩
end Lb
end Go.Proofs.YtbdhibgljaelbaaDoor
