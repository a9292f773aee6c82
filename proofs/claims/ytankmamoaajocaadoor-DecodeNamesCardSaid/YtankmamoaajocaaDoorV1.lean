/- Rows of instructions compared, where they are alike. -/
import Derived.Test.YtankmamoaajocaaDoorU1
namespace Go.Proofs.YtankmamoaajocaaDoor
open Go Go.RowKit
namespace Is
open Nt
set_option linter.unusedVariables false
set_option linter.unusedSimpArgs false
theorem eqI_self (i : Ins) : eqI i i = true := eqI_iff.2 rfl
set_option maxRecDepth 100000 in
set_option maxHeartbeats 4000000 in
theorem same_x (A B : Option Addr) (n c d Ba Bb : Nat) (xs : List Ins) (w : World) (ha : RdX w Ba A n xs) (hb : RdX w Bb B n xs) (hn : n ≤ 1000000) :
    Calls Tryd.prog 13 #[.slice A n c, .slice B n d] w fun e w' => e = .returned (.bool true) ∧ ∃ q, w' = w.drewN q := by
  have HN := Lib.hid hn
  have hnb : (n : Int) ≤ 1000000 := by omega
  go_enter Tryd.func13, Tryd.ntmps13
  go_wp2_with fail
  go_loopw [5] (fun i wr => ∃ k q : Nat, k ≤ n ∧ i = .int .i64 k ∧ wr = w.drewN q) (fun i _ => n - (intOf i).toNat)
  case atStart => exact ⟨0, 0, Nat.zero_le _, rfl, rfl⟩
  case round =>
    obtain ⟨k, q, hk, rfl, rfl⟩ := hrel
    by_cases hlt : k < n
    · obtain ⟨ad, rfl, _, hca⟩ := ha.rd (by omega)
      obtain ⟨bd, rfl, _, hcb⟩ := hb.rd (by omega)
      have hkl : k < xs.length := by rw [ha.len]; exact hlt
      obtain ⟨i, hi⟩ : ∃ i, xs[k]? = some i := ⟨_, List.getElem?_eq_getElem hkl⟩
      obtain ⟨g0, g1, g2, g3, g4, g5, g6, g7, g8⟩ := hca k i hi
      obtain ⟨h0, h1, h2, h3, h4, h5, h6, h7, h8⟩ := hcb k i hi
      have hki : (k : Int) < (n : Int) := by omega
      have hk0 : (0 : Int) ≤ (k : Int) := by omega
      have hk9 : (k : Int) ≤ 1000000 := by omega
      have HLT := Lib.hid hlt
      clear hca hcb ha hb hi hkl hlt
      obtain ⟨op, d, s, t, b, x, sc, di, im⟩ := i
      dsimp only at *
      have HEQ := instEq op d s t b x sc di im op d s t b x sc di im
      rw [eqI_self] at HEQ
      go_wp2_with fail
      go_quiet (fail)
      go_wp2_with fail
      go_roundw
      case rel => exact ⟨k + 1, _, by have := HLT.out; omega, by (try simp (disch := omega) only [IntWalk.wrap64_in]); go_num, rfl⟩
      case measure => (have := HLT.out; (try simp (disch := omega) only [IntWalk.wrap64_in] at *); simp [intOf] <;> omega)
    · obtain rfl : k = n := by omega
      clear ha hb
      go_wp2_with fail
      go_ret
      exact ⟨rfl, _, rfl⟩
end Is
end Go.Proofs.YtankmamoaajocaaDoor
