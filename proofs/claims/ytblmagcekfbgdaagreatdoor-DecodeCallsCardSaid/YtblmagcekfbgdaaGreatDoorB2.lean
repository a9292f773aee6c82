/- The document's own answers on instructions: forms, letters, registers, places. | The document's own answers on instructions: letters, registers, places. -/
import Derived.Test.YtblmagcekfbgdaaGreatDoorB1
import Derived.Lib.Hide
import Derived.Laws.IdiomStrings
namespace Go.Proofs.YtblmagcekfbgdaaGreatDoor
open Go Go.RowKit
namespace Is
open Nt
set_option linter.unusedVariables false
set_option maxRecDepth 100000 in
set_option maxHeartbeats 4000000 in
theorem form_c (op : Int) (w : World) : Calls Tryz.prog 49 #[.int .i64 op] w fun e w' => e = .returned (.string (formOf op).str) ∧ w' = w := by
  rcases op_cases op with rfl | rfl | rfl | rfl | rfl | rfl | rfl | rfl | rfl | rfl | rfl | rfl | rfl | rfl | rfl | rfl | rfl | rfl | rfl | rfl | rfl | rfl | rfl | rfl | rfl | rfl | rfl | rfl | rfl | rfl | rfl | rfl | rfl | h
  all_goals first
    | (go_enter Tryz.func49, Tryz.ntmps49
       go_wp2_with fail
       go_ret
       exact ⟨rfl, rfl⟩)
    | skip
  have e : formOf op = .no := by
    unfold formOf
    rw [if_neg (by omega), if_neg (by omega), if_neg (by omega), if_neg (by omega), if_neg (by omega), if_neg (by omega), if_neg (by omega), if_neg (by omega), if_neg (by omega), if_neg (by omega), if_neg (by omega)]
  rw [e]
  obtain ⟨n1, n2, n3, n4, n5, n6, n7, n8, n9, n10, n11, n12, n13, n14, n15, n16, n17, n18, n19, n20, n21, n22, n23, n24, n25, n26, n27, n28, n29, n30, n31, n32, n33⟩ := ops_out h
  rcases h with h | h
  · have h1 : op < 6 := by omega
    have h2 : op < 15 := by omega
    go_enter Tryz.func49, Tryz.ntmps49
    go_wp2_with fail
    go_ret
    exact ⟨rfl, rfl⟩
  · have h1 : 14 < op := by omega
    have h2 : 18 < op := by omega
    have h3 : 6 ≤ op := by omega
    have h4 : 15 ≤ op := by omega
    go_enter Tryz.func49, Tryz.ntmps49
    go_wp2_with fail
    go_ret
    exact ⟨rfl, rfl⟩
end Is
end Go.Proofs.YtblmagcekfbgdaaGreatDoor
namespace Go.Proofs.YtblmagcekfbgdaaGreatDoor
open Go Go.RowKit
namespace Is
open Nt
set_option linter.unusedVariables false
theorem str_get {s : ByteArray} {k : Nat} (h : k < s.size) : s.data.toList[k]? = some s[k] := by
  have h' : k < s.data.size := h
  rw [Array.getElem?_toList, Array.getElem?_eq_getElem h']; rfl
def hasB (s : ByteArray) (c : Int) : Bool := s.data.toList.any fun u => (u.toNat : Int) == c
theorem has_c (s : ByteArray) (c : Int) (w : World) (hs : s.size ≤ 1000) : Calls Tryz.prog 50 #[.string s, .int .u8 c] w fun e w' => e = .returned (.bool (hasB s c)) ∧ w' = w := by
  go_enter Tryz.func50, Tryz.ntmps50
  go_wp2_with fail
  go_loop [5] (fun i => ∃ k : Nat, k ≤ s.size ∧ i = .int .i64 (k : Int) ∧ Hid (∀ (j : Nat) (u : UInt8), j < k → s.data.toList[j]? = some u → ((u.toNat : Int) == c) = false)) (fun i => s.size - (intOf i).toNat)
  case atStart => exact ⟨0, Nat.zero_le _, rfl, Lib.hid (fun j u hj => absurd hj (by omega))⟩
  case round =>
    obtain ⟨k, hk, rfl, hI⟩ := hrel
    rcases Nat.lt_or_ge k s.size with hkn | hkn
    · have hki : (k : Int) < (s.size : Int) := by omega
      have hk0 : (0 : Int) ≤ (k : Int) := by omega
      have HG := Lib.hid (str_get hkn)
      cases hq : ((s[k].toNat : Int) == c) with
      | true =>
        have HQ := Lib.hid hq
        go_wp2_with fail
        go_ret
        refine ⟨?_, rfl⟩
        have : hasB s c = true := List.any_eq_true.2 ⟨_, List.mem_of_getElem? HG.out, HQ.out⟩
        rw [this]; rfl
      | false =>
        have hI' : Hid (∀ (j : Nat) (u : UInt8), j < k + 1 → s.data.toList[j]? = some u → ((u.toNat : Int) == c) = false) := Lib.hid (fun j u hj hu => by
          by_cases e : j = k
          · subst e
            rw [HG.out] at hu
            cases hu
            exact hq
          · exact hI.out j u (by omega) hu)
        go_wp2_with fail
        go_round
        case rel => exact ⟨k + 1, by omega, by go_num, hI'⟩
        case measure => (simp [intOf] <;> omega)
    · obtain rfl : k = s.size := by omega
      go_wp2_with fail
      go_ret
      refine ⟨?_, rfl⟩
      have : hasB s c = false := List.any_eq_false.2 (fun u hu => by
        obtain ⟨j, hj⟩ := List.mem_iff_getElem?.1 hu
        have h1 := (List.getElem?_eq_some_iff.1 hj).1
        have h2 := hI.out j u (by rw [Array.length_toList] at h1; exact h1) hj
        rw [h2]; decide)
      rw [this]; rfl
theorem register_c (r : Int) (w : World) : Calls Tryz.prog 51 #[.int .i64 r] w fun e w' => e = .returned (.bool (regB r)) ∧ w' = w := by
  unfold regB
  by_cases h1 : 0 ≤ r
  · go_enter Tryz.func51, Tryz.ntmps51
    go_wp2_with fail
    go_ret
    exact ⟨by rw [decide_eq_true h1]; rfl, rfl⟩
  · have h2 : r < 0 := by omega
    go_enter Tryz.func51, Tryz.ntmps51
    go_wp2_with fail
    go_ret
    exact ⟨by rw [decide_eq_false (by omega)]; rfl, rfl⟩
theorem small_c (n : Int) (w : World) : Calls Tryz.prog 53 #[.int .i64 n] w fun e w' => e = .returned (.bool (smallB n)) ∧ w' = w := by
  unfold smallB
  by_cases h1 : -2147483648 ≤ n
  · go_enter Tryz.func53, Tryz.ntmps53
    go_wp2_with fail
    go_ret
    exact ⟨by rw [decide_eq_true h1]; rfl, rfl⟩
  · have h2 : n < -2147483648 := by omega
    go_enter Tryz.func53, Tryz.ntmps53
    go_wp2_with fail
    go_ret
    exact ⟨by rw [decide_eq_false (by omega)]; rfl, rfl⟩
end Is
end Go.Proofs.YtblmagcekfbgdaaGreatDoor
