/- The document's own Check. -/
import Derived.Test.YtikbnfhnimjmmaaGreatDoorA2
import Derived.Deep.QuietTactic
import Derived.BigQuiet
import Derived.IntWalk
namespace Go.Proofs.YtikbnfhnimjmmaaGreatDoor
open Go Go.RowKit
namespace Mm
open Wd Nt
set_option linter.unusedVariables false
/-- some error number that Check answers, and nothing more than draws -/
def ChkR (rs : List Reg) (w : World) (e : Ending) (w' : World) : Prop := ∃ x, e = .returned (.int .i64 x) ∧ ChkO rs x ∧ ∃ m, w' = w.drewN m
set_option maxRecDepth 100000 in
set_option maxHeartbeats 2000000 in
theorem rcheck_c (A : Option Addr) (n c : Nat) (rs : List Reg) (w : World) (h : Hid (AtR w A n rs)) (hc : n ≤ 9223372036854775807) :
    Calls Tryz.prog 71 #[.slice A n c] w (ChkR rs w) := by
  have HL := Lib.hid h.out.len
  rcases Nat.lt_or_ge 8 n with h8 | h8
  · have h8i : (8 : Int) < (n : Int) := by omega
    have HN := Lib.hid h8
    clear h8
    go_enter Tryz.func71, Tryz.ntmps71
    try simp only [List.append]
    go_wp2_with fail
    go_ret
    exact ⟨3, rfl, .inl ⟨.inl (by rw [HL.out]; exact HN.out), rfl⟩, 0, rfl⟩
  · go_enter Tryz.func71, Tryz.ntmps71
    try simp only [List.append]
    go_wp2_with fail
    go_loop [3] (fun i => ∃ k : Nat, k ≤ n ∧ i = .int .i64 (k : Int) ∧ Hid (∀ (j : Nat) (r : Reg), j < k → rs[j]? = some r → r.len ≤ 1048576)) (fun i => n - (intOf i).toNat)
    case atStart => exact ⟨0, Nat.zero_le _, rfl, Lib.hid (fun j r hj => absurd hj (by omega))⟩
    case round =>
      obtain ⟨k, hk, rfl, hI⟩ := hrel
      rcases Nat.lt_or_ge k n with hkn | hkn
      · obtain ⟨r, hr⟩ := get_lt (rs := rs) (j := k) (by rw [h.out.len]; omega)
        obtain ⟨ad, rfl, hb, A1, n1, c1, h1, h2, h3, h4, h5, h6⟩ := h.out.at_ hr
        have hkni : (k : Int) < (n : Int) := by omega
        have HLEN := Lib.hid (show r.len = n1 by unfold Reg.len; rw [h4.len])
        have HR := Lib.hid hr
        clear h1 h3 hr
        by_cases hl : n1 ≤ 1048576
        · have hI' : Hid (∀ (j : Nat) (r : Reg), j < k + 1 → rs[j]? = some r → r.len ≤ 1048576) := Lib.hid (fun j s hj hs => by
            by_cases e : j = k
            · subst e
              rw [HR.out] at hs
              cases hs
              rw [HLEN.out]; omega
            · exact hI.out j s (by omega) hs)
          go_wp2_with fail
          go_round
          case rel => exact ⟨k + 1, by omega, by go_num, hI'⟩
          case measure => (simp [intOf] <;> omega)
        · have hl' : (1048576 : Int) < (n1 : Int) := by omega
          have HL1 := Lib.hid hl'
          go_wp2_with fail
          go_ret
          exact ⟨3, rfl, .inl ⟨.inr ⟨k, r, HR.out, by rw [HLEN.out]; exact HL1.out⟩, rfl⟩, 0, rfl⟩
      · obtain rfl : k = n := by omega
        have HS : Hid (¬ Long rs) := Lib.hid (fun ⟨i, r, hi, h1⟩ => by
          have := hI.out i r (by rw [← HL.out]; exact (List.getElem?_eq_some_iff.1 hi).1) hi
          omega)
        have HSI := Lib.hid (show ∀ (i : Nat) (r : Reg), rs[i]? = some r → r.len ≤ 1048576 from fun i r hi => hI.out i r (by rw [← HL.out]; exact (List.getElem?_eq_some_iff.1 hi).1) hi)
        clear hI
        clear hk hkn
        go_wp2_with fail
        go_loopw [4] (fun i wr => ∃ i' q : Nat, i' ≤ k ∧ i = .int .i64 (i' : Int) ∧ wr = w.drewN q ∧ Hid (∀ (j : Nat) (r : Reg), j < i' → rs[j]? = some r → ¬ BadAt rs j r)) (fun i _ => k - (intOf i).toNat)
        case atStart => exact ⟨0, 0, Nat.zero_le _, rfl, rfl, Lib.hid (fun j r hj => absurd hj (by omega))⟩
        case round =>
          obtain ⟨i, q, hi, rfl, rfl, hI⟩ := hrel
          rcases Nat.lt_or_ge i k with hik | hik
          · obtain ⟨r, hr⟩ := get_lt (rs := rs) (j := i) (by rw [HL.out]; omega)
            have hrb := (h.out.oks r (List.mem_of_getElem? hr)).base
            have hlw := h
            obtain ⟨ad, rfl, hb, A1, n1, c1, h1, h2, h3, h4, h5, h6⟩ := h.out.at_ hr
            have hkni : (i : Int) < (k : Int) := by omega
            have HLEN := Lib.hid (show r.len = n1 by unfold Reg.len; rw [h4.len])
            have HR := Lib.hid hr
            have hs := HSI.out i r hr
            rw [HLEN.out] at hs
            have hsn : n1 ≤ 1048576 := by omega
            clear h3 hr hs
            obtain ⟨b, hbb⟩ : ∃ b, b = r.base := ⟨_, rfl⟩
            rw [← hbb] at h1 hrb
            have HBB := Lib.hid hbb
            clear hbb
            unfold W at hrb
            rcases Nat.eq_zero_or_pos n1 with rfl | hn1
            · go_wp2_with fail
              go_ret
              exact ⟨2, rfl, .inr (.inl ⟨by rw [HL.out]; exact h8, HS.out, ⟨i, r, HR.out, .inl HLEN.out⟩, rfl⟩), q, rfl⟩
            · have hn1i : (0 : Int) < (n1 : Int) := by omega
              have hz : ((n1 : Int) == 0) = false := by simp; omega
              obtain ⟨L, hL⟩ : ∃ L, L = IntKind.u64.wrap (IntKind.u64.wrap (b + (n1 : Int)) - 1) := ⟨_, rfl⟩
              rcases Int.lt_or_le 18446744073709551616 (b + n1) with hw | hw
              · have hLb : L < b := by rw [hL, IntKind.wrap_u64, IntKind.wrap_u64]; omega
                have hL0 : 0 ≤ L := by rw [hL, IntKind.wrap_u64]; omega
                have HW := Lib.hid hw
                have HLL := Lib.hid hL
                clear hw hL
                go_wp2_with fail
                go_quiet (fail)
                rw [← HLL.out]
                go_wp2_with fail
                go_ret
                exact ⟨2, rfl, .inr (.inl ⟨by rw [HL.out]; exact h8, HS.out, ⟨i, r, HR.out, .inr (.inl (by rw [HLEN.out, ← HBB.out]; exact HW.out))⟩, rfl⟩), _, rfl⟩
              · have hLe : L = b + n1 - 1 := by rw [hL, IntKind.wrap_u64, IntKind.wrap_u64]; omega
                have hLb : ¬ L < b := by omega
                have hLb2 : b ≤ L := by omega
                have hLm : L ≤ 18446744073709551615 := by omega
                have HLE := Lib.hid hLe
                have HW := Lib.hid hw
                have HLL := Lib.hid hL
                clear hw hL hLe hLb
                go_wp2_with fail
                go_quiet (fail)
                rw [← HLL.out]
                clear HLL
                rw [World.drewN_drewN]
                go_wp2_with fail
                go_loopw [6] (fun v wr => ∃ m p : Nat, m ≤ i ∧ v = .int .i64 (m : Int) ∧ wr = w.drewN p ∧ Hid (∀ (j : Nat) (s : Reg), j < m → rs[j]? = some s → ¬ (s.base ≤ L ∧ b ≤ s.base + s.len - 1))) (fun v _ => i - (intOf v).toNat)
                case atStart => exact ⟨0, _, Nat.zero_le _, rfl, rfl, Lib.hid (fun j r hj => absurd hj (by omega))⟩
                case round =>
                  obtain ⟨m, p, hm, rfl, rfl, hJ⟩ := hrel
                  rcases Nat.lt_or_ge m i with hmi | hmi
                  · obtain ⟨s, hs⟩ := get_lt (rs := rs) (j := m) (by rw [HL.out]; omega)
                    have hsb := (h.out.oks s (List.mem_of_getElem? hs)).base
                    have hsg := hI.out m s hmi hs
                    obtain ⟨ad', he, hb', A2, n2, c2, k1, k2, k3, k4, k5, k6⟩ := h.out.at_ hs
                    cases he
                    have hmki : (m : Int) < (i : Int) := by omega
                    have hmk : (m : Int) < (k : Int) := by omega
                    have HLEN2 := Lib.hid (show s.len = n2 by unfold Reg.len; rw [k4.len])
                    have HR2 := Lib.hid hs
                    have hs2 := HSI.out m s hs
                    rw [HLEN2.out] at hs2
                    have hn2 : n2 ≤ 1048576 := by omega
                    obtain ⟨d, hdd⟩ : ∃ d, d = s.base := ⟨_, rfl⟩
                    rw [← hdd] at k1 hsb
                    have HDD := Lib.hid hdd
                    unfold W at hsb
                    have hsg2 : 0 < n2 ∧ d + n2 ≤ 18446744073709551616 := by
                      refine ⟨?_, ?_⟩
                      · rcases Nat.eq_zero_or_pos n2 with e | e
                        · exact absurd (.inl (by rw [HLEN2.out, e]; rfl)) hsg
                        · exact e
                      · rcases Int.lt_or_le 18446744073709551616 (d + n2) with e | e
                        · exact absurd (.inr (.inl (by rw [HLEN2.out, ← hdd]; exact e))) hsg
                        · exact e
                    obtain ⟨hn20, hdn⟩ := hsg2
                    obtain ⟨T, hT⟩ : ∃ T, T = IntKind.u64.wrap (IntKind.u64.wrap (d + (n2 : Int)) - 1) := ⟨_, rfl⟩
                    have hTe : T = d + n2 - 1 := by rw [hT, IntKind.wrap_u64, IntKind.wrap_u64]; omega
                    have HTE := Lib.hid hTe
                    have hT2 : IntKind.u64.wrap (IntKind.u64.wrap (d + (n2 : Int)) - 1) = T := hT.symm
                    clear k3 k4 hs hdd hsg hs2 hT hTe hdn hn2
                    by_cases q1 : d ≤ L
                    · by_cases q2 : b ≤ T
                      · have HQ := Lib.hid (show s.base ≤ r.base + r.len - 1 ∧ r.base ≤ s.base + s.len - 1 from ⟨by rw [← HDD.out, HLEN.out, ← HBB.out, ← HLE.out]; exact q1, by rw [← HBB.out, ← HDD.out, HLEN2.out, ← HTE.out]; exact q2⟩)
                        go_wp2_with fail
                        go_quiet (fail)
                        go_wp2_with fail
                        go_ret
                        exact ⟨2, rfl, .inr (.inl ⟨by rw [HL.out]; exact h8, HS.out, ⟨i, r, HR.out, .inr (.inr ⟨m, s, hmi, HR2.out, HQ.out⟩)⟩, rfl⟩), _, World.drewN_drewN _ _ _⟩
                      · have hJ' : Hid (∀ (j : Nat) (s : Reg), j < m + 1 → rs[j]? = some s → ¬ (s.base ≤ L ∧ b ≤ s.base + s.len - 1)) := Lib.hid (fun j t hj ht hq => by
                          by_cases e : j = m
                          · subst e
                            rw [HR2.out] at ht
                            cases ht
                            rw [HLEN2.out, ← HDD.out, ← HTE.out] at hq
                            exact q2 hq.2
                          · exact hJ.out j t (by omega) ht hq)
                        have q2' : T < b := by omega
                        clear q2
                        go_wp2_with fail
                        go_quiet (fail)
                        go_wp2_with fail
                        go_roundw
                        case rel => exact ⟨m + 1, _, by omega, by go_num, rfl, hJ'⟩
                        case measure => (simp [intOf] <;> omega)
                    · have hJ' : Hid (∀ (j : Nat) (s : Reg), j < m + 1 → rs[j]? = some s → ¬ (s.base ≤ L ∧ b ≤ s.base + s.len - 1)) := Lib.hid (fun j t hj ht hq => by
                        by_cases e : j = m
                        · subst e
                          rw [HR2.out] at ht
                          cases ht
                          rw [← HDD.out] at hq
                          exact q1 hq.1
                        · exact hJ.out j t (by omega) ht hq)
                      have q1' : decide (d ≤ L) = false := decide_eq_false q1
                      clear q1
                      go_wp2_with fail
                      go_quiet (fail)
                      go_wp2_with fail
                      go_roundw
                      case rel => exact ⟨m + 1, _, by omega, by go_num, rfl, hJ'⟩
                      case measure => (simp [intOf] <;> omega)
                  · obtain rfl : m = i := by omega
                    have hI' : Hid (∀ (j : Nat) (s : Reg), j < m + 1 → rs[j]? = some s → ¬ BadAt rs j s) := Lib.hid (fun j t hj ht hq => by
                      by_cases e : j = m
                      · subst e
                        rw [HR.out] at ht
                        cases ht
                        rcases hq with hq | hq | ⟨x, s, hx, hs, hq1, hq2⟩
                        · rw [HLEN.out] at hq; omega
                        · rw [HLEN.out, ← HBB.out] at hq; have := HW.out; omega
                        · exact hJ.out x s hx hs ⟨by rw [HLE.out, HBB.out, ← HLEN.out]; exact hq1, by rw [HBB.out]; exact hq2⟩
                      · exact hI.out j t (by omega) ht hq)
                    clear hJ hI hm hmi
                    go_wp2_with fail
                    go_roundw
                    case rel => exact ⟨m + 1, _, by omega, by go_num, rfl, hI'⟩
                    case measure => (simp [intOf] <;> omega)
          · obtain rfl : i = k := by omega
            have HB : Hid (¬ Bad rs) := Lib.hid (fun ⟨j, r, hj, h1⟩ => hI.out j r (by rw [← HL.out]; exact (List.getElem?_eq_some_iff.1 hj).1) hj h1)
            clear hI hik hi
            go_wp2_with fail
            go_ret
            exact ⟨0, rfl, .inr (.inr ⟨by rw [HL.out]; exact h8, HS.out, HB.out, rfl⟩), q, rfl⟩
end Mm
end Go.Proofs.YtikbnfhnimjmmaaGreatDoor
