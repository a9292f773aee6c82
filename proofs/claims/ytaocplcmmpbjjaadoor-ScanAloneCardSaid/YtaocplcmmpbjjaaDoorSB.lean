/- The runes' kinds, by the program. -/
import Derived.Test.YtaocplcmmpbjjaaDoorSA
import Derived.Test.YtaocplcmmpbjjaaDoorShelf
import Derived.WalkKit
import Derived.Lib.Hide
namespace Go.Proofs.YtaocplcmmpbjjaaDoor
open Go Go.RowKit
namespace Sn
set_option linter.unusedVariables false
set_option linter.unusedSimpArgs false
theorem isDigit_l (c : Nat) (hc : c ≤ 2147483647) (w : World) : Calls Tryd.prog 22 #[.int .i32 (c : Int)] w fun e w' => e = .returned (.bool (digR c)) ∧ w' = w := by
  have hc' : (c : Int) ≤ 2147483647 := by omega
  have h0 : (0 : Int) ≤ (c : Int) := by omega
  by_cases h1 : (48 : Int) ≤ (c : Int) <;> by_cases h2 : (c : Int) ≤ 57
  all_goals
    have hr : ∃ b, digR c = b := ⟨_, rfl⟩
    go_enter Tryd.func22, Tryd.ntmps22
    go_wp2_with fail
    go_ret
    refine ⟨?_, rfl⟩
    unfold digR
    simp <;> omega
theorem isWhite_l (c : Nat) (hc : c ≤ 2147483647) (w : World) : Calls Tryd.prog 34 #[.int .i32 (c : Int)] w fun e w' => e = .returned (.bool (whtR c)) ∧ w' = w := by
  by_cases k1 : c = 32
  · subst k1
    go_enter Tryd.func34, Tryd.ntmps34
    go_wp2_with fail
    go_ret
    exact ⟨rfl, rfl⟩
  by_cases k2 : c = 9
  · subst k2
    go_enter Tryd.func34, Tryd.ntmps34
    go_wp2_with fail
    go_ret
    exact ⟨rfl, rfl⟩
  by_cases k3 : c = 10
  · subst k3
    go_enter Tryd.func34, Tryd.ntmps34
    go_wp2_with fail
    go_ret
    exact ⟨rfl, rfl⟩
  by_cases k4 : c = 13
  · subst k4
    go_enter Tryd.func34, Tryd.ntmps34
    go_wp2_with fail
    go_ret
    exact ⟨rfl, rfl⟩
  have e1 : ((c : Int) == 32) = false := by simp; omega
  have e2 : ((c : Int) == 9) = false := by simp; omega
  have e3 : ((c : Int) == 10) = false := by simp; omega
  have e4 : ((c : Int) == 13) = false := by simp; omega
  have HW : Hid (whtR c = false) := Lib.hid (by unfold whtR; simp [k1, k2, k3, k4])
  clear k1 k2 k3 k4 hc
  go_enter Tryd.func34, Tryd.ntmps34
  go_wp2_with fail
  go_ret
  exact ⟨by rw [HW.out]; rfl, rfl⟩
theorem Letter_l (c : Nat) (hc : c ≤ 2147483647) (w : World) : Calls Tryd.prog 14 #[.int .i32 (c : Int)] w fun e w' => e = .returned (.bool (letR c)) ∧ w' = w := by
  have hc' : (c : Int) ≤ 2147483647 := by omega
  have h0 : (0 : Int) ≤ (c : Int) := by omega
  have HV := Lib.hid (Tryd.utf8_ValidRune (c : Int) w)
  rcases Nat.lt_or_ge c 128 with h | h
  · have hl : (c : Int) < 128 := by omega
    have HL : Hid (letR c = ((decide ((97 : Int) ≤ (c : Int)) && decide ((c : Int) ≤ 122)) || (decide ((65 : Int) ≤ (c : Int)) && decide ((c : Int) ≤ 90)) || decide ((c : Int) = 95))) := Lib.hid (by
      unfold letR
      rw [if_pos h, Bool.eq_iff_iff]
      simp
      omega)
    rw [HL.out]
    clear h hc
    by_cases k5 : c = 95
    · subst k5
      go_enter Tryd.func14, Tryd.ntmps14
      go_wp2_with fail
      go_ret
      exact ⟨rfl, rfl⟩
    have e5 : ((c : Int) == 95) = false := by simp; omega
    have e6 : ¬ (c : Int) = 95 := by omega
    by_cases k1 : (97 : Int) ≤ (c : Int) <;> by_cases k2 : (c : Int) ≤ 122 <;> by_cases k3 : (65 : Int) ≤ (c : Int) <;> by_cases k4 : (c : Int) ≤ 90
    all_goals first
      | (exfalso; omega)
      | (
        have HL2 := Lib.hid (show ((decide ((97 : Int) ≤ (c : Int)) && decide ((c : Int) ≤ 122)) || (decide ((65 : Int) ≤ (c : Int)) && decide ((c : Int) ≤ 90)) || decide ((c : Int) = 95)) = _ by simp only [k1, k2, k3, k4, e6, decide_true, decide_false, Bool.true_and, Bool.and_true, Bool.false_and, Bool.and_false, Bool.or_true, Bool.or_false, Bool.true_or, Bool.false_or]; rfl)
        rw [HL2.out]
        go_enter Tryd.func14, Tryd.ntmps14
        go_wp2_with fail
        go_ret
        exact ⟨rfl, rfl⟩)
  · have hl : ¬ (c : Int) < 128 := by omega
    have HE : Hid (Lib.validRune (c : Int) = letR c) := Lib.hid (by
      unfold Lib.validRune letR
      rw [if_neg (by omega)]
      have : (c : Int) < 55296 ↔ c < 55296 := by omega
      rw [Bool.eq_iff_iff]
      simp
      omega)
    rw [HE.out] at HV
    clear h hc HE
    generalize letR c = L at *
    go_enter Tryd.func14, Tryd.ntmps14
    go_wp2_with fail
    go_at_call 23
    refine HV.out.mono ?_
    rintro e w1 ⟨rfl, rfl⟩
    go_wp2_with fail
    go_ret
    exact ⟨rfl, rfl⟩
/-- the goings: names, signs, comments -/
theorem going1_l (c : Nat) (hc : c ≤ 2147483647) (w : World) : Calls Tryd.prog 32 #[.int .i32 (c : Int)] w fun e w' => e = .returned (.bool (goR 1 c)) ∧ w' = w := by
  have HL := Lib.hid (Letter_l c hc w)
  have HD := Lib.hid (isDigit_l c hc w)
  have HG : Hid (goR 1 c = (letR c || digR c)) := Lib.hid rfl
  rw [HG.out]
  clear HG hc
  generalize letR c = L at *
  generalize digR c = D at *
  cases L
  · go_enter Tryd.func32, Tryd.ntmps32
    go_wp2_with fail
    go_at_call 14
    refine HL.out.mono ?_
    rintro e w1 ⟨rfl, rfl⟩
    go_wp2_with fail
    go_at_call 22
    refine HD.out.mono ?_
    rintro e w2 ⟨rfl, rfl⟩
    go_wp2_with fail
    go_ret
    exact ⟨rfl, rfl⟩
  · go_enter Tryd.func32, Tryd.ntmps32
    go_wp2_with fail
    go_at_call 14
    refine HL.out.mono ?_
    rintro e w1 ⟨rfl, rfl⟩
    go_wp2_with fail
    go_ret
    exact ⟨rfl, rfl⟩
theorem going2_l (c : Nat) (w : World) : Calls Tryd.prog 33 #[.int .i32 (c : Int)] w fun e w' => e = .returned (.bool (goR 3 c)) ∧ w' = w := by
  have HG : Hid (goR 3 c = false) := Lib.hid rfl
  rw [HG.out]
  go_enter Tryd.func33, Tryd.ntmps33
  go_wp2_with fail
  go_ret
  exact ⟨rfl, rfl⟩
theorem going3_l (c : Nat) (w : World) : Calls Tryd.prog 35 #[.int .i32 (c : Int)] w fun e w' => e = .returned (.bool (goR 5 c)) ∧ w' = w := by
  by_cases h : c = 10
  · subst h
    go_enter Tryd.func35, Tryd.ntmps35
    go_wp2_with fail
    go_ret
    exact ⟨rfl, rfl⟩
  · have HG : Hid (goR 5 c = true) := Lib.hid (by unfold goR; simp [h])
    have e1 : ((c : Int) != 10) = true := by simp; omega
    rw [HG.out]
    clear h HG
    go_enter Tryd.func35, Tryd.ntmps35
    go_wp2_with fail
    go_ret
    exact ⟨rfl, rfl⟩
/-- a sign, below 128 -/
theorem isSign_l (c : Nat) (hc : c < 128) (w : World) : Calls Tryd.prog 44 #[.int .i32 (c : Int)] w fun e w' => e = .returned (.bool (sgnR c)) ∧ w' = w := by
  have HC := Lib.hid (fun s => Tryd.strings_ContainsRune_ascii s (c : Int) w (by omega) (by omega))
  have HS : Hid (decide (0 ≤ Lib.indexByte [40, 41, 91, 93, 123, 125, 60, 62, 44, 59, 58, 61, 43, 45, 42] ((c : Int).toNat.toUInt8)) = sgnR c) := Lib.hid (by
    have : ∀ k : Fin 128, decide (0 ≤ Lib.indexByte [40, 41, 91, 93, 123, 125, 60, 62, 44, 59, 58, 61, 43, 45, 42] ((k.val : Int).toNat.toUInt8)) = sgnR k.val := by decide +kernel
    exact this ⟨c, hc⟩)
  clear hc
  generalize sgnR c = L at *
  go_enter Tryd.func44, Tryd.ntmps44
  go_wp2_with fail
  go_at_call 45
  refine (HC.out _).mono ?_
  rintro e w1 ⟨rfl, rfl⟩
  have HS2 := HS.out
  dsimp only
  rw [HS2]
  go_wp2_with fail
  go_ret
  exact ⟨rfl, rfl⟩
theorem kindOf_l (c : Nat) (hc : c ≤ 2147483647) (hv : 128 ≤ c → letR c = true) (w : World) : Calls Tryd.prog 42 #[.int .i32 (c : Int)] w fun e w' => e = .returned (.int .i64 (kndR c : Int)) ∧ w' = w := by
  have HL := Lib.hid (Letter_l c hc w)
  have HD := Lib.hid (isDigit_l c hc w)
  have HW := Lib.hid (isWhite_l c hc w)
  have HS : Hid (letR c = false → Calls Tryd.prog 44 #[.int .i32 (c : Int)] w fun e w' => e = .returned (.bool (sgnR c)) ∧ w' = w) := Lib.hid (fun h => isSign_l c (by
    rcases Nat.lt_or_ge c 128 with h1 | h1
    · exact h1
    · rw [hv h1] at h; cases h) w)
  have e35 : ((c : Int) == 35) = decide (c = 35) := by rw [Bool.eq_iff_iff]; simp; omega
  have HK : Hid (kndR c = if letR c then 1 else if digR c then 2 else if sgnR c then 3 else if whtR c then 4 else if c = 35 then 5 else 0) := Lib.hid rfl
  clear hv hc
  rw [HK.out]
  clear HK
  generalize letR c = L at *
  generalize digR c = D at *
  generalize sgnR c = S at *
  generalize whtR c = W at *
  cases L
  case true =>
    go_enter Tryd.func42, Tryd.ntmps42
    go_wp2_with fail
    go_at_call 14
    refine HL.out.mono ?_
    rintro e w1 ⟨rfl, rfl⟩
    go_wp2_with fail
    go_ret
    exact ⟨rfl, rfl⟩
  have HZ := Lib.hid (HS.out rfl)
  clear HS
  cases D
  case true =>
    go_enter Tryd.func42, Tryd.ntmps42
    go_wp2_with fail
    go_at_call 14
    refine HL.out.mono ?_
    rintro e w1 ⟨rfl, rfl⟩
    go_wp2_with fail
    go_at_call 22
    refine HD.out.mono ?_
    rintro e w1 ⟨rfl, rfl⟩
    go_wp2_with fail
    go_ret
    exact ⟨rfl, rfl⟩
  cases S
  case true =>
    go_enter Tryd.func42, Tryd.ntmps42
    go_wp2_with fail
    go_at_call 14
    refine HL.out.mono ?_
    rintro e w1 ⟨rfl, rfl⟩
    go_wp2_with fail
    go_at_call 22
    refine HD.out.mono ?_
    rintro e w1 ⟨rfl, rfl⟩
    go_wp2_with fail
    go_at_call 44
    refine HZ.out.mono ?_
    rintro e w1 ⟨rfl, rfl⟩
    go_wp2_with fail
    go_ret
    exact ⟨rfl, rfl⟩
  cases W
  case true =>
    go_enter Tryd.func42, Tryd.ntmps42
    go_wp2_with fail
    go_at_call 14
    refine HL.out.mono ?_
    rintro e w1 ⟨rfl, rfl⟩
    go_wp2_with fail
    go_at_call 22
    refine HD.out.mono ?_
    rintro e w1 ⟨rfl, rfl⟩
    go_wp2_with fail
    go_at_call 44
    refine HZ.out.mono ?_
    rintro e w1 ⟨rfl, rfl⟩
    go_wp2_with fail
    go_at_call 34
    refine HW.out.mono ?_
    rintro e w1 ⟨rfl, rfl⟩
    go_wp2_with fail
    go_ret
    exact ⟨rfl, rfl⟩
  by_cases h35 : c = 35
  · subst h35
    go_enter Tryd.func42, Tryd.ntmps42
    go_wp2_with fail
    go_at_call 14
    refine HL.out.mono ?_
    rintro e w1 ⟨rfl, rfl⟩
    go_wp2_with fail
    go_at_call 22
    refine HD.out.mono ?_
    rintro e w1 ⟨rfl, rfl⟩
    go_wp2_with fail
    go_at_call 44
    refine HZ.out.mono ?_
    rintro e w1 ⟨rfl, rfl⟩
    go_wp2_with fail
    go_at_call 34
    refine HW.out.mono ?_
    rintro e w1 ⟨rfl, rfl⟩
    go_wp2_with fail
    go_ret
    exact ⟨rfl, rfl⟩
  · rw [decide_eq_false h35] at e35
    have HC : Hid ((if c = 35 then 5 else 0 : Nat) = 0) := Lib.hid (if_neg h35)
    simp only [Bool.false_eq_true, if_false]
    rw [HC.out]
    clear HC h35
    go_enter Tryd.func42, Tryd.ntmps42
    go_wp2_with fail
    go_at_call 14
    refine HL.out.mono ?_
    rintro e w1 ⟨rfl, rfl⟩
    go_wp2_with fail
    go_at_call 22
    refine HD.out.mono ?_
    rintro e w1 ⟨rfl, rfl⟩
    go_wp2_with fail
    go_at_call 44
    refine HZ.out.mono ?_
    rintro e w1 ⟨rfl, rfl⟩
    go_wp2_with fail
    go_at_call 34
    refine HW.out.mono ?_
    rintro e w1 ⟨rfl, rfl⟩
    go_wp2_with fail
    go_ret
    exact ⟨rfl, rfl⟩
end Sn
end Go.Proofs.YtaocplcmmpbjjaaDoor
