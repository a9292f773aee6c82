/- The document's own Compare, Bits, Bit, Low. -/
import Derived.Test.YtdklchejnpaenaaDoorRfA
namespace Go.Proofs.YtdklchejnpaenaaDoor
open Go Go.RowKit
namespace Nt
open Wd Sti
set_option linter.unusedVariables false

theorem newR_of {B n K : Nat} {w w' : World} {v : Value} {N : Int} {zs : List Int} (h : Own B w' v n zs) (ht : trim zs = zs) (hv : V zs = N) (hK : n ≤ K) (hb : Below w.heap.size w w') (hB : w.heap.size ≤ B) : NewR w w' v N K := by
  have hl := own_lt h
  obtain ⟨A, c, rfl, h1, h2, h3⟩ := h.slice
  exact ⟨A, n, c, zs, rfl, Lib.hid ⟨h.ws, ht, hv⟩, Lib.hid h1, h2, h3, hK, hb, Lib.hid fun ad e => by
    subst e
    rcases h.own.2 with ⟨he, _⟩ | ⟨g, cap, cur, he, hb, _⟩
    · cases he
    · cases he; exact Nat.le_trans hB hb⟩

theorem V_of_hi {xs ys : List Int} (h : hi xs 0 = hi ys 0) : V xs = V ys := by rw [hi_zero, hi_zero] at h; exact h
set_option maxRecDepth 100000 in
set_option maxHeartbeats 1000000 in
theorem compare_r (A B : Option Addr) (na ca nb cb Ba Bb : Nat) (xs ys : List Int) (w : World) (ha : Rd w Ba A na xs) (hb : Rd w Bb B nb ys) (la : na ≤ 1073741824) (lb : nb ≤ 1073741824) :
    Calls Tryd.prog 32 #[.slice A na ca, .slice B nb cb] w fun e w' => e = .returned (.int .i64 (cmpN (V xs) (V ys))) ∧ w' = w := by
  have HA := Lib.hid ha
  have HB := Lib.hid hb
  clear ha hb
  go_enter Tryd.func32, Tryd.ntmps32
  go_wp2_with fail
  go_loop [5] (fun i => (i = .int .i64 (-1) ∧ V xs = V ys) ∨ ∃ k : Nat, k < max na nb ∧ i = .int .i64 (k : Int) ∧ hi xs (k + 1) = hi ys (k + 1)) (fun i => (intOf i + 1).toNat)
  case atStart =>
    rcases Nat.eq_zero_or_pos (max na nb) with h0 | h0
    · left
      refine ⟨by congr 1; omega, ?_⟩
      rw [List.eq_nil_of_length_eq_zero (show xs.length = 0 by have := HA.out.len; omega), List.eq_nil_of_length_eq_zero (show ys.length = 0 by have := HB.out.len; omega)]
    · right
      exact ⟨max na nb - 1, by omega, by congr 1; omega, by rw [hi_all (by have := HA.out.len; omega), hi_all (by have := HB.out.len; omega)]⟩
  case round =>
    rcases hrel with ⟨rfl, hv⟩ | ⟨k, hk, rfl, hh⟩
    · have HV := Lib.hid (cmp_same hv)
      clear hv
      go_wp2_with fail
      go_ret
      exact ⟨by rw [HV.out]; rfl, rfl⟩
    · have HX := Lib.hid (limb_r A na ca k Ba xs w HA.out (by omega))
      have HY := Lib.hid (limb_r B nb cb k Bb ys w HB.out (by omega))
      have hwx := HA.out.ws
      have hwy := HB.out.ws
      have HE : Nt.at_ xs k = Nt.at_ ys k → Hid ((Value.int .i64 ((k : Int) - 1) = .int .i64 (-1) ∧ V xs = V ys) ∨ ∃ k' : Nat, k' < max na nb ∧ Value.int .i64 ((k : Int) - 1) = .int .i64 (k' : Int) ∧ hi xs (k' + 1) = hi ys (k' + 1)) := fun e => Lib.hid (by
        have h1 : hi xs k = hi ys k := by rw [hi_succ xs, hi_succ ys, hh, e]
        rcases Nat.eq_zero_or_pos k with rfl | h0
        · exact .inl ⟨by congr 1, V_of_hi h1⟩
        · obtain ⟨i, rfl⟩ : ∃ i, k = i + 1 := ⟨k - 1, by omega⟩
          exact .inr ⟨i, by omega, by congr 1; omega, h1⟩)
      have HN : Nt.at_ xs k ≠ Nt.at_ ys k → Hid (cmpN (Nt.at_ xs k) (Nt.at_ ys k) = cmpN (V xs) (V ys)) := fun e => Lib.hid (cmp_at hwx hwy hh e)
      clear hwx hwy hh
      generalize Nt.at_ xs k = x at *
      generalize Nt.at_ ys k = y at *
      rcases Int.lt_trichotomy x y with h | h | h
      · have H := HN (by omega)
        rw [cmp_lt' h] at H
        clear HN HE
        go_wp2_with fail
        go_at_call 60
        refine HX.out.mono ?_
        rintro e w' ⟨rfl, rfl⟩
        go_wp2_with fail
        go_at_call 60
        refine HY.out.mono ?_
        rintro e w' ⟨rfl, rfl⟩
        go_wp2_with fail
        go_ret
        exact ⟨by rw [← H.out]; rfl, rfl⟩
      · have H := HE h
        subst h
        clear HN HE
        go_wp2_with fail
        go_at_call 60
        refine HX.out.mono ?_
        rintro e w' ⟨rfl, rfl⟩
        go_wp2_with fail
        go_at_call 60
        refine HY.out.mono ?_
        rintro e w' ⟨rfl, rfl⟩
        go_wp2_with fail
        go_round
        case rel => exact H.out
        case measure => (simp [intOf] <;> omega)
      · have H := HN (by omega)
        rw [cmp_gt' h] at H
        clear HN HE
        go_wp2_with fail
        go_at_call 60
        refine HX.out.mono ?_
        rintro e w' ⟨rfl, rfl⟩
        go_wp2_with fail
        go_at_call 60
        refine HY.out.mono ?_
        rintro e w' ⟨rfl, rfl⟩
        go_wp2_with fail
        go_ret
        exact ⟨by rw [← H.out]; rfl, rfl⟩

theorem bits_r (A : Option Addr) (n c : Nat) (xs : List Int) (w : World) (h : At w A n xs) (hc : n ≤ c) (hn : c ≤ 9223372036854775807) (hl : n ≤ 1048576) :
    Calls Tryd.prog 35 #[.slice A n c] w fun e w' => e = .returned (.int .i64 (nbits (trim xs))) ∧ Below w.heap.size w w' := by
  have HT := Lib.hid (trim_r A n c xs w h hc hn hl)
  have hl' : (trim xs).length ≤ n := by have := trim_le xs; have := h.len; omega
  clear h
  generalize trim xs = zs at *
  obtain ⟨m, hm⟩ : ∃ m, zs.length = m := ⟨_, rfl⟩
  rw [hm] at HT hl'
  unfold nbits
  rw [hm]
  rcases Nat.eq_zero_or_pos m with rfl | h0
  · clear hm
    go_enter Tryd.func35, Tryd.ntmps35
    go_wp2_with fail
    go_at_call 31
    refine HT.out.mono ?_
    rintro e w1 ⟨v, rfl, hO, hB⟩
    obtain ⟨A1, c1, rfl, h1, h2, h3⟩ := hO.slice
    have HB := Lib.hid hB
    clear hO HT h1 hB
    go_wp2_with fail
    go_ret
    exact ⟨rfl, HB.out⟩
  · obtain ⟨i, rfl⟩ : ∃ i, m = i + 1 := ⟨m - 1, by omega⟩
    rw [if_neg (by omega), Nat.add_sub_cancel]
    go_enter Tryd.func35, Tryd.ntmps35
    go_wp2_with fail
    go_at_call 31
    refine HT.out.mono ?_
    rintro e w1 ⟨v, rfl, hO, hB⟩
    obtain ⟨A1, c1, rfl, h1, h2, h3⟩ := hO.slice
    have HB := Lib.hid hB
    clear hO HT hB
    obtain ⟨ad, rfl, _, hcell⟩ := Rd.at_ h1 (k := i) (by omega)
    have HM := Lib.hid hm
    have hw := h1.ws.at_ i
    have hbl := (bl_spec (Nt.at_ zs i).toNat (by unfold Wd.W at hw; omega)).2.2
    have HC := fun w => Lib.hid (rbits_c (Nt.at_ zs i) w hw)
    clear h1 hm
    have he : ((i : Int) + 1 == 0) = false := by simp; omega
    have HBL : ∃ b, b = Lib.bitLen (Nt.at_ zs i).toNat := ⟨_, rfl⟩
    obtain ⟨b, hb⟩ := HBL
    rw [← hb] at hbl HC
    have HBE := Lib.hid hb
    clear hb
    obtain ⟨z, hz⟩ : ∃ z, z = Nt.at_ zs i := ⟨_, rfl⟩
    rw [← hz] at hcell HC hw
    clear hz
    go_wp2_with (go_at_call 42; refine (HC _).out.mono ?_; rintro e w' ⟨rfl, rfl⟩)
    go_ret
    refine ⟨?_, HB.out⟩
    rw [← HBE.out]
    refine ret_i ?_
    simp only [Int.natCast_add, Int.natCast_mul]
    omega

theorem bit_r (A : Option Addr) (n c B : Nat) (i : Int) (xs : List Int) (w : World) (h : Rd w B A n xs) (hi : (Lit.int .i64 i).wf = true) :
    Calls Tryd.prog 36 #[.slice A n c, .int .i64 i] w fun e w' => e = .returned (.bool (bitAt (V xs) i)) ∧ w' = w := by
  have hk' : -9223372036854775808 ≤ i ∧ i ≤ 9223372036854775807 := by
    simp [Lit.wf, IntKind.min, IntKind.max, IntKind.signed, IntKind.bits] at hi; omega
  obtain ⟨hk1, hk2⟩ := hk'
  clear hi
  by_cases h0 : i < 0
  · have e : bitAt (V xs) i = false := by unfold bitAt; rw [decide_eq_false (by omega)]; rfl
    rw [e]
    clear h e
    go_enter Tryd.func36, Tryd.ntmps36
    go_wp2_with fail
    go_ret
    exact ⟨rfl, rfl⟩
  · obtain ⟨j, rfl⟩ : ∃ j : Nat, i = j := ⟨i.toNat, by omega⟩
    have HL := Lib.hid (limb_r A n c (j / 64) B xs w h (by omega))
    have HB := Lib.hid (bit_at h.ws j)
    have hw := h.ws.at_ (j / 64)
    unfold bitAt
    rw [decide_eq_true (by omega), Bool.true_and, Int.toNat_natCast, ← HB.out]
    clear h HB
    generalize Nt.at_ xs (j / 64) = z at *
    unfold Wd.W at hw
    obtain ⟨hw1, hw2⟩ := hw
    go_enter Tryd.func36, Tryd.ntmps36
    go_wp2_with (go_at_call 60; refine HL.out.mono ?_; rintro e w' ⟨rfl, rfl⟩)
    go_ret
    refine ⟨ret_b ?_, rfl⟩
    have h1 := pow_pos2 (j % 64)
    have hq : 0 ≤ z / 2 ^ (j % 64) ∧ z / 2 ^ (j % 64) ≤ 18446744073709551615 := ⟨Int.ediv_nonneg hw1 (by omega), Int.le_trans (Int.ediv_le_self _ hw1) hw2⟩
    show (bits BinOp.and IntKind.u64 (z / 2 ^ (j % 64)) 1 == 1) = _
    rw [Wd.and_one _ hq.1 hq.2, Bool.eq_iff_iff]
    simp

theorem low_r (A : Option Addr) (n c : Nat) (k : Int) (xs : List Int) (w : World) (h : At w A n xs) (hc : n ≤ c) (hn : c ≤ 9223372036854775807) (hl : n ≤ 1048576) (hk : (Lit.int .i64 k).wf = true) :
    Calls Tryd.prog 37 #[.slice A n c, .int .i64 k] w fun e w' => ∃ v, e = .returned v ∧ NewR w w' v (lo xs k.toNat) n := by
  have hk' : -9223372036854775808 ≤ k ∧ k ≤ 9223372036854775807 := by
    simp [Lit.wf, IntKind.min, IntKind.max, IntKind.signed, IntKind.bits] at hk; omega
  obtain ⟨hk1, hk2⟩ := hk'
  clear hk
  have HL := Lib.hid h.len
  obtain ⟨m, hm⟩ : ∃ m, m = (min (n : Int) (max 0 k)).toNat := ⟨_, rfl⟩
  have HT := Lib.hid (trim_r A m c (xs.take m) w (Rd.take h (by omega)) (by omega) hn (by omega))
  have e1 : V (xs.take m) = lo xs k.toNat := by
    by_cases h1 : k.toNat ≤ n
    · rw [show k.toNat = m by omega]; rfl
    · rw [lo_all (by have := HL.out; omega), List.take_of_length_le (by have := HL.out; omega)]
  have E1 := Lib.hid e1
  have E2 := Lib.hid (show (trim (xs.take m)).length ≤ n by have := trim_le (xs.take m); rw [List.length_take] at this; have := HL.out; omega)
  rw [hm] at HT
  have h2 : 0 ≤ min (n : Int) (max 0 k) := by omega
  have h3 : min (n : Int) (max 0 k) ≤ c := by omega
  rw [hm] at E1 E2
  clear h e1 hm
  go_enter Tryd.func37, Tryd.ntmps37
  go_wp2_with (go_at_call 31; refine HT.out.mono ?_; rintro e w' ⟨v, rfl, hv, hb⟩; have HV := Lib.hid hv; have HB := Lib.hid hb; clear hv hb)
  go_ret
  exact ⟨_, rfl, newR_of HV.out (trim_trim _) (by rw [V_trim]; exact E1.out) E2.out HB.out (Nat.le_refl _)⟩
theorem Rd.setCell_far {w : World} {B n : Nat} {A : Option Addr} {xs : List Int} (h : Rd w B A n xs) (p : Addr) (u : Value) (hf : ∀ ad, A = some ad → ad.block ≠ p.block) : Rd (w.setCell p u) B A n xs :=
  ⟨h.len, h.ws, fun hn => by
    obtain ⟨ad, e, hb, hc⟩ := h.rd hn
    refine ⟨ad, e, hb, fun j hj => (World.cell?_setCell_other _ _ _ _ (fun e' => ?_)).trans (hc j hj)⟩
    have h1 := congrArg Addr.block e'
    rw [block_add] at h1
    have h2 := hf ad e
    first | exact h2 h1 | exact h2 h1.symm⟩
end Nt
end Go.Proofs.YtdklchejnpaenaaDoor
