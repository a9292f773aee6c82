/- The document's own answers on naturals: a limb, Trim, Compare, Bits, Bit, Low; a natural of one's own that is appended to. | The document's own Compare, Bits, Bit, Low. | The document's own Add and Sub: limbs put behind limbs. | The document's own Mul. -/
import Derived.Test.YtopajockmcgpmaaB6
import Derived.Test.YtopajockmcgpmaaB3
import Derived.Test.YtopajockmcgpmaaB5
import Derived.Lib.MinMax
import Derived.Deep.QuietTactic
import Derived.BigQuiet
namespace Go.Proofs.Ytopajockmcgpmaa
open Go Go.RowKit
namespace Nt
open Wd Sti
set_option linter.unusedVariables false
theorem limb_r (A : Option Addr) (n c k B : Nat) (xs : List Int) (w : World) (h : Rd w B A n xs) (hk : k ≤ 4611686018427387904) :
    Calls Try.prog 60 #[.slice A n c, .int .i64 (k : Int)] w fun e w' => e = .returned (.int .u64 (at_ xs k)) ∧ w' = w := by
  by_cases hlt : k < n
  · obtain ⟨ad, rfl, hb, hc⟩ := h.at_ hlt
    generalize at_ xs k = z at *
    clear h
    go_enter Try.func60, Try.ntmps60
    go_wp2_with fail
    go_ret
    exact ⟨rfl, rfl⟩
  · rw [at_ge (by rw [h.len]; omega)]
    clear h
    go_enter Try.func60, Try.ntmps60
    go_wp2_with fail
    go_ret
    exact ⟨rfl, rfl⟩

/-- limbs of one's own, in a row behind block B -/
structure Own (B : Nat) (w : World) (v : Value) (n : Nat) (zs : List Int) : Prop where
  own : w.ownsRow B 29 1 v n (zs.map (Value.int .u64))
  ws : Ws zs
theorem Own.slice {B : Nat} {w : World} {v : Value} {n : Nat} {zs : List Int} (h : Own B w v n zs) : ∃ A c, v = .slice A n c ∧ At w A n zs ∧ n ≤ c ∧ c ≤ 9223372036854775807 := own_at h.own h.ws
theorem Own.len {B : Nat} {w : World} {v : Value} {n : Nat} {zs : List Int} (h : Own B w v n zs) : zs.length = n := by
  have := h.own.1; rw [List.length_map, Nat.mul_one] at this; exact this
theorem Own.nil (B : Nat) (w : World) : Own B w (.slice none 0 0) 0 [] := ⟨World.ownsRow_nil _ _ _ _, Ws.nil⟩
theorem Own.more {B B' : Nat} {w : World} {v : Value} {n : Nat} {zs : List Int} (h : Own B w v n zs) (hB : B' ≤ B) : Own B' w v n zs := by
  refine ⟨⟨h.own.1, ?_⟩, h.ws⟩
  rcases h.own.2 with hn | ⟨g, cap, cur, e, hb, r⟩
  · exact .inl hn
  · exact .inr ⟨g, cap, cur, e, Nat.le_trans hB hb, r⟩
theorem own_lt {B : Nat} {w : World} {v : Value} {n : Nat} {zs : List Int} (h : Own B w v n zs) : ∀ j, v.ownBlock = some j → B ≤ j := fun j hj => (h.own.lt j hj).1
theorem below_own {B : Nat} {w w' : World} {v : Value} {n : Nat} {zs : List Int} (h : Own B w v n zs) (hg : w.grownBy w' v.ownBlock) (hB : B ≤ w.heap.size) : Below B w w' := (Below.refl _ w).grown hg hB (own_lt h)
/-- more limbs behind one's own -/
theorem own_append {w : World} {B k m c : Nat} {v : Value} {xs ys : List Int} {A : Option Addr} (ty : TypeId) (ho : Own B w v k xs) (hs : At w A m ys) (hk : k + m ≤ 1048576) (hB : B ≤ w.heap.size) :
    ∃ v' w', (Builtin.append_ #[24, 24] ty #[v, .slice A m c]).run Try.prog w = .ok v' w' ∧ Own B w' v' (k + m) (xs ++ ys) ∧ Below B w w' := by
  obtain ⟨i, hi, hz, h1, h2⟩ := info_parts info_u64
  rcases A with _ | ad
  · have hm : m = 0 := by
      rcases Nat.eq_zero_or_pos m with h0 | h0
      · exact h0
      · obtain ⟨ad, h, _⟩ := hs.rd h0
        cases h
    subst hm
    obtain rfl : ys = [] := List.eq_nil_of_length_eq_zero hs.len
    exact ⟨v, w, run_append_nil _ ty 29 i Try.underlying24 hi _ _ _ _ _ ho.own c, by rw [List.append_nil]; exact ho, Below.refl _ _⟩
  · have hcells : ∀ j u, (ys.map (Value.int .u64))[j]? = some u → w.cell? (ad.add j) = some u := by
      intro j u hu
      rw [List.getElem?_map] at hu
      have hj : j < m := by
        rcases Nat.lt_or_ge j ys.length with h | h
        · rw [← hs.len]; exact h
        · rw [List.getElem?_eq_none h] at hu; cases hu
      obtain ⟨ad', he, _, hc⟩ := hs.rd (by omega)
      cases he
      rw [hc j hj]
      rw [at_lt (by rw [hs.len]; exact hj)] at hu
      exact hu
    obtain ⟨v', w', hrun, h3, h4, h5, h6⟩ := run_append_own_at (P := Try.prog) w B 24 ty 29 i (.int .u64 0) 1 8 Try.underlying24 hi hz h1 h2 rfl (by omega) _ k _ ho.own ad m c (ys.map (Value.int .u64)) (by rw [List.length_map, hs.len, Nat.mul_one]) hcells
      (fun u hu => by obtain ⟨x, _, rfl⟩ := List.mem_map.1 hu; simp [Value.oneCell']) (by simp only [maxLen]; omega) (by omega) hB
    rw [← List.map_append] at h3
    exact ⟨v', w', hrun, ⟨h3, ho.ws.append hs.ws⟩, below_own ho h4 hB⟩

/-- a new natural of the document's own answers: its room is not told -/
def NewR (w w' : World) (v : Value) (N : Int) (K : Nat) : Prop := ∃ A n c zs, v = .slice A n c ∧ Hid (Is zs N) ∧ Hid (At w' A n zs) ∧ n ≤ c ∧ c ≤ 9223372036854775807 ∧ n ≤ K ∧ Below w.heap.size w w' ∧ Hid (∀ ad, A = some ad → w.heap.size ≤ ad.block)

set_option maxHeartbeats 1000000 in
theorem trim_r (A : Option Addr) (n c : Nat) (xs : List Int) (w : World) (h : At w A n xs) (hc : n ≤ c) (hn : c ≤ 9223372036854775807) (hl : n ≤ 1048576) :
    Calls Try.prog 31 #[.slice A n c] w fun e w' => ∃ v, e = .returned v ∧ Own w.heap.size w' v (trim xs).length (trim xs) ∧ Below w.heap.size w w' := by
  have hlen := h.len
  go_enter Try.func31, Try.ntmps31
  go_wp2_with fail
  go_loop [3] (fun i => ∃ k : Nat, k ≤ n ∧ i = .int .i64 k ∧ (∀ j, k ≤ j → Nt.at_ xs j = 0)) (fun i => (intOf i).toNat)
  case atStart => exact ⟨n, Nat.le_refl _, rfl, fun j hj => at_ge (by omega)⟩
  case round =>
    obtain ⟨k, hk, rfl, hz⟩ := hrel
    have HD : (k = 0 ∨ Nt.at_ xs (k - 1) ≠ 0) → ∃ v' w', (Builtin.append_ #[24, 24] 24 #[.slice (some ⟨w.heap.size, 0, none⟩) 0 0, .slice A k c]).run Try.prog (w.alloc (.cells #[] 29)) = .ok v' w' ∧ Hid (Own w.heap.size w' v' (trim xs).length (trim xs) ∧ Below w.heap.size w w') := fun hor => by
      have ht := trim_cut (k := k) (by omega) hz hor h.ws
      have hlk : (trim xs).length = k := by rw [ht, List.length_take]; omega
      have ho : Own w.heap.size (w.alloc (.cells #[] 29)) (.slice (some ⟨w.heap.size, 0, none⟩) 0 0) 0 [] := ⟨World.ownsRow_lit w #[] 0 (Nat.le_refl _) (by simp [maxLen]) rfl, Ws.nil⟩
      obtain ⟨v', w', g1, g2, g3⟩ := own_append (c := c) 24 ho ((At.step (Lib.hid h) (below_alloc (.cells #[] 29))).out.take hk) (by omega) (by simp)
      rw [List.nil_append, ← ht, Nat.zero_add, ← hlk] at g2
      exact ⟨v', w', g1, Lib.hid ⟨g2, (below_alloc _).trans g3⟩⟩
    rcases Nat.eq_zero_or_pos k with rfl | hk0
    · obtain ⟨v', w', hap, H⟩ := HD (.inl rfl)
      have hap : (Builtin.append_ #[24, 24] 24 #[.slice (some ⟨w.heap.size, 0, none⟩) 0 0, .slice A (0 : Nat) c]).run Try.prog (w.alloc (.cells #[] 29)) = .ok v' w' := hap
      clear HD hlen hz h
      go_wp2_with (at_builtin; refine wpList_append_eq rfl (.tmp 18) (.tmp 21) 24 rfl _ _ rfl rfl _ _ hap ?_)
      go_ret
      exact ⟨_, rfl, H.out.1, H.out.2⟩
    · obtain ⟨i, rfl⟩ : ∃ i, k = i + 1 := ⟨k - 1, by omega⟩
      obtain ⟨ad, rfl, hb, hcell⟩ := h.at_ (k := i) (by omega)
      by_cases hx : Nt.at_ xs i = 0
      · rw [hx] at hcell
        have HX := Lib.hid hx
        have HZ := Lib.hid hz
        clear hx hz hlen h HD
        go_wp2_with fail
        go_round
        case rel => exact ⟨i, by omega, by go_num, fun j hj => by
          rcases Nat.eq_or_lt_of_le hj with rfl | h'
          · exact HX.out
          · exact HZ.out j (by omega)⟩
        case measure => (simp [intOf] <;> omega)
      · obtain ⟨v', w', hap, H⟩ := HD (.inr (by simpa using hx))
        have hxx : (Nt.at_ xs i == 0) = false := by simpa using hx
        clear hlen hz h HD hx
        generalize Nt.at_ xs i = z at *
        go_wp2_with (at_builtin; refine wpList_append_eq rfl (.tmp 18) (.tmp 21) 24 rfl _ _ rfl rfl _ _ hap ?_)
        go_ret
        exact ⟨_, rfl, H.out.1, H.out.2⟩
end Nt
end Go.Proofs.Ytopajockmcgpmaa
namespace Go.Proofs.Ytopajockmcgpmaa
open Go Go.RowKit
namespace Nt
open Wd Sti
set_option linter.unusedVariables false
theorem newR_of {B n K : Nat} {w w' : World} {v : Value} {N : Int} {zs : List Int} (h : Own B w' v n zs) (ht : trim zs = zs) (hv : V zs = N) (hK : n ≤ K) (hb : Below w.heap.size w w') (hB : w.heap.size ≤ B) : NewR w w' v N K := by
  have hl := own_lt h
  obtain ⟨A, c, rfl, h1, h2, h3⟩ := h.slice
  exact ⟨A, n, c, zs, rfl, Lib.hid ⟨h.ws, ht, hv⟩, Lib.hid h1, h2, h3, hK, hb, Lib.hid fun ad e => by
    subst e
    rcases h.own.2 with ⟨he, _⟩ | ⟨g, cap, cur, he, hb, _⟩
    · cases he
    · cases he; exact Nat.le_trans hB hb⟩

theorem V_of_hi {xs ys : List Int} (h : hi xs 0 = hi ys 0) : V xs = V ys := by rw [hi_zero, hi_zero] at h; exact h
set_option maxRecDepth 100000 in
set_option maxHeartbeats 1000000 in
theorem compare_r (A B : Option Addr) (na ca nb cb Ba Bb : Nat) (xs ys : List Int) (w : World) (ha : Rd w Ba A na xs) (hb : Rd w Bb B nb ys) (la : na ≤ 1073741824) (lb : nb ≤ 1073741824) :
    Calls Try.prog 34 #[.slice A na ca, .slice B nb cb] w fun e w' => e = .returned (.int .i64 (cmpN (V xs) (V ys))) ∧ w' = w := by
  have HA := Lib.hid ha
  have HB := Lib.hid hb
  clear ha hb
  go_enter Try.func34, Try.ntmps34
  go_wp2_with fail
  go_loop [5] (fun i => (i = .int .i64 (-1) ∧ V xs = V ys) ∨ ∃ k : Nat, k < max na nb ∧ i = .int .i64 (k : Int) ∧ hi xs (k + 1) = hi ys (k + 1)) (fun i => (intOf i + 1).toNat)
  case atStart =>
    rcases Nat.eq_zero_or_pos (max na nb) with h0 | h0
    · left
      refine ⟨by congr 1; omega, ?_⟩
      rw [List.eq_nil_of_length_eq_zero (show xs.length = 0 by have := HA.out.len; omega), List.eq_nil_of_length_eq_zero (show ys.length = 0 by have := HB.out.len; omega)]
    · right
      exact ⟨max na nb - 1, by omega, by congr 1; omega, by rw [hi_all (by have := HA.out.len; omega), hi_all (by have := HB.out.len; omega)]⟩
  case round =>
    rcases hrel with ⟨rfl, hv⟩ | ⟨k, hk, rfl, hh⟩
    · have HV := Lib.hid (cmp_same hv)
      clear hv
      go_wp2_with fail
      go_ret
      exact ⟨by rw [HV.out]; rfl, rfl⟩
    · have HX := Lib.hid (limb_r A na ca k Ba xs w HA.out (by omega))
      have HY := Lib.hid (limb_r B nb cb k Bb ys w HB.out (by omega))
      have hwx := HA.out.ws
      have hwy := HB.out.ws
      have HE : Nt.at_ xs k = Nt.at_ ys k → Hid ((Value.int .i64 ((k : Int) - 1) = .int .i64 (-1) ∧ V xs = V ys) ∨ ∃ k' : Nat, k' < max na nb ∧ Value.int .i64 ((k : Int) - 1) = .int .i64 (k' : Int) ∧ hi xs (k' + 1) = hi ys (k' + 1)) := fun e => Lib.hid (by
        have h1 : hi xs k = hi ys k := by rw [hi_succ xs, hi_succ ys, hh, e]
        rcases Nat.eq_zero_or_pos k with rfl | h0
        · exact .inl ⟨by congr 1, V_of_hi h1⟩
        · obtain ⟨i, rfl⟩ : ∃ i, k = i + 1 := ⟨k - 1, by omega⟩
          exact .inr ⟨i, by omega, by congr 1; omega, h1⟩)
      have HN : Nt.at_ xs k ≠ Nt.at_ ys k → Hid (cmpN (Nt.at_ xs k) (Nt.at_ ys k) = cmpN (V xs) (V ys)) := fun e => Lib.hid (cmp_at hwx hwy hh e)
      clear hwx hwy hh
      generalize Nt.at_ xs k = x at *
      generalize Nt.at_ ys k = y at *
      rcases Int.lt_trichotomy x y with h | h | h
      · have H := HN (by omega)
        rw [cmp_lt' h] at H
        clear HN HE
        go_wp2_with fail
        go_at_call 60
        refine HX.out.mono ?_
        rintro e w' ⟨rfl, rfl⟩
        go_wp2_with fail
        go_at_call 60
        refine HY.out.mono ?_
        rintro e w' ⟨rfl, rfl⟩
        go_wp2_with fail
        go_ret
        exact ⟨by rw [← H.out]; rfl, rfl⟩
      · have H := HE h
        subst h
        clear HN HE
        go_wp2_with fail
        go_at_call 60
        refine HX.out.mono ?_
        rintro e w' ⟨rfl, rfl⟩
        go_wp2_with fail
        go_at_call 60
        refine HY.out.mono ?_
        rintro e w' ⟨rfl, rfl⟩
        go_wp2_with fail
        go_round
        case rel => exact H.out
        case measure => (simp [intOf] <;> omega)
      · have H := HN (by omega)
        rw [cmp_gt' h] at H
        clear HN HE
        go_wp2_with fail
        go_at_call 60
        refine HX.out.mono ?_
        rintro e w' ⟨rfl, rfl⟩
        go_wp2_with fail
        go_at_call 60
        refine HY.out.mono ?_
        rintro e w' ⟨rfl, rfl⟩
        go_wp2_with fail
        go_ret
        exact ⟨by rw [← H.out]; rfl, rfl⟩

theorem bits_r (A : Option Addr) (n c : Nat) (xs : List Int) (w : World) (h : At w A n xs) (hc : n ≤ c) (hn : c ≤ 9223372036854775807) (hl : n ≤ 1048576) :
    Calls Try.prog 53 #[.slice A n c] w fun e w' => e = .returned (.int .i64 (nbits (trim xs))) ∧ Below w.heap.size w w' := by
  have HT := Lib.hid (trim_r A n c xs w h hc hn hl)
  have hl' : (trim xs).length ≤ n := by have := trim_le xs; have := h.len; omega
  clear h
  generalize trim xs = zs at *
  obtain ⟨m, hm⟩ : ∃ m, zs.length = m := ⟨_, rfl⟩
  rw [hm] at HT hl'
  unfold nbits
  rw [hm]
  rcases Nat.eq_zero_or_pos m with rfl | h0
  · clear hm
    go_enter Try.func53, Try.ntmps53
    go_wp2_with fail
    go_at_call 31
    refine HT.out.mono ?_
    rintro e w1 ⟨v, rfl, hO, hB⟩
    obtain ⟨A1, c1, rfl, h1, h2, h3⟩ := hO.slice
    have HB := Lib.hid hB
    clear hO HT h1 hB
    go_wp2_with fail
    go_ret
    exact ⟨rfl, HB.out⟩
  · obtain ⟨i, rfl⟩ : ∃ i, m = i + 1 := ⟨m - 1, by omega⟩
    rw [if_neg (by omega), Nat.add_sub_cancel]
    go_enter Try.func53, Try.ntmps53
    go_wp2_with fail
    go_at_call 31
    refine HT.out.mono ?_
    rintro e w1 ⟨v, rfl, hO, hB⟩
    obtain ⟨A1, c1, rfl, h1, h2, h3⟩ := hO.slice
    have HB := Lib.hid hB
    clear hO HT hB
    obtain ⟨ad, rfl, _, hcell⟩ := Rd.at_ h1 (k := i) (by omega)
    have HM := Lib.hid hm
    have hw := h1.ws.at_ i
    have hbl := (bl_spec (Nt.at_ zs i).toNat (by unfold Wd.W at hw; omega)).2.2
    have HC := fun w => Lib.hid (rbits_c (Nt.at_ zs i) w hw)
    clear h1 hm
    have he : ((i : Int) + 1 == 0) = false := by simp; omega
    have HBL : ∃ b, b = Lib.bitLen (Nt.at_ zs i).toNat := ⟨_, rfl⟩
    obtain ⟨b, hb⟩ := HBL
    rw [← hb] at hbl HC
    have HBE := Lib.hid hb
    clear hb
    obtain ⟨z, hz⟩ : ∃ z, z = Nt.at_ zs i := ⟨_, rfl⟩
    rw [← hz] at hcell HC hw
    clear hz
    go_wp2_with (go_at_call 77; refine (HC _).out.mono ?_; rintro e w' ⟨rfl, rfl⟩)
    go_ret
    refine ⟨?_, HB.out⟩
    rw [← HBE.out]
    refine ret_i ?_
    simp only [Int.natCast_add, Int.natCast_mul]
    omega

theorem bit_r (A : Option Addr) (n c B : Nat) (i : Int) (xs : List Int) (w : World) (h : Rd w B A n xs) (hi : (Lit.int .i64 i).wf = true) :
    Calls Try.prog 54 #[.slice A n c, .int .i64 i] w fun e w' => e = .returned (.bool (bitAt (V xs) i)) ∧ w' = w := by
  have hk' : -9223372036854775808 ≤ i ∧ i ≤ 9223372036854775807 := by
    simp [Lit.wf, IntKind.min, IntKind.max, IntKind.signed, IntKind.bits] at hi; omega
  obtain ⟨hk1, hk2⟩ := hk'
  clear hi
  by_cases h0 : i < 0
  · have e : bitAt (V xs) i = false := by unfold bitAt; rw [decide_eq_false (by omega)]; rfl
    rw [e]
    clear h e
    go_enter Try.func54, Try.ntmps54
    go_wp2_with fail
    go_ret
    exact ⟨rfl, rfl⟩
  · obtain ⟨j, rfl⟩ : ∃ j : Nat, i = j := ⟨i.toNat, by omega⟩
    have HL := Lib.hid (limb_r A n c (j / 64) B xs w h (by omega))
    have HB := Lib.hid (bit_at h.ws j)
    have hw := h.ws.at_ (j / 64)
    unfold bitAt
    rw [decide_eq_true (by omega), Bool.true_and, Int.toNat_natCast, ← HB.out]
    clear h HB
    generalize Nt.at_ xs (j / 64) = z at *
    unfold Wd.W at hw
    obtain ⟨hw1, hw2⟩ := hw
    go_enter Try.func54, Try.ntmps54
    go_wp2_with (go_at_call 60; refine HL.out.mono ?_; rintro e w' ⟨rfl, rfl⟩)
    go_ret
    refine ⟨ret_b ?_, rfl⟩
    have h1 := pow_pos2 (j % 64)
    have hq : 0 ≤ z / 2 ^ (j % 64) ∧ z / 2 ^ (j % 64) ≤ 18446744073709551615 := ⟨Int.ediv_nonneg hw1 (by omega), Int.le_trans (Int.ediv_le_self _ hw1) hw2⟩
    show (bits BinOp.and IntKind.u64 (z / 2 ^ (j % 64)) 1 == 1) = _
    rw [Wd.and_one _ hq.1 hq.2, Bool.eq_iff_iff]
    simp

theorem Rd.setCell_far {w : World} {B n : Nat} {A : Option Addr} {xs : List Int} (h : Rd w B A n xs) (p : Addr) (u : Value) (hf : ∀ ad, A = some ad → ad.block ≠ p.block) : Rd (w.setCell p u) B A n xs :=
  ⟨h.len, h.ws, fun hn => by
    obtain ⟨ad, e, hb, hc⟩ := h.rd hn
    refine ⟨ad, e, hb, fun j hj => (World.cell?_setCell_other _ _ _ _ (fun e' => ?_)).trans (hc j hj)⟩
    have h1 := congrArg Addr.block e'
    rw [block_add] at h1
    have h2 := hf ad e
    first | exact h2 h1 | exact h2 h1.symm⟩
end Nt
end Go.Proofs.Ytopajockmcgpmaa
namespace Go.Proofs.Ytopajockmcgpmaa
open Go Go.RowKit
namespace Nt
open Wd Sti
set_option linter.unusedVariables false
theorem radd_step {os xs ys : List Int} {k : Nat} {c : Bool} (hk : os.length = k) (hx : Ws xs) (hy : Ws ys) (h : V os + P k * b1 c = lo xs k + lo ys k) :
    V (os ++ [Wd.add (Nt.at_ xs k) (Nt.at_ ys k) c]) + P (k + 1) * b1 (addO (Nt.at_ xs k) (Nt.at_ ys k) c) = lo xs (k + 1) + lo ys (k + 1) := by
  have e := add_eq (hx.at_ k) (hy.at_ k) c
  rw [V_append, lo_succ, lo_succ, P_succ, hk]
  generalize Wd.add (Nt.at_ xs k) (Nt.at_ ys k) c = s at *
  generalize addO (Nt.at_ xs k) (Nt.at_ ys k) c = d at *
  have e2 : P k * V [s] + 18446744073709551616 * P k * b1 d = P k * (s + 18446744073709551616 * b1 d) := by
    simp only [V, Int.mul_zero, Int.add_zero]
    rw [Int.mul_add (P k) s (18446744073709551616 * b1 d), Int.mul_comm 18446744073709551616 (P k), Int.mul_assoc]
  rw [Int.add_assoc, e2, e, Int.mul_add, Int.mul_add]
  omega
theorem rsub_step {os xs ys : List Int} {k : Nat} {c : Bool} (hk : os.length = k) (hx : Ws xs) (hy : Ws ys) (h : V os - P k * b1 c = lo xs k - lo ys k) :
    V (os ++ [Wd.sub (Nt.at_ xs k) (Nt.at_ ys k) c]) - P (k + 1) * b1 (subO (Nt.at_ xs k) (Nt.at_ ys k) c) = lo xs (k + 1) - lo ys (k + 1) := by
  have e := sub_eq (hx.at_ k) (hy.at_ k) c
  rw [V_append, lo_succ, lo_succ, P_succ, hk]
  generalize Wd.sub (Nt.at_ xs k) (Nt.at_ ys k) c = s at *
  generalize subO (Nt.at_ xs k) (Nt.at_ ys k) c = d at *
  have e2 : P k * V [s] - 18446744073709551616 * P k * b1 d = P k * (s - 18446744073709551616 * b1 d) := by
    simp only [V, Int.mul_zero, Int.add_zero]
    rw [Int.mul_sub (P k) s (18446744073709551616 * b1 d), Int.mul_comm 18446744073709551616 (P k), Int.mul_assoc]
  rw [Int.add_sub_assoc, e2, e, Int.mul_sub, Int.mul_sub]
  omega
/-- one limb more, off a row that is built for it -/
theorem own_one {w : World} {B k : Nat} {v : Value} {os : List Int} {s : Int} (ty : TypeId) (ho : Own B w v k os) (hs : Wd.W s) (hk : k + 1 ≤ 1048576) (hB : B ≤ w.heap.size) :
    ∃ v' w', (Builtin.append_ #[24, 24] ty #[v, .slice (some ⟨w.heap.size, 0, none⟩) 1 1]).run Try.prog (w.alloc (.cells #[.int .u64 s] 29)) = .ok v' w' ∧ Hid (Own B w' v' (k + 1) (os ++ [s]) ∧ Below B w w') := by
  have hw : Ws [s] := fun x hx => by simp at hx; subst hx; exact hs
  have h1 : Bk (w.alloc (.cells (us [s]) 29)) w.heap.size 29 (us [s]) := Bk.new _ _ _
  have ho' : Own B (w.alloc (.cells (us [s]) 29)) v k os := ⟨ho.own.alloc _, ho.ws⟩
  obtain ⟨v', w', g1, g2, g3⟩ := own_append (c := 1) ty ho' (h1.rd0 h1.lt hw rfl) hk (by simp; omega)
  exact ⟨v', w', g1, Lib.hid ⟨g2, ((Below.refl _ w).alloc hB _).trans g3⟩⟩

set_option maxRecDepth 100000 in
set_option maxHeartbeats 2000000 in
theorem add_r (A B : Option Addr) (na ca nb cb : Nat) (xs ys : List Int) (w : World) (ha : At w A na xs) (hb : At w B nb ys) (la : na ≤ 524288) (lb : nb ≤ 524288) :
    Calls Try.prog 33 #[.slice A na ca, .slice B nb cb] w fun e w' => ∃ v, e = .returned v ∧ NewR w w' v (V xs + V ys) (max na nb + 1) := by
  have HA := Lib.hid ha
  have HB := Lib.hid hb
  clear ha hb
  go_enter Try.func33, Try.ntmps33
  go_wp2_with fail
  go_loopw [5, 6, 7] (fun v b i wr => ∃ (k : Nat) (c : Bool) (os : List Int), k ≤ max na nb + 1 ∧ b = .bool c ∧ i = .int .i64 (k : Int) ∧ Hid (Own w.heap.size wr v k os ∧ V os + P k * b1 c = lo xs k + lo ys k ∧ Below w.heap.size w wr)) (fun _ _ i _ => (max na nb + 1) - (intOf i).toNat)
  case atStart => exact ⟨0, false, [], by omega, rfl, rfl, Lib.hid ⟨Own.nil _ _, by rw [lo_zero, lo_zero, b1_f]; rfl, Below.refl _ _⟩⟩
  case round =>
    obtain ⟨k, c, os, hk, rfl, rfl, H⟩ := hrel
    by_cases hlt : k ≤ max na nb
    · have HX := Lib.hid (limb_r A na ca k w.heap.size xs wr (HA.out.below H.out.2.2) (by omega))
      have HY := Lib.hid (limb_r B nb cb k w.heap.size ys wr (HB.out.below H.out.2.2) (by omega))
      have hwx := HA.out.ws.at_ k
      have hwy := HB.out.ws.at_ k
      have HC := fun w' => Lib.hid (radd_c (Nt.at_ xs k) (Nt.at_ ys k) c w' hwx hwy)
      have hst := radd_step H.out.1.len HA.out.ws HB.out.ws H.out.2.1
      obtain ⟨v', w', hap, H'⟩ := own_one (s := Wd.add (Nt.at_ xs k) (Nt.at_ ys k) c) 24 H.out.1 (W_add _ _ _) (by omega) H.out.2.2.size
      have HS := Lib.hid hst
      have HN : Hid (Own w.heap.size w' v' (k + 1) (os ++ [Wd.add (Nt.at_ xs k) (Nt.at_ ys k) c]) ∧ V (os ++ [Wd.add (Nt.at_ xs k) (Nt.at_ ys k) c]) + P (k + 1) * b1 (addO (Nt.at_ xs k) (Nt.at_ ys k) c) = lo xs (k + 1) + lo ys (k + 1) ∧ Below w.heap.size w w') :=
        Lib.hid ⟨H'.out.1, HS.out, H.out.2.2.trans H'.out.2⟩
      clear H H' HS hst hwx hwy
      have hki : (k : Int) ≤ max (na : Int) (nb : Int) := by omega
      go_wp2_with fail
      go_at_call 60
      refine HX.out.mono ?_
      rintro e w' ⟨rfl, rfl⟩
      go_wp2_with fail
      go_at_call 60
      refine HY.out.mono ?_
      rintro e w' ⟨rfl, rfl⟩
      go_wp2_with fail
      go_at_call 59
      refine (HC _).out.mono ?_
      rintro e w' ⟨rfl, rfl⟩
      go_wp2_with (at_builtin; refine wpList_append_eq rfl (.tmp 29) (.tmp 31) 24 rfl _ _ rfl rfl _ _ hap ?_)
      go_roundw
      case rel => exact ⟨k + 1, _, _, by omega, rfl, by go_num, HN⟩
      case measure => (simp [intOf] <;> omega)
    · have hk' : k = max na nb + 1 := by omega
      obtain ⟨A1, c1, rfl, h1, h2, h3⟩ := H.out.1.slice
      have HT := Lib.hid (trim_r A1 k c1 os wr h1 h2 h3 (by omega))
      have hv : V os = V xs + V ys := by
        have e := H.out.2.1
        rw [lo_all (xs := xs) (by have := HA.out.len; omega), lo_all (xs := ys) (by have := HB.out.len; omega)] at e
        have x1 := V_lt HA.out.ws
        have x2 := V_lt HB.out.ws
        have x3 := V_nonneg H.out.1.ws
        have x4 := P_mono (show xs.length ≤ max na nb by have := HA.out.len; omega)
        have x5 := P_mono (show ys.length ≤ max na nb by have := HB.out.len; omega)
        have x6 := P_pos (max na nb)
        have x7 : P k = 18446744073709551616 * P (max na nb) := by rw [hk', P_succ]
        cases c with
        | false => rw [b1_f, Int.mul_zero] at e; omega
        | true => rw [b1_t, Int.mul_one] at e; omega
      have HV := Lib.hid hv
      have hl : (trim os).length ≤ max na nb + 1 := by have := trim_le os; have := H.out.1.len; omega
      have HL := Lib.hid hl
      have HB2 := Lib.hid H.out.2.2
      have hki : max (na : Int) (nb : Int) < (k : Int) := by omega
      clear H h1 hv hl hk'
      go_wp2_with fail
      go_at_call 31
      refine HT.out.mono ?_
      rintro e w' ⟨v, rfl, hO, hB⟩
      have HO := Lib.hid hO
      have HB3 := Lib.hid hB
      clear hO hB
      go_wp2_with fail
      go_ret
      refine ⟨_, rfl, newR_of HO.out (trim_trim _) (by rw [V_trim]; exact HV.out) HL.out (HB2.out.trans (HB3.out.mono HB2.out.size)) HB2.out.size⟩

set_option maxRecDepth 100000 in
set_option maxHeartbeats 2000000 in
theorem subE_r (A B : Option Addr) (na ca nb cb : Nat) (xs ys : List Int) (w : World) (ha : At w A na xs) (hb : At w B nb ys) (la : na ≤ 524288) (lb : nb ≤ 524288) (hv : V xs < V ys) :
    Calls Try.prog 52 #[.slice A na ca, .slice B nb cb] w fun e w' => e = .returned (.tuple #[.slice none 0 0, .int .i64 2]) ∧ w' = w := by
  have HC := Lib.hid (compare_r A B na ca nb cb _ _ xs ys w ha hb (by omega) (by omega))
  rw [cmp_lt' hv] at HC
  clear ha hb hv
  go_enter Try.func52, Try.ntmps52
  go_wp2_with fail
  go_at_call 34
  refine HC.out.mono ?_
  rintro e w' ⟨rfl, rfl⟩
  go_wp2_with fail
  go_ret2
  exact ⟨rfl, rfl⟩
set_option maxRecDepth 100000 in
set_option maxHeartbeats 2000000 in
theorem sub_r (A B : Option Addr) (na ca nb cb : Nat) (xs ys : List Int) (w : World) (ha : At w A na xs) (hb : At w B nb ys) (la : na ≤ 524288) (lb : nb ≤ 524288) (hv : V ys ≤ V xs) :
    Calls Try.prog 52 #[.slice A na ca, .slice B nb cb] w fun e w' => ∃ v, e = .returned (.tuple #[v, .int .i64 0]) ∧ NewR w w' v (V xs - V ys) (max na nb) := by
  have HC := Lib.hid (compare_r A B na ca nb cb _ _ xs ys w ha hb (by omega) (by omega))
  have hcn : ∃ z : Int, cmpN (V xs) (V ys) = z ∧ 0 ≤ z := ⟨_, rfl, by unfold cmpN; rw [if_neg (by omega)]; split <;> omega⟩
  obtain ⟨z, hz, hz0⟩ := hcn
  rw [hz] at HC
  have HA := Lib.hid ha
  have HB := Lib.hid hb
  have HVV := Lib.hid hv
  clear ha hb hz hv
  go_enter Try.func52, Try.ntmps52
  go_wp2_with fail
  go_at_call 34
  refine HC.out.mono ?_
  rintro e w' ⟨rfl, rfl⟩
  clear HC
  obtain ⟨w, rfl⟩ : ∃ w, w = w' := ⟨_, rfl⟩
  go_wp2_with fail
  go_loopw [6, 7, 8] (fun v b i wr => ∃ (k : Nat) (c : Bool) (os : List Int), k ≤ max na nb ∧ b = .bool c ∧ i = .int .i64 (k : Int) ∧ Hid (Own w.heap.size wr v k os ∧ V os - P k * b1 c = lo xs k - lo ys k ∧ Below w.heap.size w wr)) (fun _ _ i _ => (max na nb) - (intOf i).toNat)
  case atStart => exact ⟨0, false, [], by omega, rfl, rfl, Lib.hid ⟨Own.nil _ _, by rw [lo_zero, lo_zero, b1_f]; rfl, Below.refl _ _⟩⟩
  case round =>
    obtain ⟨k, c, os, hk, rfl, rfl, H⟩ := hrel
    by_cases hlt : k < max na nb
    · have HX := Lib.hid (limb_r A na ca k w.heap.size xs wr (HA.out.below H.out.2.2) (by omega))
      have HY := Lib.hid (limb_r B nb cb k w.heap.size ys wr (HB.out.below H.out.2.2) (by omega))
      have hwx := HA.out.ws.at_ k
      have hwy := HB.out.ws.at_ k
      have HC := fun w' => Lib.hid (rsub_c (Nt.at_ xs k) (Nt.at_ ys k) c w' hwx hwy)
      have hst := rsub_step H.out.1.len HA.out.ws HB.out.ws H.out.2.1
      obtain ⟨v', w', hap, H'⟩ := own_one (s := Wd.sub (Nt.at_ xs k) (Nt.at_ ys k) c) 24 H.out.1 (W_sub _ _ _) (by omega) H.out.2.2.size
      have HS := Lib.hid hst
      have HN : Hid (Own w.heap.size w' v' (k + 1) (os ++ [Wd.sub (Nt.at_ xs k) (Nt.at_ ys k) c]) ∧ V (os ++ [Wd.sub (Nt.at_ xs k) (Nt.at_ ys k) c]) - P (k + 1) * b1 (subO (Nt.at_ xs k) (Nt.at_ ys k) c) = lo xs (k + 1) - lo ys (k + 1) ∧ Below w.heap.size w w') :=
        Lib.hid ⟨H'.out.1, HS.out, H.out.2.2.trans H'.out.2⟩
      clear H H' HS hst hwx hwy
      have hki : (k : Int) < max (na : Int) (nb : Int) := by omega
      go_wp2_with fail
      go_at_call 60
      refine HX.out.mono ?_
      rintro e w' ⟨rfl, rfl⟩
      go_wp2_with fail
      go_at_call 60
      refine HY.out.mono ?_
      rintro e w' ⟨rfl, rfl⟩
      go_wp2_with fail
      go_at_call 76
      refine (HC _).out.mono ?_
      rintro e w' ⟨rfl, rfl⟩
      go_wp2_with (at_builtin; refine wpList_append_eq rfl (.tmp 34) (.tmp 36) 24 rfl _ _ rfl rfl _ _ hap ?_)
      go_roundw
      case rel => exact ⟨k + 1, _, _, by omega, rfl, by go_num, HN⟩
      case measure => (simp [intOf] <;> omega)
    · have hk' : k = max na nb := by omega
      obtain ⟨A1, c1, rfl, h1, h2, h3⟩ := H.out.1.slice
      have HT := Lib.hid (trim_r A1 k c1 os wr h1 h2 h3 (by omega))
      have hv : V os = V xs - V ys := by
        have e := H.out.2.1
        rw [lo_all (xs := xs) (by have := HA.out.len; omega), lo_all (xs := ys) (by have := HB.out.len; omega)] at e
        have x1 := V_lt H.out.1.ws
        rw [H.out.1.len] at x1
        have x2 := HVV.out
        cases c with
        | false => rw [b1_f, Int.mul_zero] at e; omega
        | true => rw [b1_t, Int.mul_one] at e; omega
      have HV := Lib.hid hv
      have hl : (trim os).length ≤ max na nb := by have := trim_le os; have := H.out.1.len; omega
      have HL := Lib.hid hl
      have HB2 := Lib.hid H.out.2.2
      have hki : max (na : Int) (nb : Int) ≤ (k : Int) := by omega
      clear H h1 hv hl hk'
      go_wp2_with fail
      go_at_call 31
      refine HT.out.mono ?_
      rintro e w' ⟨v, rfl, hO, hB⟩
      have HO := Lib.hid hO
      have HB3 := Lib.hid hB
      clear hO hB
      go_wp2_with fail
      go_ret2
      refine ⟨_, rfl, newR_of HO.out (trim_trim _) (by rw [V_trim]; exact HV.out) HL.out (HB2.out.trans (HB3.out.mono HB2.out.size)) HB2.out.size⟩
end Nt
end Go.Proofs.Ytopajockmcgpmaa
namespace Go.Proofs.Ytopajockmcgpmaa
open Go Go.RowKit
namespace Nt
open Wd Sti
set_option linter.unusedVariables false
theorem add_cm (a b : Int) (c : Bool) : Wd.add a b c = Wd.add b a c := by unfold Wd.add; rw [Int.add_comm a b]
theorem addO_cm (a b : Int) (c : Bool) : addO a b c = addO b a c := by unfold addO; rw [Int.add_comm a b]

set_option maxRecDepth 100000 in
set_option maxHeartbeats 4000000 in
theorem mul_r (A B : Option Addr) (na ca nb cb : Nat) (xs ys : List Int) (w : World) (ha : At w A na xs) (hb : At w B nb ys) (la : na ≤ ca ∧ na ≤ 262144) (la' : ca ≤ 9223372036854775807) (lb : nb ≤ cb ∧ nb ≤ 262144) (lb' : cb ≤ 9223372036854775807) :
    Calls Try.prog 37 #[.slice A na ca, .slice B nb cb] w fun e w' => ∃ v, e = .returned v ∧ NewR w w' v (V xs * V ys) (na + nb) := by
  obtain ⟨la, lan⟩ := la
  obtain ⟨lb, lbn⟩ := lb
  have HT1 := Lib.hid (trim_r A na ca xs w ha la (by omega) (by omega))
  have HB0 := Lib.hid hb
  have hla : (trim xs).length ≤ na := by have := trim_le xs; have := ha.len; omega
  have hlb : (trim ys).length ≤ nb := by have := trim_le ys; have := hb.len; omega
  rw [← V_trim xs, ← V_trim ys]
  clear ha hb
  go_enter Try.func37, Try.ntmps37
  try simp only [List.append]
  go_wp2_with fail
  go_at_call 31
  refine HT1.out.mono ?_
  rintro e w1 ⟨v, rfl, hO, hB⟩
  obtain ⟨A1, c1, rfl, hza, h2, h3⟩ := hO.slice
  have HT2 := Lib.hid (trim_r B nb cb ys w1 ((HB0.out.below hB).more hB.size) lb (by omega) (by omega))
  have HBa := Lib.hid hB
  have HZA := Lib.hid hza
  clear hO hB HT1 hza
  go_wp2_with fail
  go_at_call 31
  refine HT2.out.mono ?_
  rintro e w2 ⟨v, rfl, hO, hB⟩
  obtain ⟨B1, d1, rfl, hzb, g2, g3⟩ := hO.slice
  have HZB := Lib.hid hzb
  replace HZA := At.step HZA hB
  have HBb := Lib.hid (HBa.out.trans (hB.mono HBa.out.size))
  clear hO hB HT2 hzb HBa HB0
  obtain ⟨za, hzaE⟩ : ∃ za, trim xs = za := ⟨_, rfl⟩
  obtain ⟨zb, hzbE⟩ : ∃ zb, trim ys = zb := ⟨_, rfl⟩
  simp only [hzaE] at HZA hla h2 h3 ⊢
  simp only [hzbE] at HZB hlb g2 g3 ⊢
  have HZAE := Lib.hid hzaE
  have HZBE := Lib.hid hzbE
  clear hzaE hzbE
  obtain ⟨p, hp⟩ : ∃ p, za.length = p := ⟨_, rfl⟩
  obtain ⟨q, hq⟩ : ∃ q, zb.length = q := ⟨_, rfl⟩
  simp only [hp] at HZA hla h2 h3 ⊢
  simp only [hq] at HZB hlb g2 g3 ⊢
  have HP := Lib.hid hp
  have HQ := Lib.hid hq
  clear hp hq
  have hmk := fun W => make_nat (p + q) (by omega) W
  simp only [Int.natCast_add] at hmk
  go_wp2_with fail
  go_loopw [6] (fun v W => ∃ (i : Nat) (os : List Int), i ≤ p ∧ v = .int .i64 (i : Int) ∧ Hid (Bk W w2.heap.size 29 (us os) ∧ os.length = p + q ∧ Ws os ∧ V os = lo za i * V zb ∧ (∀ j, i + q ≤ j → Nt.at_ os j = 0) ∧ Below w2.heap.size w2 W)) (fun v _ => p - (intOf v).toNat)
  case atStart =>
    refine ⟨0, List.replicate (p + q) 0, Nat.zero_le _, rfl, Lib.hid ⟨Bk.new _ _ _, by simp, Ws.zeros _, ?_, fun j _ => ?_, (Below.refl _ w2).alloc (Nat.le_refl _) _⟩⟩
    · rw [V_zeros, lo_zero, Int.zero_mul]
    · unfold Nt.at_
      rw [List.getElem?_replicate]
      split <;> rfl
  case round =>
    obtain ⟨i, os, hi, rfl, H⟩ := hrel
    by_cases hlt : i < p
    · have HX : ∃ x, x = Nt.at_ za i ∧ Wd.W x := ⟨_, rfl, HZA.out.ws.at_ i⟩
      obtain ⟨x, hx, hxw⟩ := HX
      have HXE := Lib.hid hx
      have HXW := Lib.hid hxw
      clear hx hxw
      obtain ⟨ad, rfl, -, -⟩ := HZA.out.at_ hlt
      have hki0 : (i : Int) < (p : Int) := by omega
      go_wp2_with fail
      go_loopw [7, 8] (fun m v W => ∃ (k : Nat) (c : Int) (os' : List Int), k ≤ q ∧ m = .int .u64 c ∧ v = .int .i64 (k : Int) ∧ Hid (Bk W w2.heap.size 29 (us os') ∧ os'.length = p + q ∧ Ws os' ∧ Wd.W c ∧ V os' + P (i + k) * c = V os + P i * (x * lo zb k) ∧ (∀ j, i + k ≤ j → Nt.at_ os' j = Nt.at_ os j) ∧ Below w2.heap.size w2 W)) (fun _ v _ => q - (intOf v).toNat)
      case atStart => exact ⟨0, 0, os, Nat.zero_le _, rfl, rfl, Lib.hid ⟨H.out.1, H.out.2.1, H.out.2.2.1, W_zero, by rw [lo_zero, Int.mul_zero, Int.mul_zero, Int.mul_zero], fun j _ => rfl, H.out.2.2.2.2.2⟩⟩
      case round =>
        obtain ⟨k, c, os', hk, rfl, rfl, H'⟩ := hrel
        by_cases hlt2 : k < q
        · obtain ⟨ad2, rfl, -, -⟩ := HZB.out.at_ hlt2
          obtain ⟨G1, G2, G3, G4, G5, G6, G7⟩ := H'.out
          have hka : i + k < os'.length := by omega
          have e7 := G6 _ (Nat.le_refl (i + k))
          have hst := mul_step hka e7 G5
          have hcx : wr.cell? (ad.add i) = some (.int .u64 x) := by
            obtain ⟨ad', e, _, hc⟩ := (HZA.out.below G7).at_ hlt
            cases e; rw [HXE.out]; exact hc
          have hcy : wr.cell? (ad2.add k) = some (.int .u64 (Nt.at_ zb k)) := by
            obtain ⟨ad', e, _, hc⟩ := (HZB.out.below G7).at_ hlt2
            cases e; exact hc
          have hcu : wr.cell? ⟨w2.heap.size, i + k, none⟩ = some (.int .u64 (Nt.at_ os (i + k))) := by rw [← e7]; exact (G1.cell _).trans (us_get hka)
          have hfu : wr.frozen? ⟨w2.heap.size, i + k, none⟩ = false := G1.frozen _
          have hyw := HZB.out.ws.at_ k
          have huw := H.out.2.2.1.at_ (i + k)
          have hxw := HXW.out
          have HG4 := Lib.hid G4
          obtain ⟨M1, M2⟩ := ma_parts hxw hyw huw G4
          have htw := maL_W x (Nt.at_ zb k) (Nt.at_ os (i + k)) c
          have hmw := maH_W hxw hyw huw G4
          have HN : ∀ n, Hid (Bk ((wr.drewN n).setCell ⟨w2.heap.size, i + k, none⟩ (.int .u64 (maL x (Nt.at_ zb k) (Nt.at_ os (i + k)) c))) w2.heap.size 29 (us (os'.set (i + k) (maL x (Nt.at_ zb k) (Nt.at_ os (i + k)) c))) ∧ (os'.set (i + k) (maL x (Nt.at_ zb k) (Nt.at_ os (i + k)) c)).length = p + q ∧ Ws (os'.set (i + k) (maL x (Nt.at_ zb k) (Nt.at_ os (i + k)) c)) ∧ Wd.W (maH x (Nt.at_ zb k) (Nt.at_ os (i + k)) c) ∧ V (os'.set (i + k) (maL x (Nt.at_ zb k) (Nt.at_ os (i + k)) c)) + P (i + (k + 1)) * maH x (Nt.at_ zb k) (Nt.at_ os (i + k)) c = V os + P i * (x * lo zb (k + 1)) ∧ (∀ j, i + (k + 1) ≤ j → Nt.at_ (os'.set (i + k) (maL x (Nt.at_ zb k) (Nt.at_ os (i + k)) c)) j = Nt.at_ os j) ∧ Below w2.heap.size w2 ((wr.drewN n).setCell ⟨w2.heap.size, i + k, none⟩ (.int .u64 (maL x (Nt.at_ zb k) (Nt.at_ os (i + k)) c)))) := fun n => by
            refine Lib.hid ⟨?_, by simpa using G2, G3.set _ htw, hmw, hst, fun j hj => ?_, (below_drewN G7 n).setCell (Nat.le_refl _) _⟩
            · have := (G1.drewN n).set_ (i + k) (.int .u64 (maL x (Nt.at_ zb k) (Nt.at_ os (i + k)) c))
              rwa [us_set] at this
            · rw [at_set _ _ _ _ hka, if_neg (by omega)]; exact G6 j (by omega)
          clear H' G1 G2 G3 G5 G6 G7 hst e7 hmw htw
          generalize Nt.at_ zb k = y at *
          generalize Nt.at_ os (i + k) = u at *
          have C1 := fun w => Lib.hid (rmul_c x y w hxw hyw)
          have C2 := fun w => radd_c u (mulL x y) false w huw (W_mulL _ _)
          rw [add_cm u, addO_cm u] at C2
          replace C2 := fun w => Lib.hid (C2 w)
          have C3 := fun w => Lib.hid (radd_c (Wd.add (mulL x y) u false) c false w (W_add _ _ _) G4)
          have C4 := fun w => Lib.hid (radd_c (mulH x y) 0 (addO (mulL x y) u false) w (W_mulH hxw hyw) W_zero)
          have C5 := fun w => Lib.hid (radd_c (Wd.add (mulH x y) 0 (addO (mulL x y) u false)) 0 (addO (Wd.add (mulL x y) u false) c false) w (W_add _ _ _) W_zero)
          rw [M1] at C3
          rw [M2] at C5
          have hki2 : (k : Int) < (q : Int) := by omega
          clear M1 M2 G4 huw hyw hxw
          go_wp2_with fail
          go_quiet (exact Calls.quiet_of_same ((C1 _).out.mono fun e w' h => ⟨h.1, h.2.symm⟩))
          go_wp2_with fail
          go_at_call 59
          refine (C2 _).out.mono ?_
          rintro e w' ⟨rfl, rfl⟩
          go_wp2_with fail
          go_at_call 59
          refine (C3 _).out.mono ?_
          rintro e w' ⟨rfl, rfl⟩
          go_wp2_with fail
          go_at_call 59
          refine (C4 _).out.mono ?_
          rintro e w' ⟨rfl, rfl⟩
          go_wp2_with fail
          go_at_call 59
          refine (C5 _).out.mono ?_
          rintro e w' ⟨rfl, rfl⟩
          go_wp2_with fail
          go_roundw
          case rel => exact ⟨k + 1, _, _, by omega, rfl, by go_num, HN _⟩
          case measure => (simp [intOf] <;> omega)
        · obtain rfl : k = q := by omega
          obtain ⟨G1, G2, G3, G4, G5, G6, G7⟩ := H'.out
          obtain ⟨E1, E2, E3, E4, E5, E6⟩ := H.out
          have hko : i + k < os'.length := by omega
          have hcu : wr.cell? ⟨w2.heap.size, i + k, none⟩ = some (.int .u64 (Nt.at_ os' (i + k))) := (G1.cell _).trans (us_get hko)
          have hfu : wr.frozen? ⟨w2.heap.size, i + k, none⟩ = false := G1.frozen _
          have hv : V (os'.set (i + k) c) = lo za (i + 1) * V zb := by
            rw [V_set _ _ _ hko, G6 _ (Nat.le_refl _), E5 _ (Nat.le_refl _), Int.sub_zero, G5, lo_all (xs := zb) (by have := HQ.out; omega), E4, lo_succ, HXE.out, Int.add_mul, Int.mul_assoc]
          have HN : Hid (Bk (wr.setCell ⟨w2.heap.size, i + k, none⟩ (.int .u64 c)) w2.heap.size 29 (us (os'.set (i + k) c)) ∧ (os'.set (i + k) c).length = p + k ∧ Ws (os'.set (i + k) c) ∧ V (os'.set (i + k) c) = lo za (i + 1) * V zb ∧ (∀ j, i + 1 + k ≤ j → Nt.at_ (os'.set (i + k) c) j = 0) ∧ Below w2.heap.size w2 (wr.setCell ⟨w2.heap.size, i + k, none⟩ (.int .u64 c))) := by
            refine Lib.hid ⟨?_, by simpa using G2, G3.set _ G4, hv, fun j hj => ?_, G7.setCell (Nat.le_refl _) _⟩
            · have := G1.set_ (i + k) (.int .u64 c)
              rwa [us_set] at this
            · rw [at_set _ _ _ _ hko, if_neg (by omega), G6 j (by omega)]; exact E5 j (by omega)
          clear H' G1 G2 G3 G4 G5 G6 G7 E1 E2 E3 E4 E5 E6 H hv hko
          go_wp2_with fail
          go_roundw
          case rel => exact ⟨i + 1, _, by omega, by go_num, HN⟩
          case measure => (simp [intOf] <;> omega)
    · obtain rfl : i = p := by omega
      obtain ⟨E1, E2, E3, E4, E5, E6⟩ := H.out
      have hv : V os = V za * V zb := by rw [E4, lo_all (by have := HP.out; omega)]
      have HT := Lib.hid (trim_r (some ⟨w2.heap.size, 0, none⟩) (i + q) (i + q) os wr (E1.rd0 E1.lt E3 E2) (Nat.le_refl _) (by omega) (by omega))
      have HV := Lib.hid hv
      have HL := Lib.hid (show (trim os).length ≤ na + nb by have := trim_le os; omega)
      have HB2 := Lib.hid (HBb.out.trans (E6.mono HBb.out.size))
      clear H E1 E2 E3 E4 E5 E6 hv hmk
      go_wp2_with fail
      go_at_call 31
      refine HT.out.mono ?_
      rintro e w' ⟨v, rfl, hO, hB⟩
      have HO := Lib.hid hO
      have HB3 := Lib.hid hB
      clear hO hB
      go_wp2_with fail
      go_ret
      refine ⟨_, rfl, newR_of HO.out (trim_trim _) (by rw [V_trim, HZAE.out, HZBE.out]; exact HV.out) HL.out (HB2.out.trans (HB3.out.mono HB2.out.size)) HB2.out.size⟩
end Nt
end Go.Proofs.Ytopajockmcgpmaa
