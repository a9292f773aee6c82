/- The document's own Inverse, Const, Radix, Reduce; a natural of a limb. | The document's own Inverse and Reduce. -/
import Derived.Test.YtopajockmcgpmaaR3
import Derived.Test.YtopajockmcgpmaaB3
namespace Go.Proofs.Ytopajockmcgpmaa
open Go Go.RowKit
namespace Nt
open Wd Sti
set_option linter.unusedVariables false
theorem P_two (k : Nat) : P k = ((2 ^ (64 * k) : Nat) : Int) := by rw [← two_P]; simp
theorem cop_two {n : Nat} (m : Nat) (h : n % 2 = 1) : Nat.gcd (2 ^ m) n = 1 := by
  have h1 : Nat.Coprime 2 n := by
    show Nat.gcd 2 n = 1
    rw [Nat.gcd_rec, h, Nat.gcd_one_left]
  exact Nat.Coprime.pow_left m h1
theorem gc_radix {n : Int} (k : Nat) (hn : 0 < n) (ho : n % 2 = 1) : gc (P k % n) n = 1 := by
  rw [gc_mod (by have := P_pos k; omega) hn, P_two]
  obtain ⟨m, rfl⟩ := Int.eq_ofNat_of_zero_le (Int.le_of_lt hn)
  unfold gc
  simp only [Int.toNat_natCast]
  rw [cop_two _ (by omega)]; rfl
theorem V_par {zs : List Int} : V zs % 2 = Nt.at_ zs 0 % 2 := by
  have h := hi_succ zs 0
  rw [hi_zero] at h
  omega
theorem gc_of_one {u : Int} (h0 : 0 ≤ u) (h : gc u 0 = 1) : u = 1 := by rw [gc_zero u h0] at h; exact h
section
variable {w : World} {A B C : Option Addr} {na ca nb cb nc cc K L : Nat} {xs ys zs : List Int}
theorem lit_1 (w : World) (x : Int) (hx : Wd.W x) : Hid (Gd (w.alloc (.cells (us [x]) 29)) (some ⟨w.heap.size, 0, none⟩) 1 1 [x] 1) :=
  Lib.hid ⟨(Bk.new w 29 (us [x])).rd0 (Bk.new w 29 (us [x])).lt (fun y hy => by simp at hy; subst hy; exact hx) rfl, Nat.le_refl _, by omega, Nat.le_refl _⟩
theorem odd_r (hc : Hid (Gd w C nc cc zs L)) (hL : L ≤ 131072) (b : Bool) (hb : decide (V zs % 2 = 1) = b) :
    Calls Try.prog 57 #[.slice C nc cc] w fun e w' => e = .returned (.bool b) ∧ Below w.heap.size w w' := by
  rw [← hb, V_par]
  clear hb
  rcases Nat.eq_zero_or_pos nc with rfl | h0
  · rw [at_ge (by rw [hc.out.at_.len]; omega)]
    clear hc
    go_enter Try.func57, Try.ntmps57
    go_wp2_with fail
    go_ret
    exact ⟨rfl, Below.refl _ _⟩
  · obtain ⟨ad, rfl, _, hcell⟩ := Rd.at_ hc.out.at_ h0
    have hw := hc.out.at_.ws.at_ 0
    have h0i : (0 : Int) < (nc : Int) := by omega
    clear hc
    generalize Nt.at_ zs 0 = z at *
    unfold Wd.W at hw
    obtain ⟨hw1, hw2⟩ := hw
    have ht : z.tmod 2 = z % 2 := Int.tmod_eq_emod_of_nonneg hw1
    have hcell' : w.cell? ad = some (.int .u64 z) := by
      have e : ad.add 0 = ad := by unfold Addr.add; simp
      rw [e] at hcell; exact hcell
    go_enter Try.func57, Try.ntmps57
    go_wp2_with fail
    go_ret
    exact ⟨ret_b (by show (z % 2 == 1) = _; rw [Bool.eq_iff_iff]; simp), Below.refl _ _⟩
theorem same2_r (ha : Hid (Gd w A na ca xs K)) (hb : Hid (Gd w B nb cb ys L)) (hK : K ≤ 131072) (hL : L ≤ 131072) (b : Bool) (h : decide (V xs = V ys) = b) :
    Calls Try.prog 55 #[.slice A na ca, .slice B nb cb] w fun e w' => e = .returned (.bool b) ∧ Below w.heap.size w w' := by
  have HC := Lib.hid (compare_r A B na ca nb cb _ _ xs ys w ha.out.at_ hb.out.at_ (by have := ha.out.le; omega) (by have := hb.out.le; omega))
  have hc : (cmpN (V xs) (V ys) == 0) = b := by
    rw [← h, Bool.eq_iff_iff]
    unfold cmpN
    by_cases h1 : V xs < V ys
    · rw [if_pos h1]; simp; omega
    · rw [if_neg h1]
      by_cases h2 : V xs = V ys
      · rw [if_pos h2]; simp [h2]
      · rw [if_neg h2]; simp [h2]
  generalize cmpN (V xs) (V ys) = z at *
  have HB := Lib.hid hc
  clear hc ha hb h
  go_enter Try.func55, Try.ntmps55
  go_wp2_with fail
  go_at_call 34
  refine HC.out.mono ?_
  rintro e w1 ⟨rfl, rfl⟩
  go_wp2_with fail
  go_ret
  exact ⟨ret_b HB.out, Below.refl _ _⟩
theorem power_r (k : Nat) (hk : k ≤ 512) (w : World) :
    Calls Try.prog 56 #[.int .i64 (k : Int)] w fun e w' => ∃ v, e = .returned v ∧ Res w w' v (P k) 513 := by
  have hmk := fun W => make_nat (k + 1) (by omega) W
  simp only [Int.natCast_add, Int.natCast_one] at hmk
  have g0 : Bk (w.alloc (.cells (us (List.replicate (k + 1) 0)) 29)) w.heap.size 29 (us (List.replicate (k + 1) 0)) := Bk.new _ _ _
  have hl : k < (List.replicate (k + 1) (0 : Int)).length := by simp
  have c5 : (w.alloc (.cells (us (List.replicate (k + 1) 0)) 29)).cell? ⟨w.heap.size, k, none⟩ = some (.int .u64 (Nt.at_ (List.replicate (k + 1) 0) k)) := (g0.cell _).trans (us_get hl)
  have f5 : (w.alloc (.cells (us (List.replicate (k + 1) 0)) 29)).frozen? ⟨w.heap.size, k, none⟩ = false := g0.frozen _
  have hr : Hid (Res w (w.alloc (.cells (us ((List.replicate (k + 1) 0).set k 1)) 29)) (.slice (some ⟨w.heap.size, 0, none⟩) (k + 1) (k + 1)) (P k) 513) := by
    have g1 : Bk (w.alloc (.cells (us ((List.replicate (k + 1) 0).set k 1)) 29)) w.heap.size 29 (us ((List.replicate (k + 1) 0).set k 1)) := Bk.new _ _ _
    have hw : Ws ((List.replicate (k + 1) 0).set k 1) := (Ws.zeros _).set k (by unfold Wd.W; omega)
    have hz : Nt.at_ (List.replicate (k + 1) (0 : Int)) k = 0 := by unfold Nt.at_; rw [List.getElem?_replicate]; split <;> rfl
    refine Lib.hid ⟨_, _, _, (List.replicate (k + 1) 0).set k 1, rfl, Lib.hid ⟨hw, trim_of_last (.inr ?_), ?_⟩, Lib.hid ⟨g1.rd0 g1.lt hw (by simp), Nat.le_refl _, by omega, by omega⟩, below_alloc _⟩
    · rw [List.length_set, List.length_replicate, Nat.add_sub_cancel, at_set _ _ _ _ hl, if_pos rfl]; decide
    · rw [V_set _ _ _ hl, V_zeros, hz]; omega
  clear g0 hl
  go_enter Try.func56, Try.ntmps56
  go_wp2_with fail
  go_ret
  refine ⟨_, rfl, ?_⟩
  rw [us_set]
  exact hr.out
theorem radix_r (k : Nat) (hk : k ≤ 512) (hc : Hid (Gd w C nc cc zs L)) (hL : L ≤ 65536) (h0 : V zs ≠ 0) :
    Calls Try.prog 27 #[.int .i64 (k : Int), .slice C nc cc] w fun e w' => ∃ v, e = .returned (.tuple #[v, .int .i64 0]) ∧ Res w w' v (P k % V zs) L := by
  have H1 := Lib.hid (power_r k hk w)
  have hk' : (k : Int) ≤ 512 := by omega
  go_enter Try.func27, Try.ntmps27
  go_wp2_with fail
  go_at_call 56
  refine H1.out.mono ?_
  rintro e w1 ⟨v, rfl, A1, n1, c1, z1, rfl, i1, g1, hb⟩
  have H2 := Lib.hid (rest_r g1 (Gd.step hc hb) (by omega) (by omega) h0)
  have HB := Lib.hid hb
  have HE := Lib.hid i1.out.v
  clear H1 hb g1 i1 h0 hc
  go_wp2_with fail
  go_at_call 51
  refine H2.out.mono ?_
  rintro e w2 ⟨v, rfl, hr⟩
  have HR := Lib.hid ((hr.from HB.out).eq (by rw [HE.out]))
  obtain ⟨A2, n2, c2, rfl⟩ := hr.shape
  clear hr H2
  go_wp2_with fail
  go_ret2
  exact ⟨_, rfl, HR.out⟩
theorem radixE_r (k : Int) (hc : Hid (Gd w C nc cc zs L)) (hL : L ≤ 65536) (h0 : (k < 0 ∨ 512 < k) ∨ V zs = 0) :
    Calls Try.prog 27 #[.int .i64 k, .slice C nc cc] w fun e w' => e = .returned (.tuple #[.slice none 0 0, .int .i64 2]) ∧ Below w.heap.size w w' := by
  by_cases hk : k < 0
  · clear hc h0
    go_enter Try.func27, Try.ntmps27
    go_wp2_with fail
    go_ret2
    exact ⟨rfl, Below.refl _ _⟩
  · by_cases hk2 : 512 < k
    · clear hc h0
      go_enter Try.func27, Try.ntmps27
      go_wp2_with fail
      go_ret2
      exact ⟨rfl, Below.refl _ _⟩
    · obtain ⟨k, rfl⟩ : ∃ j : Nat, k = j := ⟨k.toNat, by omega⟩
      have h0 : V zs = 0 := by rcases h0 with h | h; omega; exact h
      have H1 := Lib.hid (power_r k (by omega) w)
      have hk' : (k : Int) ≤ 512 := by omega
      clear hk hk2
      go_enter Try.func27, Try.ntmps27
      go_wp2_with fail
      go_at_call 56
      refine H1.out.mono ?_
      rintro e w1 ⟨v, rfl, A1, n1, c1, z1, rfl, i1, g1, hb⟩
      have H2 := Lib.hid (restE_r (A := A1) (na := n1) (ca := c1) (Gd.step hc hb) (by omega) h0)
      have HB := Lib.hid hb
      clear H1 hb g1 i1 h0 hc
      go_wp2_with fail
      go_at_call 51
      refine H2.out.mono ?_
      rintro e w2 ⟨rfl, hb⟩
      have HB2 := Lib.hid (below_trans HB.out hb)
      clear hb H2
      go_wp2_with fail
      go_ret2
      exact ⟨rfl, HB2.out⟩
theorem constE_r (hc : Hid (Gd w C nc cc zs L)) (hL : L ≤ 131072) (ho : V zs % 2 ≠ 1) :
    Calls Try.prog 28 #[.slice C nc cc] w fun e w' => e = .returned (.tuple #[.int .u64 0, .int .i64 2]) ∧ Below w.heap.size w w' := by
  have H1 := Lib.hid (odd_r hc hL false (decide_eq_false ho))
  clear hc ho
  go_enter Try.func28, Try.ntmps28
  go_wp2_with fail
  go_at_call 57
  refine H1.out.mono ?_
  rintro e w1 ⟨rfl, hb⟩
  have HB := Lib.hid hb
  clear hb H1
  go_wp2_with fail
  go_ret2
  exact ⟨rfl, HB.out⟩
theorem const_r (hc : Hid (Gd w C nc cc zs L)) (hL : L ≤ 131072) (ho : V zs % 2 = 1) :
    Calls Try.prog 28 #[.slice C nc cc] w fun e w' => ∃ x, e = .returned (.tuple #[.int .u64 x, .int .i64 0]) ∧ Wd.W x ∧ (Nt.at_ zs 0 * x + 1) % 18446744073709551616 = 0 ∧ Below w.heap.size w w' := by
  have H1 := Lib.hid (odd_r hc hL true (decide_eq_true ho))
  have hn0 : 0 < nc := by
    rcases Nat.eq_zero_or_pos nc with rfl | h0
    · rw [List.eq_nil_of_length_eq_zero hc.out.at_.len] at ho
      exact absurd ho (by decide)
    · exact h0
  rw [V_par] at ho
  have HO := Lib.hid ho
  clear ho
  go_enter Try.func28, Try.ntmps28
  go_wp2_with fail
  go_at_call 57
  refine H1.out.mono ?_
  rintro e w1 ⟨rfl, hb⟩
  replace hc := Gd.step hc hb
  obtain ⟨ad, rfl, _, hcell⟩ := Rd.at_ hc.out.at_ hn0
  have hw := hc.out.at_.ws.at_ 0
  have h0i : (0 : Int) < (nc : Int) := by omega
  have HB := Lib.hid hb
  have hcell' : w1.cell? ad = some (.int .u64 (Nt.at_ zs 0)) := by
    have e : ad.add 0 = ad := by unfold Addr.add; simp
    rw [e] at hcell; exact hcell
  have HI := fun w => rinv_c (Nt.at_ zs 0) w hw
  have e9 : invV (Nt.at_ zs 0) = .tuple #[.int .u64 (newt (Nt.at_ zs 0) 6), .bool true] := if_neg (by have := HO.out; omega)
  rw [e9] at HI
  replace HI := fun w => Lib.hid (HI w)
  have HNR := Lib.hid (newt_right (Nt.at_ zs 0) HO.out)
  have W6 := newt_W (Nt.at_ zs 0) 6
  have HX : Hid (Wd.W (IntKind.u64.wrap (-(newt (Nt.at_ zs 0) 6))) ∧ (Nt.at_ zs 0 * IntKind.u64.wrap (-(newt (Nt.at_ zs 0) 6)) + 1) % 18446744073709551616 = 0) := Lib.hid (by
    rw [IntKind.wrap_u64]
    refine ⟨W_mod _, ?_⟩
    rw [Int.add_emod, Int.mul_emod, Int.emod_emod_of_dvd _ (Int.dvd_refl _), ← Int.mul_emod, Int.mul_neg]
    have := HNR.out
    generalize Nt.at_ zs 0 * newt (Nt.at_ zs 0) 6 = p at *
    omega)
  clear H1 hb hc hcell HNR e9 hn0
  generalize newt (Nt.at_ zs 0) 6 = x at *
  unfold Wd.W at W6 hw
  go_wp2_with fail
  go_at_call 58
  refine (HI _).out.mono ?_
  rintro e w' ⟨rfl, rfl⟩
  go_wp2_with fail
  go_ret2
  exact ⟨_, rfl, HX.out.1, HX.out.2, HB.out⟩
end
end Nt
end Go.Proofs.Ytopajockmcgpmaa
namespace Go.Proofs.Ytopajockmcgpmaa
open Go Go.RowKit
namespace Nt
open Wd Sti
set_option linter.unusedVariables false
theorem mod_swap {n s x a : Int} (hx : x = a % n) : ((s % n) * a) % n = (s * x) % n := by rw [mod_mul_l, hx, mod_mul_r]
section
variable {w : World} {A B C : Option Addr} {na ca nb cb nc cc K L : Nat} {xs ys zs : List Int}
theorem invE_r (hc : Hid (Gd w C nc cc zs L)) (hL : L ≤ 65536) (h0 : V zs = 0) :
    Calls Try.prog 26 #[.slice A na ca, .slice C nc cc] w fun e w' => e = .returned (.tuple #[.slice none 0 0, .int .i64 2]) ∧ Below w.heap.size w w' := by
  have H1 := Lib.hid (restE_r (A := A) (na := na) (ca := ca) hc (by omega) h0)
  clear hc h0
  go_enter Try.func26, Try.ntmps26
  try simp only [List.append]
  go_wp2_with fail
  go_at_call 51
  refine H1.out.mono ?_
  rintro e w1 ⟨rfl, hb⟩
  have HB := Lib.hid hb
  clear H1 hb
  go_wp2_with fail
  go_ret2
  exact ⟨rfl, HB.out⟩
theorem invN_r (ha : Hid (Gd w A na ca xs K)) (hc : Hid (Gd w C nc cc zs L)) (hK : K ≤ 65536) (hL : L ≤ 65536) (h0 : V zs ≠ 0) (hg : gc (V xs) (V zs) ≠ 1) :
    Calls Try.prog 26 #[.slice A na ca, .slice C nc cc] w fun e w' => e = .returned (.tuple #[.slice none 0 0, .int .i64 5]) ∧ Below w.heap.size w w' := by
  have H1 := Lib.hid (rest_r ha hc (by omega) (by omega) h0)
  have hx0 := V_nonneg ha.out.at_.ws
  have hz0 := V_nonneg hc.out.at_.ws
  have hg' : gc (V xs % V zs) (V zs) ≠ 1 := by rw [gc_mod hx0 (by omega)]; exact hg
  have HG := Lib.hid hg'
  clear ha h0 hg hx0 hz0 hg'
  go_enter Try.func26, Try.ntmps26
  try simp only [List.append]
  go_wp2_with fail
  go_at_call 51
  refine H1.out.mono ?_
  rintro e w1 ⟨v, rfl, A1, n1, c1, z1, rfl, i1, g1, hb1⟩
  have HB := Lib.hid hb1
  replace hc := Gd.step hc hb1
  have H2 := Lib.hid (gcd_r g1 hc (by omega))
  rw [i1.out.v] at H2
  clear H1 hb1 g1 i1 hc
  go_wp2_with fail
  go_at_call 30
  refine H2.out.mono ?_
  rintro e w2 ⟨v, rfl, A2, n2, c2, z2, rfl, i2, g2, hb2⟩
  replace HB := Lib.hid (below_trans HB.out hb2)
  have H3 := same2_r (Gd.step g2 (below_alloc (.cells (us [1]) 29))) (one_lit w2) (by omega) (by omega) false (decide_eq_false (by rw [i2.out.v]; exact HG.out))
  have H3 : Hid (Calls Try.prog 55 #[.slice A2 n2 c2, .slice (some ⟨w2.heap.size, 0, none⟩) 1 1] (w2.alloc (.cells #[.int .u64 1] 29)) fun e w' => e = .returned (.bool false) ∧ Below (w2.alloc (.cells (us [1]) 29)).heap.size (w2.alloc (.cells (us [1]) 29)) w') := Lib.hid H3
  clear H2 hb2 g2 i2
  go_wp2_with fail
  go_at_call 55
  refine H3.out.mono ?_
  rintro e w3 ⟨rfl, hb3⟩
  replace HB := Lib.hid (below_trans HB.out (bel_1 _ hb3))
  clear H3 hb3
  go_wp2_with fail
  go_ret2
  exact ⟨rfl, HB.out⟩
set_option maxRecDepth 100000 in
set_option maxHeartbeats 4000000 in
theorem inv_r (ha : Hid (Gd w A na ca xs K)) (hc : Hid (Gd w C nc cc zs L)) (hK : K ≤ 65536) (hL : L ≤ 65535) (h0 : V zs ≠ 0) (hg : gc (V xs) (V zs) = 1) :
    Calls Try.prog 26 #[.slice A na ca, .slice C nc cc] w fun e w' => ∃ v N, e = .returned (.tuple #[v, .int .i64 0]) ∧ Res w w' v N L ∧ Hid (0 ≤ N ∧ N < V zs ∧ (N * V xs) % V zs = 1 % V zs) := by
  have H1 := Lib.hid (rest_r ha hc (by omega) (by omega) h0)
  have hx0 := V_nonneg ha.out.at_.ws
  have hz0 := V_nonneg hc.out.at_.ws
  have hg' : gc (V xs % V zs) (V zs) = 1 := by rw [gc_mod hx0 (by omega)]; exact hg
  have HG := Lib.hid hg'
  have H0 := Lib.hid h0
  have HZP := Lib.hid (show 0 < V zs by omega)
  clear ha h0 hg hx0 hz0 hg'
  go_enter Try.func26, Try.ntmps26
  try simp only [List.append]
  go_wp2_with fail
  go_at_call 51
  refine H1.out.mono ?_
  rintro e w1 ⟨v, rfl, A1, n1, c1, z1, rfl, i1, g1, hb1⟩
  have HB := Lib.hid hb1
  replace hc := Gd.step hc hb1
  have H2 := Lib.hid (gcd_r g1 hc (by omega))
  rw [i1.out.v, HG.out] at H2
  clear H1 hb1
  go_wp2_with fail
  go_at_call 30
  refine H2.out.mono ?_
  rintro e w2 ⟨v, rfl, A2, n2, c2, z2, rfl, i2, g2, hb2⟩
  replace HB := Lib.hid (below_trans HB.out hb2)
  replace hc := Gd.step hc hb2
  replace g1 := Gd.step g1 hb2
  have H3 := same2_r (Gd.step g2 (below_alloc (.cells (us [1]) 29))) (one_lit w2) (by omega) (by omega) true (decide_eq_true (by rw [i2.out.v]; rfl))
  have H3 : Hid (Calls Try.prog 55 #[.slice A2 n2 c2, .slice (some ⟨w2.heap.size, 0, none⟩) 1 1] (w2.alloc (.cells #[.int .u64 1] 29)) fun e w' => e = .returned (.bool true) ∧ Below (w2.alloc (.cells (us [1]) 29)).heap.size (w2.alloc (.cells (us [1]) 29)) w') := Lib.hid H3
  clear H2 hb2 g2 i2
  go_wp2_with fail
  go_at_call 55
  refine H3.out.mono ?_
  rintro e w3 ⟨rfl, hb3⟩
  replace hb3 := bel_1 _ hb3
  replace HB := Lib.hid (below_trans HB.out hb3)
  replace hc := Gd.step hc hb3
  replace g1 := Gd.step g1 hb3
  have H4 := Lib.hid (trim_2 hc (by omega))
  clear H3 hb3
  go_wp2_with fail
  go_at_call 31
  refine H4.out.mono ?_
  rintro e w4 ⟨v, rfl, A4, n4, c4, z4, rfl, i4, g4, hb4⟩
  replace HB := Lib.hid (below_trans HB.out hb4)
  replace hc := Gd.step hc hb4
  replace g1 := Gd.step g1 hb4
  have hs0 : Hid (Gd ((w4.alloc (.cells #[] 29)).alloc (.cells #[.int .u64 1] 29)) (some ⟨w4.heap.size, 0, none⟩) 0 0 [] (L + 1)) := Lib.hid ⟨Rd.nil, Nat.le_refl _, by omega, by omega⟩
  have ht0 : Hid (Gd ((w4.alloc (.cells #[] 29)).alloc (.cells #[.int .u64 1] 29)) (some ⟨w4.heap.size + 1, 0, none⟩) 1 1 [1] (L + 1)) := by
    have h := one_lit (w4.alloc (.cells #[] 29))
    have e : (w4.alloc (.cells #[] 29)).heap.size = w4.heap.size + 1 := by simp
    rw [e] at h
    exact Gd.up h (by omega)
  have hb5 : Below w4.heap.size w4 ((w4.alloc (.cells #[] 29)).alloc (.cells #[.int .u64 1] 29)) := (below_alloc _).trans ((below_alloc _).mono (by simp))
  replace HB := Lib.hid (below_trans HB.out hb5)
  replace hc := Gd.step hc hb5
  replace g1 := Gd.step g1 hb5
  replace g4 := Gd.step g4 hb5
  obtain ⟨x, hx⟩ : ∃ x, x = V xs % V zs := ⟨_, rfl⟩
  have hxn : 0 ≤ x := by rw [hx]; exact Int.emod_nonneg _ H0.out
  rw [← hx] at i1
  have HX := Lib.hid hx
  have hgx := HG.out
  rw [← hx] at hgx
  have HGX : Hid (gc (V zs) x = 1) := Lib.hid (by unfold gc at hgx ⊢; rw [Nat.gcd_comm]; exact hgx)
  clear H4 hb4 hb5 hx hgx HG
  go_wp2_with fail
  go_loopw [8, 9, 10, 11] (fun u v s t W => ∃ (A1 : Option Addr) (n1 c1 : Nat) (o1 : List Int) (A2 : Option Addr) (n2 c2 : Nat) (o2 : List Int) (A3 : Option Addr) (n3 c3 : Nat) (o3 : List Int) (A4 : Option Addr) (n4 c4 : Nat) (o4 : List Int) (U Y : Int),
      u = .slice A1 n1 c1 ∧ v = .slice A2 n2 c2 ∧ s = .slice A3 n3 c3 ∧ t = .slice A4 n4 c4 ∧ Hid (0 ≤ U ∧ gc U Y = 1 ∧ (V o3 * x) % V zs = U % V zs ∧ (V o4 * x) % V zs = Y % V zs) ∧ Hid (Is o1 U) ∧ Hid (Is o2 Y) ∧
      Hid (Gd W A1 n1 c1 o1 (L + 1)) ∧ Hid (Gd W A2 n2 c2 o2 (L + 1)) ∧ Hid (Gd W A3 n3 c3 o3 (L + 1)) ∧ Hid (Gd W A4 n4 c4 o4 (L + 1)) ∧ Hid (Gd W C nc cc zs L) ∧ Hid (Below w.heap.size w W)) (fun _ v _ _ W => (memV W v).toNat)
  case atStart =>
    refine ⟨A4, n4, c4, z4, A1, n1, c1, z1, _, 0, 0, [], _, 1, 1, [1], V zs, x, rfl, rfl, rfl, rfl, Lib.hid ⟨Int.le_of_lt HZP.out, HGX.out, ?_, ?_⟩, i4, i1, Gd.up g4 (by omega), Gd.up g1 (by omega), hs0, ht0, hc, HB⟩
    · rw [show V [] = 0 from rfl, Int.zero_mul, Int.emod_self]; exact Int.zero_emod _
    · rw [show V [1] = 1 from rfl, Int.one_mul]
  case round =>
    obtain ⟨A5, n5, c5, o1, A6, n6, c6, o2, A7, n7, c7, o3, A8, n8, c8, o4, U, Y, rfl, rfl, rfl, rfl, hI, i5, i6, g5, g6, g7, g8, hc, HW⟩ := hrel
    rcases Nat.eq_zero_or_pos n6 with rfl | hn6
    · have hy : Y = 0 := by
        have := g6.out.at_.len
        rw [← i6.out.v, List.eq_nil_of_length_eq_zero this]; rfl
      have hU : U = 1 := gc_of_one hI.out.1 (by rw [← hy]; exact hI.out.2.1)
      have hfin : (V o3 * x) % V zs = 1 % V zs := by rw [← hU]; exact hI.out.2.2.1
      have HF := Lib.hid hfin
      have H9 := Lib.hid (rest_r g7 hc (by omega) (by omega) H0.out)
      clear hI i5 i6 g5 g6 g7 g8 hc hy hU hfin g1 i1 i4 hs0 ht0 g4
      go_wp2_with fail
      go_at_call 51
      refine H9.out.mono ?_
      rintro e w9 ⟨v, rfl, hr⟩
      have HR := Lib.hid (hr.from HW.out)
      obtain ⟨A9, n9, c9, rfl⟩ := hr.shape
      clear hr H9
      go_wp2_with fail
      go_ret2
      exact ⟨_, _, rfl, HR.out, Lib.hid ⟨Int.emod_nonneg _ H0.out, Int.emod_lt_of_pos _ HZP.out, by rw [mod_swap HX.out]; exact HF.out⟩⟩
    · have hy : V o2 ≠ 0 := is_len i6.out.tr i6.out.ws (by rw [g6.out.at_.len]; omega)
      have hyp : 0 < V o2 := by have := V_nonneg i6.out.ws; omega
      have H3 := Lib.hid (div_r A5 A6 n5 c5 n6 c6 o1 o2 wr g5.out.at_ g6.out.at_ ⟨g5.out.cap, Nat.le_trans g5.out.le (by omega)⟩ g5.out.max ⟨g6.out.cap, Nat.le_trans g6.out.le (by omega)⟩ g6.out.max hy)
      have HYP := Lib.hid hyp
      have hn6i : (0 : Int) < (n6 : Int) := by omega
      clear hy hyp hs0 ht0 g1 i1 g4 i4
      go_wp2_with fail
      go_at_call 32
      refine H3.out.mono ?_
      rintro e w9 ⟨v1, v2, rfl, h5, h6⟩
      obtain ⟨Aq, nq, cq, oq, rfl, iq, gq, hbq⟩ := Res.of h5 (show n5 ≤ L + 1 from g5.out.le)
      obtain ⟨Ar, nr, cr, orr, rfl, ir, gr, hbr⟩ := Res.of h6 (show n6 ≤ L + 1 from g6.out.le)
      replace HW := Lib.hid (below_trans HW.out hbq)
      have HM0 := Lib.hid (memV_at c6 g6.out.at_)
      replace g6 := Gd.step g6 hbq
      replace g7 := Gd.step g7 hbq
      replace g8 := Gd.step g8 hbq
      replace hc := Gd.step hc hbq
      have H4 := Lib.hid (mul3_r gq g8 hc (by omega) (by omega) H0.out)
      clear H3 h5 h6 hbq hbr g5
      go_wp2_with fail
      go_at_call 24
      refine H4.out.mono ?_
      rintro e w10 ⟨v, rfl, Am, nm, cm, om, rfl, im, gm, hbm⟩
      replace HW := Lib.hid (below_trans HW.out hbm)
      replace g6 := Gd.step g6 hbm
      replace g7 := Gd.step g7 hbm
      replace g8 := Gd.step g8 hbm
      replace gr := Gd.step gr hbm
      replace hc := Gd.step hc hbm
      have H5 := Lib.hid (sub3_r g7 (Gd.up gm (by omega)) hc (by omega) (by omega) H0.out)
      clear H4 hbm gq
      go_wp2_with fail
      go_at_call 23
      refine H5.out.mono ?_
      rintro e w11 ⟨v, rfl, Ad, nd, cd, od, rfl, id, gd, hbd⟩
      replace HW := Lib.hid (below_trans HW.out hbd)
      replace g6 := Gd.step g6 hbd
      replace g8 := Gd.step g8 hbd
      replace gr := Gd.step gr hbd
      replace hc := Gd.step hc hbd
      have HM := Lib.hid (show (memV w11 (.slice Ar nr cr)).toNat < (memV wr (.slice A6 n6 c6)).toNat by
        rw [memV_at cr gr.out.at_, HM0.out, ir.out.v]
        have := Int.emod_nonneg (V o1) (show V o2 ≠ 0 by have := HYP.out; omega)
        have := Int.emod_lt_of_pos (V o1) HYP.out
        omega)
      have e1 := i5.out.v
      have e2 := i6.out.v
      have HN : Hid (0 ≤ Y ∧ gc Y (U % Y) = 1 ∧ (V o4 * x) % V zs = Y % V zs ∧ (V od * x) % V zs = (U % Y) % V zs) := Lib.hid (by
        have hYp : 0 < Y := by rw [← e2]; exact HYP.out
        refine ⟨by omega, by rw [gc_step hI.out.1 hYp]; exact hI.out.2.1, hI.out.2.2.2, ?_⟩
        rw [id.out.v, mod_mul_l, im.out.v, iq.out.v, e1, e2, ← inv_step hI.out.2.2.1 hI.out.2.2.2]
        rw [Int.sub_mul, Int.sub_emod, mod_mul_l, ← Int.sub_emod, ← Int.sub_mul])
      rw [e1, e2] at ir
      clear H5 hbd g7 gm hI e1 e2 im iq id
      go_wp2_with fail
      go_roundw
      case rel => exact ⟨A6, n6, c6, o2, Ar, nr, cr, orr, A8, n8, c8, o4, Ad, nd, cd, od, Y, U % Y, rfl, rfl, rfl, rfl, HN, i6, ir, g6, gr, g8, Gd.up gd (by omega), hc, HW⟩
      case measure => exact HM.out
end
end Nt
end Go.Proofs.Ytopajockmcgpmaa
