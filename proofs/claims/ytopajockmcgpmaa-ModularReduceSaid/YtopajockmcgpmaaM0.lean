/- Chapter 3's examples as each law asks them first; what is gone through. | Chapter 3's examples. -/
import Derived.Test.YtopajockmcgpmaaME
import Derived.Test.YtopajockmcgpmaaB6
import Derived.Test.YtopajockmcgpmaaM1
import Derived.Test.YtopajockmcgpmaaB3
namespace Go.Proofs.Ytopajockmcgpmaa
open Go Go.RowKit
namespace Nt
open Wd Sti
set_option linter.unusedVariables false
theorem P_1 : P (1 : Int).toNat = 18446744073709551616 := by
  show P 1 = _
  rw [P_succ, P_zero]; omega
theorem P_1m : P (1 : Int).toNat % 10 = 6 := by rw [P_1]; omega
theorem red_5 {N : Int} (h0 : 0 ≤ N) (h1 : N < 5) (h : (N * 18446744073709551616) % 5 = 6 % 5) : N = 1 := by
  rw [← mod_mul_r, show (18446744073709551616 : Int) % 5 = 1 by decide +kernel] at h
  omega
section
variable {w : World} {A B : Option Addr} {na ca nb cb K L : Nat} {xs ys : List Int}
theorem div_2 (ha : Hid (Gd w A na ca xs K)) (hb : Hid (Gd w B nb cb ys L)) (hK : K ≤ 131072) (hL : L ≤ 131072) (h0 : V ys ≠ 0) :
    Calls Try.prog 32 #[.slice A na ca, .slice B nb cb] w fun e w' => ∃ v1 v2, e = .returned (.tuple #[v1, v2, .int .i64 0]) ∧ Res w w' v1 (V xs / V ys) K ∧ Res w w' v2 (V xs % V ys) L :=
  (div_r A B na ca nb cb xs ys w ha.out.at_ hb.out.at_ ⟨ha.out.cap, Nat.le_trans ha.out.le hK⟩ ha.out.max ⟨hb.out.cap, Nat.le_trans hb.out.le hL⟩ hb.out.max h0).mono fun _ _ ⟨v1, v2, h, g1, g2⟩ => ⟨v1, v2, h, Res.of g1 ha.out.le, Res.of g2 hb.out.le⟩
theorem divE_2 (hb : Hid (Gd w B nb cb ys L)) (hL : L ≤ 131072) (h0 : V ys = 0) :
    Calls Try.prog 32 #[.slice A na ca, .slice B nb cb] w fun e w' => e = .returned (.tuple #[.slice none 0 0, .slice none 0 0, .int .i64 2]) ∧ Below w.heap.size w w' :=
  (divE_r A B na ca nb cb [] ys w hb.out.at_ (by have := hb.out.le; omega) h0).mono fun _ _ h => ⟨h.1, by rw [h.2]; exact Below.refl _ _⟩
theorem cmp_2 (ha : Hid (Gd w A na ca xs K)) (hb : Hid (Gd w B nb cb ys L)) (hK : K ≤ 131072) (hL : L ≤ 131072) (z : Int) (h : cmpN (V xs) (V ys) = z) :
    Calls Try.prog 34 #[.slice A na ca, .slice B nb cb] w fun e w' => e = .returned (.int .i64 z) ∧ Below w.heap.size w w' := by
  rw [← h]
  exact (compare_r A B na ca nb cb _ _ xs ys w ha.out.at_ hb.out.at_ (by have := ha.out.le; omega) (by have := hb.out.le; omega)).mono fun _ _ h => ⟨h.1, by rw [h.2]; exact Below.refl _ _⟩
theorem trimd_2 (ha : Hid (Gd w A na ca xs K)) (hK : K ≤ 131072) (b : Bool) (h : decide (trim xs = xs) = b) :
    Calls Try.prog 35 #[.slice A na ca] w fun e w' => e = .returned (.bool b) ∧ Below w.heap.size w w' := by
  rw [← h]
  exact (trimd_c A na ca _ xs w ha.out.at_ (by have := ha.out.le; omega)).mono fun _ _ h => ⟨h.1, by rw [h.2]; exact Below.refl _ _⟩
end
theorem light3_c (A B C : Option Addr) (na ca nb cb nc cc : Nat) (h1 : na ≤ 9223372036854775807) (h2 : nb ≤ 9223372036854775807) (h3 : nc ≤ 9223372036854775807) (w : World) (b : Bool) (h : (decide (na ≤ 5) && decide (nb ≤ 5) && decide (nc ≤ 5)) = b) :
    Calls Try.prog 21 #[.slice A na ca, .slice B nb cb, .slice C nc cc] w fun e w' => e = .returned (.bool b) ∧ Below w.heap.size w w' := by
  by_cases k1 : na ≤ 5
  · rw [decide_eq_true k1, Bool.true_and] at h
    have i1 : (na : Int) ≤ 5 := by omega
    by_cases k2 : nb ≤ 5
    · rw [decide_eq_true k2, Bool.true_and] at h
      have i2 : (nb : Int) ≤ 5 := by omega
      by_cases k3 : nc ≤ 5
      · rw [decide_eq_true k3] at h
        have i3 : (nc : Int) ≤ 5 := by omega
        subst h
        go_enter Try.func21, Try.ntmps21
        go_wp2_with fail
        go_ret
        exact ⟨ret_b (by simp <;> omega), Below.refl _ _⟩
      · rw [decide_eq_false k3] at h
        have i3 : (5 : Int) < (nc : Int) := by omega
        subst h
        go_enter Try.func21, Try.ntmps21
        go_wp2_with fail
        go_ret
        exact ⟨ret_b (by simp <;> omega), Below.refl _ _⟩
    · rw [decide_eq_false k2, Bool.false_and] at h
      have i2 : (5 : Int) < (nb : Int) := by omega
      subst h
      clear k2 k1
      go_enter Try.func21, Try.ntmps21
      go_wp2_with fail
      go_ret
      exact ⟨rfl, Below.refl _ _⟩
  · rw [decide_eq_false k1, Bool.false_and, Bool.false_and] at h
    have i1 : (5 : Int) < (na : Int) := by omega
    subst h
    clear k1
    go_enter Try.func21, Try.ntmps21
    go_wp2_with fail
    go_ret
    exact ⟨rfl, Below.refl _ _⟩
theorem is_eq {zs ys : List Int} {n m : Int} (h : Hid (Is zs n)) (g : Hid (Is ys m)) (e : n = m) : zs = ys := by subst e; exact h.out.uniq g.out
theorem Wx (x : Int) (h : 0 ≤ x ∧ x ≤ 18446744073709551615) : Wd.W x := h
/-- the inverse that is told, of numbers that are told -/
theorem inv_is {x y N : Int} {zs : List Int} {ev : Int} (h : Hid (InvO x y zs ev)) (hx : 0 ≤ x) (hy : 0 < y) (hg : gc x y = 1) (h0 : 0 ≤ N) (h1 : N < y) (h2 : (N * x) % y = 1 % y) : Hid (Is zs N) ∧ ev = 0 := by
  rcases h.out with ⟨a, _⟩ | ⟨_, a, _⟩ | ⟨_, _, b, M, c, d, e, f⟩
  · omega
  · exact absurd hg a
  · rw [inv_uniq hy hx hg d e h0 h1 f h2] at c
    exact ⟨Lib.hid c, b⟩
theorem is_one {zs : List Int} (h : Hid (Is zs 1)) : zs = [1] := h.out.uniq ⟨fun x hx => by simp at hx; subst hx; unfold Wd.W; omega, by decide, by decide⟩
theorem con_one {zs : List Int} {x ev : Int} (hz : Hid (Is zs 1)) (h : Hid (ConO (Nt.at_ zs 0) (V zs) x ev)) : x = 18446744073709551615 ∧ ev = 0 := by
  have e := is_one hz
  subst e
  have h' := h.out
  rw [show Nt.at_ [1] 0 = 1 from rfl, show V [1] = 1 by decide] at h'
  rcases h' with ⟨a, _⟩ | ⟨_, b, c, d⟩
  · exact absurd rfl a
  · unfold Wd.W at b
    exact ⟨by omega, d⟩
theorem gc_pos {a n : Int} (hn : 0 < n) : 0 < gc a n := by
  unfold gc
  have := Nat.gcd_pos_of_pos_right a.toNat (show 0 < n.toNat by omega)
  omega
theorem pick_3 {w : World} (n m : Int) (hn : (Lit.int .i64 n).wf = true) (hm : (Lit.int .i64 m).wf = true) (k : Nat) (h : Kit.pick n m = (k : Int)) :
    Calls Try.prog 36 #[.int .i64 n, .int .i64 m] w fun e w' => e = .returned (.int .i64 (k : Int)) ∧ Below w.heap.size w w' := by
  rw [← h]
  exact (Kit.pick_c n m w hn hm).mono fun e w' ⟨h, g⟩ => ⟨h, by rw [← g]; exact Below.refl _ _⟩
theorem pick_ex (n : Int) (m : Nat) (hm : 1 ≤ m) : ∃ k : Nat, Kit.pick n m = k ∧ k < m := by
  obtain ⟨h1, h2⟩ := Kit.pick_lt (n := n) (m := m) (by omega)
  exact ⟨(Kit.pick n m).toNat, by omega, by omega⟩
theorem nlen0 {w : World} {A : Option Addr} {n c K : Nat} {zs : List Int} {N : Int} (g : Hid (Gd w A n c zs K)) (i : Hid (Is zs N)) (h : N = 0) : n = 0 := by
  subst h
  have h9 := g.out.at_.len
  rw [i.out.uniq Is.nil] at h9
  exact h9.symm
theorem nlenP {w : World} {A : Option Addr} {n c K : Nat} {zs : List Int} {N : Int} (g : Hid (Gd w A n c zs K)) (i : Hid (Is zs N)) (h : N ≠ 0) : 0 < n := by
  rcases Nat.eq_zero_or_pos n with h0 | h0
  · exfalso
    have h9 := g.out.at_.len
    rw [h0] at h9
    apply h
    rw [← i.out.v, List.eq_nil_of_length_eq_zero h9]; rfl
  · exact h0
/-- the limb that Const makes nought -/
theorem const_nought {a0 n0 a n c : Int} (ha : a0 = a % 18446744073709551616) (hn : n0 = n % 18446744073709551616) (hc : (n0 * c + 1) % 18446744073709551616 = 0) :
    (a + n * ((a0 * c) % 18446744073709551616)) % 18446744073709551616 = 0 := by
  rw [Int.add_emod, mod_mul_r, Int.mul_comm a0 c, ← Int.mul_assoc, ← mod_mul_l (n * c), ← mod_mul_l n c, ← hn]
  have h1 : (n0 * c) % 18446744073709551616 = 18446744073709551615 := by generalize n0 * c = p at *; omega
  rw [h1, ← ha]
  omega
theorem red_is {t y k N : Int} {zs : List Int} {ev : Int} (h : Hid (RedO t y k zs ev)) (hy : 0 < y) (ho : y % 2 = 1) (k0 : 0 ≤ k) (k1 : k ≤ 512) (h0 : 0 ≤ N) (h1 : N < y) (h2 : (N * P k.toNat) % y = t % y) : Hid (Is zs N) ∧ ev = 0 := by
  rcases h.out with ⟨a, _⟩ | ⟨_, _, _, _, b, M, c, d, e, f⟩
  · rcases a with a | a | a
    · omega
    · omega
    · exact absurd ho a
  · rw [red_uniq hy ho d e h0 h1 f h2] at c
    exact ⟨Lib.hid c, b⟩
theorem rad_is {k y : Int} {zs : List Int} {ev : Int} (h : Hid (RadO k y zs ev)) (hy : y ≠ 0) (k0 : 0 ≤ k) (k1 : k ≤ 512) : Hid (Is zs (P k.toNat % y)) ∧ ev = 0 := by
  rcases h.out with ⟨a, _⟩ | ⟨_, _, _, b, c⟩
  · rcases a with a | a
    · omega
    · exact absurd a hy
  · exact ⟨Lib.hid b, c⟩
def primes7 : List Int := [2, 3, 5, 7, 251, 65537, 4294967291]
theorem prime_at : ∀ i : Nat, i < 7 → ∃ p : Nat, Nt.at_ primes7 i = p ∧ Fer.Prim p ∧ p ≤ 4294967291
  | 0, _ => ⟨2, rfl, Fer.p2, by omega⟩
  | 1, _ => ⟨3, rfl, Fer.p3, by omega⟩
  | 2, _ => ⟨5, rfl, Fer.p5, by omega⟩
  | 3, _ => ⟨7, rfl, Fer.p7, by omega⟩
  | 4, _ => ⟨251, rfl, Fer.p251, by omega⟩
  | 5, _ => ⟨65537, rfl, Fer.p65537, by omega⟩
  | 6, _ => ⟨4294967291, rfl, Fer.p4294967291, by omega⟩
  | i + 7, h => absurd h (by omega)
theorem fermat_int {p : Nat} (hp : Fer.Prim p) {a : Int} (ha : 0 ≤ a) : a ^ p % (p : Int) = a % (p : Int) := by
  obtain ⟨x, rfl⟩ := Int.eq_ofNat_of_zero_le ha
  have h := Fer.fermat hp x
  have e : ((x : Int) ^ p) = ((x ^ p : Nat) : Int) := by simp
  rw [e]
  omega
end Nt
end Go.Proofs.Ytopajockmcgpmaa
namespace Go.Proofs.Ytopajockmcgpmaa
open Go Go.RowKit
namespace Nt
open Wd Sti
set_option linter.unusedVariables false
set_option maxRecDepth 100000 in
set_option maxHeartbeats 16000000 in
theorem lives3_c (w : World) : Calls Try.prog 9 #[] w fun e w' => e = .returned (.bool true) ∧ Below w.heap.size w w' := by
  have hB : Hid (Below w.heap.size w w) := Lib.hid (Below.refl _ w)
  go_enter Try.func9, Try.ntmps9
  try simp only [List.append]
  go_wp2_with fail
  go_at_call 11
  refine (one_r 3 (Wx _ (by omega)) _).mono ?_
  rintro e w1 ⟨v, rfl, Qk1, nk1, ck1, zk1, rfl, i_k1, g_k1, hb⟩
  replace hB := bel_step hB hb
  clear hb
  go_wp2_with fail
  go_at_call 11
  refine (one_r 4 (Wx _ (by omega)) _).mono ?_
  rintro e w2 ⟨v, rfl, Qk2, nk2, ck2, zk2, rfl, i_k2, g_k2, hb⟩
  replace hB := bel_step hB hb
  replace g_k1 := Gd.step g_k1 hb
  clear hb
  go_wp2_with fail
  go_at_call 11
  refine (one_r 10 (Wx _ (by omega)) _).mono ?_
  rintro e w3 ⟨v, rfl, Qk3, nk3, ck3, zk3, rfl, i_k3, g_k3, hb⟩
  replace hB := bel_step hB hb
  replace g_k1 := Gd.step g_k1 hb
  replace g_k2 := Gd.step g_k2 hb
  clear hb
  go_wp2_with fail
  go_at_call 18
  refine (mpow_o g_k1 g_k2 g_k3 (by omega) (by omega) 4 (by rw [i_k2.out.v]; rfl)).mono ?_
  rintro e w4 ⟨Qk4, nk4, ck4, zk4, evk4, rfl, o_k4, g_k4, hb⟩
  replace hB := bel_step hB hb
  replace g_k1 := Gd.step g_k1 hb
  replace g_k2 := Gd.step g_k2 hb
  replace g_k3 := Gd.step g_k3 hb
  clear hb
  obtain ⟨i_k4, e0⟩ := ModO.ok o_k4 (by rw [i_k3.out.v]; decide)
  subst e0
  clear o_k4
  rw [i_k1.out.v, i_k3.out.v] at i_k4
  clear g_k1
  clear g_k2
  clear g_k3
  go_wp2_with fail
  go_at_call 11
  refine (one_r 3 (Wx _ (by omega)) _).mono ?_
  rintro e w5 ⟨v, rfl, Qk5, nk5, ck5, zk5, rfl, i_k5, g_k5, hb⟩
  replace hB := bel_step hB hb
  replace g_k4 := Gd.step g_k4 hb
  clear hb
  go_wp2_with fail
  go_at_call 11
  refine (one_r 10 (Wx _ (by omega)) _).mono ?_
  rintro e w6 ⟨v, rfl, Qk6, nk6, ck6, zk6, rfl, i_k6, g_k6, hb⟩
  replace hB := bel_step hB hb
  replace g_k4 := Gd.step g_k4 hb
  replace g_k5 := Gd.step g_k5 hb
  clear hb
  go_wp2_with fail
  go_at_call 12
  refine (minv_o g_k5 g_k6 (by omega) (by omega)).mono ?_
  rintro e w7 ⟨Qk7, nk7, ck7, zk7, evk7, rfl, o_k7, g_k7, hb⟩
  replace hB := bel_step hB hb
  replace g_k4 := Gd.step g_k4 hb
  replace g_k5 := Gd.step g_k5 hb
  replace g_k6 := Gd.step g_k6 hb
  clear hb
  obtain ⟨i_k7, e0⟩ := inv_is (N := 7) o_k7 (by rw [i_k5.out.v]; decide) (by rw [i_k6.out.v]; decide) (by rw [i_k5.out.v, i_k6.out.v]; decide) (by decide) (by rw [i_k6.out.v]; decide) (by rw [i_k5.out.v, i_k6.out.v]; decide)
  subst e0
  clear o_k7
  clear g_k5
  clear g_k6
  go_wp2_with fail
  go_at_call 11
  refine (one_r 1 (Wx _ (by omega)) _).mono ?_
  rintro e w8 ⟨v, rfl, Qk8, nk8, ck8, zk8, rfl, i_k8, g_k8, hb⟩
  replace hB := bel_step hB hb
  replace g_k4 := Gd.step g_k4 hb
  replace g_k7 := Gd.step g_k7 hb
  clear hb
  go_wp2_with fail
  go_at_call 13
  refine (mcon_o g_k8 (by omega)).mono ?_
  rintro e w9 ⟨xk9, evk9, rfl, o_k9, hb⟩
  replace hB := bel_step hB hb
  replace g_k4 := Gd.step g_k4 hb
  replace g_k7 := Gd.step g_k7 hb
  replace g_k8 := Gd.step g_k8 hb
  clear hb
  obtain ⟨e1, e2⟩ := con_one i_k8 o_k9
  subst e1 e2
  clear o_k9
  clear g_k8
  go_wp2_with fail
  go_at_call 11
  refine (one_r 1 (Wx _ (by omega)) _).mono ?_
  rintro e w10 ⟨v, rfl, Qk10, nk10, ck10, zk10, rfl, i_k10, g_k10, hb⟩
  replace hB := bel_step hB hb
  replace g_k4 := Gd.step g_k4 hb
  replace g_k7 := Gd.step g_k7 hb
  clear hb
  go_wp2_with fail
  go_at_call 19
  refine (sameM g_k4 g_k10 (by omega) (by omega) true (decide_eq_true (is_eq i_k4 i_k10 (by decide)))).mono ?_
  rintro e w11 ⟨rfl, hb⟩
  replace hB := bel_step hB hb
  replace g_k4 := Gd.step g_k4 hb
  replace g_k7 := Gd.step g_k7 hb
  replace g_k10 := Gd.step g_k10 hb
  clear hb
  clear g_k4
  clear g_k10
  go_wp2_with fail
  go_at_call 11
  refine (one_r 7 (Wx _ (by omega)) _).mono ?_
  rintro e w12 ⟨v, rfl, Qk11, nk11, ck11, zk11, rfl, i_k11, g_k11, hb⟩
  replace hB := bel_step hB hb
  replace g_k7 := Gd.step g_k7 hb
  clear hb
  go_wp2_with fail
  go_at_call 19
  refine (sameM g_k7 g_k11 (by omega) (by omega) true (decide_eq_true (is_eq i_k7 i_k11 (by decide)))).mono ?_
  rintro e w13 ⟨rfl, hb⟩
  replace hB := bel_step hB hb
  replace g_k7 := Gd.step g_k7 hb
  replace g_k11 := Gd.step g_k11 hb
  clear hb
  clear g_k7
  clear g_k11
  go_wp2_with fail
  go_ret
  exact ⟨rfl, hB.out⟩
end Nt
end Go.Proofs.Ytopajockmcgpmaa
