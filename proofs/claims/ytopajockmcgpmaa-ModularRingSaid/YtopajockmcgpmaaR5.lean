/- Reduce; the answers modulo a number in one shape: what they may be, and that they are one. -/
import Derived.Test.YtopajockmcgpmaaR4
import Derived.Test.YtopajockmcgpmaaB6
namespace Go.Proofs.Ytopajockmcgpmaa
open Go Go.RowKit
namespace Nt
open Wd Sti
set_option linter.unusedVariables false
section
variable {w : World} {A B C : Option Addr} {na ca nb cb nc cc K L : Nat} {xs ys zs : List Int}
theorem reduceE_r (k : Int) (hc : Hid (Gd w C nc cc zs L)) (hL : L ≤ 65535) (h0 : (k < 0 ∨ 512 < k) ∨ V zs = 0 ∨ V zs % 2 ≠ 1) :
    Calls Try.prog 29 #[.slice A na ca, .slice C nc cc, .int .i64 k] w fun e w' => e = .returned (.tuple #[.slice none 0 0, .int .i64 2]) ∧ Below w.heap.size w w' := by
  by_cases hk : (k < 0 ∨ 512 < k) ∨ V zs = 0
  · have H1 := Lib.hid (radixE_r k hc (by omega) hk)
    clear hk h0 hc
    go_enter Try.func29, Try.ntmps29
    try simp only [List.append]
    go_wp2_with fail
    go_at_call 27
    refine H1.out.mono ?_
    rintro e w1 ⟨rfl, hb⟩
    have HB := Lib.hid hb
    clear H1 hb
    go_wp2_with fail
    go_ret2
    exact ⟨rfl, HB.out⟩
  · obtain ⟨k, rfl⟩ : ∃ j : Nat, k = j := ⟨k.toNat, by omega⟩
    have hz : V zs ≠ 0 := fun e => hk (.inr e)
    have ho : V zs % 2 ≠ 1 := by
      rcases h0 with h | h | h
      · exact absurd (.inl h) hk
      · exact absurd h hz
      · exact h
    have H1 := Lib.hid (radix_r k (by omega) hc (by omega) hz)
    have HO := Lib.hid ho
    clear hk h0 ho
    go_enter Try.func29, Try.ntmps29
    try simp only [List.append]
    go_wp2_with fail
    go_at_call 27
    refine H1.out.mono ?_
    rintro e w1 ⟨v, rfl, A1, n1, c1, z1, rfl, i1, g1, hb⟩
    have HB := Lib.hid hb
    have H2 := Lib.hid (odd_r (Gd.step hc hb) (by omega) false (decide_eq_false HO.out))
    clear H1 hb hc g1 i1
    go_wp2_with fail
    go_at_call 57
    refine H2.out.mono ?_
    rintro e w2 ⟨rfl, hb⟩
    have HB2 := Lib.hid (below_trans HB.out hb)
    clear H2 hb
    go_wp2_with fail
    go_ret2
    exact ⟨rfl, HB2.out⟩
theorem reduce_r (k : Nat) (hk : k ≤ 512) (ha : Hid (Gd w A na ca xs K)) (hc : Hid (Gd w C nc cc zs L)) (hK : K ≤ 65536) (hL : L ≤ 65535) (h0 : V zs ≠ 0) (ho : V zs % 2 = 1) :
    Calls Try.prog 29 #[.slice A na ca, .slice C nc cc, .int .i64 (k : Int)] w fun e w' => ∃ v N, e = .returned (.tuple #[v, .int .i64 0]) ∧ Res w w' v N L ∧ Hid (0 ≤ N ∧ N < V zs ∧ (N * P k) % V zs = V xs % V zs) := by
  have H1 := Lib.hid (radix_r k hk hc (by omega) h0)
  have HO := Lib.hid ho
  have H0 := Lib.hid h0
  have hz0 := V_nonneg hc.out.at_.ws
  have HZP := Lib.hid (show 0 < V zs by omega)
  clear h0 ho hz0
  go_enter Try.func29, Try.ntmps29
  try simp only [List.append]
  go_wp2_with fail
  go_at_call 27
  refine H1.out.mono ?_
  rintro e w1 ⟨v, rfl, A1, n1, c1, z1, rfl, i1, g1, hb⟩
  have HB := Lib.hid hb
  replace hc := Gd.step hc hb
  replace ha := Gd.step ha hb
  have H2 := Lib.hid (odd_r hc (by omega) true (decide_eq_true HO.out))
  clear H1 hb
  go_wp2_with fail
  go_at_call 57
  refine H2.out.mono ?_
  rintro e w2 ⟨rfl, hb⟩
  replace HB := Lib.hid (below_trans HB.out hb)
  replace hc := Gd.step hc hb
  replace ha := Gd.step ha hb
  replace g1 := Gd.step g1 hb
  have H3 := Lib.hid (inv_r g1 hc (by omega) hL H0.out (by rw [i1.out.v]; exact gc_radix k HZP.out HO.out))
  have HV1 := Lib.hid i1.out.v
  clear H2 hb g1 i1
  go_wp2_with fail
  go_at_call 26
  refine H3.out.mono ?_
  rintro e w3 ⟨v, X, rfl, ⟨A3, n3, c3, z3, rfl, i3, g3, hb⟩, hX⟩
  replace HB := Lib.hid (below_trans HB.out hb)
  replace hc := Gd.step hc hb
  replace ha := Gd.step ha hb
  have H4 := Lib.hid (mul3_r (Gd.up ha (Nat.le_max_left K L)) (Gd.up g3 (Nat.le_max_right K L)) hc (by omega) (by omega) H0.out)
  have HV3 := Lib.hid i3.out.v
  clear H3 hb ha g3 i3 hc
  go_wp2_with fail
  go_at_call 24
  refine H4.out.mono ?_
  rintro e w4 ⟨v, rfl, hr⟩
  have HR := Lib.hid (hr.from HB.out)
  obtain ⟨A4, n4, c4, rfl⟩ := hr.shape
  clear hr H4
  go_wp2_with fail
  go_ret2
  refine ⟨_, _, rfl, HR.out, Lib.hid ⟨Int.emod_nonneg _ H0.out, Int.emod_lt_of_pos _ HZP.out, ?_⟩⟩
  have e1 := hX.out.2.2
  rw [HV1.out, mod_mul_r] at e1
  rw [HV3.out, mod_mul_l, Int.mul_assoc, Int.mul_emod, e1, ← Int.mul_emod, Int.mul_one]
theorem one_r (x : Int) (hx : Wd.W x) (w : World) :
    Calls Try.prog 11 #[.int .u64 x] w fun e w' => ∃ v, e = .returned v ∧ Res w w' v x 1 := by
  have H1 := trim_2 (lit_1 w x hx) (by omega)
  have H1 : Hid (Calls Try.prog 31 #[.slice (some ⟨w.heap.size, 0, none⟩) 1 1] (w.alloc (.cells #[.int .u64 x] 29)) fun e w' => ∃ v, e = .returned v ∧ Res (w.alloc (.cells (us [x]) 29)) w' v (V [x]) 1) := Lib.hid H1
  clear hx
  go_enter Try.func11, Try.ntmps11
  go_wp2_with fail
  go_at_call 31
  refine H1.out.mono ?_
  rintro e w1 ⟨v, rfl, hr⟩
  have HR := Lib.hid ((hr.from (below_alloc (w := w) _)).eq (show V [x] = x by simp [V]))
  obtain ⟨A1, n1, c1, rfl⟩ := hr.shape
  clear hr H1
  go_wp2_with fail
  go_ret
  exact ⟨_, rfl, HR.out⟩
end
/-! ### what the answers may be -/
def OutM (w : World) (e : Ending) (w' : World) (Φ : List Int → Int → Prop) (K : Nat) : Prop := ∃ A n c zs ev, e = .returned (.tuple #[.slice A n c, .int .i64 ev]) ∧ Hid (Φ zs ev) ∧ Hid (Gd w' A n c zs K) ∧ Below w.heap.size w w'
def ModO (y N : Int) (zs : List Int) (ev : Int) : Prop := (y ≠ 0 ∧ Is zs N ∧ ev = 0) ∨ (y = 0 ∧ zs = [] ∧ ev = 2)
theorem ModO.uniq {y N : Int} {zs zs' : List Int} {ev ev' : Int} (h : Hid (ModO y N zs ev)) (g : Hid (ModO y N zs' ev')) : zs' = zs ∧ ev' = ev := by
  rcases h.out with ⟨a, b, c⟩ | ⟨a, b, c⟩ <;> rcases g.out with ⟨a', b', c'⟩ | ⟨a', b', c'⟩
  · exact ⟨b'.uniq b, by omega⟩
  · exact absurd a' a
  · exact absurd a a'
  · exact ⟨by rw [b, b'], by omega⟩
theorem ModO.ok {y N : Int} {zs : List Int} {ev : Int} (h : Hid (ModO y N zs ev)) (h0 : y ≠ 0) : Hid (Is zs N) ∧ ev = 0 := by
  rcases h.out with ⟨_, b, c⟩ | ⟨a, _⟩
  · exact ⟨Lib.hid b, c⟩
  · exact absurd a h0
def InvO (x y : Int) (zs : List Int) (ev : Int) : Prop :=
  (y = 0 ∧ zs = [] ∧ ev = 2) ∨ (y ≠ 0 ∧ gc x y ≠ 1 ∧ zs = [] ∧ ev = 5) ∨ (y ≠ 0 ∧ gc x y = 1 ∧ ev = 0 ∧ ∃ N, Is zs N ∧ 0 ≤ N ∧ N < y ∧ (N * x) % y = 1 % y)
theorem InvO.uniq {x y : Int} (hx : 0 ≤ x) {zs zs' : List Int} {ev ev' : Int} (h : Hid (InvO x y zs ev)) (g : Hid (InvO x y zs' ev')) : zs' = zs ∧ ev' = ev := by
  rcases h.out with ⟨a, b, c⟩ | ⟨a, b, c, d⟩ | ⟨a, b, c, N, d, e, f, i⟩ <;> rcases g.out with ⟨a', b', c'⟩ | ⟨a', b', c', d'⟩ | ⟨a', b', c', N', d', e', f', i'⟩
  all_goals first
    | exact absurd a a' | exact absurd a' a | exact absurd b b' | exact absurd b' b
    | exact ⟨by rw [b, b'], by omega⟩ | exact ⟨by rw [c, c'], by omega⟩
    | exact ⟨Is.uniq (by rw [inv_uniq (by omega) hx b e' f' e f i' i] at d'; exact d') d, by omega⟩
def RadO (k y : Int) (zs : List Int) (ev : Int) : Prop := (((k < 0 ∨ 512 < k) ∨ y = 0) ∧ zs = [] ∧ ev = 2) ∨ (0 ≤ k ∧ k ≤ 512 ∧ y ≠ 0 ∧ Is zs (P k.toNat % y) ∧ ev = 0)
theorem RadO.uniq {k y : Int} {zs zs' : List Int} {ev ev' : Int} (h : Hid (RadO k y zs ev)) (g : Hid (RadO k y zs' ev')) : zs' = zs ∧ ev' = ev := by
  rcases h.out with ⟨a, b, c⟩ | ⟨a, b, c, d, e⟩ <;> rcases g.out with ⟨a', b', c'⟩ | ⟨a', b', c', d', e'⟩
  · exact ⟨by rw [b, b'], by omega⟩
  · rcases a with h | h
    · omega
    · exact absurd h c'
  · rcases a' with h | h
    · omega
    · exact absurd h c
  · exact ⟨d'.uniq d, by omega⟩
def RedO (t y k : Int) (zs : List Int) (ev : Int) : Prop :=
  (((k < 0 ∨ 512 < k) ∨ y = 0 ∨ y % 2 ≠ 1) ∧ zs = [] ∧ ev = 2) ∨ (0 ≤ k ∧ k ≤ 512 ∧ y ≠ 0 ∧ y % 2 = 1 ∧ ev = 0 ∧ ∃ N, Is zs N ∧ 0 ≤ N ∧ N < y ∧ (N * P k.toNat) % y = t % y)
theorem red_uniq {t y N M : Int} {k : Nat} (hy : 0 < y) (ho : y % 2 = 1) (h1 : 0 ≤ N) (h2 : N < y) (h3 : 0 ≤ M) (h4 : M < y) (h5 : (N * P k) % y = t % y) (h6 : (M * P k) % y = t % y) : N = M := by
  have hg : gc (P k) y = 1 := by rw [← gc_mod (by have := P_pos k; omega) hy]; exact gc_radix k hy ho
  have h : y ∣ (N - M) * P k := by
    rw [Int.sub_mul]
    exact Int.dvd_of_emod_eq_zero (by rw [Int.sub_emod, h5, h6, Int.sub_self, Int.zero_emod])
  obtain ⟨q, hq⟩ := coprime_dvd (by omega) (by have := P_pos k; omega) hg h
  rcases Int.lt_trichotomy q 0 with h7 | h7 | h7
  · have : y * q ≤ y * (-1) := Int.mul_le_mul_of_nonneg_left (by omega) (by omega)
    omega
  · rw [h7] at hq; omega
  · have : y * 1 ≤ y * q := Int.mul_le_mul_of_nonneg_left (by omega) (by omega)
    omega
theorem RedO.uniq {t y k : Int} (hy : 0 ≤ y) {zs zs' : List Int} {ev ev' : Int} (h : Hid (RedO t y k zs ev)) (g : Hid (RedO t y k zs' ev')) : zs' = zs ∧ ev' = ev := by
  rcases h.out with ⟨a, b, c⟩ | ⟨a, b, c, d, e, N, i, j, l, m⟩ <;> rcases g.out with ⟨a', b', c'⟩ | ⟨a', b', c', d', e', N', i', j', l', m'⟩
  · exact ⟨by rw [b, b'], by omega⟩
  · rcases a with h | h | h
    · omega
    · exact absurd h c'
    · exact absurd d' h
  · rcases a' with h | h | h
    · omega
    · exact absurd h c
    · exact absurd d h
  · exact ⟨Is.uniq (by rw [red_uniq (by omega) d j' l' j l m' m] at i'; exact i') i, by omega⟩
def ConO (n0 y : Int) (x ev : Int) : Prop := (y % 2 ≠ 1 ∧ x = 0 ∧ ev = 2) ∨ (y % 2 = 1 ∧ Wd.W x ∧ (n0 * x + 1) % 18446744073709551616 = 0 ∧ ev = 0)
theorem con_uniq {n x y : Int} (hx : Wd.W x) (hy : Wd.W y) (h : (n * x + 1) % 18446744073709551616 = 0) (g : (n * y + 1) % 18446744073709551616 = 0) : x = y := by
  have h1 := inv_one n ((-x) % 18446744073709551616) ((-y) % 18446744073709551616) (W_mod _) (W_mod _) (by
    rw [mod_mul_r, Int.mul_neg]; generalize n * x = p at *; omega) (by
    rw [mod_mul_r, Int.mul_neg]; generalize n * y = p at *; omega)
  unfold Wd.W at hx hy
  omega
theorem ConO.uniq {n0 y : Int} {x x' ev ev' : Int} (h : Hid (ConO n0 y x ev)) (g : Hid (ConO n0 y x' ev')) : x' = x ∧ ev' = ev := by
  rcases h.out with ⟨a, b, c⟩ | ⟨a, b, c, d⟩ <;> rcases g.out with ⟨a', b', c'⟩ | ⟨a', b', c', d'⟩
  · omega
  · exact absurd a' a
  · exact absurd a a'
  · exact ⟨con_uniq b' b c' c, by omega⟩
section
variable {w : World} {A B C : Option Addr} {na ca nb cb nc cc K L : Nat} {xs ys zs : List Int}
theorem outM_ok {w w' : World} {e : Ending} {y N : Int} {K : Nat} (hy : y ≠ 0) (h : ∃ v, e = .returned (.tuple #[v, .int .i64 0]) ∧ Res w w' v N K) : OutM w e w' (ModO y N) K := by
  obtain ⟨v, rfl, A, n, c, zs, rfl, h1, h2, h3⟩ := h
  exact ⟨A, n, c, zs, 0, rfl, Lib.hid (.inl ⟨hy, h1.out, rfl⟩), h2, h3⟩
theorem outM_err {w w' : World} {e : Ending} {y N : Int} {K : Nat} (hy : y = 0) (h : e = .returned (.tuple #[.slice none 0 0, .int .i64 2]) ∧ Below w.heap.size w w') : OutM w e w' (ModO y N) K := by
  obtain ⟨rfl, h3⟩ := h
  exact ⟨none, 0, 0, [], 2, rfl, Lib.hid (.inr ⟨hy, rfl, rfl⟩), Gd.nil _ _, h3⟩
theorem radd_o (ha : Hid (Gd w A na ca xs K)) (hb : Hid (Gd w B nb cb ys K)) (hc : Hid (Gd w C nc cc zs L)) (hK : K ≤ 65535) (hL : L ≤ 65535) :
    Calls Try.prog 22 #[.slice A na ca, .slice B nb cb, .slice C nc cc] w fun e w' => OutM w e w' (ModO (V zs) ((V xs + V ys) % V zs)) L := by
  by_cases h : V zs = 0
  · exact (add3E_r ha hb hc (by omega) (by omega) h).mono fun _ _ hh => outM_err h hh
  · exact (add3_r ha hb hc (by omega) (by omega) h).mono fun _ _ hh => outM_ok h hh
theorem rsub_o (ha : Hid (Gd w A na ca xs K)) (hb : Hid (Gd w B nb cb ys K)) (hc : Hid (Gd w C nc cc zs L)) (hK : K ≤ 65535) (hL : L ≤ 65535) :
    Calls Try.prog 23 #[.slice A na ca, .slice B nb cb, .slice C nc cc] w fun e w' => OutM w e w' (ModO (V zs) ((V xs - V ys) % V zs)) L := by
  by_cases h : V zs = 0
  · exact (sub3E_r hc (by omega) h).mono fun _ _ hh => outM_err h hh
  · exact (sub3_r ha hb hc (by omega) (by omega) h).mono fun _ _ hh => outM_ok h hh
theorem rmul_o (ha : Hid (Gd w A na ca xs K)) (hb : Hid (Gd w B nb cb ys K)) (hc : Hid (Gd w C nc cc zs L)) (hK : K ≤ 65535) (hL : L ≤ 65535) :
    Calls Try.prog 24 #[.slice A na ca, .slice B nb cb, .slice C nc cc] w fun e w' => OutM w e w' (ModO (V zs) ((V xs * V ys) % V zs)) L := by
  by_cases h : V zs = 0
  · exact (mul3E_r ha hb hc (by omega) (by omega) h).mono fun _ _ hh => outM_err h hh
  · exact (mul3_r ha hb hc (by omega) (by omega) h).mono fun _ _ hh => outM_ok h hh
theorem rpow_o (ha : Hid (Gd w A na ca xs K)) (hb : Hid (Gd w B nb cb ys K)) (hc : Hid (Gd w C nc cc zs L)) (hK : K ≤ 65535) (hL : L ≤ 65535) (E : Nat) (hE : V ys = E) :
    Calls Try.prog 25 #[.slice A na ca, .slice B nb cb, .slice C nc cc] w fun e w' => OutM w e w' (ModO (V zs) (V xs ^ E % V zs)) L := by
  by_cases h : V zs = 0
  · exact (powE_r hc (by omega) h).mono fun _ _ hh => outM_err h hh
  · exact (pow_r ha hb hc (by omega) (by omega) h E hE).mono fun _ _ hh => outM_ok h hh
theorem rinv_o (ha : Hid (Gd w A na ca xs K)) (hc : Hid (Gd w C nc cc zs L)) (hK : K ≤ 65535) (hL : L ≤ 65535) :
    Calls Try.prog 26 #[.slice A na ca, .slice C nc cc] w fun e w' => OutM w e w' (InvO (V xs) (V zs)) L := by
  by_cases h : V zs = 0
  · refine (invE_r hc (by omega) h).mono ?_
    rintro e w' ⟨rfl, hb⟩
    exact ⟨none, 0, 0, [], 2, rfl, Lib.hid (.inl ⟨h, rfl, rfl⟩), Gd.nil _ _, hb⟩
  · by_cases hg : gc (V xs) (V zs) = 1
    · refine (inv_r ha hc (by omega) hL h hg).mono ?_
      rintro e w' ⟨v, N, rfl, ⟨A1, n1, c1, z1, rfl, h1, h2, h3⟩, h4⟩
      exact ⟨A1, n1, c1, z1, 0, rfl, Lib.hid (.inr (.inr ⟨h, hg, rfl, N, h1.out, h4.out⟩)), h2, h3⟩
    · refine (invN_r ha hc (by omega) (by omega) h hg).mono ?_
      rintro e w' ⟨rfl, hb⟩
      exact ⟨none, 0, 0, [], 5, rfl, Lib.hid (.inr (.inl ⟨h, hg, rfl, rfl⟩)), Gd.nil _ _, hb⟩
theorem rrad_o (k : Int) (hc : Hid (Gd w C nc cc zs L)) (hL : L ≤ 65535) :
    Calls Try.prog 27 #[.int .i64 k, .slice C nc cc] w fun e w' => OutM w e w' (RadO k (V zs)) L := by
  by_cases h : (k < 0 ∨ 512 < k) ∨ V zs = 0
  · refine (radixE_r k hc (by omega) h).mono ?_
    rintro e w' ⟨rfl, hb⟩
    exact ⟨none, 0, 0, [], 2, rfl, Lib.hid (.inl ⟨h, rfl, rfl⟩), Gd.nil _ _, hb⟩
  · obtain ⟨k, rfl⟩ : ∃ j : Nat, k = j := ⟨k.toNat, by omega⟩
    have hz : V zs ≠ 0 := fun e => h (.inr e)
    refine (radix_r k (by omega) hc (by omega) hz).mono ?_
    rintro e w' ⟨v, rfl, A1, n1, c1, z1, rfl, h1, h2, h3⟩
    exact ⟨A1, n1, c1, z1, 0, rfl, Lib.hid (.inr ⟨by omega, by omega, hz, by rw [Int.toNat_natCast]; exact h1.out, rfl⟩), h2, h3⟩
theorem rred_o (k : Int) (ha : Hid (Gd w A na ca xs K)) (hc : Hid (Gd w C nc cc zs L)) (hK : K ≤ 65535) (hL : L ≤ 65535) :
    Calls Try.prog 29 #[.slice A na ca, .slice C nc cc, .int .i64 k] w fun e w' => OutM w e w' (RedO (V xs) (V zs) k) L := by
  by_cases h : (k < 0 ∨ 512 < k) ∨ V zs = 0 ∨ V zs % 2 ≠ 1
  · refine (reduceE_r k hc hL h).mono ?_
    rintro e w' ⟨rfl, hb⟩
    exact ⟨none, 0, 0, [], 2, rfl, Lib.hid (.inl ⟨h, rfl, rfl⟩), Gd.nil _ _, hb⟩
  · obtain ⟨k, rfl⟩ : ∃ j : Nat, k = j := ⟨k.toNat, by omega⟩
    have hz : V zs ≠ 0 := fun e => h (.inr (.inl e))
    have ho : V zs % 2 = 1 := by omega
    refine (reduce_r k (by omega) ha hc (by omega) hL hz ho).mono ?_
    rintro e w' ⟨v, N, rfl, ⟨A1, n1, c1, z1, rfl, h1, h2, h3⟩, h4⟩
    exact ⟨A1, n1, c1, z1, 0, rfl, Lib.hid (.inr ⟨by omega, by omega, hz, ho, rfl, N, h1.out, by rw [Int.toNat_natCast]; exact h4.out⟩), h2, h3⟩
theorem rcon_o (hc : Hid (Gd w C nc cc zs L)) (hL : L ≤ 65535) :
    Calls Try.prog 28 #[.slice C nc cc] w fun e w' => ∃ x ev, e = .returned (.tuple #[.int .u64 x, .int .i64 ev]) ∧ Hid (ConO (Nt.at_ zs 0) (V zs) x ev) ∧ Below w.heap.size w w' := by
  by_cases h : V zs % 2 = 1
  · refine (const_r hc (by omega) h).mono ?_
    rintro e w' ⟨x, rfl, h1, h2, h3⟩
    exact ⟨x, 0, rfl, Lib.hid (.inr ⟨h, h1, h2, rfl⟩), h3⟩
  · refine (constE_r hc (by omega) h).mono ?_
    rintro e w' ⟨rfl, h3⟩
    exact ⟨0, 2, rfl, Lib.hid (.inl ⟨h, rfl, rfl⟩), h3⟩
theorem sameM (ha : Hid (Gd w A na ca xs K)) (hb : Hid (Gd w B nb cb ys L)) (hK : K ≤ 1048576) (hL : L ≤ 1048576) (b : Bool) (h : decide (xs = ys) = b) :
    Calls Try.prog 19 #[.slice A na ca, .slice B nb cb] w fun e w' => e = .returned (.bool b) ∧ Below w.heap.size w w' := by
  rw [← h]
  exact (same_c A B na ca nb cb _ _ xs ys w ha.out.at_ hb.out.at_ (by have := ha.out.le; omega) (by have := hb.out.le; omega)).mono fun e w' ⟨h, q, g⟩ => ⟨h, by rw [g]; exact below_drewN (Below.refl _ _) q⟩
end
end Nt
end Go.Proofs.Ytopajockmcgpmaa
