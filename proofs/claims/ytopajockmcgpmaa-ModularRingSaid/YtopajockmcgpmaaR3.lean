/- The document's own rest, Add, Sub, Mul, Pow modulo a number. | The document's own Pow and Gcd. -/
import Derived.Test.YtopajockmcgpmaaR2
import Derived.Test.YtopajockmcgpmaaM1
namespace Go.Proofs.Ytopajockmcgpmaa
open Go Go.RowKit
namespace Nt
open Wd Sti
set_option linter.unusedVariables false
/-- a natural at hand that may be handed on -/
structure Gd (w : World) (A : Option Addr) (n c : Nat) (xs : List Int) (K : Nat) : Prop where
  at_ : At w A n xs
  cap : n ≤ c
  max : c ≤ 9223372036854775807
  le : n ≤ K
theorem Gd.step {w w' : World} {A : Option Addr} {n c K : Nat} {xs : List Int} (h : Hid (Gd w A n c xs K)) (hb : Below w.heap.size w w') : Hid (Gd w' A n c xs K) :=
  Lib.hid ⟨(At.step (Lib.hid h.out.at_) hb).out, h.out.cap, h.out.max, h.out.le⟩
theorem Gd.nil (w : World) (K : Nat) : Hid (Gd w none 0 0 [] K) := Lib.hid ⟨Rd.nil, Nat.le_refl _, by omega, by omega⟩
/-- an answer that may be handed on -/
def Res (w w' : World) (v : Value) (N : Int) (K : Nat) : Prop := ∃ A n c zs, v = .slice A n c ∧ Hid (Is zs N) ∧ Hid (Gd w' A n c zs K) ∧ Below w.heap.size w w'
theorem Res.of {w w' : World} {v : Value} {N : Int} {m K : Nat} (h : NewR w w' v N m) (hK : m ≤ K) : Res w w' v N K := by
  obtain ⟨A, n, c, zs, h1, h2, h3, h4, h5, h6, h7, _⟩ := h
  exact ⟨A, n, c, zs, h1, h2, Lib.hid ⟨h3.out, h4, h5, Nat.le_trans h6 hK⟩, h7⟩
theorem Res.shape {w w' : World} {v : Value} {N : Int} {K : Nat} (h : Res w w' v N K) : ∃ A n c, v = .slice A n c := by
  obtain ⟨A, n, c, zs, h1, _⟩ := h; exact ⟨A, n, c, h1⟩
theorem Res.from {w0 w w' : World} {v : Value} {N : Int} {K : Nat} (h : Res w w' v N K) (hb : Below w0.heap.size w0 w) : Res w0 w' v N K := by
  obtain ⟨A, n, c, zs, h1, h2, h3, h4⟩ := h
  exact ⟨A, n, c, zs, h1, h2, h3, below_trans hb h4⟩
theorem Res.eq {w w' : World} {v : Value} {N M : Int} {K : Nat} (h : Res w w' v N K) (e : N = M) : Res w w' v M K := by rw [← e]; exact h

section
variable {w : World} {A B C : Option Addr} {na ca nb cb nc cc K L : Nat} {xs ys zs : List Int}
theorem rest_r (ha : Hid (Gd w A na ca xs K)) (hb : Hid (Gd w B nb cb ys L)) (hK : K ≤ 131072) (hL : L ≤ 131072) (h0 : V ys ≠ 0) :
    Calls Try.prog 51 #[.slice A na ca, .slice B nb cb] w fun e w' => ∃ v, e = .returned (.tuple #[v, .int .i64 0]) ∧ Res w w' v (V xs % V ys) L := by
  have HD := Lib.hid (div_r A B na ca nb cb xs ys w ha.out.at_ hb.out.at_ ⟨ha.out.cap, Nat.le_trans ha.out.le hK⟩ ha.out.max ⟨hb.out.cap, Nat.le_trans hb.out.le hL⟩ hb.out.max h0)
  have HL := Lib.hid hb.out.le
  clear ha hb h0
  go_enter Try.func51, Try.ntmps51
  go_wp2_with fail
  go_at_call 32
  refine HD.out.mono ?_
  rintro e w1 ⟨v1, v2, rfl, h1, h2⟩
  have H2 := Lib.hid (Res.of h2 HL.out)
  obtain ⟨A1, n1, c1, z1, rfl, _⟩ := h1
  obtain ⟨A2, n2, c2, rfl⟩ := H2.out.shape
  clear h2 HD
  go_wp2_with fail
  go_ret2
  exact ⟨_, rfl, H2.out⟩
theorem restE_r (hb : Hid (Gd w B nb cb ys L)) (hL : L ≤ 131072) (h0 : V ys = 0) :
    Calls Try.prog 51 #[.slice A na ca, .slice B nb cb] w fun e w' => e = .returned (.tuple #[.slice none 0 0, .int .i64 2]) ∧ Below w.heap.size w w' := by
  have HD := Lib.hid (divE_r A B na ca nb cb [] ys w hb.out.at_ (by have := hb.out.le; omega) h0)
  clear hb h0
  go_enter Try.func51, Try.ntmps51
  go_wp2_with fail
  go_at_call 32
  refine HD.out.mono ?_
  rintro e w1 ⟨rfl, rfl⟩
  clear HD
  go_wp2_with fail
  go_ret2
  exact ⟨rfl, Below.refl _ _⟩
theorem add_2 (ha : Hid (Gd w A na ca xs K)) (hb : Hid (Gd w B nb cb ys L)) (hK : K ≤ 131072) (hL : L ≤ 131072) (M : Nat) (hM : max K L + 1 ≤ M) :
    Calls Try.prog 33 #[.slice A na ca, .slice B nb cb] w fun e w' => ∃ v, e = .returned v ∧ Res w w' v (V xs + V ys) M :=
  (add_r A B na ca nb cb xs ys w ha.out.at_ hb.out.at_ (by have := ha.out.le; omega) (by have := hb.out.le; omega)).mono fun _ _ ⟨v, h, g⟩ => ⟨v, h, Res.of g (by have := ha.out.le; have := hb.out.le; omega)⟩
theorem sub_2 (ha : Hid (Gd w A na ca xs K)) (hb : Hid (Gd w B nb cb ys L)) (hK : K ≤ 131072) (hL : L ≤ 131072) (M : Nat) (hM : max K L ≤ M) (hv : V ys ≤ V xs) :
    Calls Try.prog 52 #[.slice A na ca, .slice B nb cb] w fun e w' => ∃ v, e = .returned (.tuple #[v, .int .i64 0]) ∧ Res w w' v (V xs - V ys) M :=
  (sub_r A B na ca nb cb xs ys w ha.out.at_ hb.out.at_ (by have := ha.out.le; omega) (by have := hb.out.le; omega) hv).mono fun _ _ ⟨v, h, g⟩ => ⟨v, h, Res.of g (by have := ha.out.le; have := hb.out.le; omega)⟩
theorem mul_2 (ha : Hid (Gd w A na ca xs K)) (hb : Hid (Gd w B nb cb ys L)) (hK : K ≤ 131072) (hL : L ≤ 131072) (M : Nat) (hM : K + L ≤ M) :
    Calls Try.prog 37 #[.slice A na ca, .slice B nb cb] w fun e w' => ∃ v, e = .returned v ∧ Res w w' v (V xs * V ys) M :=
  (mul_r A B na ca nb cb xs ys w ha.out.at_ hb.out.at_ ⟨ha.out.cap, by have := ha.out.le; omega⟩ ha.out.max ⟨hb.out.cap, by have := hb.out.le; omega⟩ hb.out.max).mono fun _ _ ⟨v, h, g⟩ => ⟨v, h, Res.of g (by have := ha.out.le; have := hb.out.le; omega)⟩
theorem trim_2 (ha : Hid (Gd w A na ca xs K)) (hK : K ≤ 131072) :
    Calls Try.prog 31 #[.slice A na ca] w fun e w' => ∃ v, e = .returned v ∧ Res w w' v (V xs) K :=
  (trim_r A na ca xs w ha.out.at_ ha.out.cap ha.out.max (by have := ha.out.le; omega)).mono fun _ _ ⟨v, h, g, b⟩ => ⟨v, h, Res.of (newR_of g (trim_trim _) (V_trim _) (by have := trim_le xs; have := ha.out.at_.len; have := ha.out.le; omega) b (Nat.le_refl _)) (Nat.le_refl K)⟩
theorem add3_r (ha : Hid (Gd w A na ca xs K)) (hb : Hid (Gd w B nb cb ys K)) (hc : Hid (Gd w C nc cc zs L)) (hK : K ≤ 65536) (hL : L ≤ 65536) (h0 : V zs ≠ 0) :
    Calls Try.prog 22 #[.slice A na ca, .slice B nb cb, .slice C nc cc] w fun e w' => ∃ v, e = .returned (.tuple #[v, .int .i64 0]) ∧ Res w w' v ((V xs + V ys) % V zs) L := by
  have H1 := Lib.hid (add_2 ha hb (by omega) (by omega) (K + 1) (by omega))
  clear ha hb
  go_enter Try.func22, Try.ntmps22
  go_wp2_with fail
  go_at_call 33
  refine H1.out.mono ?_
  rintro e w1 ⟨v, rfl, A1, n1, c1, z1, rfl, i1, g1, hb⟩
  have H2 := Lib.hid (rest_r g1 (Gd.step hc hb) (by omega) (by omega) h0)
  have HB := Lib.hid hb
  have HE := Lib.hid i1.out.v
  clear H1 hb g1 i1 h0 hc
  go_wp2_with fail
  go_at_call 51
  refine H2.out.mono ?_
  rintro e w2 ⟨v, rfl, hr⟩
  have HR := Lib.hid ((hr.from HB.out).eq (by rw [HE.out]))
  obtain ⟨A2, n2, c2, rfl⟩ := hr.shape
  clear hr H2
  go_wp2_with fail
  go_ret2
  exact ⟨_, rfl, HR.out⟩
theorem add3E_r (ha : Hid (Gd w A na ca xs K)) (hb : Hid (Gd w B nb cb ys K)) (hc : Hid (Gd w C nc cc zs L)) (hK : K ≤ 65536) (hL : L ≤ 65536) (h0 : V zs = 0) :
    Calls Try.prog 22 #[.slice A na ca, .slice B nb cb, .slice C nc cc] w fun e w' => e = .returned (.tuple #[.slice none 0 0, .int .i64 2]) ∧ Below w.heap.size w w' := by
  have H1 := Lib.hid (add_2 ha hb (by omega) (by omega) (K + 1) (by omega))
  clear ha hb
  go_enter Try.func22, Try.ntmps22
  go_wp2_with fail
  go_at_call 33
  refine H1.out.mono ?_
  rintro e w1 ⟨v, rfl, A1, n1, c1, z1, rfl, i1, g1, hb⟩
  have H2 := Lib.hid (restE_r (A := A1) (na := n1) (ca := c1) (Gd.step hc hb) (by omega) h0)
  have HB := Lib.hid hb
  clear H1 hb g1 i1 h0 hc
  go_wp2_with fail
  go_at_call 51
  refine H2.out.mono ?_
  rintro e w2 ⟨rfl, hb⟩
  have HB2 := Lib.hid (below_trans HB.out hb)
  clear hb H2
  go_wp2_with fail
  go_ret2
  exact ⟨rfl, HB2.out⟩
theorem mul3_r (ha : Hid (Gd w A na ca xs K)) (hb : Hid (Gd w B nb cb ys K)) (hc : Hid (Gd w C nc cc zs L)) (hK : K ≤ 65536) (hL : L ≤ 65536) (h0 : V zs ≠ 0) :
    Calls Try.prog 24 #[.slice A na ca, .slice B nb cb, .slice C nc cc] w fun e w' => ∃ v, e = .returned (.tuple #[v, .int .i64 0]) ∧ Res w w' v ((V xs * V ys) % V zs) L := by
  have H1 := Lib.hid (mul_2 ha hb (by omega) (by omega) (K + K) (by omega))
  clear ha hb
  go_enter Try.func24, Try.ntmps24
  go_wp2_with fail
  go_at_call 37
  refine H1.out.mono ?_
  rintro e w1 ⟨v, rfl, A1, n1, c1, z1, rfl, i1, g1, hb⟩
  have H2 := Lib.hid (rest_r g1 (Gd.step hc hb) (by omega) (by omega) h0)
  have HB := Lib.hid hb
  have HE := Lib.hid i1.out.v
  clear H1 hb g1 i1 h0 hc
  go_wp2_with fail
  go_at_call 51
  refine H2.out.mono ?_
  rintro e w2 ⟨v, rfl, hr⟩
  have HR := Lib.hid ((hr.from HB.out).eq (by rw [HE.out]))
  obtain ⟨A2, n2, c2, rfl⟩ := hr.shape
  clear hr H2
  go_wp2_with fail
  go_ret2
  exact ⟨_, rfl, HR.out⟩
theorem mul3E_r (ha : Hid (Gd w A na ca xs K)) (hb : Hid (Gd w B nb cb ys K)) (hc : Hid (Gd w C nc cc zs L)) (hK : K ≤ 65536) (hL : L ≤ 65536) (h0 : V zs = 0) :
    Calls Try.prog 24 #[.slice A na ca, .slice B nb cb, .slice C nc cc] w fun e w' => e = .returned (.tuple #[.slice none 0 0, .int .i64 2]) ∧ Below w.heap.size w w' := by
  have H1 := Lib.hid (mul_2 ha hb (by omega) (by omega) (K + K) (by omega))
  clear ha hb
  go_enter Try.func24, Try.ntmps24
  go_wp2_with fail
  go_at_call 37
  refine H1.out.mono ?_
  rintro e w1 ⟨v, rfl, A1, n1, c1, z1, rfl, i1, g1, hb⟩
  have H2 := Lib.hid (restE_r (A := A1) (na := n1) (ca := c1) (Gd.step hc hb) (by omega) h0)
  have HB := Lib.hid hb
  clear H1 hb g1 i1 h0 hc
  go_wp2_with fail
  go_at_call 51
  refine H2.out.mono ?_
  rintro e w2 ⟨rfl, hb⟩
  have HB2 := Lib.hid (below_trans HB.out hb)
  clear hb H2
  go_wp2_with fail
  go_ret2
  exact ⟨rfl, HB2.out⟩
theorem mod_sub3 (a b n : Int) : (a % n + n - b % n) % n = (a - b) % n := by
  rw [show a % n + n - b % n = (a % n - b % n) + n * 1 by omega, Int.add_mul_emod_self_left, ← Int.sub_emod]
theorem sub3_r (ha : Hid (Gd w A na ca xs K)) (hb : Hid (Gd w B nb cb ys K)) (hc : Hid (Gd w C nc cc zs L)) (hK : K ≤ 65536) (hL : L ≤ 65536) (h0 : V zs ≠ 0) :
    Calls Try.prog 23 #[.slice A na ca, .slice B nb cb, .slice C nc cc] w fun e w' => ∃ v, e = .returned (.tuple #[v, .int .i64 0]) ∧ Res w w' v ((V xs - V ys) % V zs) L := by
  have hz0 := V_nonneg hc.out.at_.ws
  have hzp : 0 < V zs := by omega
  have HZP := Lib.hid hzp
  have H0 := Lib.hid h0
  have H1 := Lib.hid (rest_r ha hc (by omega) (by omega) h0)
  clear ha h0 hz0 hzp
  go_enter Try.func23, Try.ntmps23
  try simp only [List.append]
  go_wp2_with fail
  go_at_call 51
  refine H1.out.mono ?_
  rintro e w1 ⟨v, rfl, A1, n1, c1, z1, rfl, i1, g1, hb1⟩
  have HB := Lib.hid hb1
  replace hb := Gd.step hb hb1
  replace hc := Gd.step hc hb1
  have H2 := Lib.hid (rest_r hb hc (by omega) (by omega) H0.out)
  clear H1 hb1 hb
  go_wp2_with fail
  go_at_call 51
  refine H2.out.mono ?_
  rintro e w2 ⟨v, rfl, A2, n2, c2, z2, rfl, i2, g2, hb2⟩
  replace HB := Lib.hid (below_trans HB.out hb2)
  replace g1 := Gd.step g1 hb2
  replace hc := Gd.step hc hb2
  have H3 := Lib.hid (add_2 g1 hc (by omega) (by omega) (L + 1) (by omega))
  clear H2 hb2 g1
  go_wp2_with fail
  go_at_call 33
  refine H3.out.mono ?_
  rintro e w3 ⟨v, rfl, A3, n3, c3, z3, rfl, i3, g3, hb3⟩
  replace HB := Lib.hid (below_trans HB.out hb3)
  replace g2 := Gd.step g2 hb3
  replace hc := Gd.step hc hb3
  have hle : V z2 ≤ V z3 := by
    rw [i2.out.v, i3.out.v, i1.out.v]
    have := Int.emod_nonneg (V xs) H0.out
    have := Int.emod_lt_of_pos (V ys) HZP.out
    omega
  have H4 := Lib.hid (sub_2 g3 g2 (by omega) (by omega) (L + 1) (by omega) hle)
  clear H3 hb3 g3 g2 hle
  go_wp2_with fail
  go_at_call 52
  refine H4.out.mono ?_
  rintro e w4 ⟨v, rfl, A4, n4, c4, z4, rfl, i4, g4, hb4⟩
  replace HB := Lib.hid (below_trans HB.out hb4)
  replace hc := Gd.step hc hb4
  have H5 := Lib.hid (rest_r g4 hc (by omega) (by omega) H0.out)
  have HE := Lib.hid (show V z4 % V zs = (V xs - V ys) % V zs by rw [i4.out.v, i3.out.v, i2.out.v, i1.out.v, mod_sub3])
  clear H4 hb4 g4 hc i1 i2 i3 i4
  go_wp2_with fail
  go_at_call 51
  refine H5.out.mono ?_
  rintro e w5 ⟨v, rfl, hr⟩
  have HR := Lib.hid ((hr.from HB.out).eq HE.out)
  obtain ⟨A5, n5, c5, rfl⟩ := hr.shape
  clear hr H5
  go_wp2_with fail
  go_ret2
  exact ⟨_, rfl, HR.out⟩
theorem sub3E_r (hc : Hid (Gd w C nc cc zs L)) (hL : L ≤ 65536) (h0 : V zs = 0) :
    Calls Try.prog 23 #[.slice A na ca, .slice B nb cb, .slice C nc cc] w fun e w' => e = .returned (.tuple #[.slice none 0 0, .int .i64 2]) ∧ Below w.heap.size w w' := by
  have H1 := Lib.hid (restE_r (A := A) (na := na) (ca := ca) hc (by omega) h0)
  clear hc h0
  go_enter Try.func23, Try.ntmps23
  try simp only [List.append]
  go_wp2_with fail
  go_at_call 51
  refine H1.out.mono ?_
  rintro e w1 ⟨rfl, hb⟩
  have HB := Lib.hid hb
  clear H1 hb
  go_wp2_with fail
  go_ret2
  exact ⟨rfl, HB.out⟩
end
end Nt
end Go.Proofs.Ytopajockmcgpmaa
namespace Go.Proofs.Ytopajockmcgpmaa
open Go Go.RowKit
namespace Nt
open Wd Sti
set_option linter.unusedVariables false
theorem Gd.up {w : World} {A : Option Addr} {n c K K' : Nat} {xs : List Int} (h : Hid (Gd w A n c xs K)) (hK : K ≤ K') : Hid (Gd w A n c xs K') := Lib.hid ⟨h.out.at_, h.out.cap, h.out.max, Nat.le_trans h.out.le hK⟩
theorem half_nat (E i : Nat) : E / 2 ^ i = 2 * (E / 2 ^ (i + 1)) + E / 2 ^ i % 2 := by
  rw [Nat.pow_succ, ← Nat.div_div_eq_div_mul]; omega
theorem bit_nat (E i : Nat) : bitAt (E : Int) (i : Int) = decide (E / 2 ^ i % 2 = 1) := by
  unfold bitAt
  rw [decide_eq_true (by omega), Bool.true_and, Int.toNat_natCast]
  have h : ((E / 2 ^ i : Nat) : Int) = (E : Int) / 2 ^ i := by simp
  rw [← h, Bool.eq_iff_iff]
  simp only [decide_eq_true_eq]
  omega
section
variable {w : World} {A B C : Option Addr} {na ca nb cb nc cc K L : Nat} {xs ys zs : List Int}
theorem one_lit (w : World) : Hid (Gd (w.alloc (.cells (us [1]) 29)) (some ⟨w.heap.size, 0, none⟩) 1 1 [1] 1) :=
  Lib.hid ⟨(Bk.new w 29 (us [1])).rd0 (Bk.new w 29 (us [1])).lt (fun x hx => by simp at hx; subst hx; unfold Wd.W; omega) rfl, Nat.le_refl _, by omega, Nat.le_refl _⟩
theorem bel_1 {w w' : World} (o : Obj) (h : Below (w.alloc o).heap.size (w.alloc o) w') : Below w.heap.size w w' := below_trans (below_alloc o) h
theorem powE_r (hc : Hid (Gd w C nc cc zs L)) (hL : L ≤ 65536) (h0 : V zs = 0) :
    Calls Try.prog 25 #[.slice A na ca, .slice B nb cb, .slice C nc cc] w fun e w' => e = .returned (.tuple #[.slice none 0 0, .int .i64 2]) ∧ Below w.heap.size w w' := by
  have H1 := Lib.hid (restE_r (A := some ⟨w.heap.size, 0, none⟩) (na := 1) (ca := 1) (Gd.step hc (below_alloc (.cells (us [1]) 29))) (by omega) h0)
  have H1 : Hid (Calls Try.prog 51 #[.slice (some ⟨w.heap.size, 0, none⟩) 1 1, .slice C nc cc] (w.alloc (.cells #[.int .u64 1] 29)) fun e w' => e = .returned (.tuple #[.slice none 0 0, .int .i64 2]) ∧ Below (w.alloc (.cells (us [1]) 29)).heap.size (w.alloc (.cells (us [1]) 29)) w') := H1
  clear hc h0
  go_enter Try.func25, Try.ntmps25
  try simp only [List.append]
  go_wp2_with fail
  go_at_call 51
  refine H1.out.mono ?_
  rintro e w1 ⟨rfl, hb⟩
  have HB := Lib.hid (bel_1 _ hb)
  clear H1 hb
  go_wp2_with fail
  go_ret2
  exact ⟨rfl, HB.out⟩
set_option maxRecDepth 100000 in
set_option maxHeartbeats 2000000 in
theorem pow_r (ha : Hid (Gd w A na ca xs K)) (hb : Hid (Gd w B nb cb ys K)) (hc : Hid (Gd w C nc cc zs L)) (hK : K ≤ 65536) (hL : L ≤ 65536) (h0 : V zs ≠ 0) (E : Nat) (hE : V ys = E) :
    Calls Try.prog 25 #[.slice A na ca, .slice B nb cb, .slice C nc cc] w fun e w' => ∃ v, e = .returned (.tuple #[v, .int .i64 0]) ∧ Res w w' v (V xs ^ E % V zs) L := by
  have H0 := Lib.hid h0
  have H1 := Lib.hid (rest_r (one_lit w) (Gd.step hc (below_alloc (.cells (us [1]) 29))) (by omega) (by omega) h0)
  have H1 : Hid (Calls Try.prog 51 #[.slice (some ⟨w.heap.size, 0, none⟩) 1 1, .slice C nc cc] (w.alloc (.cells #[.int .u64 1] 29)) fun e w' => ∃ v, e = .returned (.tuple #[v, .int .i64 0]) ∧ Res (w.alloc (.cells (us [1]) 29)) w' v (V [1] % V zs) L) := H1
  clear h0
  go_enter Try.func25, Try.ntmps25
  try simp only [List.append]
  go_wp2_with fail
  go_at_call 51
  refine H1.out.mono ?_
  rintro e w1 ⟨v, rfl, A1, n1, c1, z1, rfl, i1, g1, hb1⟩
  replace hb1 := bel_1 _ hb1
  have HB := Lib.hid hb1
  replace ha := Gd.step ha hb1
  replace hb := Gd.step hb hb1
  replace hc := Gd.step hc hb1
  have hba := nbits_R hb.out.at_.ws.trim (trim_trim ys)
  rw [V_trim, hE] at hba
  have hbal := nbits_le hb.out.at_.ws.trim
  have hla := trim_le ys
  rw [hb.out.at_.len] at hla
  have hKn := hb.out.le
  have KB := Lib.hid (bits_r B nb cb ys w1 hb.out.at_ hb.out.cap hb.out.max (by omega))
  generalize nbits (trim ys) = be at *
  have HBA := Lib.hid hba
  have hbe : be ≤ 4194304 := by omega
  clear H1 hb1 hba hbal hla hKn
  go_wp2_with fail
  go_at_call 53
  refine KB.out.mono ?_
  rintro e w2 ⟨rfl, hb2⟩
  replace HB := Lib.hid (below_trans HB.out hb2)
  replace ha := Gd.step ha hb2
  replace hb := Gd.step hb hb2
  replace hc := Gd.step hc hb2
  replace g1 := Gd.step g1 hb2
  have HE := Lib.hid hE
  clear KB hb2 hE
  go_wp2_with fail
  go_loopw [8, 10] (fun v i W => ∃ (j : Nat) (A1 : Option Addr) (n1 c1 : Nat) (o : List Int), j ≤ be ∧ v = .slice A1 n1 c1 ∧ i = .int .i64 ((j : Int) - 1) ∧ Hid (Is o (V xs ^ (E / 2 ^ j) % V zs)) ∧ Hid (Gd W A1 n1 c1 o L) ∧ Hid (Below w2.heap.size w2 W)) (fun _ i _ => (intOf i + 1).toNat)
  case atStart =>
    refine ⟨be, A1, n1, c1, z1, Nat.le_refl _, rfl, rfl, ?_, g1, Lib.hid (Below.refl _ _)⟩
    have h1 : E / 2 ^ be = 0 := Nat.div_eq_of_lt (by have := HBA.out.up; have h2 : ((2 ^ be : Nat) : Int) = 2 ^ be := by simp
                                                     omega)
    rw [h1, Int.pow_zero]
    exact i1
  case round =>
    obtain ⟨j, A3, n3, c3, o, hj, rfl, rfl, io, go, HW⟩ := hrel
    rcases Nat.eq_zero_or_pos j with rfl | hj0
    · have HR : Hid (Res w wr (.slice A3 n3 c3) (V xs ^ E % V zs) L) := Lib.hid ⟨A3, n3, c3, o, rfl, Lib.hid (by have := io.out; rwa [Nat.pow_zero, Nat.div_one] at this), go, below_trans HB.out HW.out⟩
      clear io go ha hb hc g1 i1
      go_wp2_with fail
      go_ret2
      exact ⟨_, rfl, HR.out⟩
    · obtain ⟨i, rfl⟩ : ∃ i, j = i + 1 := ⟨j - 1, by omega⟩
      have hi : ((i + 1 : Nat) : Int) - 1 = (i : Int) := by omega
      rw [hi]
      clear hi
      have hcW := Gd.step hc HW.out
      have haW := Gd.step ha HW.out
      have hbW := Gd.step hb HW.out
      have K1 := Lib.hid (mul3_r go go hcW (by omega) (by omega) H0.out)
      have hii : (i : Int) ≤ 4194304 := by omega
      have KBit := fun W (h : Hid (Gd W B nb cb ys K)) => Lib.hid (bit_r B nb cb W.heap.size i ys W h.out.at_ (WalkArith.wf_i64 (by omega)))
      rw [HE.out, bit_nat] at KBit
      have hhalf := half_nat E i
      have e1 := io.out.v
      go_wp2_with fail
      go_at_call 24
      refine K1.out.mono ?_
      rintro e w3 ⟨v, rfl, A4, n4, c4, o4, rfl, i4, g4, hb4⟩
      replace HW := Lib.hid (HW.out.trans (hb4.mono HW.out.size))
      replace hcW := Gd.step hcW hb4
      replace haW := Gd.step haW hb4
      replace hbW := Gd.step hbW hb4
      rw [e1, pow_bit0] at i4
      clear K1 hb4 io go
      by_cases hbit : E / 2 ^ i % 2 = 1
      · rw [decide_eq_true hbit] at KBit
        have K2 := Lib.hid (mul3_r (Gd.up g4 (Nat.le_max_right K L)) (Gd.up haW (Nat.le_max_left K L)) hcW (by omega) (by omega) H0.out)
        have HX : Hid (V xs ^ (2 * (E / 2 ^ (i + 1))) % V zs * V xs % V zs = V xs ^ (E / 2 ^ i) % V zs) := Lib.hid (by rw [pow_bit1]; congr 2; omega)
        have HV4 := Lib.hid i4.out.v
        clear hhalf hbit i4 e1
        go_wp2_with fail
        go_at_call 54
        refine (KBit _ hbW).out.mono ?_
        rintro e w4 ⟨rfl, he4⟩
        have HE4 := Lib.hid he4
        clear he4
        go_wp2_with fail
        go_at_call 24
        rw [HE4.out]
        refine K2.out.mono ?_
        rintro e w5 ⟨v, rfl, A5, n5, c5, o5, rfl, i5, g5, hb5⟩
        replace HW := Lib.hid (HW.out.trans (hb5.mono HW.out.size))
        rw [HV4.out, HX.out] at i5
        clear K2 hb5 g4 HV4 HX KBit hcW haW hbW
        go_wp2_with fail
        go_roundw
        case rel => exact ⟨i, _, _, _, _, by omega, rfl, rfl, i5, g5, HW⟩
        case measure => (simp [intOf] <;> omega)
      · rw [decide_eq_false hbit] at KBit
        rw [show 2 * (E / 2 ^ (i + 1)) = E / 2 ^ i by omega] at i4
        clear hhalf hbit e1
        go_wp2_with fail
        go_at_call 54
        refine (KBit _ hbW).out.mono ?_
        rintro e w4 ⟨rfl, he4⟩
        have HE4 := Lib.hid he4
        clear he4 KBit hcW haW hbW
        go_wp2_with fail
        rw [HE4.out]
        go_roundw
        case rel => exact ⟨i, _, _, _, _, by omega, rfl, rfl, i4, g4, HW⟩
        case measure => (simp [intOf] <;> omega)
end
/-! ### Gcd -/
/-- the limb that lies there -/
def memC (W : World) (A : Option Addr) (j : Nat) : Int := match A with
  | some ad => (match W.cell? (ad.add j) with
    | some (.int _ x) => x
    | _ => 0)
  | none => 0
/-- the number that a slice's limbs tell -/
def memV (W : World) (v : Value) : Int := match v with
  | .slice A n _ => V ((List.range n).map (memC W A))
  | _ => 0
theorem memV_at {W : World} {A : Option Addr} {n : Nat} {xs : List Int} (c : Nat) (h : At W A n xs) : memV W (.slice A n c) = V xs := by
  show V ((List.range n).map (memC W A)) = V xs
  congr 1
  apply List.ext_getElem
  · rw [List.length_map, List.length_range, h.len]
  · intro j h1 h2
    rw [List.getElem_map, List.getElem_range]
    have hj : j < n := by rw [← h.len]; exact h2
    obtain ⟨ad, rfl, _, hc⟩ := Rd.at_ h hj
    have e := at_lt (xs := xs) h2
    rw [List.getElem?_eq_getElem h2] at e
    rw [Option.some.inj e]
    unfold memC
    simp only [hc]
theorem is_len {zs : List Int} (h : trim zs = zs) (hw : Ws zs) (hn : zs.length ≠ 0) : V zs ≠ 0 := fun e => hn (by
  have := trim_nil_V hw e
  rw [h] at this
  rw [this]; rfl)
section
variable {w : World} {A B : Option Addr} {na ca nb cb K : Nat} {xs ys : List Int}
set_option maxRecDepth 100000 in
set_option maxHeartbeats 2000000 in
theorem gcd_r (ha : Hid (Gd w A na ca xs K)) (hb : Hid (Gd w B nb cb ys K)) (hK : K ≤ 131072) :
    Calls Try.prog 30 #[.slice A na ca, .slice B nb cb] w fun e w' => ∃ v, e = .returned v ∧ Res w w' v (gc (V xs) (V ys)) K := by
  have H1 := Lib.hid (trim_2 ha hK)
  go_enter Try.func30, Try.ntmps30
  go_wp2_with fail
  go_at_call 31
  refine H1.out.mono ?_
  rintro e w1 ⟨v, rfl, A1, n1, c1, z1, rfl, i1, g1, hb1⟩
  replace hb := Gd.step hb hb1
  have HB := Lib.hid hb1
  have H2 := Lib.hid (trim_2 hb hK)
  clear H1 hb1 ha
  go_wp2_with fail
  go_at_call 31
  refine H2.out.mono ?_
  rintro e w2 ⟨v, rfl, A2, n2, c2, z2, rfl, i2, g2, hb2⟩
  replace g1 := Gd.step g1 hb2
  replace HB := Lib.hid (below_trans HB.out hb2)
  have hwx := i1.out.nonneg
  have hwy := i2.out.nonneg
  obtain ⟨X, hX⟩ : ∃ X, X = V xs := ⟨_, rfl⟩
  obtain ⟨Y, hY⟩ : ∃ Y, Y = V ys := ⟨_, rfl⟩
  rw [← hX] at i1 hwx
  rw [← hY] at i2 hwy
  have HX := Lib.hid hX
  have HY := Lib.hid hY
  clear hb hb2 H2 hX hY
  go_wp2_with fail
  go_loopw [0, 1] (fun a b W => ∃ (A1 : Option Addr) (n1 c1 : Nat) (o1 : List Int) (A2 : Option Addr) (n2 c2 : Nat) (o2 : List Int) (x y : Int), a = .slice A1 n1 c1 ∧ b = .slice A2 n2 c2 ∧ 0 ≤ x ∧ Hid (gc x y = gc X Y) ∧ Hid (Is o1 x) ∧ Hid (Is o2 y) ∧ Hid (Gd W A1 n1 c1 o1 K) ∧ Hid (Gd W A2 n2 c2 o2 K) ∧ Hid (Below w.heap.size w W)) (fun _ b W => (memV W b).toNat)
  case atStart => exact ⟨A1, n1, c1, z1, A2, n2, c2, z2, X, Y, rfl, rfl, hwx, Lib.hid rfl, i1, i2, g1, g2, HB⟩
  case round =>
    obtain ⟨A3, n3, c3, o1, A4, n4, c4, o2, x, y, rfl, rfl, hx, hg, i3, i4, g3, g4, HW⟩ := hrel
    rcases Nat.eq_zero_or_pos n4 with rfl | hn4
    · have hy : y = 0 := by
        have := g4.out.at_.len
        rw [← i4.out.v, List.eq_nil_of_length_eq_zero this]; rfl
      have HR : Hid (Res w wr (.slice A3 n3 c3) (gc (V xs) (V ys)) K) := Lib.hid ⟨A3, n3, c3, o1, rfl, Lib.hid (by
        have e := hg.out
        rw [hy, gc_zero x hx, HX.out, HY.out] at e
        rw [← e]; exact i3.out), g3, HW.out⟩
      clear i3 i4 g3 g4 hg hy
      go_wp2_with fail
      go_ret
      exact ⟨_, rfl, HR.out⟩
    · have hy : V o2 ≠ 0 := is_len i4.out.tr i4.out.ws (by rw [g4.out.at_.len]; omega)
      have hyp : 0 < V o2 := by have := V_nonneg i4.out.ws; omega
      have H3 := Lib.hid (div_r A3 A4 n3 c3 n4 c4 o1 o2 wr g3.out.at_ g4.out.at_ ⟨g3.out.cap, Nat.le_trans g3.out.le hK⟩ g3.out.max ⟨g4.out.cap, Nat.le_trans g4.out.le hK⟩ g4.out.max hy)
      have e1 := i3.out.v
      have e2 := i4.out.v
      have HYP := Lib.hid hyp
      have hn4i : (0 : Int) < (n4 : Int) := by omega
      clear hy hyp
      go_wp2_with fail
      go_at_call 32
      refine H3.out.mono ?_
      rintro e w3 ⟨v1, v2, rfl, h5, h6⟩
      have g6 := Res.of h6 (Nat.le_trans g4.out.le (Nat.le_refl K))
      obtain ⟨A5, n5, c5, o5, rfl, i5, g5, hb5⟩ := Res.of h5 (Nat.le_refl _)
      obtain ⟨A6, n6, c6, o6, rfl, i6, g6, hb6⟩ := g6
      have HM := Lib.hid (show (memV w3 (.slice A6 n6 c6)).toNat < (memV wr (.slice A4 n4 c4)).toNat by
        rw [memV_at c6 g6.out.at_, memV_at c4 g4.out.at_, i6.out.v]
        have := Int.emod_nonneg (V o1) (show V o2 ≠ 0 by have := HYP.out; omega)
        have := Int.emod_lt_of_pos (V o1) HYP.out
        omega)
      have hg' : Hid (gc y (x % y) = gc X Y) := Lib.hid (by rw [gc_step hx (by rw [← e2]; exact HYP.out)]; exact hg.out)
      rw [e1, e2] at i6
      have hy0 : 0 ≤ y := by rw [← e2]; exact V_nonneg i4.out.ws
      replace HW := Lib.hid (below_trans HW.out hb6)
      replace g4 := Gd.step g4 hb6
      clear H3 h5 h6 i5 g5 hb5 hb6 i3 g3 e1 e2
      go_wp2_with fail
      go_roundw
      case rel => exact ⟨A4, n4, c4, o2, A6, n6, c6, o6, y, x % y, rfl, rfl, hy0, hg', i4, i6, g4, g6, HW⟩
      case measure => exact HM.out
end
end Nt
end Go.Proofs.Ytopajockmcgpmaa
