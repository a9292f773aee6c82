/- The landed code of package modular: rest, Add, Sub, Mul, Radix, with the shapes of the document's answers. -/
import Derived.Test.YtopajockmcgpmaaR5
import Derived.Test.YtopajockmcgpmaaB7
import Derived.Test.YtopajockmcgpmaaB6
namespace Go.Proofs.Ytopajockmcgpmaa
open Go Go.RowKit
namespace Nt
open Wd Sti
set_option linter.unusedVariables false
theorem is_short {zs : List Int} {N : Int} {k : Nat} (h : Is zs N) (hN : N < P k) : zs.length ≤ k := by
  rcases Nat.lt_or_ge k zs.length with h1 | h1
  · have hne : zs ≠ [] := by intro e; rw [e] at h1; exact absurd h1 (by simp)
    have ht := trim_last h.tr hne
    have hs := V_split zs (zs.length - 1)
    rw [hi_succ, hi_all (by omega), h.v] at hs
    have hlo := lo_nonneg h.ws (zs.length - 1)
    have hw := h.ws.at_ (zs.length - 1)
    have hm := P_mono (show k ≤ zs.length - 1 by omega)
    unfold Wd.W at hw
    generalize Nt.at_ zs (zs.length - 1) = t at *
    have hp := P_pos (zs.length - 1)
    have : P (zs.length - 1) * 1 ≤ P (zs.length - 1) * t := Int.mul_le_mul_of_nonneg_left (by omega) (by omega)
    simp only [Int.mul_zero, Int.add_zero] at hs
    omega
  · exact h1
theorem Res.new {w w' : World} {v : Value} {N : Int} {K L : Nat} (h : New w w' v N K) (hN : N < P L) (hK : K ≤ 9223372036854775807) : Res w w' v N L := by
  obtain ⟨A, n, c, zs, h1, h2, h3, h4, h5, h6⟩ := h
  exact ⟨A, n, c, zs, h1, h2, Lib.hid ⟨h3.out, h4, by omega, by have := is_short h2.out hN; have := h3.out.len; omega⟩, h6⟩
theorem Res.new' {w w' : World} {v : Value} {N : Int} {K L : Nat} (h : New w w' v N K) (hK : K ≤ L) (hL : L ≤ 9223372036854775807) : Res w w' v N L := by
  obtain ⟨A, n, c, zs, h1, h2, h3, h4, h5, h6⟩ := h
  exact ⟨A, n, c, zs, h1, h2, Lib.hid ⟨h3.out, h4, by omega, by omega⟩, h6⟩
theorem Gd.lt {w : World} {A : Option Addr} {n c K : Nat} {xs : List Int} (h : Hid (Gd w A n c xs K)) : V xs < P K := by
  have h1 := V_lt h.out.at_.ws
  have h2 := P_mono (show xs.length ≤ K by have := h.out.at_.len; have := h.out.le; omega)
  omega

section
variable {w : World} {A B C : Option Addr} {na ca nb cb nc cc K L : Nat} {xs ys zs : List Int}
theorem div_m (ha : Hid (Gd w A na ca xs K)) (hb : Hid (Gd w B nb cb ys L)) (hK : K ≤ 131072) (hL : L ≤ 131072) (h0 : V ys ≠ 0) :
    Calls Try.prog 49 #[.slice A na ca, .slice B nb cb] w fun e w' => ∃ v1 v2, e = .returned (.tuple #[v1, v2, .int .i64 0]) ∧ Res w w' v1 (V xs / V ys) K ∧ Res w w' v2 (V xs % V ys) L := by
  have hy := V_nonneg hb.out.at_.ws
  have hx := V_nonneg ha.out.at_.ws
  have h1 := Gd.lt ha
  have h2 := Gd.lt hb
  have hq : V xs / V ys < P K := by
    have := Int.ediv_le_self (V ys) hx
    omega
  have hr : V xs % V ys < P L := by
    have := Int.emod_lt_of_pos (V xs) (show 0 < V ys by omega)
    omega
  exact (div_u (na + 2) (nb + 2) (Lib.hid ha.out.at_) (Lib.hid hb.out.at_) (by have := ha.out.le; omega) (by have := hb.out.le; omega) ha.out.cap hb.out.cap ha.out.max hb.out.max (Nat.le_refl _) (Nat.le_refl _) h0).mono
    fun _ _ ⟨v1, v2, h, g1, g2⟩ => ⟨v1, v2, h, Res.new g1 hq (by have := ha.out.le; omega), Res.new g2 hr (by have := hb.out.le; omega)⟩
theorem rest_m (ha : Hid (Gd w A na ca xs K)) (hb : Hid (Gd w B nb cb ys L)) (hK : K ≤ 131072) (hL : L ≤ 131072) (h0 : V ys ≠ 0) :
    Calls Try.prog 38 #[.slice A na ca, .slice B nb cb] w fun e w' => ∃ v, e = .returned (.tuple #[v, .int .i64 0]) ∧ Res w w' v (V xs % V ys) L := by
  have HD := Lib.hid (div_m ha hb hK hL h0)
  clear ha hb h0
  go_enter Try.func38, Try.ntmps38
  go_wp2_with fail
  go_at_call 49
  refine HD.out.mono ?_
  rintro e w1 ⟨v1, v2, rfl, h1, h2⟩
  have H2 := Lib.hid h2
  obtain ⟨A1, n1, c1, z1, rfl, _⟩ := h1
  obtain ⟨A2, n2, c2, rfl⟩ := h2.shape
  clear h2 HD
  go_wp2_with fail
  go_ret2
  exact ⟨_, rfl, H2.out⟩
theorem restE_m (hb : Hid (Gd w B nb cb ys L)) (hL : L ≤ 131072) (h0 : V ys = 0) :
    Calls Try.prog 38 #[.slice A na ca, .slice B nb cb] w fun e w' => e = .returned (.tuple #[.slice none 0 0, .int .i64 2]) ∧ Below w.heap.size w w' := by
  have HD := Lib.hid (div0_u (A := A) (na := na) (ca := ca) (Lib.hid hb.out.at_) (by have := hb.out.le; omega) hb.out.cap hb.out.max h0)
  clear hb h0
  go_enter Try.func38, Try.ntmps38
  go_wp2_with fail
  go_at_call 49
  refine HD.out.mono ?_
  rintro e w1 ⟨rfl, hb⟩
  have HB := Lib.hid hb
  clear HD hb
  go_wp2_with fail
  go_ret2
  exact ⟨rfl, HB.out⟩
theorem add_m (ha : Hid (Gd w A na ca xs K)) (hb : Hid (Gd w B nb cb ys L)) (hK : K ≤ 131072) (hL : L ≤ 131072) (M : Nat) (hM : max K L + 1 ≤ M) (hM' : M ≤ 1048576) :
    Calls Try.prog 39 #[.slice A na ca, .slice B nb cb] w fun e w' => ∃ v, e = .returned v ∧ Res w w' v (V xs + V ys) M :=
  (add_u (max na nb + 1) (Lib.hid ha.out.at_) (Lib.hid hb.out.at_) (by have := ha.out.le; omega) (by have := hb.out.le; omega) (Nat.le_refl _)).mono fun _ _ ⟨v, h, g⟩ => ⟨v, h, Res.new' g (by have := ha.out.le; have := hb.out.le; omega) (by omega)⟩
theorem sub_m (ha : Hid (Gd w A na ca xs K)) (hb : Hid (Gd w B nb cb ys L)) (hK : K ≤ 131072) (hL : L ≤ 131072) (M : Nat) (hM : max K L ≤ M) (hM' : M ≤ 1048576) (hv : V ys ≤ V xs) :
    Calls Try.prog 46 #[.slice A na ca, .slice B nb cb] w fun e w' => ∃ v, e = .returned (.tuple #[v, .int .i64 0]) ∧ Res w w' v (V xs - V ys) M :=
  (sub_u (max na nb) (Lib.hid ha.out.at_) (Lib.hid hb.out.at_) (by have := ha.out.le; omega) (by have := hb.out.le; omega) (Nat.le_refl _) hv).mono fun _ _ ⟨v, h, g⟩ => ⟨v, h, Res.new' g (by have := ha.out.le; have := hb.out.le; omega) (by omega)⟩
theorem mul_m (ha : Hid (Gd w A na ca xs K)) (hb : Hid (Gd w B nb cb ys L)) (hK : K ≤ 131072) (hL : L ≤ 131072) (M : Nat) (hM : K + L ≤ M) (hM' : M ≤ 1048576) :
    Calls Try.prog 47 #[.slice A na ca, .slice B nb cb] w fun e w' => ∃ v, e = .returned v ∧ Res w w' v (V xs * V ys) M :=
  (mul_u (na + nb) (Lib.hid ha.out.at_) (Lib.hid hb.out.at_) (by have := ha.out.le; omega) (by have := hb.out.le; omega) ha.out.cap hb.out.cap ha.out.max hb.out.max (Nat.le_refl _)).mono fun _ _ ⟨v, h, g⟩ => ⟨v, h, Res.new' g (by have := ha.out.le; have := hb.out.le; omega) (by omega)⟩
theorem trim_m (ha : Hid (Gd w A na ca xs K)) (hK : K ≤ 131072) :
    Calls Try.prog 50 #[.slice A na ca] w fun e w' => ∃ v, e = .returned v ∧ Res w w' v (V xs) K :=
  (trim_u na (Lib.hid ha.out.at_) (by have := ha.out.le; omega) ha.out.cap ha.out.max (Nat.le_refl _)).mono fun _ _ ⟨v, h, g⟩ => ⟨v, h, Res.new' g ha.out.le (by omega)⟩
theorem add3_m (ha : Hid (Gd w A na ca xs K)) (hb : Hid (Gd w B nb cb ys K)) (hc : Hid (Gd w C nc cc zs L)) (hK : K ≤ 65536) (hL : L ≤ 65536) (h0 : V zs ≠ 0) :
    Calls Try.prog 10 #[.slice A na ca, .slice B nb cb, .slice C nc cc] w fun e w' => ∃ v, e = .returned (.tuple #[v, .int .i64 0]) ∧ Res w w' v ((V xs + V ys) % V zs) L := by
  have H1 := Lib.hid (add_m ha hb (by omega) (by omega) (K + 1) (by omega) (by omega))
  clear ha hb
  go_enter Try.func10, Try.ntmps10
  go_wp2_with fail
  go_at_call 39
  refine H1.out.mono ?_
  rintro e w1 ⟨v, rfl, A1, n1, c1, z1, rfl, i1, g1, hb⟩
  have H2 := Lib.hid (rest_m g1 (Gd.step hc hb) (by omega) (by omega) h0)
  have HB := Lib.hid hb
  have HE := Lib.hid i1.out.v
  clear H1 hb g1 i1 h0 hc
  go_wp2_with fail
  go_at_call 38
  refine H2.out.mono ?_
  rintro e w2 ⟨v, rfl, hr⟩
  have HR := Lib.hid ((hr.from HB.out).eq (by rw [HE.out]))
  obtain ⟨A2, n2, c2, rfl⟩ := hr.shape
  clear hr H2
  go_wp2_with fail
  go_ret2
  exact ⟨_, rfl, HR.out⟩
theorem add3E_m (ha : Hid (Gd w A na ca xs K)) (hb : Hid (Gd w B nb cb ys K)) (hc : Hid (Gd w C nc cc zs L)) (hK : K ≤ 65536) (hL : L ≤ 65536) (h0 : V zs = 0) :
    Calls Try.prog 10 #[.slice A na ca, .slice B nb cb, .slice C nc cc] w fun e w' => e = .returned (.tuple #[.slice none 0 0, .int .i64 2]) ∧ Below w.heap.size w w' := by
  have H1 := Lib.hid (add_m ha hb (by omega) (by omega) (K + 1) (by omega) (by omega))
  clear ha hb
  go_enter Try.func10, Try.ntmps10
  go_wp2_with fail
  go_at_call 39
  refine H1.out.mono ?_
  rintro e w1 ⟨v, rfl, A1, n1, c1, z1, rfl, i1, g1, hb⟩
  have H2 := Lib.hid (restE_m (A := A1) (na := n1) (ca := c1) (Gd.step hc hb) (by omega) h0)
  have HB := Lib.hid hb
  clear H1 hb g1 i1 h0 hc
  go_wp2_with fail
  go_at_call 38
  refine H2.out.mono ?_
  rintro e w2 ⟨rfl, hb⟩
  have HB2 := Lib.hid (below_trans HB.out hb)
  clear hb H2
  go_wp2_with fail
  go_ret2
  exact ⟨rfl, HB2.out⟩
theorem mul3_m (ha : Hid (Gd w A na ca xs K)) (hb : Hid (Gd w B nb cb ys K)) (hc : Hid (Gd w C nc cc zs L)) (hK : K ≤ 65536) (hL : L ≤ 65536) (h0 : V zs ≠ 0) :
    Calls Try.prog 17 #[.slice A na ca, .slice B nb cb, .slice C nc cc] w fun e w' => ∃ v, e = .returned (.tuple #[v, .int .i64 0]) ∧ Res w w' v ((V xs * V ys) % V zs) L := by
  have H1 := Lib.hid (mul_m ha hb (by omega) (by omega) (K + K) (by omega) (by omega))
  clear ha hb
  go_enter Try.func17, Try.ntmps17
  go_wp2_with fail
  go_at_call 47
  refine H1.out.mono ?_
  rintro e w1 ⟨v, rfl, A1, n1, c1, z1, rfl, i1, g1, hb⟩
  have H2 := Lib.hid (rest_m g1 (Gd.step hc hb) (by omega) (by omega) h0)
  have HB := Lib.hid hb
  have HE := Lib.hid i1.out.v
  clear H1 hb g1 i1 h0 hc
  go_wp2_with fail
  go_at_call 38
  refine H2.out.mono ?_
  rintro e w2 ⟨v, rfl, hr⟩
  have HR := Lib.hid ((hr.from HB.out).eq (by rw [HE.out]))
  obtain ⟨A2, n2, c2, rfl⟩ := hr.shape
  clear hr H2
  go_wp2_with fail
  go_ret2
  exact ⟨_, rfl, HR.out⟩
theorem mul3E_m (ha : Hid (Gd w A na ca xs K)) (hb : Hid (Gd w B nb cb ys K)) (hc : Hid (Gd w C nc cc zs L)) (hK : K ≤ 65536) (hL : L ≤ 65536) (h0 : V zs = 0) :
    Calls Try.prog 17 #[.slice A na ca, .slice B nb cb, .slice C nc cc] w fun e w' => e = .returned (.tuple #[.slice none 0 0, .int .i64 2]) ∧ Below w.heap.size w w' := by
  have H1 := Lib.hid (mul_m ha hb (by omega) (by omega) (K + K) (by omega) (by omega))
  clear ha hb
  go_enter Try.func17, Try.ntmps17
  go_wp2_with fail
  go_at_call 47
  refine H1.out.mono ?_
  rintro e w1 ⟨v, rfl, A1, n1, c1, z1, rfl, i1, g1, hb⟩
  have H2 := Lib.hid (restE_m (A := A1) (na := n1) (ca := c1) (Gd.step hc hb) (by omega) h0)
  have HB := Lib.hid hb
  clear H1 hb g1 i1 h0 hc
  go_wp2_with fail
  go_at_call 38
  refine H2.out.mono ?_
  rintro e w2 ⟨rfl, hb⟩
  have HB2 := Lib.hid (below_trans HB.out hb)
  clear hb H2
  go_wp2_with fail
  go_ret2
  exact ⟨rfl, HB2.out⟩
theorem mod_sub4 (a b n : Int) : (a + (n - b % n)) % n = (a - b) % n := by
  rw [show a + (n - b % n) = (a - b % n) + n * 1 by omega, Int.add_mul_emod_self_left, Int.sub_emod, Int.emod_emod_of_dvd b (Int.dvd_refl n), ← Int.sub_emod]
theorem sub3_m (ha : Hid (Gd w A na ca xs K)) (hb : Hid (Gd w B nb cb ys K)) (hc : Hid (Gd w C nc cc zs L)) (hK : K ≤ 65535) (hL : L ≤ 65535) (h0 : V zs ≠ 0) :
    Calls Try.prog 16 #[.slice A na ca, .slice B nb cb, .slice C nc cc] w fun e w' => ∃ v, e = .returned (.tuple #[v, .int .i64 0]) ∧ Res w w' v ((V xs - V ys) % V zs) L := by
  have hz0 := V_nonneg hc.out.at_.ws
  have hzp : 0 < V zs := by omega
  have HZP := Lib.hid hzp
  have H0 := Lib.hid h0
  have H1 := Lib.hid (rest_m hb hc (by omega) (by omega) h0)
  clear hb h0 hz0 hzp
  go_enter Try.func16, Try.ntmps16
  try simp only [List.append]
  go_wp2_with fail
  go_at_call 38
  refine H1.out.mono ?_
  rintro e w1 ⟨v, rfl, A1, n1, c1, z1, rfl, i1, g1, hb1⟩
  have HB := Lib.hid hb1
  replace ha := Gd.step ha hb1
  replace hc := Gd.step hc hb1
  have hle : V z1 ≤ V zs := by
    rw [i1.out.v]
    have := Int.emod_lt_of_pos (V ys) HZP.out
    omega
  have H2 := Lib.hid (sub_m hc g1 (by omega) (by omega) L (by omega) (by omega) hle)
  clear H1 hb1 g1 hle
  go_wp2_with fail
  go_at_call 46
  refine H2.out.mono ?_
  rintro e w2 ⟨v, rfl, A2, n2, c2, z2, rfl, i2, g2, hb2⟩
  replace HB := Lib.hid (below_trans HB.out hb2)
  replace ha := Gd.step ha hb2
  replace hc := Gd.step hc hb2
  have H3 := Lib.hid (add_m ha g2 (by omega) (by omega) (max K L + 1) (by omega) (by omega))
  clear H2 hb2 g2 ha
  go_wp2_with fail
  go_at_call 39
  refine H3.out.mono ?_
  rintro e w3 ⟨v, rfl, A3, n3, c3, z3, rfl, i3, g3, hb3⟩
  replace HB := Lib.hid (below_trans HB.out hb3)
  replace hc := Gd.step hc hb3
  have H5 := Lib.hid (rest_m g3 hc (by omega) (by omega) H0.out)
  have HE := Lib.hid (show V z3 % V zs = (V xs - V ys) % V zs by rw [i3.out.v, i2.out.v, i1.out.v, mod_sub4])
  clear H3 hb3 g3 hc i1 i2 i3
  go_wp2_with fail
  go_at_call 38
  refine H5.out.mono ?_
  rintro e w5 ⟨v, rfl, hr⟩
  have HR := Lib.hid ((hr.from HB.out).eq HE.out)
  obtain ⟨A5, n5, c5, rfl⟩ := hr.shape
  clear hr H5
  go_wp2_with fail
  go_ret2
  exact ⟨_, rfl, HR.out⟩
theorem sub3E_m (hc : Hid (Gd w C nc cc zs L)) (hL : L ≤ 65536) (h0 : V zs = 0) :
    Calls Try.prog 16 #[.slice A na ca, .slice B nb cb, .slice C nc cc] w fun e w' => e = .returned (.tuple #[.slice none 0 0, .int .i64 2]) ∧ Below w.heap.size w w' := by
  have H1 := Lib.hid (restE_m (A := B) (na := nb) (ca := cb) hc (by omega) h0)
  clear hc h0
  go_enter Try.func16, Try.ntmps16
  try simp only [List.append]
  go_wp2_with fail
  go_at_call 38
  refine H1.out.mono ?_
  rintro e w1 ⟨rfl, hb⟩
  have HB := Lib.hid hb
  clear H1 hb
  go_wp2_with fail
  go_ret2
  exact ⟨rfl, HB.out⟩
theorem radix_m (k : Nat) (hk : k ≤ 512) (hc : Hid (Gd w C nc cc zs L)) (hL : L ≤ 65536) (h0 : V zs ≠ 0) :
    Calls Try.prog 14 #[.int .i64 (k : Int), .slice C nc cc] w fun e w' => ∃ v, e = .returned (.tuple #[v, .int .i64 0]) ∧ Res w w' v (P k % V zs) L := by
  have hmk := fun W => make_nat (k + 1) (by omega) W
  simp only [Int.natCast_add, Int.natCast_one] at hmk
  have g0 : Bk (w.alloc (.cells (us (List.replicate (k + 1) 0)) 29)) w.heap.size 29 (us (List.replicate (k + 1) 0)) := Bk.new _ _ _
  have hl : k < (List.replicate (k + 1) (0 : Int)).length := by simp
  have c5 : (w.alloc (.cells (us (List.replicate (k + 1) 0)) 29)).cell? ⟨w.heap.size, k, none⟩ = some (.int .u64 (Nt.at_ (List.replicate (k + 1) 0) k)) := (g0.cell _).trans (us_get hl)
  have f5 : (w.alloc (.cells (us (List.replicate (k + 1) 0)) 29)).frozen? ⟨w.heap.size, k, none⟩ = false := g0.frozen _
  have hr : Hid (Res w (w.alloc (.cells (us ((List.replicate (k + 1) 0).set k 1)) 29)) (.slice (some ⟨w.heap.size, 0, none⟩) (k + 1) (k + 1)) (P k) 513) := by
    have g1 : Bk (w.alloc (.cells (us ((List.replicate (k + 1) 0).set k 1)) 29)) w.heap.size 29 (us ((List.replicate (k + 1) 0).set k 1)) := Bk.new _ _ _
    have hw : Ws ((List.replicate (k + 1) 0).set k 1) := (Ws.zeros _).set k (by unfold Wd.W; omega)
    have hz : Nt.at_ (List.replicate (k + 1) (0 : Int)) k = 0 := by unfold Nt.at_; rw [List.getElem?_replicate]; split <;> rfl
    refine Lib.hid ⟨_, _, _, (List.replicate (k + 1) 0).set k 1, rfl, Lib.hid ⟨hw, trim_of_last (.inr ?_), ?_⟩, Lib.hid ⟨g1.rd0 g1.lt hw (by simp), Nat.le_refl _, by omega, by omega⟩, below_alloc _⟩
    · rw [List.length_set, List.length_replicate, Nat.add_sub_cancel, at_set _ _ _ _ hl, if_pos rfl]; decide
    · rw [V_set _ _ _ hl, V_zeros, hz]; omega
  obtain ⟨A1, n1, c1, z1, he, i1, g1, hb1⟩ := hr.out
  cases he
  have H1 := rest_m g1 (Gd.step hc hb1) (by omega) (by omega) h0
  rw [← us_set] at H1
  have H1 := Lib.hid H1
  have HB := Lib.hid hb1
  have HE := Lib.hid i1.out.v
  have hk' : (k : Int) ≤ 512 := by omega
  clear g0 hl hr i1 g1 hb1 hc h0
  go_enter Try.func14, Try.ntmps14
  go_wp2_with fail
  go_at_call 38
  refine H1.out.mono ?_
  rintro e w2 ⟨v, rfl, hr⟩
  rw [us_set] at hr
  have HR := Lib.hid ((hr.from HB.out).eq (by rw [HE.out]))
  obtain ⟨A2, n2, c2, rfl⟩ := hr.shape
  clear hr H1
  go_wp2_with fail
  go_ret2
  exact ⟨_, rfl, HR.out⟩
theorem radixE_m (k : Int) (hc : Hid (Gd w C nc cc zs L)) (hL : L ≤ 65536) (h0 : (k < 0 ∨ 512 < k) ∨ V zs = 0) :
    Calls Try.prog 14 #[.int .i64 k, .slice C nc cc] w fun e w' => e = .returned (.tuple #[.slice none 0 0, .int .i64 2]) ∧ Below w.heap.size w w' := by
  by_cases hk : k < 0
  · clear hc h0
    go_enter Try.func14, Try.ntmps14
    go_wp2_with fail
    go_ret2
    exact ⟨rfl, Below.refl _ _⟩
  · by_cases hk2 : 512 < k
    · clear hc h0
      go_enter Try.func14, Try.ntmps14
      go_wp2_with fail
      go_ret2
      exact ⟨rfl, Below.refl _ _⟩
    · obtain ⟨k, rfl⟩ : ∃ j : Nat, k = j := ⟨k.toNat, by omega⟩
      have h0 : V zs = 0 := by rcases h0 with h | h; omega; exact h
      have hmk := fun W => make_nat (k + 1) (by omega) W
      simp only [Int.natCast_add, Int.natCast_one] at hmk
      have g0 : Bk (w.alloc (.cells (us (List.replicate (k + 1) 0)) 29)) w.heap.size 29 (us (List.replicate (k + 1) 0)) := Bk.new _ _ _
      have hl : k < (List.replicate (k + 1) (0 : Int)).length := by simp
      have c5 : (w.alloc (.cells (us (List.replicate (k + 1) 0)) 29)).cell? ⟨w.heap.size, k, none⟩ = some (.int .u64 (Nt.at_ (List.replicate (k + 1) 0) k)) := (g0.cell _).trans (us_get hl)
      have f5 : (w.alloc (.cells (us (List.replicate (k + 1) 0)) 29)).frozen? ⟨w.heap.size, k, none⟩ = false := g0.frozen _
      have H1 := fun o => Lib.hid (restE_m (w := w.alloc o) (A := some ⟨w.heap.size, 0, none⟩) (na := k + 1) (ca := k + 1) (Gd.step hc (below_alloc o)) (by omega) h0)
      have H1 := H1 (.cells ((us (List.replicate (k + 1) 0)).setIfInBounds k (.int .u64 1)) 29)
      have hk' : (k : Int) ≤ 512 := by omega
      clear hk hk2 g0 hl hc h0
      go_enter Try.func14, Try.ntmps14
      go_wp2_with fail
      go_at_call 38
      refine H1.out.mono ?_
      rintro e w2 ⟨rfl, hb⟩
      have HB2 := Lib.hid (bel_1 _ hb)
      clear hb H1
      go_wp2_with fail
      go_ret2
      exact ⟨rfl, HB2.out⟩
end
end Nt
end Go.Proofs.Ytopajockmcgpmaa
