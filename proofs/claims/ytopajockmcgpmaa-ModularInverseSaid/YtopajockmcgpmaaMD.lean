/- What NatBits needs of bits, limbs, appended rows. | The landed code of package modular: Pow of n 0; cut; Reduce. -/
import Derived.Test.YtopajockmcgpmaaB6
import Derived.Test.YtopajockmcgpmaaB7
import Derived.Test.YtopajockmcgpmaaB3
import Derived.Test.YtopajockmcgpmaaMC
import Derived.DataElems
import Derived.Deep.RegionLaw
namespace Go.Proofs.Ytopajockmcgpmaa
open Go Go.RowKit
namespace Nt
open Wd Sti
set_option linter.unusedVariables false
theorem and_low1 {z : Int} {r : Nat} (h1 : 0 ≤ z) (h2 : z ≤ 18446744073709551615) : bits BinOp.and IntKind.u64 (z / 2 ^ r) 1 = z / 2 ^ r % 2 := by
  have hp := pow_pos2 r
  exact Wd.and_one _ (Int.ediv_nonneg h1 (by omega)) (Int.le_trans (Int.ediv_le_self _ h1) h2)
theorem bit_tt {z : Int} {r : Nat} (h1 : 0 ≤ z) (h2 : z ≤ 18446744073709551615) (h : z / 2 ^ r % 2 = 1) : (bits BinOp.and IntKind.u64 (z / 2 ^ r) 1 == 1) = true := by
  rw [and_low1 h1 h2, h]; rfl
theorem bit_ff {z : Int} {r : Nat} (h1 : 0 ≤ z) (h2 : z ≤ 18446744073709551615) (h : z / 2 ^ r % 2 ≠ 1) : (bits BinOp.and IntKind.u64 (z / 2 ^ r) 1 == 1) = false := by
  rw [and_low1 h1 h2]; simpa using h
/-! ### a row with its head cut off; its limbs moved up -/
theorem tail_rd {w : World} {B : Nat} {ad : Addr} {n c M : Nat} {xs : List Int} (h : Rd w B (some ad) n xs) (hM : M ≤ n) (hc : n ≤ c) :
    Rd w B (if c = M then some ad else some (ad.add M)) (n - M) (xs.drop M) := by
  refine ⟨by rw [List.length_drop, h.len], h.ws.drop M, fun h0 => ?_⟩
  obtain ⟨ad', e, hb, hcell⟩ := h.rd (by omega)
  cases e
  refine ⟨ad.add M, if_neg (by omega), by rw [show (ad.add M).block = ad.block by unfold Addr.add; split <;> rfl]; exact hb, fun j hj => ?_⟩
  have e2 : Nt.at_ (xs.drop M) j = Nt.at_ xs (M + j) := by
    unfold Nt.at_
    simp [List.getElem?_drop]
  have e1 : (ad.add M).add j = ad.add (M + j) := Addr.add_add ad M j
  rw [e2, e1]
  exact hcell _ (by omega)
theorem low_up (xs : List Int) (k M : Nat) (h : min k xs.length = M) : lo xs k + P k * V (xs.drop M) = V xs := by
  rcases Nat.le_total k xs.length with h1 | h1
  · obtain rfl : k = M := by omega
    exact (V_split xs k).symm
  · rw [List.drop_of_length_le (by omega), lo_all h1]
    show _ + P k * 0 = _
    omega
theorem cutG {G R : Prop} (f : G → R) (g : G) : R := f g
theorem step_append_eq {P : Program} {ops : Array Oper} {o : Oper} {a : Act} {w : World} {K : Act → World → Prop} {Q : Exit → Act → World → Prop} {E : Prop}
    (hg : o.guard = none) (s x : Operand) (t : TypeId) (hop : o.op = Op.call { callee := Callee.builtin Builtin.append, args := #[s, x], argTypes := #[t, t] })
    (v sx : Value) (hs : a.eval s = v) (hx : a.eval x = sx) (v' : Value) (w' : World)
    (hrun : (Builtin.append_ #[t, t] o.type #[v, sx]).run P w = .ok v' w') (hK : K (a.put o.dst v') w') :
    if Region.wanted o (yielded ops a.tmps) = true then Oper.wp P o a w K Q else E := by
  have hw : Region.wanted o (yielded ops a.tmps) = true := by simp [Region.wanted, hg]
  rw [if_pos hw]
  unfold Oper.wp
  simp [execOp, hop, resolve, invoke, builtin, hs, hx, hrun, Result.andThen]
  exact hK
theorem of_wanted {c : Bool} {A B : Prop} (h : c = true) (hA : A) : if c = true then A else B := by rw [if_pos h]; exact hA
theorem op_append_eq {P : Program} {o : Oper} {a : Act} {w : World} {K : Act → World → Prop} {Q : Exit → Act → World → Prop}
    (s x : Operand) (t : TypeId) (hop : o.op = Op.call { callee := Callee.builtin Builtin.append, args := #[s, x], argTypes := #[t, t] })
    (v sx : Value) (hs : a.eval s = v) (hx : a.eval x = sx) (v' : Value) (w' : World)
    (hrun : (Builtin.append_ #[t, t] o.type #[v, sx]).run P w = .ok v' w') (hK : K (a.put o.dst v') w') : Oper.wp P o a w K Q := by
  unfold Oper.wp
  simp [execOp, hop, resolve, invoke, builtin, hs, hx, hrun, Result.andThen]
  exact hK
theorem bitk_u {w : World} {A : Option Addr} {n c : Nat} {xs : List Int} (i : Nat) (hi : i ≤ 1000) (ha : Hid (At w A n xs)) (b : Bool) (h : decide (V xs / 2 ^ i % 2 = 1) = b) :
    Calls Try.prog 43 #[.slice A n c, .int .i64 (i : Int)] w fun e w' => e = .returned (.bool b) ∧ Below w.heap.size w w' := by
  refine (bit_n A n c w.heap.size i xs w ha.out (by simp [Lit.wf, IntKind.min, IntKind.max, IntKind.signed, IntKind.bits]; omega)).mono fun e w' ⟨h1, h2⟩ => ⟨?_, by rw [h2]; exact Below.refl _ _⟩
  rw [h1, ← h]
  unfold bitAt
  rw [decide_eq_true (by omega), Bool.true_and, Int.toNat_natCast]
theorem bitp_u {w : World} {A : Option Addr} {n c : Nat} {xs : List Int} (nb : Nat) (h1 : 1 ≤ nb) (hi : nb ≤ 1000) (ha : Hid (At w A n xs)) (b : Bool) (h : decide (V xs / 2 ^ (nb - 1) % 2 = 1) = b) :
    Calls Try.prog 43 #[.slice A n c, .int .i64 ((nb : Int) - 1)] w fun e w' => e = .returned (.bool b) ∧ Below w.heap.size w w' := by
  rw [show (nb : Int) - 1 = ((nb - 1 : Nat) : Int) by omega]
  exact bitk_u (nb - 1) (by omega) ha b h
theorem top_bit {N : Int} {n : Nat} (h : BitsR N n) (h0 : N ≠ 0) : N / 2 ^ (n - 1) % 2 = 1 := by
  obtain ⟨h1, h2⟩ := h.lo h0
  have hu := h.up
  have e : (2 : Int) ^ n = 2 * 2 ^ (n - 1) := by rw [show n = n - 1 + 1 by omega, Int.pow_succ, show n - 1 + 1 - 1 = n - 1 by omega]; omega
  have hp := pow_pos2 (n - 1)
  have : N / 2 ^ (n - 1) = 1 := by
    have a1 : 1 ≤ N / 2 ^ (n - 1) := (Int.le_ediv_iff_mul_le (by omega)).2 (by omega)
    have a2 : N / 2 ^ (n - 1) < 2 := Int.ediv_lt_of_lt_mul (by omega) (by omega)
    omega
  rw [this]; rfl
theorem high_bit {N : Int} {n i : Nat} (h : BitsR N n) (h0 : 0 ≤ N) (hi : n ≤ i) : N / 2 ^ i % 2 ≠ 1 := by
  have h1 := h.up
  have h2 := pow_le hi
  rw [Int.ediv_eq_zero_of_lt h0 (by omega)]
  decide
theorem bits_trim {N : Int} {z : List Int} {n m : Nat} (h : BitsR N n) (hi : Is z N) (hw : Ws z) (hm : z.length = m + 1) : n = 64 * m + Lib.bitLen (Nt.at_ z m).toNat := by
  have h1 := nbits_R hw hi.tr
  rw [hi.v] at h1
  rw [h.uniq h1]
  unfold nbits
  rw [if_neg (by omega), hm, Nat.add_sub_cancel]
  omega
theorem rbits_u {w : World} (y : Int) (h1 : 0 ≤ y) (h2 : y ≤ 18446744073709551615) :
    Calls Try.prog 77 #[.int .u64 y] w fun e w' => e = .returned (.int .i64 ((Lib.bitLen y.toNat : Nat) : Int)) ∧ Below w.heap.size w w' :=
  (Wd.rbits_c y w ⟨h1, h2⟩).mono fun e w' ⟨h, g⟩ => ⟨h, by rw [g]; exact Below.refl _ _⟩
end Nt
end Go.Proofs.Ytopajockmcgpmaa
namespace Go.Proofs.Ytopajockmcgpmaa
open Go Go.RowKit
namespace Nt
open Wd Sti
set_option linter.unusedVariables false
/-- what is added makes the least limb nought -/
theorem cut_zero {t0 n0 x : Int} (hx : (n0 * x + 1) % 18446744073709551616 = 0) : (t0 + n0 * (t0 * x % 18446744073709551616)) % 18446744073709551616 = 0 := by
  rw [Int.add_emod, mod_mul_r, ← Int.add_emod, show t0 + n0 * (t0 * x) = t0 * (n0 * x + 1) by rw [Int.mul_add, Int.mul_one, Int.mul_left_comm]; omega, Int.mul_emod, hx, Int.mul_zero]; rfl
theorem V_low (xs : List Int) : V xs = Nt.at_ xs 0 + 18446744073709551616 * V (xs.drop 1) := by
  have h := hi_succ xs 0
  rw [hi_zero] at h
  exact h
theorem cut_sum {xs zs : List Int} {x : Int} (hx : (Nt.at_ zs 0 * x + 1) % 18446744073709551616 = 0) : (V xs + V zs * (Nt.at_ xs 0 * x % 18446744073709551616)) % 18446744073709551616 = 0 := by
  have h := cut_zero (t0 := Nt.at_ xs 0) hx
  rw [V_low xs, V_low zs, Int.add_mul, Int.mul_assoc]
  generalize V (zs.drop 1) * (Nt.at_ xs 0 * x % 18446744073709551616) = p at *
  generalize Nt.at_ zs 0 * (Nt.at_ xs 0 * x % 18446744073709551616) = r at *
  omega
theorem is_tail {zs : List Int} {S : Int} (h : Is zs S) (hS : 0 < S) (h0 : S % 18446744073709551616 = 0) : 2 ≤ zs.length ∧ Is (zs.drop 1) (S / 18446744073709551616) := by
  have hl := V_low zs
  rw [h.v] at hl
  have hw := h.ws.at_ 0
  unfold Wd.W at hw
  have h1 : Nt.at_ zs 0 = 0 := by omega
  rw [h1] at hl
  have hne : zs ≠ [] := by
    intro e
    rw [e] at hl
    have : V (([] : List Int).drop 1) = 0 := rfl
    omega
  have ht := trim_last h.tr hne
  have h2 : 2 ≤ zs.length := by
    rcases Nat.lt_or_ge 1 zs.length with h2 | h2
    · exact h2
    · exfalso
      have : zs.length - 1 = 0 := by omega
      rw [this] at ht
      exact ht h1
  refine ⟨h2, h.ws.drop 1, trim_of_last (.inr ?_), by omega⟩
  have e : Nt.at_ (zs.drop 1) ((zs.drop 1).length - 1) = Nt.at_ zs (zs.length - 1) := by
    unfold Nt.at_
    rw [List.getElem?_drop, List.length_drop]
    congr 2
    omega
  rw [e]
  exact ht
theorem cut_lt {N n m : Int} (h0 : 0 ≤ N) (hN : N < n) (hm0 : 0 ≤ m) (hm : m ≤ 18446744073709551615) : (N + n * m) / 18446744073709551616 < n := by
  have h1 : n * m ≤ n * 18446744073709551615 := Int.mul_le_mul_of_nonneg_left hm (by omega)
  exact Int.ediv_lt_of_lt_mul (by omega) (by omega)
section
variable {w : World} {A B C : Option Addr} {na ca nb cb nc cc K L : Nat} {xs ys zs : List Int}
theorem powE_m (hc : Hid (Gd w C nc cc zs L)) (hL : L ≤ 65536) (h0 : V zs = 0) :
    Calls Try.prog 18 #[.slice A na ca, .slice B nb cb, .slice C nc cc] w fun e w' => e = .returned (.tuple #[.slice none 0 0, .int .i64 2]) ∧ Below w.heap.size w w' := by
  have hb0 : Below w.heap.size w ((w.alloc (.cells #[.slice C nc cc] 24)).alloc (.cells #[.int .u64 1] 29)) := (below_alloc _).alloc (by simp) _
  have H1 := Lib.hid (restE_m (A := some ⟨w.heap.size + 1, 0, none⟩) (na := 1) (ca := 1) (Gd.step hc hb0) (by omega) h0)
  have HB := Lib.hid hb0
  clear hc h0 hb0
  go_enter Try.func18, Try.ntmps18
  try simp only [List.append]
  go_wp2_with fail
  go_at_call 38
  refine H1.out.mono ?_
  rintro e w1 ⟨rfl, hb⟩
  have HB2 := Lib.hid ((below_trans HB.out hb).alloc (Nat.le_trans HB.out.size hb.size) (.cells #[.slice none 0 0] 24))
  clear H1 hb HB
  go_wp2_with fail
  go_ret2
  exact ⟨rfl, HB2.out⟩
set_option maxRecDepth 100000 in
set_option maxHeartbeats 2000000 in
theorem cut_m (ha : Hid (Gd w A na ca xs L)) (hc : Hid (Gd w C nc cc zs L)) (hL : L ≤ 65535) (x : Int) (hx : Wd.W x) (it : trim xs = xs) (hN : V xs < V zs) (hx1 : (Nt.at_ zs 0 * x + 1) % 18446744073709551616 = 0) :
    Calls Try.prog 45 #[.slice A na ca, .slice C nc cc, .int .u64 x] w fun e w' => ∃ v M, e = .returned v ∧ Res w w' v M L ∧ Hid (M < V zs ∧ ∃ q, M * 18446744073709551616 = V xs + V zs * q) := by
  rcases Nat.eq_zero_or_pos na with rfl | hn0
  · have hx0 : xs = [] := List.eq_nil_of_length_eq_zero ha.out.at_.len
    have HV : Hid (V xs = 0) := Lib.hid (by rw [hx0]; rfl)
    have HN := Lib.hid hN
    clear ha hc hx it hN hx1 hx0
    go_enter Try.func45, Try.ntmps45
    go_wp2_with fail
    go_ret
    exact ⟨_, 0, rfl, ⟨none, 0, 0, [], rfl, Lib.hid Is.nil, Gd.nil _ _, Below.refl _ _⟩, Lib.hid ⟨by have := HN.out; have := HV.out; omega, 0, by rw [HV.out, Int.mul_zero]; rfl⟩⟩
  · have hnx : V xs ≠ 0 := is_len it ha.out.at_.ws (by rw [ha.out.at_.len]; omega)
    have hx0 := V_nonneg ha.out.at_.ws
    have hw0 := ha.out.at_.ws.at_ 0
    obtain ⟨ad, rfl, _, hcell⟩ := Rd.at_ ha.out.at_ hn0
    have h0i : (0 : Int) < (na : Int) := by omega
    have hcell' : w.cell? ad = some (.int .u64 (Nt.at_ xs 0)) := by
      have e : ad.add 0 = ad := by unfold Addr.add; simp
      rw [e] at hcell; exact hcell
    have hsum := cut_sum (xs := xs) (zs := zs) hx1
    obtain ⟨m, hm⟩ : ∃ m, m = Nt.at_ xs 0 * x % 18446744073709551616 := ⟨_, rfl⟩
    have hmW : Wd.W m := by rw [hm]; exact W_mod _
    rw [← hm] at hsum
    have H1' := mul_m (Gd.step hc (below_alloc (.cells (us [m]) 29))) (lit_1 w m hmW) (by omega) (by omega) (L + 1) (by omega) (by omega)
    have H1 : Hid (Calls Try.prog 47 #[.slice C nc cc, .slice (some ⟨w.heap.size, 0, none⟩) 1 1] (w.alloc (.cells #[.int .u64 (IntKind.u64.wrap (Nt.at_ xs 0 * x))] 29)) fun e w' => ∃ v, e = .returned v ∧ Res (w.alloc (.cells (us [m]) 29)) w' v (V zs * V [m]) (L + 1)) := by rw [IntKind.wrap_u64, ← hm]; exact Lib.hid H1'
    have HM := Lib.hid hm
    have HS := Lib.hid hsum
    have HN := Lib.hid (show 0 < V xs ∧ V xs < V zs from ⟨by omega, hN⟩)
    have HMW := Lib.hid hmW
    unfold Wd.W at hw0 hx
    replace ha := Gd.step ha (below_alloc (w := w) (.cells (us [m]) 29))
    have HB0 := Lib.hid (below_alloc (w := w) (.cells (us [m]) 29))
    have hc2 := Lib.hid hc
    clear H1' hc hm hsum hN hnx hx0 hcell hmW it hx1
    go_enter Try.func45, Try.ntmps45
    go_wp2_with fail
    go_at_call 47
    refine H1.out.mono ?_
    rintro e w1 ⟨v, rfl, A1, n1, c1, z1, rfl, i1, g1, hb1⟩
    replace ha := Gd.step ha hb1
    replace HB0 := Lib.hid (below_trans HB0.out hb1)
    have H2 := Lib.hid (add_m ha g1 (by omega) (by omega) (L + 2) (by omega) (by omega))
    have e1 := i1.out.v
    rw [show V [m] = m by simp [V]] at e1
    rw [e1] at H2
    clear H1 hb1 ha g1 i1 e1
    go_wp2_with fail
    go_at_call 39
    refine H2.out.mono ?_
    rintro e w2 ⟨v, rfl, A2, n2, c2, z2, rfl, i2, g2, hb2⟩
    replace HB0 := Lib.hid (below_trans HB0.out hb2)
    have hmw := HMW.out
    have hnn := HN.out
    unfold Wd.W at hmw
    have hzm : 0 ≤ V zs * m := Int.mul_nonneg (by omega) hmw.1
    obtain ⟨hlen, it⟩ := is_tail i2.out (by omega) HS.out
    rw [g2.out.at_.len] at hlen
    have hlt := cut_lt (show 0 ≤ V xs by omega) hnn.2 hmw.1 hmw.2
    obtain ⟨ad2, rfl, _, _⟩ := Rd.at_ g2.out.at_ (show 0 < n2 by omega)
    have htl := tail_rd (M := 1) g2.out.at_ (by omega) g2.out.cap
    have hcap := g2.out.cap
    have hmax := g2.out.max
    rw [if_neg (by omega)] at htl
    have hdiv := Int.ediv_mul_cancel (Int.dvd_of_emod_eq_zero HS.out)
    have HQ := Lib.hid (show V xs + V zs * m = (V xs + V zs * m) / 18446744073709551616 * 18446744073709551616 from hdiv.symm)
    have HR : Hid (Res w w2 (.slice (some (ad2.add 1)) (n2 - 1) (c2 - 1)) ((V xs + V zs * m) / 18446744073709551616) L) := Lib.hid
      ⟨_, _, _, z2.drop 1, rfl, Lib.hid it, Lib.hid ⟨htl, by omega, by omega, by
        have := is_short it (Int.lt_of_lt_of_le hlt (Int.le_of_lt (Gd.lt hc2.out)))
        have := htl.len
        omega⟩, HB0.out⟩
    have HL := Lib.hid hlt
    have hn2i : (1 : Int) ≤ (n2 : Int) := by omega
    have hc2i : (1 : Int) < (c2 : Int) := by omega
    have hnci : (n2 : Int) ≤ (c2 : Int) := by omega
    clear H2 hb2 g2 i2 hmw hnn hzm it hlt htl hdiv hlen hcap
    go_wp2_with fail
    go_ret
    exact ⟨_, _, rfl, HR.out, Lib.hid ⟨HL.out, m, HQ.out.symm⟩⟩
theorem reduceE_m (k : Int) (hc : Hid (Gd w C nc cc zs L)) (hL : L ≤ 65535) (h0 : (k < 0 ∨ 512 < k) ∨ V zs = 0 ∨ V zs % 2 ≠ 1) :
    Calls Try.prog 15 #[.slice A na ca, .slice C nc cc, .int .i64 k] w fun e w' => e = .returned (.tuple #[.slice none 0 0, .int .i64 2]) ∧ Below w.heap.size w w' := by
  by_cases hk : k < 0
  · clear hc h0
    go_enter Try.func15, Try.ntmps15
    try simp only [List.append]
    go_wp2_with fail
    go_ret2
    exact ⟨rfl, Below.refl _ _⟩
  · by_cases hk2 : 512 < k
    · clear hc h0
      go_enter Try.func15, Try.ntmps15
      try simp only [List.append]
      go_wp2_with fail
      go_ret2
      exact ⟨rfl, Below.refl _ _⟩
    · have H1 := Lib.hid (constE_m hc (by omega) (by rcases h0 with h | h | h <;> omega))
      clear hc h0
      go_enter Try.func15, Try.ntmps15
      try simp only [List.append]
      go_wp2_with fail
      go_at_call 13
      refine H1.out.mono ?_
      rintro e w1 ⟨rfl, hb⟩
      have HB := Lib.hid hb
      clear H1 hb
      go_wp2_with fail
      go_ret2
      exact ⟨rfl, HB.out⟩
theorem red_step {M v n q p : Int} (h : M * 18446744073709551616 = v + n * q) : (M * (18446744073709551616 * p)) % n = (v * p) % n := by
  rw [← Int.mul_assoc, h, Int.add_mul, Int.mul_assoc, Int.add_mul_emod_self_left]
set_option maxRecDepth 100000 in
set_option maxHeartbeats 2000000 in
theorem reduce_m (k : Nat) (hk : k ≤ 512) (ha : Hid (Gd w A na ca xs K)) (hc : Hid (Gd w C nc cc zs L)) (hK : K ≤ 65536) (hL : L ≤ 65535) (h0 : V zs ≠ 0) (ho : V zs % 2 = 1) :
    Calls Try.prog 15 #[.slice A na ca, .slice C nc cc, .int .i64 (k : Int)] w fun e w' => ∃ v N, e = .returned (.tuple #[v, .int .i64 0]) ∧ Res w w' v N L ∧ Hid (0 ≤ N ∧ N < V zs ∧ (N * P k) % V zs = V xs % V zs) := by
  have H1 := Lib.hid (const_m hc (by omega) ho)
  have H0 := Lib.hid h0
  have hz0 := V_nonneg hc.out.at_.ws
  have HZP := Lib.hid (show 0 < V zs by omega)
  have hk' : (k : Int) ≤ 512 := by omega
  clear h0 ho hz0
  go_enter Try.func15, Try.ntmps15
  try simp only [List.append]
  go_wp2_with fail
  go_at_call 13
  refine H1.out.mono ?_
  rintro e w1 ⟨x, rfl, hxW, hx1, hb⟩
  have HB := Lib.hid hb
  have HXW := Lib.hid hxW
  have HX1 := Lib.hid hx1
  replace ha := Gd.step ha hb
  replace hc := Gd.step hc hb
  have H2 := Lib.hid (rest_m ha hc (by omega) (by omega) H0.out)
  clear H1 hb hxW hx1 ha
  go_wp2_with fail
  go_at_call 38
  refine H2.out.mono ?_
  rintro e w2 ⟨v, rfl, A2, n2, c2, z2, rfl, i2, g2, hb2⟩
  replace HB := Lib.hid (below_trans HB.out hb2)
  replace hc := Gd.step hc hb2
  clear H2 hb2
  go_wp2_with fail
  go_loopw [0, 31] (fun t i W => ∃ (j : Nat) (A1 : Option Addr) (n1 c1 : Nat) (o : List Int), j ≤ k ∧ t = .slice A1 n1 c1 ∧ i = .int .i64 (j : Int) ∧ Hid (trim o = o ∧ V o < V zs ∧ (V o * P j) % V zs = V xs % V zs) ∧ Hid (Gd W A1 n1 c1 o L) ∧ Hid (Below w2.heap.size w2 W)) (fun _ i _ => k - (intOf i).toNat)
  case atStart =>
    refine ⟨0, A2, n2, c2, z2, Nat.zero_le _, rfl, rfl, Lib.hid ⟨i2.out.tr, ?_, ?_⟩, g2, Lib.hid (Below.refl _ _)⟩
    · rw [i2.out.v]; exact Int.emod_lt_of_pos _ HZP.out
    · rw [i2.out.v, P_zero, Int.mul_one, Int.emod_emod_of_dvd _ (Int.dvd_refl _)]
  case round =>
    obtain ⟨j, A3, n3, c3, o, hj, rfl, rfl, hI, go, HW⟩ := hrel
    have hcr := Gd.step hc HW.out
    rcases Nat.lt_or_ge j k with hjk | hjk
    · have H3 := Lib.hid (cut_m go hcr hL x HXW.out hI.out.1 hI.out.2.1 HX1.out)
      have hjki : (j : Int) < (k : Int) := by omega
      clear hcr go
      go_wp2_with fail
      go_at_call 45
      refine H3.out.mono ?_
      rintro e w3 ⟨v, M, rfl, ⟨A4, n4, c4, o4, rfl, i4, g4, hb4⟩, hM⟩
      replace HW := Lib.hid (below_trans HW.out hb4)
      have HI' : Hid (trim o4 = o4 ∧ V o4 < V zs ∧ (V o4 * P (j + 1)) % V zs = V xs % V zs) := Lib.hid ⟨i4.out.tr, by rw [i4.out.v]; exact hM.out.1, by
        obtain ⟨q, hq⟩ := hM.out.2
        rw [i4.out.v, P_succ, red_step hq]
        exact hI.out.2.2⟩
      clear H3 hb4 i4 hM hI
      go_wp2_with fail
      go_roundw
      case rel => exact ⟨j + 1, _, _, _, _, by omega, rfl, by go_num, HI', g4, HW⟩
      case measure => (simp [intOf] <;> omega)
    · obtain rfl : j = k := by omega
      have HR : Hid (Res w wr (.slice A3 n3 c3) (V o) L) := Lib.hid ⟨A3, n3, c3, o, rfl, Lib.hid ⟨go.out.at_.ws, hI.out.1, rfl⟩, go, below_trans HB.out HW.out⟩
      have HV := Lib.hid (V_nonneg go.out.at_.ws)
      clear hcr go i2 g2 hc hjk
      go_wp2_with fail
      go_ret2
      exact ⟨_, _, rfl, HR.out, Lib.hid ⟨HV.out, hI.out.2⟩⟩
end
end Nt
end Go.Proofs.Ytopajockmcgpmaa
