/- What NatBits needs of bits, limbs, appended rows. -/
import Derived.Test.YtdklchejnpaenaaDoorHexM
import Derived.Test.YtdklchejnpaenaaDoorUni3
import Derived.Test.YtdklchejnpaenaaDoorWordRn
import Derived.DataElems
import Derived.Deep.RegionLaw
namespace Go.Proofs.YtdklchejnpaenaaDoor
open Go Go.RowKit
namespace Nt
open Wd Sti
set_option linter.unusedVariables false
theorem and_low1 {z : Int} {r : Nat} (h1 : 0 ≤ z) (h2 : z ≤ 18446744073709551615) : bits BinOp.and IntKind.u64 (z / 2 ^ r) 1 = z / 2 ^ r % 2 := by
  have hp := pow_pos2 r
  exact Wd.and_one _ (Int.ediv_nonneg h1 (by omega)) (Int.le_trans (Int.ediv_le_self _ h1) h2)
theorem bit_tt {z : Int} {r : Nat} (h1 : 0 ≤ z) (h2 : z ≤ 18446744073709551615) (h : z / 2 ^ r % 2 = 1) : (bits BinOp.and IntKind.u64 (z / 2 ^ r) 1 == 1) = true := by
  rw [and_low1 h1 h2, h]; rfl
theorem bit_ff {z : Int} {r : Nat} (h1 : 0 ≤ z) (h2 : z ≤ 18446744073709551615) (h : z / 2 ^ r % 2 ≠ 1) : (bits BinOp.and IntKind.u64 (z / 2 ^ r) 1 == 1) = false := by
  rw [and_low1 h1 h2]; simpa using h
theorem lowk_u {w : World} {A : Option Addr} {n c : Nat} {xs : List Int} (K k : Nat) (ha : Hid (At w A n xs)) (la : n ≤ 1048576) (hA : n ≤ c) (hA' : c ≤ 9223372036854775807) (hk : k ≤ 1000) (hK : min k n ≤ K) :
    Calls Tryd.prog 25 #[.slice A n c, .int .i64 (k : Int)] w fun e w' => ∃ v, e = .returned v ∧ New w w' v (lo xs k) K :=
  (low_n A n c w.heap.size k xs w ha.out (Nat.le_refl _) ⟨hA, by omega⟩ hA' (by simp [Lit.wf, IntKind.min, IntKind.max, IntKind.signed, IntKind.bits]; omega)).mono fun e w' ⟨v, h, g⟩ => ⟨v, h, New.of g hK⟩
/-! ### a row with its head cut off; its limbs moved up -/
theorem tail_rd {w : World} {B : Nat} {ad : Addr} {n c M : Nat} {xs : List Int} (h : Rd w B (some ad) n xs) (hM : M ≤ n) (hc : n ≤ c) :
    Rd w B (if c = M then some ad else some (ad.add M)) (n - M) (xs.drop M) := by
  refine ⟨by rw [List.length_drop, h.len], h.ws.drop M, fun h0 => ?_⟩
  obtain ⟨ad', e, hb, hcell⟩ := h.rd (by omega)
  cases e
  refine ⟨ad.add M, if_neg (by omega), by rw [show (ad.add M).block = ad.block by unfold Addr.add; split <;> rfl]; exact hb, fun j hj => ?_⟩
  have e2 : Nt.at_ (xs.drop M) j = Nt.at_ xs (M + j) := by
    unfold Nt.at_
    simp [List.getElem?_drop]
  have e1 : (ad.add M).add j = ad.add (M + j) := Addr.add_add ad M j
  rw [e2, e1]
  exact hcell _ (by omega)
theorem low_up (xs : List Int) (k M : Nat) (h : min k xs.length = M) : lo xs k + P k * V (xs.drop M) = V xs := by
  rcases Nat.le_total k xs.length with h1 | h1
  · obtain rfl : k = M := by omega
    exact (V_split xs k).symm
  · rw [List.drop_of_length_le (by omega), lo_all h1]
    show _ + P k * 0 = _
    omega
theorem cutG {G R : Prop} (f : G → R) (g : G) : R := f g
theorem step_append_eq {P : Program} {ops : Array Oper} {o : Oper} {a : Act} {w : World} {K : Act → World → Prop} {Q : Exit → Act → World → Prop} {E : Prop}
    (hg : o.guard = none) (s x : Operand) (t : TypeId) (hop : o.op = Op.call { callee := Callee.builtin Builtin.append, args := #[s, x], argTypes := #[t, t] })
    (v sx : Value) (hs : a.eval s = v) (hx : a.eval x = sx) (v' : Value) (w' : World)
    (hrun : (Builtin.append_ #[t, t] o.type #[v, sx]).run P w = .ok v' w') (hK : K (a.put o.dst v') w') :
    if Region.wanted o (yielded ops a.tmps) = true then Oper.wp P o a w K Q else E := by
  have hw : Region.wanted o (yielded ops a.tmps) = true := by simp [Region.wanted, hg]
  rw [if_pos hw]
  unfold Oper.wp
  simp [execOp, hop, resolve, invoke, builtin, hs, hx, hrun, Result.andThen]
  exact hK
theorem of_wanted {c : Bool} {A B : Prop} (h : c = true) (hA : A) : if c = true then A else B := by rw [if_pos h]; exact hA
theorem op_append_eq {P : Program} {o : Oper} {a : Act} {w : World} {K : Act → World → Prop} {Q : Exit → Act → World → Prop}
    (s x : Operand) (t : TypeId) (hop : o.op = Op.call { callee := Callee.builtin Builtin.append, args := #[s, x], argTypes := #[t, t] })
    (v sx : Value) (hs : a.eval s = v) (hx : a.eval x = sx) (v' : Value) (w' : World)
    (hrun : (Builtin.append_ #[t, t] o.type #[v, sx]).run P w = .ok v' w') (hK : K (a.put o.dst v') w') : Oper.wp P o a w K Q := by
  unfold Oper.wp
  simp [execOp, hop, resolve, invoke, builtin, hs, hx, hrun, Result.andThen]
  exact hK
theorem fit13_u {w : World} {A : Option Addr} {n c : Nat} {xs : List Int} (ha : Hid (At w A n xs)) (la : n ≤ 12) (hA : n ≤ c) (hA' : c ≤ 9223372036854775807) :
    Calls Tryd.prog 14 #[.slice A n c, .int .i64 13] w fun e w' => ∃ B zs, e = .returned (.tuple #[.slice B 13 13, .int .i64 0]) ∧ Hid (At w' B 13 zs) ∧ Hid (V zs = V xs) ∧ Below w.heap.size w w' := by
  have hl : (trim xs).length ≤ 13 := by have := trim_le xs; have := ha.out.len; omega
  refine (fit_ok A n c 13 w.heap.size xs w ha.out (Nat.le_refl _) ⟨hA, by omega⟩ hA' (by omega) hl).mono fun e w' ⟨h1, h2, h3⟩ => ?_
  have hws : Ws (trim xs ++ List.replicate (13 - (trim xs).length) 0) := ha.out.ws.trim.append (Ws.zeros _)
  refine ⟨_, _, h1, Lib.hid (h2.rd0 h2.lt hws (by simp; omega)), Lib.hid ?_, h3⟩
  rw [V_append, V_zeros, V_trim]; omega
theorem bitk_u {w : World} {A : Option Addr} {n c : Nat} {xs : List Int} (i : Nat) (hi : i ≤ 1000) (ha : Hid (At w A n xs)) (b : Bool) (h : decide (V xs / 2 ^ i % 2 = 1) = b) :
    Calls Tryd.prog 24 #[.slice A n c, .int .i64 (i : Int)] w fun e w' => e = .returned (.bool b) ∧ Below w.heap.size w w' := by
  refine (bit_n A n c w.heap.size i xs w ha.out (by simp [Lit.wf, IntKind.min, IntKind.max, IntKind.signed, IntKind.bits]; omega)).mono fun e w' ⟨h1, h2⟩ => ⟨?_, by rw [h2]; exact Below.refl _ _⟩
  rw [h1, ← h]
  unfold bitAt
  rw [decide_eq_true (by omega), Bool.true_and, Int.toNat_natCast]
theorem bitp_u {w : World} {A : Option Addr} {n c : Nat} {xs : List Int} (nb : Nat) (h1 : 1 ≤ nb) (hi : nb ≤ 1000) (ha : Hid (At w A n xs)) (b : Bool) (h : decide (V xs / 2 ^ (nb - 1) % 2 = 1) = b) :
    Calls Tryd.prog 24 #[.slice A n c, .int .i64 ((nb : Int) - 1)] w fun e w' => e = .returned (.bool b) ∧ Below w.heap.size w w' := by
  rw [show (nb : Int) - 1 = ((nb - 1 : Nat) : Int) by omega]
  exact bitk_u (nb - 1) (by omega) ha b h
theorem top_bit {N : Int} {n : Nat} (h : BitsR N n) (h0 : N ≠ 0) : N / 2 ^ (n - 1) % 2 = 1 := by
  obtain ⟨h1, h2⟩ := h.lo h0
  have hu := h.up
  have e : (2 : Int) ^ n = 2 * 2 ^ (n - 1) := by rw [show n = n - 1 + 1 by omega, Int.pow_succ, show n - 1 + 1 - 1 = n - 1 by omega]; omega
  have hp := pow_pos2 (n - 1)
  have : N / 2 ^ (n - 1) = 1 := by
    have a1 : 1 ≤ N / 2 ^ (n - 1) := (Int.le_ediv_iff_mul_le (by omega)).2 (by omega)
    have a2 : N / 2 ^ (n - 1) < 2 := Int.ediv_lt_of_lt_mul (by omega) (by omega)
    omega
  rw [this]; rfl
theorem high_bit {N : Int} {n i : Nat} (h : BitsR N n) (h0 : 0 ≤ N) (hi : n ≤ i) : N / 2 ^ i % 2 ≠ 1 := by
  have h1 := h.up
  have h2 := pow_le hi
  rw [Int.ediv_eq_zero_of_lt h0 (by omega)]
  decide
theorem bits_trim {N : Int} {z : List Int} {n m : Nat} (h : BitsR N n) (hi : Is z N) (hw : Ws z) (hm : z.length = m + 1) : n = 64 * m + Lib.bitLen (Nt.at_ z m).toNat := by
  have h1 := nbits_R hw hi.tr
  rw [hi.v] at h1
  rw [h.uniq h1]
  unfold nbits
  rw [if_neg (by omega), hm, Nat.add_sub_cancel]
  omega
theorem rbits_u {w : World} (y : Int) (h1 : 0 ≤ y) (h2 : y ≤ 18446744073709551615) :
    Calls Tryd.prog 42 #[.int .u64 y] w fun e w' => e = .returned (.int .i64 ((Lib.bitLen y.toNat : Nat) : Int)) ∧ Below w.heap.size w w' :=
  (Wd.rbits_c y w ⟨h1, h2⟩).mono fun e w' ⟨h, g⟩ => ⟨h, by rw [g]; exact Below.refl _ _⟩
end Nt
end Go.Proofs.YtdklchejnpaenaaDoor
