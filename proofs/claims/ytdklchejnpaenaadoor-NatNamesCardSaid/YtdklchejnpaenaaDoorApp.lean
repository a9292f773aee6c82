/- append to limbs of one's own; how many bits a number has. -/
import Derived.Test.YtdklchejnpaenaaDoorUni
import Derived.Maps.AppendAt
import Derived.Laws.AppendOwn
namespace Go.Proofs.YtdklchejnpaenaaDoor
open Go Go.RowKit
namespace Nt
open Wd Sti
set_option linter.unusedVariables false

theorem run_append_nil {w : World} (t ty e : TypeId) (i : TypeInfo) (ht : Tryd.prog.underlying t = some (.slice e)) (hi : Tryd.prog.info? e = some i)
    (v : Value) (n : Nat) (xs : List Value) (base size : Nat) (hown : w.ownsRow base e size v n xs) (c : Nat) : (Builtin.append_ #[t, t] ty #[v, .slice none 0 c]).run Tryd.prog w = .ok v w := by
  rcases hown.2 with ⟨rfl, rfl⟩ | ⟨g, cap, cur, rfl, _, _, hnc, _⟩
  · simp [Builtin.append_, run_underlying ht, sizeOf, typeInfo, hi, Builtin.lenOf, Builtin.firstCells]
  · simp [Builtin.append_, run_underlying ht, sizeOf, typeInfo, hi, Builtin.lenOf, Builtin.firstCells, hnc, storeCells]
theorem own_at {w : World} {base n : Nat} {v : Value} {xs : List Int} (h : w.ownsRow base 28 1 v n (xs.map (Value.int .u64))) (hw : Ws xs) :
    ∃ A c, v = .slice A n c ∧ At w A n xs ∧ n ≤ c ∧ c ≤ 9223372036854775807 := by
  have hl := h.1
  rw [List.length_map, Nat.mul_one] at hl
  rcases h.2 with ⟨rfl, rfl⟩ | ⟨g, cap, cur, rfl, _, hg, hnc, hcm, hcs, htk⟩
  · exact ⟨none, 0, rfl, ⟨hl, hw, fun h => absurd h (by omega)⟩, Nat.le_refl _, by omega⟩
  · have hlt : g < w.heap.size := (Array.getElem?_eq_some_iff.1 hg).1
    refine ⟨_, _, rfl, ⟨hl, hw, fun h0 => ⟨_, rfl, hlt, fun j hj => ?_⟩⟩, hnc, hcm⟩
    exact World.ownsRow.cells h (g := g) rfl j _ (by rw [List.getElem?_map, at_lt (by omega)]; rfl)
theorem append_run {w : World} (ty : TypeId) {g k m c B0 : Nat} {xs ys : List Int} {A : Option Addr} (hg : Bk w g 28 (us xs)) (hx : xs.length = k) (hw : Ws xs) (hs : At w A m ys) (hk : k + m ≤ 1048576) (hB : B0 ≤ g) :
    ∃ A' c' w', (Builtin.append_ #[24, 24] ty #[.slice (some ⟨g, 0, none⟩) k k, .slice A m c]).run Tryd.prog w = .ok (.slice A' (k + m) c') w' ∧ At w' A' (k + m) (xs ++ ys) ∧ k + m ≤ c' ∧ c' ≤ 9223372036854775807 ∧ Below B0 w w' := by
  obtain ⟨i, hi, hz, h1, h2⟩ := info_parts info_u64
  have hgl := hg.lt
  have hown : w.ownsRow B0 28 1 (.slice (some ⟨g, 0, none⟩) k k) k (xs.map (Value.int .u64)) :=
    ⟨by rw [List.length_map, hx, Nat.mul_one], .inr ⟨g, k, us xs, rfl, hB, hg, Nat.le_refl _, by simp only [maxLen]; omega, by rw [us_size, hx, Nat.mul_one], by
      rw [Nat.mul_one]; unfold us; rw [List.take_of_length_le (by simp [hx])]⟩⟩
  have hwy : Ws (xs ++ ys) := hw.append hs.ws
  rcases A with _ | ad
  · have hm : m = 0 := by
      rcases Nat.eq_zero_or_pos m with h0 | h0
      · exact h0
      · obtain ⟨ad, h, _⟩ := hs.rd h0
        cases h
    subst hm
    obtain rfl : ys = [] := List.eq_nil_of_length_eq_zero hs.len
    refine ⟨_, _, w, run_append_nil _ ty 28 i Tryd.underlying24 hi _ _ _ _ _ hown c, ?_, Nat.le_refl _, by omega, Below.refl _ _⟩
    rw [List.append_nil]
    exact hg.rd0 hgl hw hx
  · have hcells : ∀ j u, (ys.map (Value.int .u64))[j]? = some u → w.cell? (ad.add j) = some u := by
      intro j u hu
      rw [List.getElem?_map] at hu
      have hj : j < m := by
        rcases Nat.lt_or_ge j ys.length with h | h
        · rw [← hs.len]; exact h
        · rw [List.getElem?_eq_none h] at hu; cases hu
      obtain ⟨ad', he, _, hc⟩ := hs.rd (by omega)
      cases he
      rw [hc j hj]
      rw [at_lt (by rw [hs.len]; exact hj)] at hu
      exact hu
    obtain ⟨v', w', hrun, h3, h4, h5, h6⟩ := run_append_own_at (P := Tryd.prog) w B0 24 ty 28 i (.int .u64 0) 1 8 Tryd.underlying24 hi hz h1 h2 rfl (by omega) _ k _ hown ad m c (ys.map (Value.int .u64)) (by rw [List.length_map, hs.len, Nat.mul_one]) hcells
      (fun u hu => by obtain ⟨x, _, rfl⟩ := List.mem_map.1 hu; simp [Value.oneCell']) (by simp only [maxLen]; omega) (by omega) (by omega)
    rw [← List.map_append] at h3
    obtain ⟨A', c', rfl, h7, h8, h9⟩ := own_at h3 hwy
    exact ⟨A', c', w', hrun, h7, h8, h9, (Below.refl _ w).grown h4 (by omega) (fun j e => by simp [Value.ownBlock] at e; omega)⟩

theorem wpList_append_eq {P : Program} {w : World} {ops : Array Oper} {rest : List Oper} {o : Oper} {a : Act} {Q : Exit → Act → World → Prop} (hgd : o.guard = none) (s x : Operand) (t : TypeId)
    (ho : o.op = .call { callee := .builtin .append, args := #[s, x], argTypes := #[t, t] }) (v sx : Value) (hs : a.eval s = v) (hx : a.eval x = sx) (v' : Value) (w' : World)
    (hrun : (Builtin.append_ #[t, t] o.type #[v, sx]).run P w = .ok v' w') (h : wpList P ops Q rest (a.put o.dst v') w') : wpList P ops Q (o :: rest) a w :=
  wpList_plain hgd fun _ hK => by
    unfold Oper.wp execOp
    simp only [ho, resolve, invoke, builtin, Sem.run_bind, Sem.run_pure, Result.andThen_ok, List.map_toArray, List.map_cons, List.map_nil, hs, hx, hrun]
    exact hK _ _ h

/-! ### bits -/
structure BitsR (N : Int) (n : Nat) : Prop where
  up : N < 2 ^ n
  lo : N ≠ 0 → 1 ≤ n ∧ 2 ^ (n - 1) ≤ N
  zero : N = 0 → n = 0
theorem p2_lt {a b : Nat} (h : (2 : Int) ^ a < 2 ^ b) : a < b := by
  rcases Nat.lt_or_ge a b with h' | h'
  · exact h'
  · have := pow_le h'; omega
theorem BitsR.uniq {N : Int} {m n : Nat} (h : BitsR N m) (g : BitsR N n) : m = n := by
  by_cases h0 : N = 0
  · rw [h.zero h0, g.zero h0]
  · obtain ⟨a, b⟩ := h.lo h0
    obtain ⟨c, d⟩ := g.lo h0
    have e1 := p2_lt (a := m - 1) (b := n) (by have := g.up; omega)
    have e2 := p2_lt (a := n - 1) (b := m) (by have := h.up; omega)
    omega
theorem BitsR.mul {a b : Int} {m n k : Nat} (ha0 : 0 ≤ a) (hb0 : 0 ≤ b) (ha : BitsR a m) (hb : BitsR b n) (hk : BitsR (a * b) k) (h1 : a ≠ 0) (h2 : b ≠ 0) : k = m + n ∨ k + 1 = m + n := by
  obtain ⟨a1, a2⟩ := ha.lo h1
  obtain ⟨b1, b2⟩ := hb.lo h2
  have hab : a * b ≠ 0 := Int.mul_ne_zero h1 h2
  obtain ⟨k1, k2⟩ := hk.lo hab
  have p1 := pow_pos2 (m - 1)
  have p2 := pow_pos2 (n - 1)
  have l1 : (2 : Int) ^ (m - 1) * 2 ^ (n - 1) ≤ a * b := Int.mul_le_mul a2 b2 (by omega) ha0
  have u1 : a * b < 2 ^ m * 2 ^ n := by
    have := pow_pos2 m
    have h3 : a * b ≤ a * 2 ^ n := Int.mul_le_mul_of_nonneg_left (Int.le_of_lt hb.up) ha0
    have h4 : a * 2 ^ n < 2 ^ m * 2 ^ n := Int.mul_lt_mul_of_pos_right ha.up (by have := pow_pos2 n; omega)
    omega
  rw [← Int.pow_add] at l1 u1
  have e1 := p2_lt (a := m - 1 + (n - 1)) (b := k) (by have := hk.up; omega)
  have e2 := p2_lt (a := k - 1) (b := m + n) (by omega)
  omega
theorem BitsR.shift {a : Int} {m : Nat} (k : Nat) (ha : BitsR a m) (h0 : a ≠ 0) : BitsR (a * P k) (m + 64 * k) := by
  obtain ⟨a1, a2⟩ := ha.lo h0
  have hp := P_pos k
  refine ⟨?_, fun _ => ⟨by omega, ?_⟩, fun h => absurd h (Int.mul_ne_zero h0 (by omega))⟩
  · rw [Int.pow_add, two_P]; exact Int.mul_lt_mul_of_pos_right ha.up (by omega)
  · rw [show m + 64 * k - 1 = (m - 1) + 64 * k by omega, Int.pow_add, two_P]; exact Int.mul_le_mul_of_nonneg_right a2 (by omega)
theorem BitsR.lt {a b : Int} {m n : Nat} (ha : BitsR a m) (hb : BitsR b n) (h : m < n) : a < b := by
  have hb0 : b ≠ 0 := fun e => by have := hb.zero e; omega
  obtain ⟨b1, b2⟩ := hb.lo hb0
  have := pow_le (show m ≤ n - 1 by omega)
  have := ha.up
  omega
theorem nbits_R {zs : List Int} (hz : Ws zs) (ht : trim zs = zs) : BitsR (V zs) (nbits zs) := by
  rcases zs with _ | ⟨x, l⟩
  · refine ⟨by decide, fun h => absurd rfl h, fun _ => rfl⟩
  · have hne : (x :: l) ≠ [] := by simp
    have htop := trim_last ht hne
    obtain ⟨m, hm⟩ : ∃ m, (x :: l).length = m + 1 := ⟨l.length, rfl⟩
    generalize x :: l = zs at *
    have e0 : zs.length - 1 = m := by omega
    rw [e0] at htop
    have hw := hz.at_ m
    have hs := V_split zs m
    rw [hi_succ, hi_all (k := m + 1) (by omega)] at hs
    have h1 := lo_nonneg hz m
    have h2 := lo_lt hz m
    have hp := P_pos m
    unfold nbits
    rw [if_neg (by omega), e0]
    unfold Wd.W at hw
    obtain ⟨t, ht'⟩ : ∃ t : Nat, Nt.at_ zs m = t := ⟨(Nt.at_ zs m).toNat, by omega⟩
    rw [ht'] at hs htop hw ⊢
    rw [Int.toNat_natCast]
    have ht0 : t ≠ 0 := fun e => htop (by rw [e]; rfl)
    obtain ⟨b1, b2, b3⟩ := bl_spec t (by omega)
    obtain ⟨b4, b5⟩ := b2 ht0
    generalize Lib.bitLen t = b at *
    have c1 : (t : Int) + 1 ≤ 2 ^ b := by
      have h : t + 1 ≤ 2 ^ b := b1
      exact_mod_cast h
    have c2 : (2 : Int) ^ (b - 1) ≤ t := by exact_mod_cast b5
    have e1 : (2 : Int) ^ (m * 64 + b) = P m * 2 ^ b := by rw [Int.pow_add, Nat.mul_comm, two_P]
    have e2 : (2 : Int) ^ (m * 64 + b - 1) = P m * 2 ^ (b - 1) := by rw [show m * 64 + b - 1 = m * 64 + (b - 1) by omega, Int.pow_add, Nat.mul_comm, two_P]
    have d1 : P m * ((t : Int) + 1) ≤ P m * 2 ^ b := Int.mul_le_mul_of_nonneg_left c1 (by omega)
    have d2 : P m * 2 ^ (b - 1) ≤ P m * (t : Int) := Int.mul_le_mul_of_nonneg_left c2 (by omega)
    have d3 : P m * ((t : Int) + 1) = P m * t + P m := by rw [Int.mul_add, Int.mul_one]
    have d4 : P m * 1 ≤ P m * (t : Int) := Int.mul_le_mul_of_nonneg_left (by omega) (by omega)
    have hs' : V zs = lo zs m + P m * t := by rw [hs]; simp
    refine ⟨by rw [e1]; omega, fun _ => ⟨by omega, by rw [e2]; omega⟩, fun h => by omega⟩
theorem V_shift (k : Nat) (xs : List Int) : V (List.replicate k 0 ++ xs) = P k * V xs := by rw [V_append, V_zeros, List.length_replicate]; omega
end Nt
end Go.Proofs.YtdklchejnpaenaaDoor
