/- The document's own answers on naturals: a limb, Trim, Compare, Bits, Bit, Low; a natural of one's own that is appended to. -/
import Derived.Test.YtdklchejnpaenaaDoorUni2
import Derived.Test.YtdklchejnpaenaaDoorWordRn
namespace Go.Proofs.YtdklchejnpaenaaDoor
open Go Go.RowKit
namespace Nt
open Wd Sti
set_option linter.unusedVariables false

theorem limb_r (A : Option Addr) (n c k B : Nat) (xs : List Int) (w : World) (h : Rd w B A n xs) (hk : k ≤ 4611686018427387904) :
    Calls Tryd.prog 60 #[.slice A n c, .int .i64 (k : Int)] w fun e w' => e = .returned (.int .u64 (at_ xs k)) ∧ w' = w := by
  by_cases hlt : k < n
  · obtain ⟨ad, rfl, hb, hc⟩ := h.at_ hlt
    generalize at_ xs k = z at *
    clear h
    go_enter Tryd.func60, Tryd.ntmps60
    go_wp2_with fail
    go_ret
    exact ⟨rfl, rfl⟩
  · rw [at_ge (by rw [h.len]; omega)]
    clear h
    go_enter Tryd.func60, Tryd.ntmps60
    go_wp2_with fail
    go_ret
    exact ⟨rfl, rfl⟩

/-- limbs of one's own, in a row behind block B -/
structure Own (B : Nat) (w : World) (v : Value) (n : Nat) (zs : List Int) : Prop where
  own : w.ownsRow B 28 1 v n (zs.map (Value.int .u64))
  ws : Ws zs
theorem Own.slice {B : Nat} {w : World} {v : Value} {n : Nat} {zs : List Int} (h : Own B w v n zs) : ∃ A c, v = .slice A n c ∧ At w A n zs ∧ n ≤ c ∧ c ≤ 9223372036854775807 := own_at h.own h.ws
theorem Own.len {B : Nat} {w : World} {v : Value} {n : Nat} {zs : List Int} (h : Own B w v n zs) : zs.length = n := by
  have := h.own.1; rw [List.length_map, Nat.mul_one] at this; exact this
theorem Own.nil (B : Nat) (w : World) : Own B w (.slice none 0 0) 0 [] := ⟨World.ownsRow_nil _ _ _ _, Ws.nil⟩
theorem Own.more {B B' : Nat} {w : World} {v : Value} {n : Nat} {zs : List Int} (h : Own B w v n zs) (hB : B' ≤ B) : Own B' w v n zs := by
  refine ⟨⟨h.own.1, ?_⟩, h.ws⟩
  rcases h.own.2 with hn | ⟨g, cap, cur, e, hb, r⟩
  · exact .inl hn
  · exact .inr ⟨g, cap, cur, e, Nat.le_trans hB hb, r⟩
theorem own_lt {B : Nat} {w : World} {v : Value} {n : Nat} {zs : List Int} (h : Own B w v n zs) : ∀ j, v.ownBlock = some j → B ≤ j := fun j hj => (h.own.lt j hj).1
theorem below_own {B : Nat} {w w' : World} {v : Value} {n : Nat} {zs : List Int} (h : Own B w v n zs) (hg : w.grownBy w' v.ownBlock) (hB : B ≤ w.heap.size) : Below B w w' := (Below.refl _ w).grown hg hB (own_lt h)
/-- more limbs behind one's own -/
theorem own_append {w : World} {B k m c : Nat} {v : Value} {xs ys : List Int} {A : Option Addr} (ty : TypeId) (ho : Own B w v k xs) (hs : At w A m ys) (hk : k + m ≤ 1048576) (hB : B ≤ w.heap.size) :
    ∃ v' w', (Builtin.append_ #[24, 24] ty #[v, .slice A m c]).run Tryd.prog w = .ok v' w' ∧ Own B w' v' (k + m) (xs ++ ys) ∧ Below B w w' := by
  obtain ⟨i, hi, hz, h1, h2⟩ := info_parts info_u64
  rcases A with _ | ad
  · have hm : m = 0 := by
      rcases Nat.eq_zero_or_pos m with h0 | h0
      · exact h0
      · obtain ⟨ad, h, _⟩ := hs.rd h0
        cases h
    subst hm
    obtain rfl : ys = [] := List.eq_nil_of_length_eq_zero hs.len
    exact ⟨v, w, run_append_nil _ ty 28 i Tryd.underlying24 hi _ _ _ _ _ ho.own c, by rw [List.append_nil]; exact ho, Below.refl _ _⟩
  · have hcells : ∀ j u, (ys.map (Value.int .u64))[j]? = some u → w.cell? (ad.add j) = some u := by
      intro j u hu
      rw [List.getElem?_map] at hu
      have hj : j < m := by
        rcases Nat.lt_or_ge j ys.length with h | h
        · rw [← hs.len]; exact h
        · rw [List.getElem?_eq_none h] at hu; cases hu
      obtain ⟨ad', he, _, hc⟩ := hs.rd (by omega)
      cases he
      rw [hc j hj]
      rw [at_lt (by rw [hs.len]; exact hj)] at hu
      exact hu
    obtain ⟨v', w', hrun, h3, h4, h5, h6⟩ := run_append_own_at (P := Tryd.prog) w B 24 ty 28 i (.int .u64 0) 1 8 Tryd.underlying24 hi hz h1 h2 rfl (by omega) _ k _ ho.own ad m c (ys.map (Value.int .u64)) (by rw [List.length_map, hs.len, Nat.mul_one]) hcells
      (fun u hu => by obtain ⟨x, _, rfl⟩ := List.mem_map.1 hu; simp [Value.oneCell']) (by simp only [maxLen]; omega) (by omega) hB
    rw [← List.map_append] at h3
    exact ⟨v', w', hrun, ⟨h3, ho.ws.append hs.ws⟩, below_own ho h4 hB⟩

/-- a new natural of the document's own answers: its room is not told -/
def NewR (w w' : World) (v : Value) (N : Int) (K : Nat) : Prop := ∃ A n c zs, v = .slice A n c ∧ Hid (Is zs N) ∧ Hid (At w' A n zs) ∧ n ≤ c ∧ c ≤ 9223372036854775807 ∧ n ≤ K ∧ Below w.heap.size w w' ∧ Hid (∀ ad, A = some ad → w.heap.size ≤ ad.block)

set_option maxHeartbeats 1000000 in
theorem trim_r (A : Option Addr) (n c : Nat) (xs : List Int) (w : World) (h : At w A n xs) (hc : n ≤ c) (hn : c ≤ 9223372036854775807) (hl : n ≤ 1048576) :
    Calls Tryd.prog 31 #[.slice A n c] w fun e w' => ∃ v, e = .returned v ∧ Own w.heap.size w' v (trim xs).length (trim xs) ∧ Below w.heap.size w w' := by
  have hlen := h.len
  go_enter Tryd.func31, Tryd.ntmps31
  go_wp2_with fail
  go_loop [3] (fun i => ∃ k : Nat, k ≤ n ∧ i = .int .i64 k ∧ (∀ j, k ≤ j → Nt.at_ xs j = 0)) (fun i => (intOf i).toNat)
  case atStart => exact ⟨n, Nat.le_refl _, rfl, fun j hj => at_ge (by omega)⟩
  case round =>
    obtain ⟨k, hk, rfl, hz⟩ := hrel
    have HD : (k = 0 ∨ Nt.at_ xs (k - 1) ≠ 0) → ∃ v' w', (Builtin.append_ #[24, 24] 24 #[.slice (some ⟨w.heap.size, 0, none⟩) 0 0, .slice A k c]).run Tryd.prog (w.alloc (.cells #[] 28)) = .ok v' w' ∧ Hid (Own w.heap.size w' v' (trim xs).length (trim xs) ∧ Below w.heap.size w w') := fun hor => by
      have ht := trim_cut (k := k) (by omega) hz hor h.ws
      have hlk : (trim xs).length = k := by rw [ht, List.length_take]; omega
      have ho : Own w.heap.size (w.alloc (.cells #[] 28)) (.slice (some ⟨w.heap.size, 0, none⟩) 0 0) 0 [] := ⟨World.ownsRow_lit w #[] 0 (Nat.le_refl _) (by simp [maxLen]) rfl, Ws.nil⟩
      obtain ⟨v', w', g1, g2, g3⟩ := own_append (c := c) 24 ho ((At.step (Lib.hid h) (below_alloc (.cells #[] 28))).out.take hk) (by omega) (by simp)
      rw [List.nil_append, ← ht, Nat.zero_add, ← hlk] at g2
      exact ⟨v', w', g1, Lib.hid ⟨g2, (below_alloc _).trans g3⟩⟩
    rcases Nat.eq_zero_or_pos k with rfl | hk0
    · obtain ⟨v', w', hap, H⟩ := HD (.inl rfl)
      have hap : (Builtin.append_ #[24, 24] 24 #[.slice (some ⟨w.heap.size, 0, none⟩) 0 0, .slice A (0 : Nat) c]).run Tryd.prog (w.alloc (.cells #[] 28)) = .ok v' w' := hap
      clear HD hlen hz h
      go_wp2_with (at_builtin; refine wpList_append_eq rfl (.tmp 18) (.tmp 21) 24 rfl _ _ rfl rfl _ _ hap ?_)
      go_ret
      exact ⟨_, rfl, H.out.1, H.out.2⟩
    · obtain ⟨i, rfl⟩ : ∃ i, k = i + 1 := ⟨k - 1, by omega⟩
      obtain ⟨ad, rfl, hb, hcell⟩ := h.at_ (k := i) (by omega)
      by_cases hx : Nt.at_ xs i = 0
      · rw [hx] at hcell
        have HX := Lib.hid hx
        have HZ := Lib.hid hz
        clear hx hz hlen h HD
        go_wp2_with fail
        go_round
        case rel => exact ⟨i, by omega, by go_num, fun j hj => by
          rcases Nat.eq_or_lt_of_le hj with rfl | h'
          · exact HX.out
          · exact HZ.out j (by omega)⟩
        case measure => (simp [intOf] <;> omega)
      · obtain ⟨v', w', hap, H⟩ := HD (.inr (by simpa using hx))
        have hxx : (Nt.at_ xs i == 0) = false := by simpa using hx
        clear hlen hz h HD hx
        generalize Nt.at_ xs i = z at *
        go_wp2_with (at_builtin; refine wpList_append_eq rfl (.tmp 18) (.tmp 21) 24 rfl _ _ rfl rfl _ _ hap ?_)
        go_ret
        exact ⟨_, rfl, H.out.1, H.out.2⟩
end Nt
end Go.Proofs.YtdklchejnpaenaaDoor
