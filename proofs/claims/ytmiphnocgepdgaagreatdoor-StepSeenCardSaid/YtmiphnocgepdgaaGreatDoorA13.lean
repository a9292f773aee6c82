/- Rows of regions that share their bytes; Same of rows of one's own. -/
import Derived.Test.YtmiphnocgepdgaaGreatDoorA11
namespace Go.Proofs.YtmiphnocgepdgaaGreatDoor
open Go Go.RowKit
namespace Mm
open Wd Nt
set_option linter.unusedVariables false
theorem pos_of {M : List Reg} (h : Good M) : ∀ r ∈ M, 0 < r.bytes.length := fun r hr => by
  obtain ⟨i, hi⟩ := getElem?_of_mem hr
  have := h.pos i r hi
  unfold Reg.len at this; omega
theorem same_t {w : World} {B1 E1 B2 E2 : Nat} {v1 v2 : Value} {os1 os2 : List OReg} {M : List Reg} (h1 : OwnI w B1 E1 v1 os1) (h2 : OwnI w B2 E2 v2 os2) (e1 : os1.map (·.r) = M) (e2 : os2.map (·.r) = M) (g : Good M) :
    Calls Tryz.prog 19 #[v1, v2] w fun e w' => e = .returned (.bool true) ∧ Below w.heap.size w w' := by
  obtain ⟨A1, n1, c1, rfl, r1, _, _⟩ := h1.own.rdR
  obtain ⟨A2, n2, c2, rfl, r2, _, _⟩ := h2.own.rdR
  rw [e1] at r1
  rw [e2] at r2
  refine (rsame_c A1 A2 n1 c1 n2 c2 M M w (Lib.hid r1) (Lib.hid r2) (by have := g.few; have := r1.len; omega) (by have := g.few; have := r2.len; omega) (pos_of g) (pos_of g)).mono ?_
  rintro e w' ⟨⟨q, rfl⟩, ⟨_, rfl⟩ | ⟨h, _⟩⟩
  · exact ⟨rfl, below_drewN (Below.refl _ _) q⟩
  · exact absurd rfl h
/-- a row of regions of one's own, whose bytes lie below block B -/
def RowR (w : World) (B : Nat) (v : Value) (rs : List Reg) : Prop :=
  ∃ xs, w.ownsRow B 66 3 v rs.length xs ∧ ∀ (j : Nat) (r : Reg), rs[j]? = some r → r.ok ∧ ∃ A n c, xs[j * 3]? = some (.int .u64 r.base) ∧ xs[j * 3 + 1]? = some (.slice A n c) ∧ xs[j * 3 + 2]? = some (.bool r.write) ∧ Rd8 w B A n r.bytes ∧ n ≤ c ∧ c ≤ 9223372036854775807
theorem RowR.rdR {w : World} {B : Nat} {v : Value} {rs : List Reg} (h : RowR w B v rs) (hB : B ≤ w.heap.size) : ∃ A n c, v = .slice A n c ∧ RdR w w.heap.size A n rs ∧ n ≤ c ∧ c ≤ 9223372036854775807 := by
  obtain ⟨xs, ho, hc⟩ := h
  have hlt := ho.lt
  have hcell : ∀ g, v.ownBlock = some g → ∀ j u, xs[j]? = some u → w.cell? ((⟨g, 0, none⟩ : Addr).add j) = some u := fun g hg => ho.cells hg
  have hoks : Oks rs := fun r hr => by
    obtain ⟨i, hi⟩ := getElem?_of_mem hr
    exact (hc i r hi).1
  rcases ho.2 with ⟨rfl, hn⟩ | ⟨g, c, cur, rfl, _, _, h1, h2, _⟩
  · obtain rfl := List.eq_nil_of_length_eq_zero hn
    exact ⟨none, 0, 0, rfl, RdR.nil, Nat.le_refl _, by omega⟩
  · refine ⟨_, _, _, rfl, ⟨rfl, hoks, fun h0 => ⟨_, rfl, (hlt g rfl).2, fun j r hj => ?_⟩⟩, h1, by simpa [maxLen] using h2⟩
    obtain ⟨_, A, n, c', k1, k2, k3, k4, k5, k6⟩ := hc j r hj
    have e : ∀ d, (⟨g, 0, none⟩ : Addr).add d = ⟨g, d, none⟩ := fun d => by
      unfold Addr.add; split
      · rename_i e; rw [e]
      · simp
    have c0 := hcell g rfl (j * 3) _ k1
    have c1 := hcell g rfl (j * 3 + 1) _ k2
    have c2 := hcell g rfl (j * 3 + 2) _ k3
    rw [e] at c0 c1 c2
    rw [e]
    exact ⟨A, n, c', c0, c1, c2, k4.more hB, k5, k6⟩
theorem RowR.below {w w' : World} {B : Nat} {v : Value} {rs : List Reg} (h : RowR w B v rs) (hb : Below w.heap.size w w') (hB : B ≤ w.heap.size) : RowR w' B v rs := by
  obtain ⟨xs, ho, hc⟩ := h
  refine ⟨xs, ho.kept (grown_of_below hb none) (by cases hv : v.ownBlock <;> simp), fun j r hj => ?_⟩
  obtain ⟨ok, A, n, c', k1, k2, k3, k4, k5, k6⟩ := hc j r hj
  exact ⟨ok, A, n, c', k1, k2, k3, k4.keep (fun p hp => hb.cell (by omega)), k5, k6⟩
/-- one region more -/
theorem RowR.more {w w5 w6 : World} {B : Nat} {v v' : Value} {rs : List Reg} {r : Reg} {A : Option Addr} {n c : Nat} {xs : List Value} (ho : w5.ownsRow B 66 3 v rs.length xs)
    (hc : ∀ (j : Nat) (r : Reg), rs[j]? = some r → r.ok ∧ ∃ A n c, xs[j * 3]? = some (.int .u64 r.base) ∧ xs[j * 3 + 1]? = some (.slice A n c) ∧ xs[j * 3 + 2]? = some (.bool r.write) ∧ Rd8 w B A n r.bytes ∧ n ≤ c ∧ c ≤ 9223372036854775807)
    (hr : w6.ownsRow B 66 3 v' (rs.length + 1) (xs ++ [.int .u64 r.base, .slice A n c, .bool r.write])) (hb : Below B w w6) (hd : Rd8 w B A n r.bytes) (hn : n ≤ c) (hm : c ≤ 9223372036854775807) (hok : r.ok) : RowR w6 B v' (rs ++ [r]) := by
  refine ⟨_, by rw [List.length_append]; exact hr, fun j s hj => ?_⟩
  have hxl : xs.length = rs.length * 3 := ho.1
  rcases Nat.lt_or_ge j rs.length with h1 | h1
  · rw [List.getElem?_append_left h1] at hj
    obtain ⟨ok, A', n', c', k1, k2, k3, k4, k5, k6⟩ := hc j s hj
    refine ⟨ok, A', n', c', ?_, ?_, ?_, k4.keep (fun p hp => hb.cell hp), k5, k6⟩
    · rw [List.getElem?_append_left (by omega)]; exact k1
    · rw [List.getElem?_append_left (by omega)]; exact k2
    · rw [List.getElem?_append_left (by omega)]; exact k3
  · rw [List.getElem?_append_right h1] at hj
    have hj0 : j - rs.length = 0 := by
      have h2 := (List.getElem?_eq_some_iff.1 hj).1
      simp at h2; omega
    rw [hj0] at hj
    obtain rfl : r = s := by simpa using hj
    have hje : j = rs.length := by omega
    subst hje
    refine ⟨hok, A, n, c, ?_, ?_, ?_, hd.keep (fun p hp => hb.cell hp), hn, hm⟩
    · rw [List.getElem?_append_right (by omega), show rs.length * 3 - xs.length = 0 by omega]; rfl
    · rw [List.getElem?_append_right (by omega), show rs.length * 3 + 1 - xs.length = 1 by omega]; rfl
    · rw [List.getElem?_append_right (by omega), show rs.length * 3 + 2 - xs.length = 2 by omega]; rfl
end Mm
end Go.Proofs.YtmiphnocgepdgaaGreatDoor
