/- Slices of bytes and of regions, as they lie in memory. -/
import Derived.Test.YtkgbpcfpppceiaaA2
import Derived.Test.YtkgbpcfpppceiaaA1
import Derived.Lib.MinMax
namespace Go.Proofs.Ytkgbpcfpppceiaa
open Go Go.RowKit
namespace Mm
open Wd Nt
set_option linter.unusedVariables false
/-- a slice of bytes that reads as bs, below block B -/
structure Rd8 (w : World) (B : Nat) (A : Option Addr) (n : Nat) (bs : List Int) : Prop where
  len : bs.length = n
  ok : Bs bs
  rd : 0 < n → ∃ ad, A = some ad ∧ ad.block < B ∧ ∀ j, j < n → w.cell? (ad.add j) = some (.int .u8 (bt bs j))
/-- a region that lies at an address -/
def RegAt (w : World) (B : Nat) (ad : Addr) (r : Reg) : Prop :=
  ∃ A n c, w.cell? ad = some (.int .u64 r.base) ∧ w.cell? ⟨ad.block, ad.off + 1, none⟩ = some (.slice A n c) ∧ w.cell? ⟨ad.block, ad.off + 2, none⟩ = some (.bool r.write) ∧ Rd8 w B A n r.bytes ∧ n ≤ c ∧ c ≤ 9223372036854775807
/-- a slice of regions that reads as rs, below block B -/
structure RdR (w : World) (B : Nat) (A : Option Addr) (n : Nat) (rs : List Reg) : Prop where
  len : rs.length = n
  oks : Oks rs
  rd : 0 < n → ∃ ad, A = some ad ∧ ad.block < B ∧ ∀ (j : Nat) (r : Reg), rs[j]? = some r → RegAt w B (ad.add (j * 3)) r
section
variable {w w' : World} {B B' n : Nat} {A : Option Addr} {bs : List Int} {rs : List Reg}
theorem Rd8.nil : Rd8 w B A 0 [] := ⟨rfl, (fun _ h => by cases h), fun h => absurd h (by omega)⟩
theorem Rd8.at_ {k : Nat} (h : Rd8 w B A n bs) (hk : k < n) : ∃ ad, A = some ad ∧ ad.block < B ∧ w.cell? (ad.add k) = some (.int .u8 (bt bs k)) := by
  obtain ⟨ad, e, hb, hc⟩ := h.rd (by omega)
  exact ⟨ad, e, hb, hc k hk⟩
theorem Rd8.keep (h : Rd8 w B A n bs) (hk : ∀ p : Addr, p.block < B → w'.cell? p = w.cell? p) : Rd8 w' B A n bs :=
  ⟨h.len, h.ok, fun hn => by
    obtain ⟨ad, e, hb, hc⟩ := h.rd hn
    exact ⟨ad, e, hb, fun j hj => (hk _ (by rw [Nt.block_add]; exact hb)).trans (hc j hj)⟩⟩
theorem Rd8.more (h : Rd8 w B A n bs) (hB : B ≤ B') : Rd8 w B' A n bs :=
  ⟨h.len, h.ok, fun hn => by
    obtain ⟨ad, e, hb, hc⟩ := h.rd hn
    exact ⟨ad, e, by omega, hc⟩⟩
theorem RegAt.keep {ad : Addr} {r : Reg} (h : RegAt w B ad r) (ha : ad.block < B) (hk : ∀ p : Addr, p.block < B → w'.cell? p = w.cell? p) : RegAt w' B ad r := by
  obtain ⟨A, n, c, h1, h2, h3, h4, h5, h6⟩ := h
  exact ⟨A, n, c, (hk _ ha).trans h1, (hk ⟨ad.block, ad.off + 1, none⟩ ha).trans h2, (hk ⟨ad.block, ad.off + 2, none⟩ ha).trans h3, h4.keep hk, h5, h6⟩
theorem RegAt.more {ad : Addr} {r : Reg} (h : RegAt w B ad r) (hB : B ≤ B') : RegAt w B' ad r := by
  obtain ⟨A, n, c, h1, h2, h3, h4, h5, h6⟩ := h
  exact ⟨A, n, c, h1, h2, h3, h4.more hB, h5, h6⟩
theorem RdR.nil : RdR w B A 0 [] := ⟨rfl, (fun _ h => by cases h), fun h => absurd h (by omega)⟩
theorem RdR.keep (h : RdR w B A n rs) (hk : ∀ p : Addr, p.block < B → w'.cell? p = w.cell? p) : RdR w' B A n rs :=
  ⟨h.len, h.oks, fun hn => by
    obtain ⟨ad, e, hb, hc⟩ := h.rd hn
    exact ⟨ad, e, hb, fun j r hj => (hc j r hj).keep (by rw [Nt.block_add]; exact hb) hk⟩⟩
theorem RdR.more (h : RdR w B A n rs) (hB : B ≤ B') : RdR w B' A n rs :=
  ⟨h.len, h.oks, fun hn => by
    obtain ⟨ad, e, hb, hc⟩ := h.rd hn
    exact ⟨ad, e, by omega, fun j r hj => (hc j r hj).more hB⟩⟩
theorem RdR.below (h : RdR w B A n rs) (hb : Below B w w') : RdR w' B A n rs := h.keep fun _ hp => hb.cell hp
theorem RdR.at_ {j : Nat} {r : Reg} (h : RdR w B A n rs) (hj : rs[j]? = some r) : ∃ ad, A = some ad ∧ ad.block < B ∧ RegAt w B (ad.add (j * 3)) r := by
  have hl := (List.getElem?_eq_some_iff.1 hj).1
  obtain ⟨ad, e, hb, hc⟩ := h.rd (by rw [← h.len]; omega)
  exact ⟨ad, e, hb, hc j r hj⟩
theorem get_lt {rs : List Reg} {j : Nat} (h : j < rs.length) : ∃ r, rs[j]? = some r := ⟨_, List.getElem?_eq_getElem h⟩
end
/-- the slice at hand, all that is below the heap's end -/
def AtR (w : World) (A : Option Addr) (n : Nat) (rs : List Reg) : Prop := RdR w w.heap.size A n rs
theorem AtR.step {w w' : World} {A : Option Addr} {n : Nat} {rs : List Reg} (h : Hid (AtR w A n rs)) (hb : Below w.heap.size w w') : Hid (AtR w' A n rs) := Lib.hid ((RdR.below h.out hb).more hb.size)

/-! ### LightRegions -/
/-- what is gone through -/
def lightR (rs : List Reg) : Bool := decide (rs.length ≤ 10) && (rs.all fun r => decide (r.len ≤ 300))
theorem light_c (A : Option Addr) (n c : Nat) (rs : List Reg) (w : World) (h : Hid (AtR w A n rs)) (hc : n ≤ 9223372036854775807) (hn : n ≤ 10) (hall : ∀ (i : Nat) (r : Reg), rs[i]? = some r → r.len ≤ 300) :
    Calls Try.prog 17 #[.slice A n c] w fun e w' => e = .returned (.bool true) ∧ w' = w := by
  go_enter Try.func17, Try.ntmps17
  go_wp2_with fail
  go_loop [3] (fun i => ∃ k : Nat, k ≤ n ∧ i = .int .i64 (k : Int)) (fun i => n - (intOf i).toNat)
  case atStart => exact ⟨0, Nat.zero_le _, rfl⟩
  case round =>
    obtain ⟨k, hk, rfl⟩ := hrel
    rcases Nat.lt_or_ge k n with hkn | hkn
    · obtain ⟨r, hr⟩ := get_lt (rs := rs) (j := k) (by rw [h.out.len]; omega)
      obtain ⟨ad, rfl, hb, A1, n1, c1, h1, h2, h3, h4, h5, h6⟩ := h.out.at_ hr
      have hl := hall k r hr
      unfold Reg.len at hl
      rw [h4.len] at hl
      have hkni : (k : Int) < (n : Int) := by omega
      have hk11 : (k : Int) < 11 := by omega
      clear h1 h3
      go_wp2_with fail
      go_round
      case rel => exact ⟨k + 1, by omega, by go_num⟩
      case measure => (simp [intOf] <;> omega)
    · obtain rfl : k = n := by omega
      have hk10 : (k : Int) ≤ 10 := by omega
      go_wp2_with fail
      go_ret
      exact ⟨rfl, rfl⟩
def Lite (rs : List Reg) : Prop := rs.length ≤ 10 ∧ ∀ (i : Nat) (r : Reg), rs[i]? = some r → r.len ≤ 300
theorem lightN_c (A : Option Addr) (n c : Nat) (rs : List Reg) (w : World) (h : Hid (AtR w A n rs)) (hc : n ≤ 9223372036854775807) (hno : ¬ Lite rs) :
    Calls Try.prog 17 #[.slice A n c] w fun e w' => e = .returned (.bool false) ∧ w' = w := by
  have HNO := Lib.hid hno
  clear hno
  go_enter Try.func17, Try.ntmps17
  go_wp2_with fail
  go_loop [3] (fun i => ∃ k : Nat, k ≤ n ∧ k ≤ 11 ∧ i = .int .i64 (k : Int) ∧ Hid (∀ (j : Nat) (r : Reg), j < k → rs[j]? = some r → r.len ≤ 300)) (fun i => n - (intOf i).toNat)
  case atStart => exact ⟨0, Nat.zero_le _, by omega, rfl, Lib.hid (fun j r hj => absurd hj (by omega))⟩
  case round =>
    obtain ⟨k, hk, hk2, rfl, hI⟩ := hrel
    rcases Nat.lt_or_ge k n with hkn | hkn
    · rcases Nat.lt_or_ge k 11 with hk11 | hk11
      · obtain ⟨r, hr⟩ := get_lt (rs := rs) (j := k) (by rw [h.out.len]; omega)
        obtain ⟨ad, rfl, hb, A1, n1, c1, h1, h2, h3, h4, h5, h6⟩ := h.out.at_ hr
        have hkni : (k : Int) < (n : Int) := by omega
        have hk11i : (k : Int) < 11 := by omega
        have hlen : r.len = n1 := by unfold Reg.len; rw [h4.len]
        have HLEN := Lib.hid hlen
        have HR := Lib.hid hr
        clear h1 h3 hlen hr
        by_cases hl : n1 ≤ 300
        · have hI' : Hid (∀ (j : Nat) (r : Reg), j < k + 1 → rs[j]? = some r → r.len ≤ 300) := Lib.hid (fun j s hj hs => by
            by_cases e : j = k
            · subst e
              rw [HR.out] at hs
              cases hs
              rw [HLEN.out]; omega
            · exact hI.out j s (by omega) hs)
          go_wp2_with fail
          go_round
          case rel => exact ⟨k + 1, by omega, by omega, by go_num, hI'⟩
          case measure => (simp [intOf] <;> omega)
        · have hl' : (300 : Int) < (n1 : Int) := by omega
          go_wp2_with fail
          go_ret
          exact ⟨rfl, rfl⟩
      · obtain rfl : k = 11 := by omega
        have hn11 : (11 : Int) < (n : Int) := by omega
        go_wp2_with fail
        go_ret
        exact ⟨ret_b (decide_eq_false (by omega)), rfl⟩
    · obtain rfl : k = n := by omega
      rcases Nat.lt_or_ge k 11 with hk11 | hk11
      · exact absurd ⟨by rw [h.out.len]; omega, fun j r hr => hI.out j r (by rw [← h.out.len]; exact (List.getElem?_eq_some_iff.1 hr).1) hr⟩ HNO.out
      · obtain rfl : k = 11 := by omega
        go_wp2_with fail
        go_ret
        exact ⟨rfl, rfl⟩
end Mm
end Go.Proofs.Ytkgbpcfpppceiaa
