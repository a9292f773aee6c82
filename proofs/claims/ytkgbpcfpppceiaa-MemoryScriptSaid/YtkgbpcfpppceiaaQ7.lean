/- The landed package's Check, whole. -/
import Derived.Test.YtkgbpcfpppceiaaQ6
namespace Go.Proofs.Ytkgbpcfpppceiaa
open Go Go.RowKit Go.Shelf Go.Sort
namespace Mm
open Wd Nt
set_option linter.unusedVariables false
def tooP (x : Cel) : Bool := decide (1048576 < (x.n : Int))
section
variable {w : World} {A : Option Addr} {n : Nat} {rs : List Reg} {xs ys : List Cel}
theorem Cels.len_of (h : Cels w A n rs xs) {x : Cel} (hx : x ∈ xs) : x.r.len = x.n := by unfold Reg.len; rw [(h.ok x hx).rd.len]
theorem long_iff (h : Cels w A n rs xs) : xs.any tooP = true ↔ Long rs := by
  rw [List.any_eq_true]
  constructor
  · rintro ⟨x, hx, ht⟩
    obtain ⟨i, hi⟩ := getElem?_of_mem (show x.r ∈ rs by rw [← h.regs]; exact List.mem_map.2 ⟨x, hx, rfl⟩)
    exact ⟨i, x.r, hi, by rw [h.len_of hx]; simpa [tooP] using ht⟩
  · rintro ⟨i, r, hi, hl⟩
    have hm : r ∈ xs.map (·.r) := by rw [h.regs]; exact List.mem_of_getElem? hi
    obtain ⟨x, hx, rfl⟩ := List.mem_map.1 hm
    exact ⟨x, hx, by rw [h.len_of hx] at hl; simpa [tooP] using hl⟩
theorem last_eq (x : Cel) (hn : x.n ≤ 1048576) (h0 : 0 < x.n) (hf : x.r.base + x.n ≤ 18446744073709551616) : lastOf x = x.r.base + x.n - 1 := by
  have := x.hb
  unfold W at this
  unfold lastOf
  rw [IntKind.wrap_u64, IntKind.wrap_u64]
  by_cases he : x.r.base + (x.n : Int) = 18446744073709551616
  · rw [he]; decide
  · rw [Int.emod_eq_of_lt (a := x.r.base + (x.n : Int)) (by omega) (by omega), Int.emod_eq_of_lt (by omega) (by omega)]
theorem last_over (x : Cel) (hn : x.n ≤ 1048576) (hf : 18446744073709551616 < x.r.base + x.n) : lastOf x = x.r.base + x.n - 1 - 18446744073709551616 := by
  have := x.hb
  unfold W at this
  unfold lastOf
  rw [IntKind.wrap_u64, IntKind.wrap_u64]
  have e : (x.r.base + (x.n : Int)) % 18446744073709551616 = x.r.base + x.n - 18446744073709551616 := by omega
  rw [e, Int.emod_eq_of_lt (by omega) (by omega)]
  omega
theorem wrong_iff (x : Cel) (hn : x.n ≤ 1048576) : wrongP x = true ↔ (x.n = 0 ∨ 18446744073709551616 < x.r.base + x.n) := by
  have := x.hb
  unfold W at this
  unfold wrongP
  simp only [Bool.or_eq_true, decide_eq_true_eq]
  rcases Nat.eq_zero_or_pos x.n with h0 | h0
  · exact ⟨fun _ => .inl h0, fun _ => .inl h0⟩
  · rcases Int.lt_or_le 18446744073709551616 (x.r.base + x.n) with h1 | h1
    · rw [last_over x hn h1]
      exact ⟨fun _ => .inr h1, fun _ => .inr (by omega)⟩
    · rw [last_eq x hn h0 h1]
      constructor
      · rintro (h | h) <;> omega
      · rintro (h | h) <;> omega
theorem good_not_bad (h : Good rs) : ¬ Bad rs := by
  rintro ⟨i, r, hi, hb⟩
  rcases hb with hb | hb | ⟨k, s, hk, hs, h4, h5⟩
  · have := h.pos i r hi; omega
  · have := h.fits i r hi; omega
  · rcases h.apart i k r s hi hs (by omega) with h6 | h6 <;> omega
theorem wrong_bad (h : Cels w A n rs xs) (hs : ¬ Long rs) (hw : xs.any wrongP = true) : Bad rs := by
  obtain ⟨x, hx, ht⟩ := List.any_eq_true.1 hw
  obtain ⟨i, hi⟩ := getElem?_of_mem (show x.r ∈ rs by rw [← h.regs]; exact List.mem_map.2 ⟨x, hx, rfl⟩)
  have hl := h.len_of hx
  have hn : x.n ≤ 1048576 := by
    rcases Nat.lt_or_ge 1048576 x.n with h1 | h1
    · exact absurd ⟨i, x.r, hi, by omega⟩ hs
    · exact h1
  rcases (wrong_iff x hn).1 ht with h1 | h1
  · exact ⟨i, x.r, hi, .inl (by omega)⟩
  · exact ⟨i, x.r, hi, .inr (.inl (by omega))⟩
theorem over_bad (h : Cels w A n rs xs) (h8 : n ≤ 8) (hs : ¬ Long rs) (hw : xs.any wrongP = false) (hp : ys.Perm xs) (hr : (ys.map (·.r)).Pairwise (fun r s => r.base ≤ s.base)) : Over ys ↔ Bad rs := by
  have hmem : ∀ y ∈ ys, 0 < y.n ∧ y.n ≤ 1048576 ∧ y.r.base + y.n ≤ 18446744073709551616 ∧ y.r.len = y.n := by
    intro y hy
    have hx := hp.mem_iff.1 hy
    obtain ⟨i, hi⟩ := getElem?_of_mem (show y.r ∈ rs by rw [← h.regs]; exact List.mem_map.2 ⟨y, hx, rfl⟩)
    have hl := h.len_of hx
    have hn : y.n ≤ 1048576 := by
      rcases Nat.lt_or_ge 1048576 y.n with h1 | h1
      · exact absurd ⟨i, y.r, hi, by omega⟩ hs
      · exact h1
    have hnw : ¬ (wrongP y = true) := fun e => by
      have := List.any_eq_true.2 ⟨y, hx, e⟩
      rw [hw] at this; cases this
    rw [wrong_iff y hn] at hnw
    exact ⟨by omega, hn, by omega, hl⟩
  have hperm : (ys.map (·.r)).Perm rs := by rw [← h.regs]; exact hp.map _
  have hlen : ys.length = n := by rw [hp.length_eq, h.len]
  have hrl : rs.length = n := by rw [← h.regs, List.length_map, h.len]
  constructor
  · rintro ⟨i, x, y, hx, hy, hov⟩
    apply Classical.byContradiction
    intro hnb
    have hG : Good (ys.map (·.r)) := (ChkO.good (.inr (.inr ⟨by omega, hs, hnb, rfl⟩))).perm hperm.symm
    obtain ⟨a1, a2, a3, a4⟩ := hmem x (List.mem_of_getElem? hx)
    have hx' : (ys.map (·.r))[i]? = some x.r := by rw [List.getElem?_map, hx]; rfl
    have hy' : (ys.map (·.r))[i + 1]? = some y.r := by rw [List.getElem?_map, hy]; rfl
    have hle := pairwise_get.1 hr i (i + 1) _ _ hx' hy' (by omega)
    obtain ⟨b1, b2, b3, b4⟩ := hmem y (List.mem_of_getElem? hy)
    rw [last_eq x a2 a1 a3] at hov
    rcases hG.apart i (i + 1) _ _ hx' hy' (by omega) with h6 | h6 <;> omega
  · intro hb
    apply Classical.byContradiction
    intro hno
    refine good_not_bad ?_ hb
    refine Good.perm (rs := ys.map (·.r)) ?_ hperm
    rw [Good.iff]
    refine ⟨by rw [List.length_map]; omega, fun r hr' => ?_, ?_⟩
    · obtain ⟨y, hy, rfl⟩ := List.mem_map.1 hr'
      obtain ⟨a1, a2, a3, a4⟩ := hmem y hy
      refine ⟨?_, ?_, ?_⟩ <;> omega
    · rw [pairwise_get]
      intro i j r s hi hj hij
      rw [List.getElem?_map] at hi
      obtain ⟨x, hx, rfl⟩ := Option.map_eq_some_iff.1 hi
      obtain ⟨z, hz⟩ : ∃ z, ys[i + 1]? = some z := ⟨_, List.getElem?_eq_getElem (by have := (List.getElem?_eq_some_iff.1 hj).1; rw [List.length_map] at this; omega)⟩
      obtain ⟨a1, a2, a3, a4⟩ := hmem x (List.mem_of_getElem? hx)
      have hlt : lastOf x < z.r.base := by
        rcases Int.lt_or_le (lastOf x) z.r.base with h1 | h1
        · exact h1
        · exact absurd ⟨i, x, z, hx, hz, h1⟩ hno
      rw [last_eq x a2 a1 a3] at hlt
      have hzs : z.r.base ≤ s.base := by
        rcases Nat.lt_or_ge (i + 1) j with h1 | h1
        · exact pairwise_get.1 hr (i + 1) j _ _ (by rw [List.getElem?_map, hz]; rfl) hj h1
        · obtain rfl : j = i + 1 := by omega
          rw [List.getElem?_map, hz] at hj
          cases hj
          exact Int.le_refl _
      left
      omega
end
set_option maxRecDepth 100000 in
set_option maxHeartbeats 2000000 in
theorem check_c (A : Option Addr) (n c : Nat) (rs : List Reg) (w : World) (h : Hid (AtR w A n rs)) (hc : n ≤ 9223372036854775807) :
    Calls Try.prog 20 #[.slice A n c] w (CheckP rs w) := by
  have HLEN := Lib.hid h.out.len
  obtain ⟨xs, hxs⟩ := h.out.cels
  have HX := Lib.hid hxs
  clear hxs
  rcases Nat.lt_or_ge 8 n with h8 | h8
  · have h8i : (8 : Int) < (n : Int) := by omega
    go_enter Try.func20, Try.ntmps20
    go_wp2_with fail
    go_ret
    exact ⟨Below.refl _ _, 3, rfl, .inl ⟨.inl (by rw [HLEN.out]; exact h8), rfl⟩⟩
  · have h8i : (n : Int) ≤ 8 := by omega
    have H8 := Lib.hid h8
    have H1 := Lib.hid (contains_c c HX.out hc 36 tooP (enters_of Try.func36 (by kernel_rfl) rfl) (fun x W => tooLong_c x W))
    have HLI := Lib.hid (long_iff HX.out)
    obtain ⟨b1, hb1⟩ : ∃ b, b = xs.any tooP := ⟨_, rfl⟩
    rw [← hb1] at H1 HLI
    clear hb1
    go_enter Try.func20, Try.ntmps20
    go_wp2_with fail
    go_at_call 35
    refine H1.out.mono ?_
    rintro e w1 ⟨rfl, hbl⟩
    have HB1 := Lib.hid hbl
    clear hbl H1
    cases b1 with
    | true =>
      go_wp2_with fail
      go_ret
      exact ⟨HB1.out, 3, rfl, .inl ⟨.inr (HLI.out.1 trivial), rfl⟩⟩
    | false =>
      have HNL : Hid (¬ Long rs) := Lib.hid (fun hl => by have := HLI.out.2 hl; cases this)
      have HX1 := Lib.hid (HX.out.below HB1.out)
      have H2 := Lib.hid (contains_c c HX1.out hc 37 wrongP (enters_of Try.func37 (by kernel_rfl) rfl) (fun x W => wrong_c x W))
      obtain ⟨b2, hb2⟩ : ∃ b, b = xs.any wrongP := ⟨_, rfl⟩
      have HB2E := Lib.hid hb2
      rw [← hb2] at H2
      clear hb2
      go_wp2_with fail
      go_at_call 35
      refine H2.out.mono ?_
      rintro e w2 ⟨rfl, hbl⟩
      have HB2 := Lib.hid (bel_trans HB1.out hbl)
      have HX2 := Lib.hid (HX1.out.below hbl)
      clear hbl H2
      cases b2 with
      | true =>
        have HBAD := Lib.hid (wrong_bad HX.out HNL.out HB2E.out.symm)
        go_wp2_with fail
        go_ret
        exact ⟨HB2.out, 2, rfl, .inr (.inl ⟨by rw [HLEN.out]; exact H8.out, HNL.out, HBAD.out, rfl⟩)⟩
      | false =>
        have H3 := Lib.hid (byAddr_c A n c rs xs w2 HX2 (by omega))
        go_wp2_with fail
        go_at_call 39
        refine H3.out.mono ?_
        rintro e w3 ⟨v, ys, rfl, hp, hs, ho, hbl⟩
        have HB3 := Lib.hid (bel_trans HB2.out hbl)
        have HI := Lib.hid (over_bad HX.out H8.out HNL.out HB2E.out.symm hp hs)
        have hyl : ys.length ≤ 12 := by rw [hp.length_eq, HX.out.len]; omega
        have H4 := Lib.hid (overlap_c (Lib.hid ho) hyl)
        clear hbl H3 hp hs ho hyl
        go_wp2_with fail
        go_at_call 38
        refine H4.out.mono ?_
        rintro e w4 ⟨b3, rfl, hbi, hbl⟩
        have HB4 := Lib.hid (bel_trans HB3.out hbl)
        have HBI := Lib.hid hbi
        clear hbl H4 hbi
        cases b3 with
        | true =>
          go_wp2_with fail
          go_ret
          exact ⟨HB4.out, 2, rfl, .inr (.inl ⟨by rw [HLEN.out]; exact H8.out, HNL.out, HI.out.1 (HBI.out.1 trivial), rfl⟩)⟩
        | false =>
          go_wp2_with fail
          go_ret
          exact ⟨HB4.out, 0, rfl, .inr (.inr ⟨by rw [HLEN.out]; exact H8.out, HNL.out, (fun hb => by have := HBI.out.2 (HI.out.2 hb); cases this), rfl⟩)⟩
end Mm
end Go.Proofs.Ytkgbpcfpppceiaa
