/- The landed package's Load and Bytes. -/
import Derived.Test.YtkgbpcfpppceiaaQ11
namespace Go.Proofs.Ytkgbpcfpppceiaa
open Go Go.RowKit Go.Shelf Go.Sort
namespace Mm
open Wd Nt
set_option linter.unusedVariables false
/-- its parts, as a call goes by them -/
theorem LndM.parts {w : World} {B E : Nat} {P : Value} {M : List Reg} (h : LndM w B E P M) : ∃ D v os, P = .pointer (some ⟨D, 0, none⟩) ∧ Bk w D 60 #[.pointer (some ⟨D, 0, none⟩), v] ∧ OwnI w B E v os ∧ (Good (os.map (·.r)) ∧ Rising (os.map (·.r))) ∧ os.map (·.r) = M := by
  obtain ⟨D, v, os, h1, h2, h3, h4, h5, h6⟩ := h.ex
  exact ⟨D, v, os, h1, h2, h5, by rw [h6]; exact ⟨h.good, h.rise⟩, h6⟩
theorem none_hits {M : List Reg} {os : List OReg} {p n : Int} (hM : os.map (·.r) = M) (h : ∀ (i : Nat) (o : OReg), os[i]? = some o → ¬ (o.r.base ≤ p ∧ p < o.r.base + o.r.len)) (i : Nat) (r : Reg) : ¬ Hits M p n i r := by
  rintro ⟨h1, h2, h3, _⟩
  rw [← hM, List.getElem?_map] at h1
  obtain ⟨o, ho, rfl⟩ := Option.map_eq_some_iff.1 h1
  exact h i o ho ⟨h2, h3⟩
theorem some_hits {M : List Reg} {os : List OReg} {p n : Int} {i d : Nat} {o : OReg} (hM : os.map (·.r) = M) (ho : os[i]? = some o) (hd : p - o.r.base = (d : Int)) (hl : d < o.r.bytes.length) (hn : n ≤ (o.r.bytes.length : Int) - d) : Hits M p n i o.r := by
  have e : o.r.len = o.r.bytes.length := rfl
  exact ⟨by rw [← hM, List.getElem?_map, ho]; rfl, by omega, by omega, by omega⟩
theorem few_hits {M : List Reg} {os : List OReg} {p n : Int} {i d : Nat} {o : OReg} (hG : Good M) (hM : os.map (·.r) = M) (ho : os[i]? = some o) (hd : p - o.r.base = (d : Int)) (hl : d < o.r.bytes.length) (hn : (o.r.bytes.length : Int) - d < n) (j : Nat) (r : Reg) : ¬ Hits M p n j r := by
  intro h
  have h0 := some_hits (n := 0) hM ho hd hl (by omega)
  obtain ⟨rfl, rfl⟩ := h.uniq hG h0
  have e : o.r.len = o.r.bytes.length := rfl
  have := h.2.2.2
  omega
set_option maxRecDepth 100000 in
set_option maxHeartbeats 2000000 in
theorem load_c {w : World} {B E : Nat} {P : Value} {M : List Reg} (p : Int) (h : Hid (LndM w B E P M)) (hp : W p) :
    Calls Try.prog 13 #[P, .int .u64 p] w (LoadP M p w) := by
  obtain ⟨D, v, os, rfl, hD, hO, hG, hM⟩ := h.out.parts
  have HM := Lib.hid hM
  have HG := Lib.hid h.out.good
  have HMD := Lib.hid (made_c (hD.cell 0))
  have H1 := Lib.hid (from_c p hp (Lib.hid hO) (Lib.hid hD) (Lib.hid hG))
  have HO := Lib.hid hO
  clear hD hO hG hM hp
  go_enter Try.func13, Try.ntmps13
  go_wp2_with fail
  go_at_call 28
  refine HMD.out.mono ?_
  rintro e w1 ⟨rfl, rfl⟩
  go_wp2_with fail
  go_at_call 29
  refine H1.out.mono ?_
  rintro e w2 ⟨hb2, ⟨hno, rfl⟩ | ⟨i, o, d, ho, hd, hdl, rfl⟩⟩
  · have HNO := Lib.hid hno
    have HB := Lib.hid hb2
    clear hno hb2 H1 HMD
    go_wp2_with fail
    go_ret2
    exact ⟨HB.out, _, _, rfl, .inr ⟨fun i r => none_hits HM.out HNO.out i r, rfl, rfl⟩⟩
  · have HB := Lib.hid hb2
    have hm := List.mem_of_getElem? ho
    have hrm := sl_room (HO.out.own.each o hm)
    have hrd := (HO.out.below hb2).own.rd8 hm
    have hsh := HG.out.short i o.r (by rw [← HM.out, List.getElem?_map, ho]; rfl)
    have hsh' : o.r.bytes.length ≤ 1048576 := by unfold Reg.len at hsh; omega
    have HOI := Lib.hid ho
    have HD := Lib.hid hd
    have HDL := Lib.hid hdl
    obtain ⟨m, hm1⟩ : ∃ m, m = o.r.bytes.length - d := ⟨_, rfl⟩
    obtain ⟨c, hc1⟩ : ∃ c, c = o.c - d := ⟨_, rfl⟩
    have hcut := hrd.cut d m (by omega)
    rw [Nat.zero_add] at hcut
    rw [← hm1, ← hc1]
    have hmc : m ≤ c := by omega
    have hcm : c ≤ 9223372036854775807 := by omega
    have HM1 := Lib.hid hm1
    rcases Nat.lt_or_ge m 8 with hlt | hge
    · have HNH : Hid (∀ i r, ¬ Hits M p 8 i r) := Lib.hid (few_hits HG.out HM.out HOI.out HD.out HDL.out (by omega))
      have hlti : (m : Int) < 8 := by omega
      clear hb2 hm hrm hrd hsh hsh' ho hd hdl hcut hm1 hc1 H1 HMD
      go_wp2_with fail
      go_ret2
      exact ⟨HB.out, _, _, rfl, .inr ⟨HNH.out, rfl, rfl⟩⟩
    · have H3 := Lib.hid (join_c (c := c) (Lib.hid hcut) hge hmc hcm)
      have HV : Hid (LoadO M p (wordN ((o.r.bytes.drop d).take m) 0 8) 0) := Lib.hid (.inl ⟨i, o.r, some_hits HM.out HOI.out HD.out HDL.out (by omega), by
        rw [HD.out, Int.toNat_natCast]
        refine wordN_cong (fun t ht => ?_)
        unfold bt
        rw [List.getElem?_take, if_pos (by omega), List.getElem?_drop, Nat.zero_add], rfl⟩)
      have hgei : (8 : Int) ≤ (m : Int) := by omega
      clear hb2 hm hrm hrd hsh hsh' ho hd hdl hcut hm1 hc1 H1 HMD
      go_wp2_with fail
      go_at_call 31
      refine H3.out.mono ?_
      rintro e w3 ⟨rfl, rfl⟩
      go_wp2_with fail
      go_ret2
      exact ⟨HB.out, _, _, rfl, HV.out⟩
set_option maxRecDepth 100000 in
set_option maxHeartbeats 2000000 in
theorem bytes_c {w : World} {B E : Nat} {P : Value} {M : List Reg} (p n : Int) (h : Hid (LndM w B E P M)) (hp : W p) (hn : (Lit.int .i64 n).wf = true) :
    Calls Try.prog 14 #[P, .int .u64 p, .int .i64 n] w (BytesP M p n w) := by
  have hk' : -9223372036854775808 ≤ n ∧ n ≤ 9223372036854775807 := by
    simp [Lit.wf, IntKind.min, IntKind.max, IntKind.signed, IntKind.bits] at hn; omega
  obtain ⟨D, v, os, rfl, hD, hO, hG, hM⟩ := h.out.parts
  have HM := Lib.hid hM
  have HG := Lib.hid h.out.good
  have HMD := Lib.hid (made_c (hD.cell 0))
  have H1 := Lib.hid (from_c p hp (Lib.hid hO) (Lib.hid hD) (Lib.hid hG))
  have HO := Lib.hid hO
  clear hD hO hG hM hp hn
  rcases Int.lt_or_le n 0 with hneg | hpos
  · have HN := Lib.hid hneg
    clear hk' H1
    go_enter Try.func14, Try.ntmps14
    go_wp2_with fail
    go_at_call 28
    refine HMD.out.mono ?_
    rintro e w1 ⟨rfl, rfl⟩
    go_wp2_with fail
    go_ret2
    exact ⟨Below.refl _ _, [], 2, rfl, .inl ⟨HN.out, rfl, rfl⟩⟩
  · obtain ⟨k, rfl⟩ : ∃ k : Nat, n = (k : Int) := ⟨n.toNat, by omega⟩
    have hk0 : (0 : Int) ≤ (k : Int) := by omega
    have hk2 : (k : Int) ≤ 9223372036854775807 := hk'.2
    clear hk' hpos
    go_enter Try.func14, Try.ntmps14
    go_wp2_with fail
    go_at_call 28
    refine HMD.out.mono ?_
    rintro e w1 ⟨rfl, rfl⟩
    go_wp2_with fail
    go_at_call 29
    refine H1.out.mono ?_
    rintro e w2 ⟨hb2, ⟨hno, rfl⟩ | ⟨i, o, d, ho, hd, hdl, rfl⟩⟩
    · have HNO := Lib.hid hno
      have HB := Lib.hid hb2
      have hmx : (0 : Int) < max (k : Int) 1 := by omega
      clear hno hb2 H1 HMD
      go_wp2_with fail
      go_ret2
      exact ⟨HB.out, [], 11, rfl, .inr (.inr ⟨by omega, fun i r => none_hits HM.out HNO.out i r, rfl, rfl⟩)⟩
    · have HB := Lib.hid hb2
      have hm := List.mem_of_getElem? ho
      have hrm := sl_room (HO.out.own.each o hm)
      have hrd := (HO.out.below hb2).own.rd8 hm
      have hsh := HG.out.short i o.r (by rw [← HM.out, List.getElem?_map, ho]; rfl)
      have hsh' : o.r.bytes.length ≤ 1048576 := by unfold Reg.len at hsh; omega
      have HOI := Lib.hid ho
      have HD := Lib.hid hd
      have HDL := Lib.hid hdl
      obtain ⟨m, hm1⟩ : ∃ m, m = o.r.bytes.length - d := ⟨_, rfl⟩
      obtain ⟨c, hc1⟩ : ∃ c, c = o.c - d := ⟨_, rfl⟩
      rw [← hm1, ← hc1]
      have hmc : m ≤ c := by omega
      have hcm : c ≤ 9223372036854775807 := by omega
      have hm1' : 1 ≤ m := by omega
      have HM1 := Lib.hid hm1
      rcases Nat.lt_or_ge m k with hlt | hge
      · have HNH : Hid (∀ i r, ¬ Hits M p (k : Int) i r) := Lib.hid (few_hits HG.out HM.out HOI.out HD.out HDL.out (by omega))
        have hmx : (m : Int) < max (k : Int) 1 := by omega
        clear hb2 hm hrm hrd hsh hsh' ho hd hdl hm1 hc1 H1 HMD
        go_wp2_with fail
        go_ret2
        exact ⟨HB.out, [], 11, rfl, .inr (.inr ⟨by omega, HNH.out, rfl, rfl⟩)⟩
      · have hcut := hrd.cut d k (by omega)
        rw [Nat.zero_add] at hcut
        have hst := run_str (w := w2) c hcut
        have HS : Hid (BytesO M p (k : Int) ((o.r.bytes.drop d).take k) 0) := Lib.hid (.inr (.inl ⟨by omega, i, o.r, some_hits HM.out HOI.out HD.out HDL.out (by omega), by rw [HD.out]; rfl, rfl⟩))
        generalize (o.r.bytes.drop d).take k = bs at *
        have hmx : ¬ ((m : Int) < max (k : Int) 1) := by omega
        have hmx2 : max (k : Int) 1 ≤ (m : Int) := by omega
        have hki : (k : Int) ≤ (m : Int) := by omega
        have hkc : (k : Int) ≤ (c : Int) := by omega
        have hkc2 : k ≤ c := by omega
        clear hb2 hm hrm hrd hsh hsh' ho hd hdl hm1 hc1 H1 HMD hcut
        go_wp2_with fail
        go_ret2
        exact ⟨HB.out, bs, 0, rfl, HS.out⟩
end Mm
end Go.Proofs.Ytkgbpcfpppceiaa
