/- The landed package's memory as it lies; New, Regions, Clone; none. -/
import Derived.Test.YtkgbpcfpppceiaaQ8
import Derived.LaidEqlPtr
namespace Go.Proofs.Ytkgbpcfpppceiaa
open Go Go.RowKit Go.Shelf Go.Sort
namespace Mm
open Wd Nt
set_option linter.unusedVariables false
structure LndM (w : World) (B E : Nat) (p : Value) (M : List Reg) : Prop where
  ex : ∃ D v os, p = .pointer (some ⟨D, 0, none⟩) ∧ Bk w D 60 #[.pointer (some ⟨D, 0, none⟩), v] ∧ B ≤ D ∧ D < E ∧ OwnI w B E v os ∧ os.map (·.r) = M
  good : Good M
  rise : Rising M
theorem LndM.keep {w w' : World} {B E B' E' : Nat} {p : Value} {M : List Reg} (h : LndM w B E p M) (hk : Kp B' E' w w') (ho : E ≤ B' ∨ E' ≤ B) : LndM w' B E p M := by
  obtain ⟨D, v, os, h1, h2, h3, h4, h5, h6⟩ := h.ex
  exact ⟨⟨D, v, os, h1, hk.bk h2 (by omega), h3, h4, h5.keep hk ho, h6⟩, h.good, h.rise⟩
theorem LndM.below {w w' : World} {B E : Nat} {p : Value} {M : List Reg} (h : LndM w B E p M) (hb : Below w.heap.size w w') : LndM w' B E p M :=
  h.keep (B' := E) (E' := E) (Kp.of hb) (.inl (Nat.le_refl _))
theorem LndM.shape {w : World} {B E : Nat} {p : Value} {M : List Reg} (h : LndM w B E p M) : (∃ D, p = .pointer (some D)) ∧ Good M ∧ Rising M ∧ Oks M ∧ B ≤ E ∧ E ≤ w.heap.size := by
  obtain ⟨D, v, os, h1, h2, h3, h4, h5, h6⟩ := h.ex
  refine ⟨⟨_, h1⟩, h.good, h.rise, fun r hr => ?_, by omega, h5.top⟩
  rw [← h6] at hr
  obtain ⟨o, ho, rfl⟩ := List.mem_map.1 hr
  exact h5.own.oks o ho
/-- its cells, as a call reads them -/
theorem LndM.open_ {w : World} {B E : Nat} {p : Value} {M : List Reg} (h : LndM w B E p M) : ∃ D A n c, p = .pointer (some ⟨D, 0, none⟩) ∧ w.cell? ⟨D, 0, none⟩ = some (.pointer (some ⟨D, 0, none⟩)) ∧ w.cell? ⟨D, 1, none⟩ = some (.slice A n c) ∧ AtR w A n M ∧ n ≤ 8 ∧ D < w.heap.size := by
  obtain ⟨D, v, os, h1, h2, h3, h4, h5, h6⟩ := h.ex
  obtain ⟨A, n, c, rfl, hR, _, _⟩ := h5.own.rdR
  rw [h6] at hR
  exact ⟨D, A, n, c, h1, h2.cell 0, h2.cell 1, hR, by rw [← hR.len]; exact h.good.few, h2.lt⟩

theorem info_mem : (Try.prog.info? 60).isSome = true := by kernel_rfl
set_option maxRecDepth 100000 in
theorem made_c {w : World} {D : Nat} (h : w.cell? ⟨D, 0, none⟩ = some (.pointer (some ⟨D, 0, none⟩))) : Calls Try.prog 28 #[.pointer (some ⟨D, 0, none⟩)] w fun e w' => e = .returned (.bool true) ∧ w' = w := by
  obtain ⟨j, hj⟩ := Option.isSome_iff_exists.1 info_mem
  have heq := fun (W : World) => run_eql_ptr_same (P := Try.prog) W ⟨D, 0, none⟩ Try.underlying23 hj
  clear hj
  go_enter Try.func28, Try.ntmps28
  go_wp2_with fail
  go_ret
  exact ⟨rfl, rfl⟩
set_option maxRecDepth 100000 in
theorem madeN_c (w : World) : Calls Try.prog 28 #[.pointer none] w fun e w' => e = .returned (.bool false) ∧ w' = w := by
  go_enter Try.func28, Try.ntmps28
  go_wp2_with fail
  go_ret
  exact ⟨rfl, rfl⟩

/-! ### none -/
set_option maxRecDepth 100000 in
theorem loadN_c (w : World) (p : Int) : Calls Try.prog 13 #[.pointer none, .int .u64 p] w fun e w' => e = .returned (.tuple #[.int .u64 0, .int .i64 1]) ∧ Below w.heap.size w w' := by
  go_enter Try.func13, Try.ntmps13
  go_wp2_with (go_at_call 28; refine (madeN_c _).mono ?_; rintro e w' ⟨rfl, rfl⟩)
  go_ret2
  exact ⟨rfl, Below.refl _ _⟩
set_option maxRecDepth 100000 in
theorem storeN_c (w : World) (p v : Int) : Calls Try.prog 12 #[.pointer none, .int .u64 p, .int .u64 v] w fun e w' => e = .returned (.int .i64 1) ∧ Below w.heap.size w w' := by
  go_enter Try.func12, Try.ntmps12
  go_wp2_with (go_at_call 28; refine (madeN_c _).mono ?_; rintro e w' ⟨rfl, rfl⟩)
  go_ret
  exact ⟨rfl, Below.refl _ _⟩
set_option maxRecDepth 100000 in
theorem bytesN_c (w : World) (p n : Int) : Calls Try.prog 14 #[.pointer none, .int .u64 p, .int .i64 n] w fun e w' => e = .returned (.tuple #[.string ⟨#[]⟩, .int .i64 1]) ∧ Below w.heap.size w w' := by
  go_enter Try.func14, Try.ntmps14
  go_wp2_with (go_at_call 28; refine (madeN_c _).mono ?_; rintro e w' ⟨rfl, rfl⟩)
  go_ret2
  exact ⟨rfl, Below.refl _ _⟩
set_option maxRecDepth 100000 in
theorem regionsN_c (w : World) : Calls Try.prog 16 #[.pointer none] w fun e w' => (∃ A c, e = .returned (.slice A 0 c)) ∧ Below w.heap.size w w' := by
  go_enter Try.func16, Try.ntmps16
  go_wp2_with (go_at_call 28; refine (madeN_c _).mono ?_; rintro e w' ⟨rfl, rfl⟩)
  go_ret
  exact ⟨⟨_, _, rfl⟩, Below.refl _ _⟩
set_option maxRecDepth 100000 in
theorem cloneN_c (w : World) : Calls Try.prog 15 #[.pointer none] w fun e w' => e = .returned (.pointer none) ∧ Below w.heap.size w w' := by
  go_enter Try.func15, Try.ntmps15
  go_wp2_with (go_at_call 28; refine (madeN_c _).mono ?_; rintro e w' ⟨rfl, rfl⟩)
  go_ret
  exact ⟨rfl, Below.refl _ _⟩

/-! ### New -/
set_option maxRecDepth 100000 in
set_option maxHeartbeats 1000000 in
theorem new_c (A : Option Addr) (n c : Nat) (rs : List Reg) (w : World) (h : Hid (AtR w A n rs)) (hc : n ≤ 9223372036854775807) :
    Calls Try.prog 11 #[.slice A n c] w (NewO LndM rs w) := by
  have H1 := Lib.hid (check_c A n c rs w h hc)
  go_enter Try.func11, Try.ntmps11
  go_wp2_with fail
  go_at_call 20
  refine H1.out.mono ?_
  rintro e w1 ⟨hb1, x, rfl, hx⟩
  have HX := Lib.hid hx
  have HB1 := Lib.hid hb1
  by_cases h0 : x = 0
  · subst h0
    have HG := Lib.hid hx.good
    have H2 := Lib.hid (copies_c A n c rs w1 (AtR.step h hb1) HG.out)
    clear H1 hb1 hx
    go_wp2_with fail
    go_at_call 27
    refine H2.out.mono ?_
    rintro e w2 ⟨v, os, rfl, ho, hp, hb2⟩
    have HB2 := Lib.hid (bel_trans HB1.out hb2)
    have HP := Lib.hid hp.out
    have HO := Lib.hid ho.out
    obtain ⟨A0, n0, c0, rfl⟩ : ∃ A0 n0 c0, v = .slice A0 n0 c0 := by
      obtain ⟨A0, n0, c0, e, _⟩ := ho.out.rdR; exact ⟨A0, n0, c0, e⟩
    have HR : Hid (∀ W, W = w2.alloc (.cells #[.pointer (some ⟨w2.heap.size, 0, none⟩), .slice A0 n0 c0] 60) → Below w.heap.size w W ∧ LndM W w.heap.size W.heap.size (.pointer (some ⟨w2.heap.size, 0, none⟩)) (os.map (·.r))) := Lib.hid (by
      rintro W rfl
      have hsz : (w2.alloc (.cells #[.pointer (some ⟨w2.heap.size, 0, none⟩), .slice A0 n0 c0] 60)).heap.size = w2.heap.size + 1 := by simp
      have h1 := ((HO.out.below (bel_alloc (.cells #[.pointer (some ⟨w2.heap.size, 0, none⟩), .slice A0 n0 c0] 60))).base HB1.out.size)
      exact ⟨HB2.out.alloc HB2.out.size _, ⟨⟨w2.heap.size, _, os, rfl, Bk.new _ _ _, HB2.out.size, by omega, h1.toI, rfl⟩, HG.out.perm HP.out.1.symm, HP.out.2⟩⟩)
    clear H2 ho hp hb2
    go_wp2_with fail
    go_ret2
    obtain ⟨h3, h4⟩ := HR.out _ rfl
    exact ⟨h3, 0, HX.out, .inr ⟨rfl, _, _, rfl, HP.out.1, h4⟩⟩
  · have hx0 : (x != 0) = true := by simpa using h0
    have HX0 := Lib.hid h0
    clear hx h0 H1 hb1
    go_wp2_with fail
    go_ret2
    exact new_e HB1.out HX.out HX0.out
theorem goodR {A : Option Addr} {n : Nat} {w : World} {M : List Reg} (h : AtR w A n M) (hn : n ≤ 8) : n ≤ 9223372036854775807 := by omega

/-! ### Regions, Clone -/
set_option maxRecDepth 100000 in
set_option maxHeartbeats 1000000 in
theorem regions_c {w : World} {B E : Nat} {P : Value} {M : List Reg} (h : Hid (LndM w B E P M)) : Calls Try.prog 16 #[P] w (RegsP M w) := by
  obtain ⟨D, A, n, c, rfl, c0, c1, hR, hn, hD⟩ := h.out.open_
  have H1 := Lib.hid (copies_c A n c M w (Lib.hid hR) h.out.good)
  have HM := Lib.hid (made_c c0)
  clear hR
  go_enter Try.func16, Try.ntmps16
  go_wp2_with fail
  go_at_call 28
  refine HM.out.mono ?_
  rintro e w1 ⟨rfl, rfl⟩
  go_wp2_with fail
  go_at_call 27
  refine H1.out.mono ?_
  rintro e w2 ⟨v, os, rfl, ho, hp, hb2⟩
  have HB := Lib.hid hb2
  have HE := Lib.hid (rising_uniq h.out.good hp.out.1 (List.Perm.refl _) hp.out.2 h.out.rise)
  clear H1 HM hb2 hp
  go_wp2_with fail
  go_ret
  exact ⟨HB.out, v, os, rfl, Lib.hid ho.out.toI, HE.out⟩
set_option maxRecDepth 100000 in
set_option maxHeartbeats 1000000 in
theorem mclone_c {w : World} {B E : Nat} {P : Value} {M : List Reg} (h : Hid (LndM w B E P M)) : Calls Try.prog 15 #[P] w (CloneP LndM M w) := by
  obtain ⟨D, A, n, c, rfl, c0, c1, hR, hn, hD⟩ := h.out.open_
  have H1 := Lib.hid (new_c A n c M w (Lib.hid hR) (by omega))
  have HM := Lib.hid (made_c c0)
  clear hR
  go_enter Try.func15, Try.ntmps15
  go_wp2_with fail
  go_at_call 28
  refine HM.out.mono ?_
  rintro e w1 ⟨rfl, rfl⟩
  go_wp2_with fail
  go_at_call 11
  refine H1.out.mono ?_
  rintro e w2 ⟨hb2, x, hx, ⟨hx0, rfl⟩ | ⟨_, p, M', rfl, hp, hr⟩⟩
  · exact absurd (good_chk h.out.good hx) hx0
  · obtain rfl : M' = M := rising_uniq h.out.good hp (List.Perm.refl _) hr.rise h.out.rise
    have HB := Lib.hid hb2
    have HR := Lib.hid hr
    clear H1 HM hb2 hp hr hx
    go_wp2_with fail
    go_ret
    exact ⟨HB.out, p, rfl, HR.out⟩
end Mm
end Go.Proofs.Ytkgbpcfpppceiaa
