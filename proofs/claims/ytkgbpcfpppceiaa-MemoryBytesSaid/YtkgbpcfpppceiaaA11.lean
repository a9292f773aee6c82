/- What is asked of the landed package memory; the chapter's example as each law asks it first. -/
import Derived.Test.YtkgbpcfpppceiaaA10
import Derived.Deep.RegionWith
namespace Go.Proofs.Ytkgbpcfpppceiaa
open Go Go.RowKit
namespace Mm
open Wd Nt
set_option linter.unusedVariables false
/-- regions that are told, one's own -/
def RegsP (M : List Reg) (w : World) (e : Ending) (w' : World) : Prop := Below w.heap.size w w' ∧ ∃ v os, e = .returned v ∧ Hid (OwnI w' w.heap.size w'.heap.size v os) ∧ os.map (·.r) = M
def CloneP (R : World → Nat → Nat → Value → List Reg → Prop) (M : List Reg) (w : World) (e : Ending) (w' : World) : Prop := Below w.heap.size w w' ∧ ∃ p, e = .returned p ∧ R w' w.heap.size w'.heap.size p M
def CheckP (rs : List Reg) (w : World) (e : Ending) (w' : World) : Prop := Below w.heap.size w w' ∧ ∃ x, e = .returned (.int .i64 x) ∧ ChkO rs x
structure MemC (R : World → Nat → Nat → Value → List Reg → Prop) : Prop where
  keep : ∀ {w w' : World} {B E B' E' : Nat} {p : Value} {M : List Reg}, R w B E p M → Kp B' E' w w' → (E ≤ B' ∨ E' ≤ B) → R w' B E p M
  shape : ∀ {w : World} {B E : Nat} {p : Value} {M : List Reg}, R w B E p M → (∃ D, p = .pointer (some D)) ∧ Good M ∧ Rising M ∧ Oks M ∧ B ≤ E ∧ E ≤ w.heap.size
  new : ∀ (A : Option Addr) (n c : Nat) (rs : List Reg) (w : World), Hid (AtR w A n rs) → n ≤ 9223372036854775807 → Calls Try.prog 11 #[.slice A n c] w (NewO R rs w)
  check : ∀ (A : Option Addr) (n c : Nat) (rs : List Reg) (w : World), Hid (AtR w A n rs) → n ≤ 9223372036854775807 → Calls Try.prog 20 #[.slice A n c] w (CheckP rs w)
  load : ∀ {w : World} {B E : Nat} {P : Value} {M : List Reg} (p : Int), Hid (R w B E P M) → W p → Calls Try.prog 13 #[P, .int .u64 p] w (LoadP M p w)
  store : ∀ {w : World} {B E : Nat} {P : Value} {M : List Reg} (p v : Int), Hid (R w B E P M) → W p → W v → Calls Try.prog 12 #[P, .int .u64 p, .int .u64 v] w (StoreP R B E P M p v w)
  bytes : ∀ {w : World} {B E : Nat} {P : Value} {M : List Reg} (p n : Int), Hid (R w B E P M) → W p → (Lit.int .i64 n).wf = true → Calls Try.prog 14 #[P, .int .u64 p, .int .i64 n] w (BytesP M p n w)
  regions : ∀ {w : World} {B E : Nat} {P : Value} {M : List Reg}, Hid (R w B E P M) → Calls Try.prog 16 #[P] w (RegsP M w)
  clone : ∀ {w : World} {B E : Nat} {P : Value} {M : List Reg}, Hid (R w B E P M) → Calls Try.prog 15 #[P] w (CloneP R M w)
  loadN : ∀ (w : World) (p : Int), W p → Calls Try.prog 13 #[.pointer none, .int .u64 p] w fun e w' => e = .returned (.tuple #[.int .u64 0, .int .i64 1]) ∧ Below w.heap.size w w'
  storeN : ∀ (w : World) (p v : Int), W p → W v → Calls Try.prog 12 #[.pointer none, .int .u64 p, .int .u64 v] w fun e w' => e = .returned (.int .i64 1) ∧ Below w.heap.size w w'
  bytesN : ∀ (w : World) (p n : Int), W p → (Lit.int .i64 n).wf = true → Calls Try.prog 14 #[.pointer none, .int .u64 p, .int .i64 n] w fun e w' => e = .returned (.tuple #[.string ⟨#[]⟩, .int .i64 1]) ∧ Below w.heap.size w w'
  regionsN : ∀ (w : World), Calls Try.prog 16 #[.pointer none] w fun e w' => (∃ A c, e = .returned (.slice A 0 c)) ∧ Below w.heap.size w w'
  cloneN : ∀ (w : World), Calls Try.prog 15 #[.pointer none] w fun e w' => e = .returned (.pointer none) ∧ Below w.heap.size w w'
theorem MemC.below {R : World → Nat → Nat → Value → List Reg → Prop} (mc : MemC R) {w w' : World} {B E : Nat} {p : Value} {M : List Reg} (h : Hid (R w B E p M)) (hb : Below w.heap.size w w') : Hid (R w' B E p M) :=
  Lib.hid (mc.keep (B' := E) (E' := E) h.out (Kp.of hb) (.inl (Nat.le_refl _)))

/-! ### the chapter's memory -/
def zs (n : Nat) : List Int := List.replicate n 0
theorem zs_bs (n : Nat) : Bs (zs n) := fun x hx => by unfold zs at hx; rw [(List.mem_replicate.1 hx).2]; omega
def ofM (n : Nat) : List Reg := [⟨100, zs n, true⟩, ⟨200, zs 9, false⟩]
def ofL (n : Nat) : List Reg := [⟨200, zs 9, false⟩, ⟨100, zs n, true⟩]
theorem zs_len (n : Nat) : (zs n).length = n := List.length_replicate ..
theorem of_good (n : Nat) (h : 0 < n) (h' : n ≤ 100) : Good (ofL n) := by
  rw [Good.iff]
  refine ⟨by unfold ofL; simp, fun r hr => ?_, ?_⟩
  · unfold ofL at hr
    simp only [List.mem_cons, List.not_mem_nil, or_false] at hr
    rcases hr with rfl | rfl <;> (unfold Reg.len; simp only [zs_len]; omega)
  · unfold ofL
    refine List.pairwise_cons.2 ⟨fun x hx => ?_, List.pairwise_cons.2 ⟨(fun x hx => by cases hx), List.Pairwise.nil⟩⟩
    simp only [List.mem_cons, List.not_mem_nil, or_false] at hx
    subst hx
    right
    unfold Reg.len
    simp only [zs_len]
    omega
theorem good_chk {rs : List Reg} (h : Good rs) {x : Int} (hx : ChkO rs x) : x = 0 := by
  rcases hx with ⟨a, _⟩ | ⟨_, _, ⟨i, r, hi, hb⟩, _⟩ | ⟨_, _, _, e⟩
  · rcases a with a | ⟨i, r, hi, hl⟩
    · have := h.few; omega
    · have := h.short i r hi; omega
  · rcases hb with hb | hb | ⟨k, s, hk, hs, h1, h2⟩
    · have := h.pos i r hi; omega
    · have := h.fits i r hi; omega
    · rcases h.apart i k r s hi hs (by omega) with h3 | h3 <;> omega
  · exact e
theorem of_perm (n : Nat) : (ofM n).Perm (ofL n) := List.Perm.swap _ _ _
theorem of_rise (n : Nat) : Rising (ofM n) := by
  unfold ofM Rising
  refine List.pairwise_cons.2 ⟨fun x hx => ?_, List.pairwise_cons.2 ⟨(fun x hx => by cases hx), List.Pairwise.nil⟩⟩
  simp only [List.mem_cons, List.not_mem_nil, or_false] at hx
  subst hx
  show (100 : Int) ≤ 200
  omega
theorem make_8 (n : Nat) (hn : n ≤ 1099511627776) (w : World) :
    (Instr.makeSlice 29 (.int .i64 (n : Int)) (.int .i64 (n : Int))).run Try.prog w = .ok (.slice (some ⟨w.heap.size, 0, none⟩) n n) (w.alloc (.cells (b8 (zs n)).toArray 5)) := by
  obtain ⟨i, hi, hz, h1, h2⟩ := info_parts info_u8
  have hr := run_make (P := Try.prog) w 29 5 i (.int .u8 0) Try.underlying29 hi hz .i64 .i64 (n : Int) (n : Int) (by omega) (by omega) (by rw [h2]; omega) (by omega)
  simp only [Int.toNat_natCast] at hr
  rw [hr, h1]
  have e : madeCells (Value.int .u8 0).cells (n * 1) = (b8 (zs n)).toArray := by
    apply Array.ext
    · simp [madeCells, b8, zs]
    · intro j h1 h2
      simp [madeCells, Value.cells, Nat.mod_one, b8, zs]
  rw [e]
theorem bk_rd8 {w : World} {g n : Nat} {bs : List Int} (h : Bk w g 5 (b8 bs).toArray) (hn : bs.length = n) (hb : Bs bs) : Rd8 w w.heap.size (some ⟨g, 0, none⟩) n bs := by
  refine ⟨hn, hb, fun h0 => ⟨_, rfl, h.lt, fun j hj => ?_⟩⟩
  have e : (⟨g, 0, none⟩ : Addr).add j = ⟨g, j, none⟩ := by
    unfold Addr.add; split
    · rename_i e; rw [e]
    · simp
  rw [e, h.cell]
  have := b8_get (bs := bs) (k := j) (by omega)
  simpa using this
variable {R : World → Nat → Nat → Value → List Reg → Prop}
def OfP (R : World → Nat → Nat → Value → List Reg → Prop) (n : Nat) (w : World) (e : Ending) (w' : World) : Prop := Below w.heap.size w w' ∧ ∃ B p, e = .returned p ∧ Hid (R w' B w'.heap.size p (ofM n)) ∧ w.heap.size ≤ B
def OfN (R : World → Nat → Nat → Value → List Reg → Prop) (n : Nat) (w : World) (e : Ending) (w' : World) : Prop := ∃ p, e = .returned (.tuple #[p, .int .i64 0]) ∧ Below w.heap.size w w' ∧ ∃ B, Hid (R w' B w'.heap.size p (ofM n)) ∧ w.heap.size ≤ B
theorem of_new (mc : MemC R) (n : Nat) (h : 0 < n) (h' : n ≤ 100) {w W : World} {g1 g2 gl : Nat} (hb : Below w.heap.size w W) (h1 : Bk W g1 5 (b8 (zs 9)).toArray) (h2 : Bk W g2 5 (b8 (zs n)).toArray)
    (hl : Bk W gl 31 #[.int .u64 200, .slice (some ⟨g1, 0, none⟩) 9 9, .bool false, .int .u64 100, .slice (some ⟨g2, 0, none⟩) n n, .bool true]) :
    Calls Try.prog 11 #[.slice (some ⟨gl, 0, none⟩) 2 2] W (OfN R n w) := by
  have hrow : Hid (AtR W (some ⟨gl, 0, none⟩) 2 (ofL n)) := by
    refine Lib.hid ⟨rfl, ?_, fun _ => ⟨_, rfl, hl.lt, ?_⟩⟩
    · intro r hr
      unfold ofL at hr
      simp only [List.mem_cons, List.not_mem_nil, or_false] at hr
      rcases hr with rfl | rfl
      · exact ⟨(by unfold Wd.W; decide : Wd.W 200), zs_bs _⟩
      · exact ⟨(by unfold Wd.W; decide : Wd.W 100), zs_bs _⟩
    · intro j r hj
      rcases j with _ | _ | j
      · obtain rfl : (⟨200, zs 9, false⟩ : Reg) = r := by simpa [ofL] using hj
        exact ⟨_, 9, 9, hl.cell 0, hl.cell 1, hl.cell 2, bk_rd8 h1 (zs_len 9) (zs_bs 9), Nat.le_refl _, by omega⟩
      · obtain rfl : (⟨100, zs n, true⟩ : Reg) = r := by simpa [ofL] using hj
        exact ⟨_, n, n, hl.cell 3, hl.cell 4, hl.cell 5, bk_rd8 h2 (zs_len n) (zs_bs n), Nat.le_refl _, by omega⟩
      · simp [ofL] at hj
  refine (mc.new _ 2 2 (ofL n) W hrow (by omega)).mono ?_
  rintro e w' ⟨hb2, x, hx, ⟨h0, _⟩ | ⟨_, p, M, rfl, hp, hr⟩⟩
  · exact absurd (good_chk (of_good n h h') hx) h0
  · obtain ⟨_, _, hrise, _⟩ := mc.shape hr
    obtain rfl : M = ofM n := rising_uniq (of_good n h h') hp (of_perm n) hrise (of_rise n)
    exact ⟨p, rfl, hb.trans (hb2.mono hb.size), _, Lib.hid hr, hb.size⟩
set_option maxRecDepth 100000 in
set_option maxHeartbeats 4000000 in
theorem of_c (mc : MemC R) (n : Nat) (h : 0 < n) (h' : n ≤ 100) (w : World) :
    Calls Try.prog 10 #[.int .i64 (n : Int)] w (OfP R n w) := by
  have hmk := fun W => make_8 n (by omega) W
  have hmk9 : ∀ W, (Instr.makeSlice 29 (.int .i64 9) (.int .i64 9)).run Try.prog W = .ok (.slice (some ⟨W.heap.size, 0, none⟩) 9 9) (W.alloc (.cells (b8 (zs 9)).toArray 5)) := fun W => make_8 9 (by omega) W
  have H := fun (W : World) (g1 g2 gl : Nat) (hb : Below w.heap.size w W) (h1 : Bk W g1 5 (b8 (zs 9)).toArray) (h2 : Bk W g2 5 (b8 (zs n)).toArray) (hl : Bk W gl 31 #[.int .u64 200, .slice (some ⟨g1, 0, none⟩) 9 9, .bool false, .int .u64 100, .slice (some ⟨g2, 0, none⟩) n n, .bool true]) => of_new mc n h h' (w := w) (W := W.drew) (g1 := g1) (g2 := g2) (gl := gl) hb.drew h1.drew h2.drew hl.drew
  have HH := Lib.hid H
  clear H
  go_enter Try.func10, Try.ntmps10
  go_wp2_with fail
  go_region_law (first | (go_simp; go_at_call 11; first | (refine (HH.out _ w.heap.size (w.heap.size + 1) (w.heap.size + 1 + 1) ((((Below.refl _ w).alloc (Nat.le_refl _) _).alloc (by simp) _).alloc (by simp; omega) _) (((Bk.new' rfl).alloc _).alloc _) ((Bk.new' (by simp)).alloc _) (Bk.new' (by simp))).mono ?_; rintro e w1 ⟨p, rfl, hb1, B1, hr1, hB1⟩; have HB1 := Lib.hid hb1; have HBB := Lib.hid hB1; clear hb1 hB1) | (refine (HH.out _ (w.heap.size + 1) w.heap.size (w.heap.size + 1 + 1) ((((Below.refl _ w).alloc (Nat.le_refl _) _).alloc (by simp) _).alloc (by simp; omega) _) ((Bk.new' (by simp)).alloc _) (((Bk.new' rfl).alloc _).alloc _) (Bk.new' (by simp))).mono ?_; rintro e w1 ⟨p, rfl, hb1, B1, hr1, hB1⟩; have HB1 := Lib.hid hb1; have HBB := Lib.hid hB1; clear hb1 hB1)))
  all_goals
    obtain ⟨⟨D, rfl⟩, _⟩ := mc.shape hr1.out
    go_wp2_with fail
    go_ret
    exact ⟨HB1.out, B1, _, rfl, hr1, HBB.out⟩
/-! ### the chapter's example -/
theorem hits_of {n : Nat} {p m : Int} {i : Nat} {r : Reg} (h : Hits (ofM n) p m i r) : (i = 0 ∧ r = ⟨100, zs n, true⟩) ∨ (i = 1 ∧ r = ⟨200, zs 9, false⟩) := by
  have h1 := h.1
  unfold ofM at h1
  rcases i with _ | _ | i
  · left; simpa using h1.symm
  · right; simpa using h1.symm
  · simp at h1
theorem st_104 {M' : List Reg} {e : Int} (h : StoreO (ofM 16) 104 1099511627781 M' e) : e = 0 ∧ M' = (ofM 16).set 0 (Reg.put ⟨100, zs 16, true⟩ 104 1099511627781) := by
  have hh : Hits (ofM 16) 104 8 0 ⟨100, zs 16, true⟩ := by
    refine ⟨rfl, by decide, ?_, ?_⟩ <;> (unfold Reg.len; simp only [zs_len]; decide)
  rcases h with ⟨i, r, a, w, b, c⟩ | ⟨a, b, c⟩
  · obtain ⟨rfl, rfl⟩ := a.uniq ((of_good 16 (by omega) (by omega)).perm (of_perm 16).symm) hh
    exact ⟨c, b⟩
  · exact absurd (a _ _ hh) (by decide)
theorem st_109 {M M' : List Reg} {e : Int} (hM : M = (ofM 16).set 0 (Reg.put ⟨100, zs 16, true⟩ 104 1099511627781)) (h : StoreO M 109 1 M' e) : e = 11 ∧ M' = M := by
  rcases h with ⟨i, r, a, w, b, c⟩ | ⟨a, b, c⟩
  · exfalso
    obtain ⟨h1, h2, h3, h4⟩ := a
    rw [hM] at h1
    have key : (r.base = 100 ∧ r.len = 16) ∨ (r.base = 200 ∧ r.len = 9) := by
      rcases set_get (r := ⟨100, zs 16, true⟩) rfl h1 with ⟨rfl, rfl⟩ | ⟨hi, h5⟩
      · left; exact ⟨rfl, by rw [Reg.put_len]; unfold Reg.len; rw [zs_len]; rfl⟩
      · unfold ofM at h5
        rcases i with _ | _ | i
        · exact absurd rfl hi
        · obtain rfl : (⟨200, zs 9, false⟩ : Reg) = r := by simpa using h5
          right; exact ⟨rfl, by unfold Reg.len; rw [zs_len]; rfl⟩
        · simp at h5
    rcases key with ⟨k1, k2⟩ | ⟨k1, k2⟩
    · rw [k1] at h2 h3 h4; rw [k2] at h3 h4; omega
    · rw [k1] at h2 h3 h4; rw [k2] at h3 h4; omega
  · exact ⟨c, b⟩
theorem ld_104 {M : List Reg} {v e : Int} (hM : M = (ofM 16).set 0 (Reg.put ⟨100, zs 16, true⟩ 104 1099511627781)) (hG : Good M) (h : LoadO M 104 v e) : v = 1099511627781 ∧ e = 0 := by
  have hh : Hits M 104 8 0 (Reg.put ⟨100, zs 16, true⟩ 104 1099511627781) := by
    rw [hM]
    refine ⟨rfl, by decide, ?_, ?_⟩ <;> rw [Reg.put_len] <;> (unfold Reg.len; simp only [zs_len]; decide)
  rcases h with ⟨i, r, a, b, c⟩ | ⟨a, b, c⟩
  · obtain ⟨rfl, rfl⟩ := a.uniq hG hh
    refine ⟨?_, c⟩
    rw [b]
    exact word_put (k := 4) (by unfold Wd.W; decide) (by rw [zs_len]; decide)
  · exact absurd hh (a _ _)
theorem lives_c (mc : MemC R) (w : World) : Calls Try.prog 9 #[] w fun e w' => e = .returned (.bool true) ∧ Below w.heap.size w w' := by
  have H1 := Lib.hid (of_c mc 16 (by omega) (by omega) w)
  go_enter Try.func9, Try.ntmps9
  go_wp2_with fail
  go_at_call 10
  refine H1.out.mono ?_
  rintro e w1 ⟨hb1, B, p, rfl, hr, hB⟩
  obtain ⟨⟨D, rfl⟩, _⟩ := mc.shape hr.out
  have HB := Lib.hid hb1
  have HBB := Lib.hid hB
  have H2 := Lib.hid (mc.store 104 1099511627781 hr (by unfold Wd.W; omega) (by unfold Wd.W; omega))
  clear H1 hb1 hB hr
  go_wp2_with fail
  go_at_call 12
  refine H2.out.mono ?_
  rintro e w2 ⟨hk2, M2, x2, rfl, hs2, hr2⟩
  obtain ⟨rfl, hM2⟩ := st_104 hs2
  have HK2 := Lib.hid hk2
  have HM2 := Lib.hid hM2
  have H3 := Lib.hid (mc.store 109 1 (Lib.hid hr2) (by unfold Wd.W; omega) (by unfold Wd.W; omega))
  clear H2 hk2 hM2 hs2 hr2
  go_wp2_with fail
  go_at_call 12
  refine H3.out.mono ?_
  rintro e w3 ⟨hk3, M3, x3, rfl, hs3, hr3⟩
  obtain ⟨rfl, rfl⟩ := st_109 HM2.out hs3
  have HK3 := Lib.hid (HK2.out.trans hk3)
  have HG3 := Lib.hid (mc.shape hr3).2.1
  have H4 := Lib.hid (mc.load 104 (Lib.hid hr3) (by unfold Wd.W; omega))
  clear H3 hk3 hs3 hr3
  go_wp2_with fail
  go_at_call 13
  refine H4.out.mono ?_
  rintro e w4 ⟨hb4, v, x, rfl, hl⟩
  obtain ⟨rfl, rfl⟩ := ld_104 HM2.out HG3.out hl
  have hs1 := HB.out.size
  have hs3 := HK3.out.size
  have HBx : Hid (Below w.heap.size w w4) := Lib.hid ((HB.out.trans ((HK3.out.wide HBB.out (Nat.le_refl _)).below (by omega))).trans (hb4.mono (by omega)))
  clear H4 hb4 hl
  go_wp2_with fail
  go_ret
  exact ⟨rfl, HBx.out⟩
end Mm
end Go.Proofs.Ytkgbpcfpppceiaa
