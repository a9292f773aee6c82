/- StepStays' walk. -/
import Derived.Test.YtmiphnocgepdgaaGreatDoorV1
import Derived.Test.YtmiphnocgepdgaaGreatDoorS20
import Derived.Test.YtmiphnocgepdgaaGreatDoorD1
import Derived.Test.YtmiphnocgepdgaaGreatDoorE12
import Derived.Test.YtmiphnocgepdgaaGreatDoorA13
import Derived.Deep.Cut
import Derived.Deep.CutRange
import Derived.BigRegion
namespace Go.Proofs.YtmiphnocgepdgaaGreatDoor
open Go Go.RowKit Go.Shelf
namespace stepStays
open Wd Nt Mm Is Sp
set_option linter.unusedVariables false
set_option linter.unusedSimpArgs false
variable {R : World → Nat → Nat → Value → List Reg → Prop}
/-- the state and the instruction, in blocks of their own -/
structure SQ (w : World) (s : Stt) (i : Ins) (W : World) : Prop where
  s : Bk W w.heap.size 26 s.vs
  i : Bk W (w.heap.size + 1) 37 i.vs
  b : Below w.heap.size w W
theorem SQ.new (w : World) (s : Stt) (i : Ins) : SQ w s i ((w.alloc (.cells s.vs 26)).alloc (.cells i.vs 37)) := by
  have h1 := Bk.new w 26 s.vs
  have h2 := Bk.new (w.alloc (.cells s.vs 26)) 37 i.vs
  have e1 : (w.alloc (.cells s.vs 26)).heap.size = w.heap.size + 1 := by simp
  rw [e1] at h2
  have b2 := bel_alloc (w := w.alloc (.cells s.vs 26)) (.cells i.vs 37)
  exact ⟨h1.below b2 h1.lt, h2, bel_trans (bel_alloc (.cells s.vs 26)) b2⟩
theorem SQ.below {w W X : World} {s : Stt} {i : Ins} (h : SQ w s i W) (hb : Below W.heap.size W X) : SQ w s i X :=
  ⟨h.s.below hb h.s.lt, h.i.below hb h.i.lt, bel_trans h.b hb⟩
theorem SQ.kp {w W X : World} {s : Stt} {i : Ins} {B E : Nat} (h : SQ w s i W) (hk : Kp B E W X) (hB : w.heap.size + 1 < B) : SQ w s i X :=
  ⟨hk.bk h.s (.inl (by omega)), hk.bk h.i (.inl (by omega)), h.b.trans ((hk.wide (show w.heap.size ≤ B by omega) (Nat.le_refl _)).below h.b.size)⟩
theorem SQ.drew {w W : World} {s : Stt} {i : Ins} (h : SQ w s i W) : SQ w s i W.drew := ⟨h.s, h.i, h.b.drew⟩
/-- New's answer, in one form -/
def NewQ (R : World → Nat → Nat → Value → List Reg → Prop) (rs : List Reg) (w : World) (e : Ending) (w' : World) : Prop :=
  Below w.heap.size w w' ∧ ∃ p x, e = .returned (.tuple #[p, .int .i64 x]) ∧ Hid (x = 0 → Mm.Good rs ∧ ∃ M, M.Perm rs ∧ R w' w.heap.size w'.heap.size p M)
theorem new_q (mc : MemD R) (A : Option Addr) (n c : Nat) (rs : List Reg) (w : World) (h : Hid (AtR w A n rs)) (hn : n ≤ 9223372036854775807) : Calls Tryz.prog 16 #[.slice A n c] w (NewQ R rs w) := by
  refine (mc.new A n c rs w h hn).mono ?_
  rintro e w' ⟨hb, x, hx, ⟨h0, rfl⟩ | ⟨rfl, p, M, rfl, hp, hr⟩⟩
  · exact ⟨hb, _, _, rfl, Lib.hid (fun e => absurd e h0)⟩
  · exact ⟨hb, _, _, rfl, Lib.hid (fun _ => ⟨hx.good, M, hp, hr⟩)⟩
/-- Regions' answer as a slice -/
def RegsS (M : List Reg) (w : World) (e : Ending) (w' : World) : Prop :=
  Below w.heap.size w w' ∧ ∃ A n c os, e = .returned (.slice A n c) ∧ Hid (OwnI w' w.heap.size w'.heap.size (.slice A n c) os ∧ os.map (·.r) = M)
theorem regs_s (mc : MemD R) {w : World} {B E : Nat} {P : Value} {M : List Reg} (h : Hid (R w B E P M)) : Calls Tryz.prog 20 #[P] w (RegsS M w) := by
  refine (mc.regions h).mono ?_
  rintro e w' ⟨hb, v, os, rfl, ho, hm⟩
  obtain ⟨A, n, c, rfl, _, _⟩ := ho.out.own.rdR
  exact ⟨hb, A, n, c, os, rfl, Lib.hid ⟨ho.out, hm⟩⟩
theorem stt_self {s : Stt} (hs : s.wf) (W : World) : (Op.equalIn 10000 26 (.agg s.vs) (.agg s.vs)).run Tryz.prog W = .ok true W := by
  obtain ⟨r, h1, h2⟩ := run_equalIn_deep (P := Tryz.prog) 9996 4 26 key_s W 4 4 _ _ _ _ (form_s s) (form_s s) (lits_s hs 1) (lits_s hs 1)
  rw [h2.2 rfl] at h1
  exact h1
/-- all that is held behind the first step -/
structure S5 (R : World → Nat → Nat → Value → List Reg → Prop) (w : World) (s a : Stt) (i : Ins) (ha : Nat) (A : Option Addr) (k : Nat) (l : List Ev) (B1 E1 : Nat) (p1 : Value) (M1 : List Reg) (B2 E2 : Nat) (p2 : Value) (M2 : List Reg) (W : World) : Prop where
  q : SQ w s i W
  a : Bk W ha 26 a.vs
  e : RdE W ha A k l
  m1 : R W B1 E1 p1 M1
  m2 : R W B2 E2 p2 M2
theorem S5.below (mc : MemD R) {w W X : World} {s a : Stt} {i : Ins} {ha B1 E1 B2 E2 k : Nat} {A : Option Addr} {l : List Ev} {p1 p2 : Value} {M1 M2 : List Reg} (h : S5 R w s a i ha A k l B1 E1 p1 M1 B2 E2 p2 M2 W) (hb : Below W.heap.size W X) : S5 R w s a i ha A k l B1 E1 p1 M1 B2 E2 p2 M2 X :=
  ⟨h.q.below hb, h.a.below hb h.a.lt, h.e.below (hb.mono (Nat.le_of_lt h.a.lt)), (mc.below (Lib.hid h.m1) hb).out, (mc.below (Lib.hid h.m2) hb).out⟩
theorem S5.drew (mc : MemD R) {w W : World} {s a : Stt} {i : Ins} {ha B1 E1 B2 E2 k : Nat} {A : Option Addr} {l : List Ev} {p1 p2 : Value} {M1 M2 : List Reg} (h : S5 R w s a i ha A k l B1 E1 p1 M1 B2 E2 p2 M2 W) : S5 R w s a i ha A k l B1 E1 p1 M1 B2 E2 p2 M2 W.drew := h.below mc (Below.drew (Below.refl _ _))
theorem bel_drewN (w : World) (q : Nat) : Below w.heap.size w (w.drewN q) := by
  induction q with
  | zero => exact Below.refl _ _
  | succ q ih => exact ih.drew
/-- numbers that are told, in a block of their own -/
def TellQ (xs : List Int) (w : World) (e : Ending) (w' : World) : Prop := ∃ A n c, e = .returned (.slice A n c) ∧ Hid (AtI w' A n xs) ∧ Below w.heap.size w w' ∧ ∀ ad, A = some ad → w.heap.size ≤ ad.block
theorem tellQ {xs : List Int} {w w' : World} {e : Ending} (h : RowP xs w e w') : TellQ xs w e w' := by
  obtain ⟨v, rfl, ho, hb⟩ := h
  rcases ho.2 with ⟨rfl, hz⟩ | ⟨g, c, cur, rfl, hg, _⟩
  · exact ⟨_, _, _, rfl, Lib.hid ⟨hz, fun h => absurd h (by omega)⟩, hb, fun ad h => by cases h⟩
  · refine ⟨_, _, _, rfl, Lib.hid ⟨rfl, fun _ => ⟨_, rfl, (ho.lt g rfl).2, fun j hj => ?_⟩⟩, hb, fun ad h => by cases h; exact (ho.lt g rfl).1⟩
    have e : (⟨g, 0, none⟩ : Addr).add j = ⟨g, j, none⟩ := by
      unfold Addr.add; split
      · rename_i e; rw [e]
      · simp
    rw [e, ho.cellAt j (by omega)]
    unfold iv
    rw [List.getElem?_map, nth_lt hj]; rfl
theorem rdI_kp {w w' : World} {B E n : Nat} {A : Option Addr} {xs : List Int} (h : RdI w w.heap.size A n xs) (hk : Kp B E w w') (hl : ∀ ad, A = some ad → E ≤ ad.block) : RdI w' w'.heap.size A n xs :=
  ⟨h.len, fun hn => by
    obtain ⟨ad, e, hb, hc⟩ := h.rd hn
    refine ⟨ad, e, Nat.lt_of_lt_of_le hb hk.size, fun j hj => ?_⟩
    exact (World.cell?_of_block (w := w) (a := ad.add j) (by rw [Nt.block_add]; exact hk.blk ad.block hb (.inr (hl ad e)))).trans (hc j hj)⟩
theorem S5.put (mc : MemD R) {w W : World} {s a : Stt} {i : Ins} {ha B1 E1 B2 E2 k rn : Nat} {A : Option Addr} {l : List Ev} {p1 p2 : Value} {M1 M2 : List Reg} {v : Int} (h : S5 R w s a i ha A k l B1 E1 p1 M1 B2 E2 p2 M2 W) (hr : rn < 16) (h1 : w.heap.size + 1 < ha) (h2 : E1 ≤ ha) (h3 : E2 ≤ ha) : S5 R w s (a.set rn v) i ha A k l B1 E1 p1 M1 B2 E2 p2 M2 (W.setCell ⟨ha, rn, none⟩ (.int .u64 v)) := by
  have hk := kp_cell W ha rn (.int .u64 v)
  refine ⟨h.q.kp hk h1, ?_, h.e.blk (fun j hj _ _ _ => hk.blk j (Nat.lt_trans hj h.a.lt) (.inl hj)), mc.keep h.m1 hk (.inl h2), mc.keep h.m2 hk (.inl h3)⟩
  rw [← Stt.vs_set a hr v]
  exact h.a.set_ rn _
/-- all that stands behind the second step -/
structure S6 (R : World → Nat → Nat → Value → List Reg → Prop) (w : World) (s n u : Stt) (i : Ins) (ha hu : Nat) (A : Option Addr) (k : Nat) (l : List Ev) (B1 E1 : Nat) (p1 : Value) (M1 : List Reg) (B2 E2 : Nat) (p2 : Value) (M2 : List Reg) (A2 : Option Addr) (k2 : Nat) (l2 : List Ev) (W : World) : Prop where
  h : S5 R w s n i ha A k l B1 E1 p1 M1 B2 E2 p2 M2 W
  u : Bk W hu 26 u.vs
  e : RdE W W.heap.size A2 k2 l2
set_option maxRecDepth 100000 in
set_option maxHeartbeats 40000000 in
theorem walk_ (mc : MemD R) (w : World) (hT : Tab w) (s : Stt) (i : Ins) (A0 : Option Addr) (n0 c0 : Nat) (rs : List Reg) (r v : Int) (hs : s.wf) (hi : i.wf) (hr0 : RdR w w.heap.size A0 n0 rs) (hn0 : n0 ≤ c0) (hm0 : c0 ≤ 9223372036854775807) (hz : (Lit.int .i64 r).wf = true) (hv : W v) :
    Calls Tryz.prog 5 #[.agg s.vs, .agg i.vs, .slice A0 n0 c0, .int .i64 r, .int .u64 v] w fun e w' => e = .returned (.bool true) ∧ Below w.heap.size w w' := by
  have HS := Lib.hid hs
  have HI := Lib.hid hi
  have HT := Lib.hid hT
  have HV := Lib.hid hv
  have HZ := Lib.hid hz
  have HA0 : Hid (AtR w A0 n0 rs) := Lib.hid hr0
  have HLN := Lib.hid hr0.len
  have hn0' : n0 ≤ 9223372036854775807 := by omega
  clear hs hi hT hr0 hv hz
  go_enter Tryz.func5, Tryz.ntmps5
  go_upto_region 1 with fail
  have HQ0 := Lib.hid (SQ.new w s i)
  generalize World.alloc _ _ = W0 at *
  have KL := Lib.hid (slives_c mc W0 (HT.out.keep HQ0.out.b))
  go_upto_region 3 with (first | (go_at_call 9; refine KL.out.mono ?_; rintro e y1 ⟨rfl, hb⟩; have HQ1 := Lib.hid (HQ0.out.below hb); clear hb) | fail)
  clear KL HQ0
  have HA1 := AtR.step HA0 HQ1.out.b
  by_cases hlt : Lite rs
  case neg =>
    have L2 := Lib.hid (lightN_c A0 n0 c0 rs y1 HA1 hn0' hlt)
    clear hlt
    go_wp2_with (first | (go_at_call 15; refine L2.out.mono ?_; rintro e x2 ⟨rfl, rfl⟩) | fail)
    go_ret
    exact ⟨rfl, HQ1.out.b⟩
  have L2 := Lib.hid (light_c A0 n0 c0 rs y1 HA1 hn0' (by rw [← HLN.out]; exact hlt.1) hlt.2)
  clear hlt
  go_upto_region 5 with (first | (go_at_call 15; refine L2.out.mono ?_; rintro e x2 ⟨rfl, rfl⟩) | fail)
  clear L2
  have KN1 := Lib.hid (new_q mc A0 n0 c0 rs _ HA1 hn0')
  go_upto_region 6 with (first | (go_at_call 16; refine KN1.out.mono ?_; rintro e y5 ⟨hb, p1, x5, rfl, h5⟩; have HQ2 := Lib.hid (HQ1.out.below hb); have HA2 := AtR.step HA1 hb; have HB5 := Lib.hid hb; clear hb) | fail)
  have KN2 := Lib.hid (new_q mc A0 n0 c0 rs y5 HA2 hn0')
  clear KN1 HA1
  go_upto_region 7 with (first | (go_at_call 16; refine KN2.out.mono ?_; rintro e y6 ⟨hb, p2, x6, rfl, h6⟩; have HQ3 := Lib.hid (HQ2.out.below hb); have HB6 := Lib.hid hb; clear hb) | fail)
  clear KN2 HA2 HQ2
  by_cases hx5 : x5 = 0
  case neg =>
    have e5 : (x5 == 0) = false := by rw [beq_eq_false_iff_ne]; exact hx5
    go_wp2_with fail
    go_ret
    exact ⟨rfl, HQ3.out.b⟩
  by_cases hx6 : x6 = 0
  case neg =>
    have e6 : (x6 == 0) = false := by rw [beq_eq_false_iff_ne]; exact hx6
    subst hx5
    go_wp2_with fail
    go_ret
    exact ⟨rfl, HQ3.out.b⟩
  obtain ⟨hg, M, hp, hr1⟩ := h5.out hx5
  obtain ⟨_, N, hq, hr2⟩ := h6.out hx6
  subst hx5
  subst hx6
  obtain rfl : N = M := rising_uniq hg hq hp (mc.shape hr2).2.2.1 (mc.shape hr1).2.2.1
  have HGM := Lib.hid (mc.shape hr1).2.1
  have HR1 := mc.below (Lib.hid hr1) HB6.out
  have HR2 := Lib.hid hr2
  have HZ5 : Hid (x2.heap.size ≤ y5.heap.size) := Lib.hid HB5.out.size
  have HTB : Hid (0 < x2.heap.size) := Lib.hid (by have h1 := HT.out.lt; have h2 := HQ1.out.b.size; omega)
  have HS2 : Hid (w.heap.size + 1 < x2.heap.size) := Lib.hid (HQ1.out.i.lt)
  have HT6 := Lib.hid (HT.out.keep HQ3.out.b)
  have KD1 := Lib.hid (do_l mc HR1 s HS.out i HI.out 3 HT6.out HTB.out)
  clear hr1 hr2 hg hp hq h5 h6 HR1 HB5 HB6 HQ1 HA0 HLN
  go_upto_region 10 with (first | (refine wpList_load_row rfl 26 (.tmp 5) rfl w.heap.size rfl 26 s.vs (0, 0) _ HQ3.out.s Tryz.underlying26 rfl i20 ?_) | (refine wpList_load_row rfl 37 (.tmp 6) rfl (w.heap.size + 1) rfl 37 i.vs (0, 0) _ HQ3.out.i Tryz.underlying37 rfl i9 ?_) | (go_at_call 11; refine KD1.out.mono ?_; rintro e z1 ⟨hk, a1, l1, M1, g1, A1, k1, c1, rfl, hd, hn, hr, hR, hkc, hc3, hlo⟩; have HD1 := Lib.hid hd; have HN1 := Lib.hid hn; have HK1 := Lib.hid hk; have HC1 : Hid (k1 ≤ c1 ∧ c1 ≤ 3) := Lib.hid ⟨hkc, hc3⟩; have HLO1 := Lib.hid hlo; clear hd hn hk hkc hc3 hlo) | (refine wpList_store_row rfl 26 (.tmp 15) (.tmp 53) rfl z1.heap.size a1.vs rfl rfl 26 s0.vs (Bk.new z1 26 s0.vs) i20 rfl a1.vs_one ?_; rw [World.setRow_alloc_new]) | fail)
  have HBZ := Lib.hid (bel_alloc (w := z1) (.cells a1.vs 26))
  have HQ4 : Hid (SQ w s i (z1.alloc (.cells a1.vs 26))) := Lib.hid ((HQ3.out.kp HK1.out HS2.out).below HBZ.out)
  have HM1 : Hid (R (z1.alloc (.cells a1.vs 26)) x2.heap.size y5.heap.size p1 M1) := Lib.hid (mc.below (Lib.hid hr) HBZ.out).out
  have HM2 : Hid (R (z1.alloc (.cells a1.vs 26)) y5.heap.size y6.heap.size p2 N) := mc.below (Lib.hid (mc.keep HR2.out HK1.out (.inr (Nat.le_refl _)))) HBZ.out
  have HBa : Hid (Bk (z1.alloc (.cells a1.vs 26)) z1.heap.size 26 a1.vs) := Lib.hid (Bk.new _ _ _)
  have HE1 : Hid (RdE (z1.alloc (.cells a1.vs 26)) z1.heap.size A1 k1 l1) := Lib.hid (hR.out.below HBZ.out)
  have HHA : Hid (y6.heap.size ≤ z1.heap.size) := Lib.hid HK1.out.size
  have HT7 := Lib.hid (HT.out.keep HQ4.out.b)
  clear hR hr HBZ HK1 HR2 HT6 KD1 HQ3
  generalize z1.heap.size = ha at *
  generalize World.alloc _ _ = W7 at *
  by_cases hg1 : g1 = 0
  case neg =>
    as_aux_lemma =>
      have eg : (g1 == 0) = false := by rw [beq_eq_false_iff_ne]; exact hg1
      obtain ⟨ea, el, eM⟩ := HD1.out.err hg1
      rw [ea] at HBa
      rw [el] at HE1
      rw [eM] at HM1
      obtain rfl : k1 = 0 := HE1.out.len.symm
      have hse := stt_self HS.out
      have KR : Hid (∀ (X : World) (P : Value), (∃ B E, R X B E P N) → Calls Tryz.prog 20 #[P] X (RegsS N X)) := Lib.hid (fun X P ⟨B, E, h⟩ => regs_s mc (Lib.hid h))
      clear HD1 HN1 HC1 HLO1 ea el eM HHA HT7 HZ HV HI HT
      go_wp2_with (first | (refine wpList_load_row rfl 26 (.tmp 15) rfl ha rfl 26 s.vs (0, 0) _ HBa.out Tryz.underlying26 rfl i20 ?_) | (refine wpList_load_row rfl 26 (.tmp 5) rfl w.heap.size rfl 26 s.vs (0, 0) _ HQ4.out.s Tryz.underlying26 rfl i20 ?_) | (go_at_call 20; refine (KR.out _ _ (by first | exact ⟨_, _, HM3.out⟩ | exact ⟨_, _, HM1.out⟩)).mono ?_; rintro e x7 ⟨hb, A7, n7, c7, os7, rfl, h7⟩; first | (have HA7 := Lib.hid (OwnI.below HO7.out.1 hb); have EM7 := Lib.hid HO7.out.2; have HA8 := Lib.hid h7.out.1; have EM8 := Lib.hid h7.out.2; have HB8 := Lib.hid (bel_tr HB7.out hb)) | (have HO7 := h7; have HM3 := mc.below HM2 hb; have HB7 := Lib.hid (bel_tr HQ4.out.b hb)); clear hb h7) | (go_at_call 19; refine (same_t HA7.out HA8.out EM7.out EM8.out HGM.out).mono ?_; rintro e x9 ⟨rfl, hb⟩; have HB9 := Lib.hid (bel_tr HB8.out hb); clear hb) | fail)
      go_ret
      exact ⟨rfl, HB9.out⟩
  as_aux_lemma =>
    subst hg1
    have HOK := Lib.hid HD1.out.off.1
    go_upto_region 12 with fail
    have H4 : Hid (S5 R w s a1 i ha A1 k1 l1 x2.heap.size y5.heap.size p1 M1 y5.heap.size y6.heap.size p2 N W7) := Lib.hid ⟨HQ4.out, HBa.out, HE1.out, HM1.out, HM2.out⟩
    clear HQ4 HBa HE1 HM1 HM2 HT7
    refine wp_region_held_drew (S := (fun w' => S5 R w s a1 i ha A1 k1 l1 x2.heap.size y5.heap.size p1 M1 y5.heap.size y6.heap.size p2 N w')) (by kernel_rfl) (H4.out.drew mc) (fun hHeld => ?_)
    have H5 := Lib.hid (H4.out.drew mc)
    generalize World.drew _ = X1 at *
    clear H4
    refine wpAnyH_take (i := 0) (oi := { dst := some 73, op := Op.load 37 (Operand.tmp 6), type := 37, pos := "law.go:98", after := #[], guard := none }) (v := (.agg i.vs)) rfl (by kernel_rfl) (by kernel_rfl) (by kernel_rfl) (fun _ _ _ h => h) (Or.inl ⟨by rfl, ?_⟩) (by assumption) ?_
    · intro w' hSw
      exact row_yields 37 (.tmp 6) rfl _ rfl i.vs _ hSw.q.i Tryz.underlying37 rfl i9
    simp only [Act.put, List.setIfInBounds_toArray, List.set_cons_zero, List.set_cons_succ]
    refine wpAnyH_take (i := 2) (oi := { dst := some 75, op := Op.load 37 (Operand.tmp 6), type := 37, pos := "law.go:98", after := #[], guard := none }) (v := (.agg i.vs)) rfl (by kernel_rfl) (by kernel_rfl) (by kernel_rfl) (fun _ _ _ h => h) (Or.inl ⟨by rfl, ?_⟩) (by assumption) ?_
    · intro w' hSw
      exact row_yields 37 (.tmp 6) rfl _ rfl i.vs _ hSw.q.i Tryz.underlying37 rfl i9
    simp only [Act.put, List.setIfInBounds_toArray, List.set_cons_zero, List.set_cons_succ]
    refine wpAnyH_ready (rs := [1]) (by kernel_rfl) (by simp) ?_
    refine AllReadyH.cons (o := { dst := some 74, op := Op.call { callee := Callee.value (Operand.func 23), args := #[Operand.tmp 73], argTypes := #[37] }, type := 55, pos := "law.go:98", after := #[{ on := 0, ground := Ground.data }], guard := none }) rfl (fun K' hK => ?_) AllReadyH.nil
    rw [if_pos (by rfl)]
    go_simp
    go_at_call 23
    refine (writes_ref i _).mono ?_
    rintro e X2 h
    obtain ⟨Aw, nw, cw, rfl, hw, hb, hlw⟩ := tellQ h
    have HLW : Hid (∀ ad, Aw = some ad → y6.heap.size ≤ ad.block) := Lib.hid (fun ad ha1 => Nat.le_trans (Nat.le_trans HHA.out (Nat.le_of_lt H5.out.a.lt)) (hlw ad ha1))
    clear hlw
    have H6 := Lib.hid (H5.out.below mc hb)
    have HW1 := hw
    clear hb H5 hw h
    refine hK.out _ _ (H6.out) (fun hHeld => ?_)
    clear hK
    try simp only [Act.put, List.setIfInBounds_toArray, List.set_cons_zero, List.set_cons_succ]
    refine wpAnyH_ready (rs := [3]) (by kernel_rfl) (by simp) ?_
    refine AllReadyH.cons (o := { dst := some 76, op := Op.call { callee := Callee.value (Operand.func 24), args := #[Operand.tmp 75], argTypes := #[37] }, type := 55, pos := "law.go:98", after := #[{ on := 2, ground := Ground.data }, { on := 1, ground := Ground.chain }], guard := none }) rfl (fun K' hK => ?_) AllReadyH.nil
    rw [if_pos (by rfl)]
    go_simp
    go_at_call 24
    refine (reads_ref i _).mono ?_
    rintro e X3 h
    obtain ⟨Ar, nr, cr, rfl, hr, hb⟩ := h.tell
    have H7 := Lib.hid (H6.out.below mc hb)
    have HW2 := AtI.below HW1 hb
    have HR2 := hr
    clear hb H6 HW1 hr h
    refine hK.out _ _ (H7.out) (fun hHeld => ?_)
    clear hK
    try simp only [Act.put, List.setIfInBounds_toArray, List.set_cons_zero, List.set_cons_succ]
    refine wpAnyH_take (i := 4) (oi := { dst := some 18, op := Op.assign (Operand.tmp 74), type := 55, pos := "law.go:98", after := #[{ on := 1, ground := Ground.data }, { on := 3, ground := Ground.chain }, { on := 0, ground := Ground.phase }, { on := 1, ground := Ground.phase }, { on := 2, ground := Ground.textOnly Departure.lateStores }, { on := 3, ground := Ground.textOnly Departure.lateStoresUnsure }], guard := none }) (v := (.slice Aw nw cw)) rfl (by kernel_rfl) (by kernel_rfl) (by kernel_rfl) (fun _ _ _ h => h) (Or.inl ⟨by rfl, ?_⟩) (by assumption) ?_
    · intro w' hSw
      go_simp
    simp only [Act.put, List.setIfInBounds_toArray, List.set_cons_zero, List.set_cons_succ]
    refine wpAnyH_take (i := 5) (oi := { dst := some 19, op := Op.assign (Operand.tmp 76), type := 55, pos := "law.go:98", after := #[{ on := 3, ground := Ground.data }, { on := 4, ground := Ground.chain }, { on := 0, ground := Ground.phase }, { on := 1, ground := Ground.phase }, { on := 2, ground := Ground.phase }, { on := 3, ground := Ground.phase }, { on := 4, ground := Ground.phase }], guard := none }) (v := (.slice Ar nr cr)) rfl (by kernel_rfl) (by kernel_rfl) (by kernel_rfl) (fun _ _ _ h => h) (Or.inl ⟨by rfl, ?_⟩) (by assumption) ?_
    · intro w' hSw
      go_simp
    simp only [Act.put, List.setIfInBounds_toArray, List.set_cons_zero, List.set_cons_succ]
    refine wpAnyH_done (by kernel_rfl) ?_ _
    have HOP := Lib.hid (ok_op1 HOK.out)
    have HRG := Lib.hid (ok_regs HOK.out)
    have HST : Hid (∀ k : Nat, k < 16 → (k : Int) ∉ wrL i → a1.r k = s.r k) := Lib.hid (by
      obtain ⟨hk, v', _, e, _⟩ := HD1.out.off
      intro k hk16 hw
      rw [e]
      refine bh_stays hk HOP.out ⟨HRG.out.1, HRG.out.2.1⟩ ?_
      rw [wr_iff hk hk16] at hw
      simpa using hw)
    have HFL : Hid ((fw i = 0 ∧ a1.cf = s.cf ∧ a1.ov = s.ov ∧ a1.zf = s.zf) ∨ (fw i = 1 ∧ a1.ov = s.ov ∧ a1.zf = s.zf) ∨ (fw i = 2 ∧ a1.cf = s.cf ∧ a1.zf = s.zf) ∨ (fw i = 5 ∧ a1.ov = s.ov) ∨ fw i = 7) := Lib.hid (by
      obtain ⟨hk, v', _, e, _⟩ := HD1.out.off
      rw [e]
      exact bh_flags hk HOP.out)
    as_aux_lemma =>
      have KF := Lib.hid (flags_r i X3)
      go_upto_region 14 with (first | (refine wpList_load_row rfl 37 (.tmp 6) rfl (w.heap.size + 1) rfl 37 i.vs (0, 0) _ H7.out.q.i Tryz.underlying37 rfl i9 ?_) | (go_at_call 25; refine KF.out.mono ?_; rintro e X4 ⟨rfl, hb⟩; have H8 := Lib.hid (H7.out.below mc hb); have HW3 := AtI.below HW2 hb; have HR3 := AtI.below HR2 hb; clear hb) | fail)
      clear KF H7 HW2 HR2
      as_aux_lemma =>
        have KIN : Hid (∀ (X : World) (k : Nat), Below X4.heap.size X4 X → Calls Tryz.prog 26 #[.slice Aw nw cw, .int .i64 (k : Int)] X fun e w' => e = .returned (.bool (decide ((k : Int) ∈ wrL i))) ∧ w' = X) := Lib.hid (fun X k hb => in_c Aw nw cw _ (wrL i) (k : Int) _ (AtI.below HW3 hb).out (by have h1 := HW3.out.len; have h2 := wr_le i; omega))
        go_wp2_with fail
        go_loopw [22] (fun av W => ∃ k q : Nat, k ≤ 16 ∧ av = .int .i64 (k : Int) ∧ W = X4.drewN q) (fun av _ => 16 - (intOf av).toNat)
        case atStart => exact ⟨0, 0, by omega, rfl, rfl⟩
        case round =>
          obtain ⟨k, q, hk, rfl, rfl⟩ := hrel
          rcases Nat.lt_or_ge k 16 with hk16 | hk16
          · as_aux_lemma =>
              have hki : (k : Int) < 16 := by omega
              have hk0 : (0 : Int) ≤ (k : Int) := by omega
              obtain ⟨Y, hY⟩ : ∃ Y, Y = X4.drewN q := ⟨_, rfl⟩
              rw [← hY]
              have HYE := Lib.hid hY
              have HYB : Hid (Below X4.heap.size X4 Y) := Lib.hid (by rw [hY]; exact bel_drewN X4 q)
              have H9 := Lib.hid (H8.out.below mc HYB.out)
              clear hY
              by_cases hin : (k : Int) ∈ wrL i
              · have KI : Hid (∀ n, Calls Tryz.prog 26 #[.slice Aw nw cw, .int .i64 (k : Int)] (Y.drewN n) fun e w' => e = .returned (.bool true) ∧ w' = Y.drewN n) := Lib.hid (fun n => by have h := KIN.out _ k (bel_tr HYB.out (bel_drewN Y n)); rw [decide_eq_true hin] at h; exact h)
                clear KIN hin
                go_wp2_with fail
                go_quiet (exact Calls.quiet_of_same (KI.out _))
                go_wp2_with fail
                go_roundw
                case rel => exact ⟨k + 1, _, by omega, by go_num, by rw [HYE.out]; exact World.drewN_drewN _ _ _⟩
                case measure => (simp [intOf] <;> omega)
              · have KI : Hid (∀ n, Calls Tryz.prog 26 #[.slice Aw nw cw, .int .i64 (k : Int)] (Y.drewN n) fun e w' => e = .returned (.bool false) ∧ w' = Y.drewN n) := Lib.hid (fun n => by have h := KIN.out _ k (bel_tr HYB.out (bel_drewN Y n)); rw [decide_eq_false hin] at h; exact h)
                have ca : Y.cell? ⟨ha, k, none⟩ = some (.int .u64 (s.r k)) := (H9.out.a.cell k).trans (by rw [Stt.vs_r _ hk16, HST.out k hk16 hin])
                have cs : Y.cell? ⟨w.heap.size, k, none⟩ = some (.int .u64 (s.r k)) := (H9.out.q.s.cell k).trans (Stt.vs_r _ hk16)
                clear KIN hin
                go_wp2_with fail
                go_quiet (exact Calls.quiet_of_same (KI.out _))
                go_wp2_with fail
                go_roundw
                case rel => exact ⟨k + 1, _, by omega, by go_num, by rw [HYE.out]; exact World.drewN_drewN _ _ _⟩
                case measure => (simp [intOf] <;> omega)
          · obtain rfl : k = 16 := by omega
            have H9 := Lib.hid (H8.out.below mc (bel_drewN X4 q))
            have HW4 := AtI.below HW3 (bel_drewN X4 q)
            have HR4 := AtI.below HR3 (bel_drewN X4 q)
            clear H8 HW3 HR3 KIN HST
            generalize World.drewN X4 q = Y at *
            go_upto_region 19 with fail
            as_aux_lemma =>
              obtain ⟨fv, hfv⟩ : ∃ fv, fv = fw i := ⟨_, rfl⟩
              rw [← hfv] at HFL ⊢
              clear hfv
              go_cut [134] from 101 to 134 (fun v wc => v = .bool false ∧ wc = Y)
              case first =>
                as_aux_lemma =>
                  have ca17 : Y.cell? ⟨ha, 17, none⟩ = some (.bool a1.cf) := H9.out.a.cell 17
                  have ca18 : Y.cell? ⟨ha, 18, none⟩ = some (.bool a1.ov) := H9.out.a.cell 18
                  have ca19 : Y.cell? ⟨ha, 19, none⟩ = some (.bool a1.zf) := H9.out.a.cell 19
                  have cs17 : Y.cell? ⟨w.heap.size, 17, none⟩ = some (.bool s.cf) := H9.out.q.s.cell 17
                  have cs18 : Y.cell? ⟨w.heap.size, 18, none⟩ = some (.bool s.ov) := H9.out.q.s.cell 18
                  have cs19 : Y.cell? ⟨w.heap.size, 19, none⟩ = some (.bool s.zf) := H9.out.q.s.cell 19
                  have HFL2 := HFL.out
                  clear H9 HW4 HR4 HFL
                  rcases HFL2 with ⟨rfl, e1, e2, e3⟩ | ⟨rfl, e2, e3⟩ | ⟨rfl, e1, e3⟩ | ⟨rfl, e2⟩ | rfl
                  · rw [e1] at ca17; rw [e2] at ca18; rw [e3] at ca19
                    have n1 : bits .and .i64 0 1 = 0 := by decide
                    have n2 : bits .and .i64 0 2 = 0 := by decide
                    have n4 : bits .and .i64 0 4 = 0 := by decide
                    go_wp2_with fail
                    go_meet
                    exact ⟨rfl, rfl⟩
                  · rw [e2] at ca18; rw [e3] at ca19
                    have n1 : bits .and .i64 1 1 = 1 := by decide
                    have n2 : bits .and .i64 1 2 = 0 := by decide
                    have n4 : bits .and .i64 1 4 = 0 := by decide
                    go_wp2_with fail
                    go_meet
                    exact ⟨rfl, rfl⟩
                  · rw [e1] at ca17; rw [e3] at ca19
                    have n1 : bits .and .i64 2 1 = 0 := by decide
                    have n2 : bits .and .i64 2 2 = 2 := by decide
                    have n4 : bits .and .i64 2 4 = 0 := by decide
                    go_wp2_with fail
                    go_meet
                    exact ⟨rfl, rfl⟩
                  · rw [e2] at ca18
                    have n1 : bits .and .i64 5 1 = 1 := by decide
                    have n2 : bits .and .i64 5 2 = 0 := by decide
                    have n4 : bits .and .i64 5 4 = 4 := by decide
                    go_wp2_with fail
                    go_meet
                    exact ⟨rfl, rfl⟩
                  · have n1 : bits .and .i64 7 1 = 1 := by decide
                    have n2 : bits .and .i64 7 2 = 2 := by decide
                    have n4 : bits .and .i64 7 4 = 4 := by decide
                    go_wp2_with fail
                    go_meet
                    exact ⟨rfl, rfl⟩
              obtain ⟨rfl, rfl⟩ := hcut
              clear HFL
              obtain ⟨rn, hrn⟩ : ∃ rn : Nat, Kit.pick r 16 = (rn : Int) := ⟨(Kit.pick r 16).toNat, by have := (Kit.pick_lt (n := r) (m := 16) (by omega)).1; omega⟩
              have hr16 : rn < 16 := by have := (Kit.pick_lt (n := r) (m := 16) (by omega)).2; omega
              have KP : Hid (Calls Tryz.prog 27 #[.int .i64 r, .int .i64 16] wc fun e w' => e = .returned (.int .i64 (rn : Int)) ∧ wc = w') := Lib.hid (by have h := Kit.pick_c r 16 wc HZ.out (by decide); rw [hrn] at h; exact h)
              have KI : Hid (∀ (X : World), Below wc.heap.size wc X → Calls Tryz.prog 26 #[.slice Ar nr cr, .int .i64 (rn : Int)] X fun e w' => e = .returned (.bool (decide ((rn : Int) ∈ rdL i))) ∧ w' = X) := Lib.hid (fun X hb => in_c Ar nr cr _ (rdL i) (rn : Int) _ (AtI.below HR4 hb).out (by have h1 := HR4.out.len; have h2 := rd_le i; omega))
              have HRN := Lib.hid hr16
              clear hrn
              by_cases hin : (rn : Int) ∈ rdL i
              case pos =>
                as_aux_lemma =>
                  rw [decide_eq_true hin] at KI
                  clear hin hr16
                  go_wp2_with (first | (go_at_call 27; refine KP.out.mono ?_; rintro e x8 ⟨rfl, rfl⟩) | (go_at_call 26; refine (KI.out _ (Below.refl _ _)).mono ?_; rintro e x9 ⟨rfl, rfl⟩) | fail)
                  go_ret
                  exact ⟨rfl, H9.out.q.b⟩
              rw [decide_eq_false hin] at KI
              have HIN := Lib.hid hin
              clear hin
              go_upto_region 24 with (first | (go_at_call 27; refine KP.out.mono ?_; rintro e x8 ⟨rfl, rfl⟩) | (go_at_call 26; refine (KI.out _ (Below.refl _ _)).mono ?_; rintro e x9 ⟨rfl, rfl⟩) | fail)
              have HBel := Lib.hid (bel_alloc (w := x9) (.cells (s.set rn v).vs 26))
              have H10 := Lib.hid (H9.out.below mc HBel.out)
              have HW5 := AtI.below HW4 HBel.out
              have hbt0 := Bk.new x9 26 s.vs
              have bkb : (x9.alloc (.cells s.vs 26)).cell? ⟨x9.heap.size, rn, none⟩ = some (.int .u64 (s.r rn)) := (hbt0.cell rn).trans (Stt.vs_r _ hr16)
              have fkb := hbt0.frozen rn
              have HBt := Lib.hid (Bk.new x9 26 (s.set rn v).vs)
              have HEV := Lib.hid (Stt.vs_set s hr16 v)
              have hrni : (rn : Int) < 16 := by omega
              have hrn0 : (0 : Int) ≤ (rn : Int) := by omega
              clear hbt0 KP KI HR4 HBel
              as_aux_lemma =>
                go_upto_region 25 with (first | (refine wpList_load_row rfl 26 (.tmp 5) rfl w.heap.size rfl 26 s.vs (0, 0) _ H9.out.q.s Tryz.underlying26 rfl i20 ?_) | (refine wpList_store_row rfl 26 (.tmp 23) (.tmp 140) rfl x9.heap.size s.vs rfl rfl 26 s0.vs (Bk.new x9 26 s0.vs) i20 rfl s.vs_one ?_; rw [World.setRow_alloc_new]) | fail)
                go_upto_region 26 with fail
                rw [HEV.out]
                clear bkb fkb hrni hrn0 H9 HW4 HEV
                generalize x9.heap.size = ht at *
                generalize World.alloc _ _ = X5 at *
                have HTX := Lib.hid (HT.out.keep H10.out.q.b)
                have HS5 : Hid (w.heap.size + 1 < y5.heap.size) := Lib.hid (Nat.lt_of_lt_of_le HS2.out HZ5.out)
                have KD2 := Lib.hid (do_l mc (Lib.hid H10.out.m2) (s.set rn v) (Stt.set_wf HS.out rn HV.out) i HI.out 3 HTX.out (Nat.lt_of_lt_of_le HTB.out HZ5.out))
                go_upto_region 27 with (first | (refine wpList_load_row rfl 26 (.tmp 23) rfl ht rfl 26 (s.set rn v).vs (0, 0) _ HBt.out Tryz.underlying26 rfl i20 ?_) | (refine wpList_load_row rfl 37 (.tmp 6) rfl (w.heap.size + 1) rfl 37 i.vs (0, 0) _ H10.out.q.i Tryz.underlying37 rfl i9 ?_) | (go_at_call 11; refine KD2.out.mono ?_; rintro e z2 ⟨hk, u1, l2, M2, g2, A2, k2, c2, rfl, hd, hn, hr, hR, hkc, hc3, hlo⟩; have HD2 := Lib.hid hd; have HN2 := Lib.hid hn; have HK2 := Lib.hid hk; have HC2 : Hid (k2 ≤ c2 ∧ c2 ≤ 3) := Lib.hid ⟨hkc, hc3⟩; have HX2 := Lib.hid hR; have HM22 := Lib.hid hr; have HLO2 : Hid (∀ ad, A2 = some ad → ha < ad.block) := Lib.hid (fun ad hA => Nat.lt_of_lt_of_le H10.out.a.lt (hlo ad hA)); clear hd hn hk hkc hc3 hlo hR hr) | (refine wpList_store_row rfl 26 (.tmp 24) (.tmp 150) rfl z2.heap.size u1.vs rfl rfl 26 s0.vs (Bk.new z2 26 s0.vs) i20 rfl u1.vs_one ?_; rw [World.setRow_alloc_new]) | fail)
                have hS6 : S5 R w s a1 i ha A1 k1 l1 x2.heap.size y5.heap.size p1 M1 y5.heap.size y6.heap.size p2 M2 z2 := ⟨H10.out.q.kp HK2.out HS5.out, HK2.out.bk H10.out.a (.inr HHA.out), H10.out.e.blk (fun j hj ad hA he => HK2.out.blk j (Nat.lt_trans hj H10.out.a.lt) (.inr (by rw [← he]; exact HLO1.out ad hA))), mc.keep H10.out.m1 HK2.out (.inl (Nat.le_refl _)), HM22.out⟩
                have HBZ := Lib.hid (bel_alloc (w := z2) (.cells u1.vs 26))
                have H11 := Lib.hid (hS6.below mc HBZ.out)
                have HW6 := AtI.below (Lib.hid (rdI_kp HW5.out HK2.out HLW.out)) HBZ.out
                have HE2 : Hid (RdE (z2.alloc (.cells u1.vs 26)) (z2.alloc (.cells u1.vs 26)).heap.size A2 k2 l2) := Lib.hid ((HX2.out.below HBZ.out).more HBZ.out.size)
                have HBu : Hid (Bk (z2.alloc (.cells u1.vs 26)) z2.heap.size 26 u1.vs) := Lib.hid (Bk.new _ _ _)
                have HHU : Hid (ha < z2.heap.size) := Lib.hid hS6.a.lt
                have HTW := Lib.hid (stays_two HGM.out ok_op1 ok_regs HRN.out HD1.out HD2.out HIN.out)
                clear hS6 HBZ HX2 HM22 HK2 H10 HW5 HBt KD2 HTX HD2
                generalize z2.heap.size = hu at *
                generalize World.alloc _ _ = X6 at *
                obtain ⟨q1, q2, q3, hal⟩ := HTW.out
                subst q1
                subst q2
                subst q3
                have HAL := Lib.hid hal
                clear HTW hal
                have KI2 := Lib.hid (in_c Aw nw cw _ (wrL i) (rn : Int) X6 HW6.out (by have h1 := HW6.out.len; have h2 := wr_le i; omega))
                have HY56 : Hid (y5.heap.size ≤ y6.heap.size) := Lib.hid (mc.shape H11.out.m2).2.2.2.2.1
                have HS6 : Hid (w.heap.size + 1 < ha) := Lib.hid (Nat.lt_of_lt_of_le HS5.out (Nat.le_trans HY56.out HHA.out))
                have hrni : (rn : Int) < 16 := by have := HRN.out; omega
                have hrn0 : (0 : Int) ≤ (rn : Int) := by omega
                clear HW6 HLW HIN HS5 HD1 HOK HOP HRG
                obtain ⟨bb, hbb, hal2⟩ : ∃ bb : Bool, bb = decide ((rn : Int) ∈ wrL i) ∧ ((bb = true ∧ u1.vs = a1.vs) ∨ (bb = false ∧ u1.vs = (a1.set rn v).vs)) := by
                  rcases HAL.out with ⟨hin, hvs⟩ | ⟨hin, hvs⟩
                  · exact ⟨true, (decide_eq_true hin).symm, .inl ⟨rfl, hvs⟩⟩
                  · exact ⟨false, (decide_eq_false hin).symm, .inr ⟨rfl, hvs⟩⟩
                rw [← hbb] at KI2
                have HAL2 := Lib.hid hal2
                clear hbb hal2 HAL
                go_upto_if 156 with (first | (go_at_call 26; refine KI2.out.mono ?_; rintro e x10 ⟨rfl, rfl⟩) | fail)
                go_cut [] from 157 to 160 (fun wc => ∃ n : Stt, Hid (u1.vs = n.vs ∧ S6 R w s n u1 i ha hu A1 k1 l2 x2.heap.size y5.heap.size p1 M2 y5.heap.size y6.heap.size p2 M2 A2 k2 l2 wc))
                case first =>
                  as_aux_lemma =>
                    rcases HAL2.out with ⟨rfl, hvs⟩ | ⟨rfl, hvs⟩
                    · have HF := Lib.hid hvs
                      clear hvs
                      go_wp2_with fail
                      go_meet
                      exact ⟨a1, Lib.hid ⟨HF.out, ⟨H11.out, HBu.out, HE2.out⟩⟩⟩
                    · have HF := Lib.hid hvs
                      have ca : x10.cell? ⟨ha, rn, none⟩ = some (.int .u64 (a1.r rn)) := (H11.out.a.cell rn).trans (Stt.vs_r _ HRN.out)
                      have fa := H11.out.a.frozen rn
                      have hk := kp_cell x10 ha rn (.int .u64 v)
                      have HP : Hid (S6 R w s (a1.set rn v) u1 i ha hu A1 k1 l2 x2.heap.size y5.heap.size p1 M2 y5.heap.size y6.heap.size p2 M2 A2 k2 l2 (x10.setCell ⟨ha, rn, none⟩ (.int .u64 v))) := Lib.hid ⟨H11.out.put mc HRN.out HS6.out (Nat.le_trans HY56.out HHA.out) HHA.out, hk.bk HBu.out (.inr HHU.out), (HE2.out.blk (fun j hj ad hA he => hk.blk j hj (.inr (by rw [← he]; exact HLO2.out ad hA)))).more hk.size⟩
                      clear hvs hk
                      go_wp2_with fail
                      go_meet
                      exact ⟨a1.set rn v, Lib.hid ⟨HF.out, HP.out⟩⟩
                obtain ⟨n, hnn⟩ := hcut
                have H12 := Lib.hid hnn.out.2
                have HBn : Hid (Bk wc ha 26 u1.vs) := Lib.hid (by rw [hnn.out.1]; exact H12.out.h.a)
                clear hnn hrni hrn0 H11 HBu HE2 HAL2 KI2 HHU HS6 HRN
                have hk12 : k2 = k1 := by rw [← H12.out.e.len, ← H12.out.h.e.len]
                subst hk12
                have hk3 : k2 ≤ 3 := by have h := HC1.out; omega
                have KS := Lib.hid (same_e A1 A2 k2 c1 k2 c2 _ _ _ _ wc H12.out.h.e H12.out.e (by omega) (by omega))
                rw [decide_eq_true rfl] at KS
                have KR : Hid (∀ (X : World) (P : Value), (∃ B E, R X B E P M2) → Calls Tryz.prog 20 #[P] X (RegsS M2 X)) := Lib.hid (fun X P ⟨B, E, h⟩ => regs_s mc (Lib.hid h))
                have HGM2 := Lib.hid (mc.shape H12.out.h.m1).2.1
                have HM1 := Lib.hid H12.out.h.m1
                have HM2 := Lib.hid H12.out.h.m2
                have hse := stt_self HN2.out
                have HBW := Lib.hid H12.out.h.q.b
                as_aux_lemma =>
                  have HBu2 := Lib.hid H12.out.u
                  clear H12 HC1 HC2 hk3
                  go_wp2_with (first | (refine load_row_w (by kernel_rfl) 26 (.tmp 24) rfl hu rfl 26 u1.vs (0, 0) _ HBu2.out Tryz.underlying26 rfl i20 ?_) | (refine load_row_w (by kernel_rfl) 26 (.tmp 15) rfl ha rfl 26 u1.vs (0, 0) _ HBn.out Tryz.underlying26 rfl i20 ?_) | (go_at_call 12; refine KS.out.mono ?_; rintro e x11 ⟨rfl, hb⟩; have HM3 := mc.below HM1 hb; have HM4 := mc.below HM2 hb; have HB5 := Lib.hid (bel_tr HBW.out hb); clear hb) | (go_at_call 20; refine (KR.out _ _ (by first | exact ⟨_, _, HM6.out⟩ | exact ⟨_, _, HM3.out⟩)).mono ?_; rintro e x7 ⟨hb, A7, n7, c7, os7, rfl, h7⟩; first | (have HA7 := Lib.hid (OwnI.below HO7.out.1 hb); have EM7 := Lib.hid HO7.out.2; have HA8 := Lib.hid h7.out.1; have EM8 := Lib.hid h7.out.2; have HB8 := Lib.hid (bel_tr HB7.out hb)) | (have HO7 := h7; have HM6 := mc.below HM4 hb; have HB7 := Lib.hid (bel_tr HB5.out hb)); clear hb h7) | (go_at_call 19; refine (same_t HA7.out HA8.out EM7.out EM8.out HGM2.out).mono ?_; rintro e x12 ⟨rfl, hb⟩; have HB9 := Lib.hid (bel_tr HB8.out hb); clear hb) | fail)
                  go_ret
                  exact ⟨rfl, HB9.out⟩
end stepStays
end Go.Proofs.YtmiphnocgepdgaaGreatDoor
