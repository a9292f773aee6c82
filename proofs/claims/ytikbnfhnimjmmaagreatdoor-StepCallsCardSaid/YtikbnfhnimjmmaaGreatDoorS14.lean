/- The landed package step: Do. | The landed package step: Do, whole. -/
import Derived.Test.YtikbnfhnimjmmaaGreatDoorS13
import Derived.Test.YtikbnfhnimjmmaaGreatDoorS0
namespace Go.Proofs.YtikbnfhnimjmmaaGreatDoor
open Go Go.RowKit Go.Shelf
namespace Sp
open Wd Nt Mm Is
set_option linter.unusedVariables false
set_option linter.unusedSimpArgs false
theorem held_W' {s : Stt} (h : s.wf) (b x sc di : Int) : W (addr s b x sc di) := u64_W _
theorem jmpS_wf {s : Stt} (h : s.wf) (i : Ins) (c : Bool) : (jmpS s i c).wf := by
  unfold jmpS; split
  · exact ⟨h.r, u64_W _⟩
  · exact h
theorem bh_wf {s : Stt} (h : s.wf) (i : Ins) (size v : Int) (hv : W v) : (bh s i size v).wf := by
  unfold bh
  have h1 : ({ s with pc := u64 (s.pc + u64 size) } : Stt).wf := ⟨h.r, u64_W _⟩
  dsimp only
  split
  · unfold mvP
    split
    · exact Stt.set_wf h1 _ hv
    split
    · exact h1
    split
    · exact Stt.set_wf h1 _ (u64_W _)
    split
    · exact Stt.set_wf (Stt.set_wf h1 _ (W_mulH (h.r _) (h.r _))) _ (W_mulL _ _)
    split
    · exact Stt.set_wf h1 _ (u64_W _)
    split
    · exact Stt.set_wf (Stt.set_wf h1 _ (u64_W _)) _ hv
    split
    · exact jmpS_wf h1 i _
    split
    · exact jmpS_wf h1 i _
    split
    · exact jmpS_wf h1 i _
    · exact ⟨(Stt.set_wf h1 4 (u64_W _)).r, hv⟩
  · refine Stt.setF_wf (Stt.set_wf h1 _ (rk_W _ _ _ _ (h.r _) ?_)) _
    unfold secd; split
    · exact u64_W _
    · exact h.r _
theorem behind_l (s : Stt) (hs : s.wf) (i : Ins) (hi : okI i = true) (size v : Int) (w : World) : Calls Tryz.prog 65 #[.agg s.vs, .agg i.vs, .int .i64 size, .int .u64 v] w fun e w' => e = .returned (.agg (bh s i size v).vs) ∧ Below w.heap.size w w' := by
  cases hm : isMv i.op with
  | true =>
    have e : bh s i size v = mvP { s with pc := u64 (s.pc + u64 size) } i v := by unfold bh; rw [if_pos hm]
    rw [e]; exact behind_mv s hs i hi hm size v w
  | false =>
    have e : bh s i size v = (({ s with pc := u64 (s.pc + u64 size) } : Stt).set i.d.toNat (rkP i.op (s.r i.d.toNat) (secd s i) s.fl).1).setF (rkP i.op (s.r i.d.toNat) (secd s i) s.fl).2 := by unfold bh; rw [if_neg (by rw [hm]; decide)]
    rw [e]; exact behind_rk s hs i hi hm size v w
theorem tch_W {s : Stt} (h : s.wf) (i : Ins) : W (tch s i).a := by
  unfold tch
  split
  · exact u64_W _
  split
  · exact u64_W _
  split
  · exact u64_W _
  split
  · exact h.r _
  · exact ⟨by decide, by decide⟩
section
variable {R : World → Nat → Nat → Value → List Reg → Prop}
def XchP (R : World → Nat → Nat → Value → List Reg → Prop) (B E : Nat) (P : Value) (M : List Reg) (t : Ev) (x : Int) (w : World) (e : Ending) (w' : World) : Prop :=
  Kp B E w w' ∧ ∃ v M' e', e = .returned (.tuple #[.int .u64 v, .int .i64 e']) ∧ XchO M t x v M' e' ∧ R w' B E P M'
set_option maxRecDepth 100000 in
set_option maxHeartbeats 1000000 in
theorem exchange_l (mc : MemD R) {w : World} {B E : Nat} {P : Value} {M : List Reg} (h : Hid (R w B E P M)) (t : Ev) (ht : W t.a) (x : Int) (hx : W x) : Calls Tryz.prog 64 #[P, .agg t.vs, .int .u64 x] w (XchP R B E P M t x w) := by
  have HR := mc.below h (bel_alloc (w := w) (.cells t.vs 51))
  have HK0 : Hid (Kp B E w (w.alloc (.cells t.vs 51))) := Lib.hid (Kp.of (bel_alloc _))
  have K1 := Lib.hid (mc.load t.a HR ht)
  have K2 := Lib.hid (mc.store t.a x HR ht hx)
  have HB := Lib.hid (Bk.new w 51 t.vs)
  obtain ⟨D, rfl⟩ := (mc.shape h.out).1
  clear ht hx h
  by_cases h2 : t.k = 2
  · have H2 := Lib.hid h2
    clear K2
    go_enter Tryz.func64, Tryz.ntmps64
    go_upto_region 1 with fail
    generalize World.alloc _ _ = W1 at *
    obtain ⟨c0, c1, _, _⟩ := ev2 HB.out
    rw [h2] at c0
    clear h2
    go_wp2_with fail
    go_at_call 115
    refine K1.out.mono ?_
    rintro e y ⟨hb, v, z, rfl, hl⟩
    have HRY := mc.below HR hb
    have HL := Lib.hid hl
    have HB2 := Lib.hid (HK0.out.trans (Kp.of hb))
    clear hb hl K1
    go_wp2_with fail
    go_ret2
    exact ⟨HB2.out, v, M, z, rfl, .inl ⟨H2.out, HL.out, rfl⟩, HRY.out⟩
  · have H2 := Lib.hid h2
    have n2 : (t.k == 2) = false := by rw [beq_eq_false_iff_ne]; exact h2
    clear h2 K1
    by_cases h3 : t.k = 3
    · have H3 := Lib.hid h3
      go_enter Tryz.func64, Tryz.ntmps64
      go_upto_region 1 with fail
      generalize World.alloc _ _ = W1 at *
      obtain ⟨c0, c1, _, _⟩ := ev2 HB.out
      rw [h3] at c0
      clear h3 n2
      go_wp2_with fail
      go_at_call 116
      refine K2.out.mono ?_
      rintro e y ⟨hk, M2, z, rfl, hl, hr⟩
      have HRY := Lib.hid hr
      have HL := Lib.hid hl
      have HB2 := Lib.hid (HK0.out.trans hk)
      clear hk hl hr K2
      go_wp2_with fail
      go_ret2
      exact ⟨HB2.out, 0, M2, z, rfl, .inr (.inl ⟨H3.out, HL.out, rfl⟩), HRY.out⟩
    · have H3 := Lib.hid h3
      have n3 : (t.k == 3) = false := by rw [beq_eq_false_iff_ne]; exact h3
      clear h3 K2
      go_enter Tryz.func64, Tryz.ntmps64
      go_upto_region 1 with fail
      generalize World.alloc _ _ = W1 at *
      obtain ⟨c0, c1, _, _⟩ := ev2 HB.out
      go_wp2_with fail
      go_ret2
      exact ⟨HK0.out, 0, M, 0, rfl, .inr (.inr ⟨H2.out, H3.out, rfl, rfl, rfl⟩), HR.out⟩
theorem chk_02 (i : Ins) : (okI i = true ∧ chk i = 0) ∨ (okI i = false ∧ chk i = 2) := by
  unfold chk
  cases okI i
  · exact .inr ⟨rfl, rfl⟩
  · exact .inl ⟨rfl, rfl⟩
set_option maxRecDepth 100000 in
set_option maxHeartbeats 1000000 in
theorem refuse_l (i : Ins) (hi : i.wf) (size : Int) (P : Value) (bz : Int) (w : World) (hT : Tab w) (hP : ∀ X, Below w.heap.size w X → Calls Tryz.prog 114 #[P, .int .u64 0, .int .i64 (-1)] X fun e w' => (∃ s, e = .returned (.tuple #[.string s, .int .i64 bz])) ∧ Below X.heap.size X w') (hbz : bz = 1 ∨ bz = 2) :
    Calls Tryz.prog 62 #[.agg i.vs, .int .i64 size, P] w fun e w' => e = .returned (.int .i64 (if refE i size ≠ 0 then refE i size else if bz = 1 then 1 else 0)) ∧ Below w.heap.size w w' := by
  have K := Lib.hid (fun W h => check_l i hi W h)
  have HP := Lib.hid hP
  obtain ⟨r, hr⟩ : ∃ r, (if refE i size ≠ 0 then refE i size else if bz = 1 then 1 else 0) = r := ⟨_, rfl⟩
  rw [hr]
  have HT := Lib.hid (hT.keep (bel_alloc (w := w) (.cells i.vs 26)))
  have HB := Lib.hid (Bk.new w 26 i.vs)
  have HW := Lib.hid (bel_alloc (w := w) (.cells i.vs 26))
  unfold refE at hr
  clear hP hT
  rcases chk_02 i with ⟨hk, he⟩ | ⟨hk, he⟩
  · rw [he] at hr K
    rw [if_neg (show ¬ ((0 : Int) ≠ 0) by omega)] at hr
    have HR := Lib.hid hr
    clear hr he hk
    by_cases h1 : size < 1
    · have e1 : r = 2 := by have := HR.out; rw [if_pos (Or.inl h1)] at this; simpa using this.symm
      clear HR
      go_enter Tryz.func62, Tryz.ntmps62
      go_upto_region 1 with fail
      generalize World.alloc _ _ = W1 at *
      go_wp2_with (first | (refine wpList_load_row rfl 26 (.tmp 3) rfl w.heap.size rfl 26 i.vs (0, 0) _ HB.out Tryz.underlying26 rfl i9 ?_) | (go_at_call 112; refine (K.out _ HT.out).mono ?_; rintro e y ⟨rfl, hg⟩; have HG := Lib.hid (bel_tr HW.out hg.below); clear hg) | fail)
      go_ret
      exact ⟨by rw [e1]; rfl, HG.out⟩
    · by_cases h15 : 15 < size
      · have e1 : r = 2 := by have := HR.out; rw [if_pos (Or.inr h15)] at this; simpa using this.symm
        clear HR
        go_enter Tryz.func62, Tryz.ntmps62
        go_upto_region 1 with fail
        generalize World.alloc _ _ = W1 at *
        go_wp2_with (first | (refine wpList_load_row rfl 26 (.tmp 3) rfl w.heap.size rfl 26 i.vs (0, 0) _ HB.out Tryz.underlying26 rfl i9 ?_) | (go_at_call 112; refine (K.out _ HT.out).mono ?_; rintro e y ⟨rfl, hg⟩; have HG := Lib.hid (bel_tr HW.out hg.below); clear hg) | fail)
        go_ret
        exact ⟨by rw [e1]; rfl, HG.out⟩
      · have e1 : Hid (r = if bz = 1 then 1 else 0) := Lib.hid (by have := HR.out; rw [if_neg (by omega)] at this; simpa using this.symm)
        have h1' : (1 : Int) ≤ size := by omega
        have h15' : size ≤ 15 := by omega
        clear HR h1 h15
        rcases hbz with rfl | rfl
        all_goals
          go_enter Tryz.func62, Tryz.ntmps62
          go_upto_region 1 with fail
          generalize World.alloc _ _ = W1 at *
          go_wp2_with (first | (refine wpList_load_row rfl 26 (.tmp 3) rfl w.heap.size rfl 26 i.vs (0, 0) _ HB.out Tryz.underlying26 rfl i9 ?_) | (go_at_call 112; refine (K.out _ HT.out).mono ?_; rintro e y ⟨rfl, hg⟩; have HG := Lib.hid (bel_tr HW.out hg.below); clear hg) | (go_at_call 114; refine (HP.out _ HG.out).mono ?_; rintro e z ⟨⟨sb, rfl⟩, hb2⟩; have HG2 := Lib.hid (bel_tr HG.out hb2); clear hb2) | fail)
          go_ret
          exact ⟨by rw [e1.out]; rfl, HG2.out⟩
  · rw [he] at hr K
    have e1 : r = 2 := by rw [if_pos (show (2 : Int) ≠ 0 by omega)] at hr; simpa using hr.symm
    clear hr he hk
    go_enter Tryz.func62, Tryz.ntmps62
    go_upto_region 1 with fail
    generalize World.alloc _ _ = W1 at *
    go_wp2_with (first | (refine wpList_load_row rfl 26 (.tmp 3) rfl w.heap.size rfl 26 i.vs (0, 0) _ HB.out Tryz.underlying26 rfl i9 ?_) | (go_at_call 112; refine (K.out _ HT.out).mono ?_; rintro e y ⟨rfl, hg⟩; have HG := Lib.hid (bel_tr HW.out hg.below); clear hg) | fail)
    go_ret
    exact ⟨by rw [e1]; rfl, HG.out⟩
end
end Sp
end Go.Proofs.YtikbnfhnimjmmaaGreatDoor
namespace Go.Proofs.YtikbnfhnimjmmaaGreatDoor
open Go Go.RowKit Go.Shelf
namespace Sp
open Wd Nt Mm Is
set_option linter.unusedVariables false
set_option linter.unusedSimpArgs false
theorem ret_do {fn : Func} {p u v : Tmp} {R : Ending → World → Prop} {a : Act} {w : World} {g : Nat} {s : Stt} {x y : Value} (h : fn.results = #[.cell p 42, .tmp u, .tmp v]) (hp : a.tmps.getD p undef = .pointer (some ⟨g, 0, none⟩)) (hu : a.tmps.getD u undef = x) (hv : a.tmps.getD v undef = y) (hd : a.defers = [])
    (hb : Bk w g 42 s.vs) (hR : R (.returned (.tuple #[.agg s.vs, x, y])) w) : bodyPost Tryz.prog fn R .ret a w := by
  refine bodyPost_ret (v := .tuple #[.agg s.vs, x, y]) ?_ hd hR
  have hp' : a.tmps[p]?.getD undef = .pointer (some ⟨g, 0, none⟩) := by simpa using hp
  have hu' : a.tmps[u]?.getD undef = x := by simpa using hu
  have hv' : a.tmps[v]?.getD undef = y := by simpa using hv
  simp [results, h, hp', hu', hv', asAddr, Sem.run_bind, run_loadVar_row w g 42 42 s.vs (0, 0) _ hb Tryz.underlying42 rfl i20]
structure D3 (w : World) (s : Stt) (i : Ins) (r : Stt) (W : World) : Prop where
  s : Bk W w.heap.size 42 s.vs
  i : Bk W (w.heap.size + 1) 26 i.vs
  z : Bk W (w.heap.size + 1 + 1) 42 r.vs
theorem D3.kp {w W X : World} {s r : Stt} {i : Ins} {B E : Nat} (h : D3 w s i r W) (hk : Kp B E W X) (hE : E ≤ w.heap.size) : D3 w s i r X :=
  ⟨hk.bk h.s (.inr (by omega)), hk.bk h.i (.inr (by omega)), hk.bk h.z (.inr (by omega))⟩
theorem D3.below {w W X : World} {s r : Stt} {i : Ins} (h : D3 w s i r W) (hb : Below W.heap.size W X) : D3 w s i r X :=
  ⟨h.s.below hb h.s.lt, h.i.below hb h.i.lt, h.z.below hb h.z.lt⟩
theorem D3.row {w W : World} {s r : Stt} {i : Ins} (h : D3 w s i r W) (n : Stt) : D3 w s i n (W.setRow (w.heap.size + 1 + 1) n.vs) :=
  ⟨(setRow_other W _ _ _ (by omega)).trans h.s, (setRow_other W _ _ _ (by omega)).trans h.i, bk_row h.z⟩
theorem D3.drew {w W : World} {s r : Stt} {i : Ins} (h : D3 w s i r W) : D3 w s i r W.drew := ⟨h.s, h.i, h.z⟩
theorem Kp.row {B E : Nat} {w X : World} (h : Kp B E w X) {g : Nat} (hg : w.heap.size ≤ g) (cs : Array Value) : Kp B E w (X.setRow g cs) :=
  ⟨h.os, h.tape, h.output, by rw [setRow_size]; exact h.size, fun i hi ho => (setRow_other X g i cs (by omega)).trans (h.blk i hi ho)⟩
theorem kp_row (X : World) (g : Nat) (cs : Array Value) : Kp g (g + 1) X (X.setRow g cs) :=
  ⟨rfl, rfl, rfl, by rw [setRow_size]; exact Nat.le_refl _, fun i hi ho => setRow_other X g i cs (by omega)⟩
theorem Kp.drew {B E : Nat} {w X : World} (h : Kp B E w X) : Kp B E w X.drew := ⟨h.os, h.tape, h.output, h.size, h.blk⟩
theorem Tab.kp {w w' : World} {B E : Nat} (h : Tab w) (hk : Kp B E w w') (hB : 0 < B) : Tab w' := by
  have hc : ∀ i, w'.cell? ⟨0, i, none⟩ = w.cell? ⟨0, i, none⟩ := fun i => World.cell?_of_block (w := w) (hk.blk _ h.lt (.inl hB))
  exact ⟨Nat.lt_of_lt_of_le h.lt hk.size, fun k hk => (hc _).trans (h.nm k hk), fun k hk => (hc _).trans (h.pt k hk), fun k hk => (hc _).trans (h.nu k hk), fun k hk => (hc _).trans (h.ft k hk), fun k hk => (hc _).trans (h.fm k hk)⟩
theorem tcI {i : Ins} {c : Nat} (h : i.s = (c : Int)) : i.s.toNat = c := by omega
theorem RdE.nil {w : World} {B : Nat} {A : Option Addr} : RdE w B A 0 [] := ⟨rfl, fun h => absurd h (by omega)⟩
section
variable {R : World → Nat → Nat → Value → List Reg → Prop}
/-- all that Do answers, and what becomes of the world -/
def DoP (R : World → Nat → Nat → Value → List Reg → Prop) (B E : Nat) (P : Value) (M : List Reg) (s : Stt) (i : Ins) (size : Int) (w : World) (e : Ending) (w' : World) : Prop :=
  Kp B E w w' ∧ ∃ n l M' x A k c, e = .returned (.tuple #[.agg n.vs, .slice A k c, .int .i64 x]) ∧ DoO s i size M n l M' x ∧ n.wf ∧ R w' B E P M' ∧ Hid (RdE w' w'.heap.size A k l) ∧ k ≤ c ∧ c ≤ 3 ∧ (∀ ad, A = some ad → w.heap.size ≤ ad.block)
theorem DoP.mk {B E : Nat} {P : Value} {M : List Reg} {s : Stt} {i : Ins} {size : Int} {w w' : World} {n : Stt} {l : List Ev} {M' : List Reg} {x : Int} {A : Option Addr} {k c : Nat} (h1 : Kp B E w w') (h2 : DoO s i size M n l M' x) (h3 : n.wf) (h4 : R w' B E P M') (h5 : RdE w' w'.heap.size A k l) (h6 : k ≤ c) (h7 : c ≤ 3) (h8 : ∀ ad, A = some ad → w.heap.size ≤ ad.block) :
    DoP R B E P M s i size w (.returned (.tuple #[.agg n.vs, .slice A k c, .int .i64 x])) w' := ⟨h1, n, l, M', x, A, k, c, rfl, h2, h3, h4, Lib.hid h5, h6, h7, h8⟩
theorem load_W {M : List Reg} (hM : Oks M) {t : Ev} {x v e : Int} {M' : List Reg} (h : XchO M t x v M' e) : W v := by
  rcases h with ⟨_, h, _⟩ | ⟨_, _, h⟩ | ⟨_, _, h, _⟩
  · rcases h with ⟨j, r, hh, hv, _⟩ | ⟨_, hv, _⟩
    · have := wordN_bd (hM r (List.mem_of_getElem? hh.1)).bytes (t.a - r.base).toNat 8
      rw [B256_8] at this
      rw [hv]; exact ⟨this.1, by omega⟩
    · rw [hv]; exact ⟨by decide, by decide⟩
  · rw [h]; exact ⟨by decide, by decide⟩
  · rw [h]; exact ⟨by decide, by decide⟩
theorem refE_ok {i : Ins} {size : Int} (h : refE i size = 0) : okI i = true := by
  rcases chk_02 i with ⟨hk, _⟩ | ⟨_, he⟩
  · exact hk
  · unfold refE at h; rw [he] at h; rw [if_pos (by decide)] at h; cases h
set_option maxRecDepth 100000 in
set_option maxHeartbeats 4000000 in
theorem do_l (mc : MemD R) {w : World} {B E : Nat} {P : Value} {M : List Reg} (h : Hid (R w B E P M)) (s : Stt) (hs : s.wf) (i : Ins) (hi : i.wf) (size : Int) (hT : Tab w) (hTB : 0 < B) : Calls Tryz.prog 22 #[.agg s.vs, .agg i.vs, .int .i64 size, P] w (DoP R B E P M s i size w) := by
  obtain ⟨⟨D, rfl⟩, hgood, _, hoks, hBE, hEw⟩ := mc.shape h.out
  have HS := Lib.hid hs
  have HI := Lib.hid hi
  have HTB := Lib.hid hTB
  have HOK := Lib.hid hoks
  have HE := Lib.hid hEw
  have HT0L := Lib.hid hT.lt
  have HT0 := Lib.hid hT
  have hz := Lib.hid (show W 0 from ⟨by decide, by decide⟩)
  clear hs hi hTB hgood hoks hBE hEw hT
  go_enter Tryz.func22, Tryz.ntmps22
  go_upto_region 1 with fail
  rw [s0_vs]
  have HM := Lib.hid (M3.new w s i)
  have HR := mc.below h HM.out.b
  have HT := Lib.hid (HT0.out.keep HM.out.b)
  have HD := Lib.hid (show D3 w s i s0 _ from ⟨HM.out.s, HM.out.i, HM.out.z⟩)
  have HK := Lib.hid (Kp.of (B := B) (E := E) HM.out.b)
  generalize World.alloc _ _ = W1 at *
  have KR := Lib.hid (refuse_l i HI.out size (.pointer (some D)) 2 W1 HT.out (fun X hb => (mc.bytes 0 (-1) (mc.below HR hb) hz.out (by decide)).mono (by
    rintro e y ⟨hb2, sb, x, rfl, hx⟩
    have : x = 2 := by rcases hx with ⟨_, _, h⟩ | ⟨h, _⟩ | ⟨h, _⟩ <;> omega
    subst this
    exact ⟨⟨_, rfl⟩, hb2⟩)) (.inr rfl))
  rw [show (if refE i size ≠ 0 then refE i size else if (2 : Int) = 1 then 1 else 0) = refE i size by
    by_cases h : refE i size = 0
    · rw [if_neg (fun h2 => h2 h), h]; rfl
    · rw [if_pos h]] at KR
  clear h HM HT0
  by_cases h0 : refE i size = 0
  · have H0 := Lib.hid h0
    rw [h0] at KR
    have hok := refE_ok h0
    obtain ⟨_, g2, _⟩ := ok_regs hok
    obtain ⟨c, hc, hcl⟩ := nat_of g2
    have HC := Lib.hid hc
    have HOKI := Lib.hid hok
    have KT := Lib.hid (fun W => touch_l s i W)
    have htW := Lib.hid (tch_W HS.out i)
    obtain ⟨ev, hev⟩ : ∃ ev, tch s i = ev := ⟨_, rfl⟩
    rw [hev] at KT htW
    change Hid (∀ W, Calls Tryz.prog 63 #[.agg s.vs, .agg i.vs] W fun e w' => e = .returned (.agg #[.int .i64 ev.k, .int .u64 ev.a]) ∧ Below W.heap.size W w') at KT
    have HEV := Lib.hid hev
    clear h0 hok g2 hc hev
    go_wp2_with (first | (refine wpList_load_row rfl 26 (.tmp 5) rfl (w.heap.size + 1) rfl 26 i.vs (0, 0) _ HD.out.i Tryz.underlying26 rfl i9 ?_) | (go_at_call 62; refine KR.out.mono ?_; rintro e y1 ⟨rfl, hb1⟩; have HD1 := Lib.hid (HD.out.below hb1); have HR1 := mc.below HR hb1; have HK1 := Lib.hid (HK.out.trans (Kp.of hb1)); have HT1 := Lib.hid (HT.out.keep hb1); clear hb1 KR HD HR HK HT) | (refine wpList_load_row rfl 42 (.tmp 4) rfl w.heap.size rfl 42 s.vs (0, 0) _ HD1.out.s Tryz.underlying42 rfl i20 ?_) | (refine wpList_load_row rfl 26 (.tmp 5) rfl (w.heap.size + 1) rfl 26 i.vs (0, 0) _ HD1.out.i Tryz.underlying26 rfl i9 ?_) | (go_at_call 63; refine (KT.out _).mono ?_; rintro e y2 ⟨rfl, hb2⟩; have HD2 := Lib.hid (HD1.out.below hb2); have HR2 := mc.below HR1 hb2; have HK2 := Lib.hid (HK1.out.trans (Kp.of hb2)); have HT2 := Lib.hid (HT1.out.keep hb2); clear hb2 KT HD1 HR1 HK1 HT1) | fail)
    have HB5 := Lib.hid (Bk.new y2 51 #[.int .i64 ev.k, .int .u64 ev.a])
    have HD3 := Lib.hid (HD2.out.below (bel_alloc (.cells #[.int .i64 ev.k, .int .u64 ev.a] 51)))
    have HR3 := mc.below HR2 (bel_alloc (.cells #[.int .i64 ev.k, .int .u64 ev.a] 51))
    have HK3 := Lib.hid (HK2.out.trans (Kp.of (bel_alloc (.cells #[.int .i64 ev.k, .int .u64 ev.a] 51))))
    have HT3 := Lib.hid (HT2.out.keep (bel_alloc (.cells #[.int .i64 ev.k, .int .u64 ev.a] 51)))
    have hg5 := Lib.hid (show w.heap.size + 1 + 1 < y2.heap.size from HD2.out.z.lt)
    obtain ⟨Y, hY⟩ : ∃ Y, Y = y2.alloc (.cells #[.int .i64 ev.k, .int .u64 ev.a] 51) := ⟨_, rfl⟩
    rw [← hY] at HB5 HD3 HR3 HK3 HT3 ⊢
    clear hY
    generalize y2.heap.size = B5 at HB5 hg5 ⊢
    clear HD2 HR2 HK2 HT2
    have HX : Hid (∀ X, D3 w s i s0 X → X.cell? ⟨w.heap.size + 1, 2, none⟩ = some (.int .i64 (c : Int)) ∧ X.cell? ⟨w.heap.size, c, none⟩ = some (.int .u64 (s.r c))) := Lib.hid (fun X h => ⟨by rw [← HC.out]; exact h.i.cell 2, (h.s.cell c).trans (s.vs_r hcl)⟩)
    have hci : (c : Int) < 16 := by omega
    refine wp_region_held_drew (S := (fun w' => D3 w s i s0 w' ∧ Bk w' B5 51 ev.vs)) (by kernel_rfl) ⟨HD3.out.drew, HB5.out.drew⟩ (fun hHeld => ?_)
    have HD4 := Lib.hid HD3.out.drew
    have HR4 := mc.below HR3 (Below.drew (Below.refl _ Y))
    have HK4 := Lib.hid (Kp.drew HK3.out)
    have HT4 := Lib.hid (HT3.out.keep (Below.drew (Below.refl _ Y)))
    have HB6 : Hid (Bk Y.drew B5 51 ev.vs) := Lib.hid HB5.out.drew
    generalize World.drew Y = Y2 at *
    clear HD3 HR3 HK3 HT3 HB5
    refine wpAnyH_take (i := 0) (oi := { dst := some 26, op := Op.move (Operand.tmp 3), type := 43, pos := "step.go:25", after := #[], guard := none }) (v := (.pointer (some D))) rfl (by kernel_rfl) (by kernel_rfl) (by kernel_rfl) (fun _ _ _ h => h) (Or.inl ⟨by rfl, ?_⟩) (by assumption) ?_
    · intro w' hSw
      go_simp
    simp only [Act.put, List.setIfInBounds_toArray, List.set_cons_zero, List.set_cons_succ]
    refine wpAnyH_take (i := 1) (oi := { dst := some 27, op := Op.load 51 (Operand.tmp 12), type := 51, pos := "step.go:25", after := #[], guard := none }) (v := (.agg ev.vs)) rfl (by kernel_rfl) (by kernel_rfl) (by kernel_rfl) (fun _ _ _ h => h) (Or.inl ⟨by rfl, ?_⟩) (by assumption) ?_
    · intro w' hSw
      exact row_yields 51 (.tmp 12) rfl _ rfl ev.vs _ hSw.2 Tryz.underlying51 rfl i2
    simp only [Act.put, List.setIfInBounds_toArray, List.set_cons_zero, List.set_cons_succ]
    refine wpAnyH_take (i := 2) (oi := { dst := some 28, op := Op.fieldAddr 26 (Operand.tmp 5) 2, type := 0, pos := "step.go:25", after := #[], guard := none }) (v := (.pointer (some ⟨w.heap.size + 1, 2, none⟩))) rfl (by kernel_rfl) (by kernel_rfl) (by kernel_rfl) (fun _ _ _ h => h) (Or.inl ⟨by rfl, ?_⟩) (by assumption) ?_
    · intro w' hSw
      obtain ⟨z1, z2⟩ := HX.out _ hSw.1
      clear hSw
      go_simp
    simp only [Act.put, List.setIfInBounds_toArray, List.set_cons_zero, List.set_cons_succ]
    refine wpAnyH_take (i := 3) (oi := { dst := some 29, op := Op.load 3 (Operand.tmp 28), type := 3, pos := "step.go:25", after := #[{ on := 2, ground := Ground.data }], guard := none }) (v := (.int .i64 (c : Int))) rfl (by kernel_rfl) (by kernel_rfl) (by kernel_rfl) (fun _ _ _ h => h) (Or.inl ⟨by rfl, ?_⟩) (by assumption) ?_
    · intro w' hSw
      obtain ⟨z1, z2⟩ := HX.out _ hSw.1
      clear hSw
      go_simp
    simp only [Act.put, List.setIfInBounds_toArray, List.set_cons_zero, List.set_cons_succ]
    refine wpAnyH_take (i := 4) (oi := { dst := some 30, op := Op.fieldAddr 42 (Operand.tmp 4) 0, type := 0, pos := "step.go:25", after := #[], guard := none }) (v := (.pointer (some ⟨w.heap.size, 0, none⟩))) rfl (by kernel_rfl) (by kernel_rfl) (by kernel_rfl) (fun _ _ _ h => h) (Or.inl ⟨by rfl, ?_⟩) (by assumption) ?_
    · intro w' hSw
      obtain ⟨z1, z2⟩ := HX.out _ hSw.1
      clear hSw
      go_simp
    simp only [Act.put, List.setIfInBounds_toArray, List.set_cons_zero, List.set_cons_succ]
    refine wpAnyH_take (i := 5) (oi := { dst := some 31, op := Op.indexAddr 40 (Operand.tmp 30) (Operand.tmp 29), type := 0, pos := "step.go:25", after := #[{ on := 4, ground := Ground.data }, { on := 3, ground := Ground.data }], guard := none }) (v := (.pointer (some ⟨w.heap.size, c, none⟩))) rfl (by kernel_rfl) (by kernel_rfl) (by kernel_rfl) (fun _ _ _ h => h) (Or.inl ⟨by rfl, ?_⟩) (by assumption) ?_
    · intro w' hSw
      obtain ⟨z1, z2⟩ := HX.out _ hSw.1
      clear hSw
      go_simp
    simp only [Act.put, List.setIfInBounds_toArray, List.set_cons_zero, List.set_cons_succ]
    refine wpAnyH_take (i := 6) (oi := { dst := some 32, op := Op.load 39 (Operand.tmp 31), type := 39, pos := "step.go:25", after := #[{ on := 5, ground := Ground.data }], guard := none }) (v := (.int .u64 (s.r c))) rfl (by kernel_rfl) (by kernel_rfl) (by kernel_rfl) (fun _ _ _ h => h) (Or.inl ⟨by rfl, ?_⟩) (by assumption) ?_
    · intro w' hSw
      obtain ⟨z1, z2⟩ := HX.out _ hSw.1
      clear hSw
      go_simp
    simp only [Act.put, List.setIfInBounds_toArray, List.set_cons_zero, List.set_cons_succ]
    have KX := Lib.hid (exchange_l mc HR4 ev htW.out (s.r c) (HS.out.r c))
    refine wpAnyH_ready (rs := [7]) (by kernel_rfl) (by simp) ?_
    refine AllReadyH.cons (o := { dst := some 33, op := Op.call { callee := Callee.value (Operand.func 64), args := #[Operand.tmp 26, Operand.tmp 27, Operand.tmp 32], argTypes := #[43, 51, 39] }, type := 109, pos := "step.go:25", after := #[{ on := 0, ground := Ground.data }, { on := 1, ground := Ground.data }, { on := 6, ground := Ground.data }], guard := none }) rfl (fun K' hK => ?_) AllReadyH.nil
    rw [if_pos (by rfl)]
    go_simp
    go_at_call 64
    refine KX.out.mono ?_
    rintro e y3 ⟨hk, v, M2, e2, rfl, hx, hr⟩
    have HD5 := Lib.hid (HD4.out.kp hk HE.out)
    have HB7 := Lib.hid (hk.bk HB6.out (.inr (by have := hg5.out; have := HE.out; omega)))
    have HK5 := Lib.hid (HK4.out.trans hk)
    have HT5 := Lib.hid (Tab.kp HT4.out hk HTB.out)
    have HR5 := Lib.hid hr
    have HX5 := Lib.hid hx
    refine hK.out _ _ (⟨HD5.out, HB7.out⟩) (fun hHeld => ?_)
    clear hK
    try simp only [Act.put, List.setIfInBounds_toArray, List.set_cons_zero, List.set_cons_succ]
    refine wpAnyH_take (i := 8) (oi := { dst := some 25, op := Op.move (Operand.tmp 33), type := 109, pos := "step.go:25", after := #[{ on := 7, ground := Ground.data }], guard := none }) (v := (.tuple #[.int .u64 v, .int .i64 e2])) rfl (by kernel_rfl) (by kernel_rfl) (by kernel_rfl) (fun _ _ _ h => h) (Or.inl ⟨by rfl, ?_⟩) (by assumption) ?_
    · intro w' hSw
      go_simp
    simp only [Act.put, List.setIfInBounds_toArray, List.set_cons_zero, List.set_cons_succ]
    refine wpAnyH_take (i := 9) (oi := { dst := some 34, op := Op.extract (Operand.tmp 25) 0, type := 39, pos := "step.go:25", after := #[{ on := 8, ground := Ground.data }], guard := none }) (v := (.int .u64 v)) rfl (by kernel_rfl) (by kernel_rfl) (by kernel_rfl) (fun _ _ _ h => h) (Or.inl ⟨by rfl, ?_⟩) (by assumption) ?_
    · intro w' hSw
      go_simp
    simp only [Act.put, List.setIfInBounds_toArray, List.set_cons_zero, List.set_cons_succ]
    refine wpAnyH_take (i := 10) (oi := { dst := some 35, op := Op.extract (Operand.tmp 25) 1, type := 27, pos := "step.go:25", after := #[{ on := 8, ground := Ground.data }, { on := 11, ground := Ground.gcOnly Departure.lateStores }], guard := none }) (v := (.int .i64 e2)) rfl (by kernel_rfl) (by kernel_rfl) (by kernel_rfl) (fun _ _ _ h => h) (Or.inl ⟨by rfl, ?_⟩) (by assumption) ?_
    · intro w' hSw
      go_simp
    simp only [Act.put, List.setIfInBounds_toArray, List.set_cons_zero, List.set_cons_succ]
    refine wpAnyH_take (i := 11) (oi := { dst := some 13, op := Op.assign (Operand.tmp 34), type := 39, pos := "step.go:25", after := #[{ on := 9, ground := Ground.data }, { on := 7, ground := Ground.chain }, { on := 0, ground := Ground.phase }, { on := 1, ground := Ground.phase }, { on := 2, ground := Ground.phase }, { on := 3, ground := Ground.phase }, { on := 4, ground := Ground.phase }, { on := 5, ground := Ground.phase }, { on := 6, ground := Ground.phase }, { on := 7, ground := Ground.phase }, { on := 8, ground := Ground.phase }, { on := 9, ground := Ground.phase }, { on := 10, ground := Ground.textOnly Departure.lateStores }], guard := none }) (v := (.int .u64 v)) rfl (by kernel_rfl) (by kernel_rfl) (by kernel_rfl) (fun _ _ _ h => h) (Or.inl ⟨by rfl, ?_⟩) (by assumption) ?_
    · intro w' hSw
      go_simp
    simp only [Act.put, List.setIfInBounds_toArray, List.set_cons_zero, List.set_cons_succ]
    refine wpAnyH_take (i := 12) (oi := { dst := some 10, op := Op.assign (Operand.tmp 35), type := 27, pos := "step.go:25", after := #[{ on := 10, ground := Ground.data }, { on := 11, ground := Ground.chain }, { on := 0, ground := Ground.phase }, { on := 1, ground := Ground.phase }, { on := 2, ground := Ground.phase }, { on := 3, ground := Ground.phase }, { on := 4, ground := Ground.phase }, { on := 5, ground := Ground.phase }, { on := 6, ground := Ground.phase }, { on := 7, ground := Ground.phase }, { on := 8, ground := Ground.phase }, { on := 9, ground := Ground.phase }, { on := 10, ground := Ground.phase }, { on := 11, ground := Ground.phase }], guard := none }) (v := (.int .i64 e2)) rfl (by kernel_rfl) (by kernel_rfl) (by kernel_rfl) (fun _ _ _ h => h) (Or.inl ⟨by rfl, ?_⟩) (by assumption) ?_
    · intro w' hSw
      go_simp
    simp only [Act.put, List.setIfInBounds_toArray, List.set_cons_zero, List.set_cons_succ]
    refine wpAnyH_done (by kernel_rfl) ?_ _
    clear hHeld KX HD4 HR4 HK4 HT4 HB6 HX hk hx hr
    have hvW := Lib.hid (load_W HOK.out HX5.out)
    have HLW := Lib.hid HK5.out.size
    by_cases he2 : e2 = 0
    · subst he2
      have KB := Lib.hid (fun W => behind_l s HS.out i HOKI.out size v W)
      have hnW := Lib.hid (bh_wf HS.out i size v hvW.out)
      obtain ⟨n, hn⟩ : ∃ n, bh s i size v = n := ⟨_, rfl⟩
      rw [hn] at KB hnW
      have HN := Lib.hid hn
      clear hn
      go_wp2_with (first | (refine wpList_load_row rfl 42 (.tmp 4) rfl w.heap.size rfl 42 s.vs (0, 0) _ HD5.out.s Tryz.underlying42 rfl i20 ?_) | (refine wpList_load_row rfl 26 (.tmp 5) rfl (w.heap.size + 1) rfl 26 i.vs (0, 0) _ HD5.out.i Tryz.underlying26 rfl i9 ?_) | (go_at_call 65; refine (KB.out _).mono ?_; rintro e y4 ⟨rfl, hb4⟩; have HD6 := Lib.hid (HD5.out.below hb4); have HR6 := mc.below HR5 hb4; have HK6 := Lib.hid (HK5.out.trans (Kp.of hb4)); have HT6 := Lib.hid (HT5.out.keep hb4); have HB8 := Lib.hid (HB7.out.below hb4 HB7.out.lt); clear hb4 KB HD5 HR5 HK5 HT5 HB7) | (refine wpList_store_row rfl 42 (.tmp 8) (.tmp 44) rfl (w.heap.size + 1 + 1) n.vs rfl rfl 42 s0.vs HD6.out.z i20 rfl n.vs_one ?_) | fail)
      have HD7 := Lib.hid (HD6.out.row n)
      have HR7 := Lib.hid (mc.keep HR6.out (kp_row y4 (w.heap.size + 1 + 1) n.vs) (.inl (by have := HE.out; omega)))
      have HK7 := Lib.hid (Kp.row HK6.out (g := w.heap.size + 1 + 1) (by omega) n.vs)
      have HT7 := Lib.hid (Tab.kp HT6.out (kp_row y4 (w.heap.size + 1 + 1) n.vs) (by have := HT0L.out; omega))
      have HB9 : Hid (Bk (y4.setRow (w.heap.size + 1 + 1) n.vs) B5 51 ev.vs) := Lib.hid ((setRow_other y4 _ _ _ (by have := hg5.out; omega)).trans HB8.out)
      generalize World.setRow _ _ _ = V at *
      clear HD6 HR6 HK6 HT6 HB8
      refine wp_region_held_drew (S := (fun w' => D3 w s i n w' ∧ Bk w' B5 51 ev.vs)) (by kernel_rfl) ⟨HD7.out.drew, HB9.out.drew⟩ (fun hHeld => ?_)
      have HD8 := Lib.hid HD7.out.drew
      have HR8 := mc.below HR7 (Below.drew (Below.refl _ V))
      have HK8 := Lib.hid (Kp.drew HK7.out)
      have HT8 := Lib.hid (HT7.out.keep (Below.drew (Below.refl _ V)))
      have HB10 : Hid (Bk V.drew B5 51 ev.vs) := Lib.hid HB9.out.drew
      generalize World.drew V = V2 at *
      clear HD7 HR7 HK7 HT7 HB9
      refine wpAnyH_take (i := 0) (oi := { dst := some 45, op := Op.load 42 (Operand.tmp 8), type := 42, pos := "step.go:30", after := #[], guard := none }) (v := (.agg n.vs)) rfl (by kernel_rfl) (by kernel_rfl) (by kernel_rfl) (fun _ _ _ h => h) (Or.inl ⟨by rfl, ?_⟩) (by assumption) ?_
      · intro w' hSw
        exact row_yields 42 (.tmp 8) rfl _ rfl n.vs _ hSw.1.z Tryz.underlying42 rfl i20
      simp only [Act.put, List.setIfInBounds_toArray, List.set_cons_zero, List.set_cons_succ]
      refine wpAnyH_take (i := 1) (oi := { dst := some 46, op := Op.load 42 (Operand.tmp 4), type := 42, pos := "step.go:30", after := #[], guard := none }) (v := (.agg s.vs)) rfl (by kernel_rfl) (by kernel_rfl) (by kernel_rfl) (fun _ _ _ h => h) (Or.inl ⟨by rfl, ?_⟩) (by assumption) ?_
      · intro w' hSw
        exact row_yields 42 (.tmp 4) rfl _ rfl s.vs _ hSw.1.s Tryz.underlying42 rfl i20
      simp only [Act.put, List.setIfInBounds_toArray, List.set_cons_zero, List.set_cons_succ]
      refine wpAnyH_take (i := 2) (oi := { dst := some 47, op := Op.load 26 (Operand.tmp 5), type := 26, pos := "step.go:30", after := #[], guard := none }) (v := (.agg i.vs)) rfl (by kernel_rfl) (by kernel_rfl) (by kernel_rfl) (fun _ _ _ h => h) (Or.inl ⟨by rfl, ?_⟩) (by assumption) ?_
      · intro w' hSw
        exact row_yields 26 (.tmp 5) rfl _ rfl i.vs _ hSw.1.i Tryz.underlying26 rfl i9
      simp only [Act.put, List.setIfInBounds_toArray, List.set_cons_zero, List.set_cons_succ]
      refine wpAnyH_take (i := 3) (oi := { dst := some 48, op := Op.load 51 (Operand.tmp 12), type := 51, pos := "step.go:30", after := #[], guard := none }) (v := (.agg ev.vs)) rfl (by kernel_rfl) (by kernel_rfl) (by kernel_rfl) (fun _ _ _ h => h) (Or.inl ⟨by rfl, ?_⟩) (by assumption) ?_
      · intro w' hSw
        exact row_yields 51 (.tmp 12) rfl _ rfl ev.vs _ hSw.2 Tryz.underlying51 rfl i2
      simp only [Act.put, List.setIfInBounds_toArray, List.set_cons_zero, List.set_cons_succ]
      refine wpAnyH_take (i := 4) (oi := { dst := some 49, op := Op.load 42 (Operand.tmp 8), type := 42, pos := "step.go:30", after := #[], guard := none }) (v := (.agg n.vs)) rfl (by kernel_rfl) (by kernel_rfl) (by kernel_rfl) (fun _ _ _ h => h) (Or.inl ⟨by rfl, ?_⟩) (by assumption) ?_
      · intro w' hSw
        exact row_yields 42 (.tmp 8) rfl _ rfl n.vs _ hSw.1.z Tryz.underlying42 rfl i20
      simp only [Act.put, List.setIfInBounds_toArray, List.set_cons_zero, List.set_cons_succ]
      have KS := Lib.hid (seen_l s i HI.out ev n V2 HT8.out)
      refine wpAnyH_ready (rs := [5]) (by kernel_rfl) (by simp) ?_
      refine AllReadyH.cons (o := { dst := some 50, op := Op.call { callee := Callee.value (Operand.func 66), args := #[Operand.tmp 46, Operand.tmp 47, Operand.tmp 48, Operand.tmp 49], argTypes := #[42, 26, 51, 42] }, type := 46, pos := "step.go:30", after := #[{ on := 1, ground := Ground.data }, { on := 2, ground := Ground.data }, { on := 3, ground := Ground.data }, { on := 4, ground := Ground.data }], guard := none }) rfl (fun K' hK => ?_) AllReadyH.nil
      rw [if_pos (by rfl)]
      go_simp
      go_at_call 66
      refine KS.out.mono ?_
      rintro e y5 ⟨A, k, cc, rfl, hR, hkc, hc3, hlo, hb5⟩
      have HD9 := Lib.hid (HD8.out.below hb5)
      have HR9 := mc.below HR8 hb5
      have HK9 := Lib.hid (HK8.out.trans (Kp.of hb5))
      have HB11 := Lib.hid (HB10.out.below hb5 HB10.out.lt)
      have HKC := Lib.hid hkc
      have HC3 := Lib.hid hc3
      have HLO := Lib.hid hlo
      clear hkc hc3 hlo
      refine hK.out _ _ (⟨HD9.out, HB11.out⟩) (fun hHeld => ?_)
      clear hK
      try simp only [Act.put, List.setIfInBounds_toArray, List.set_cons_zero, List.set_cons_succ]
      refine wpAnyH_ready (rs := [6]) (by kernel_rfl) (by simp) ?_
      refine AllReadyH.cons (o := { dst := none, op := Op.store 42 (Operand.tmp 8) (Operand.tmp 45), type := 0, pos := "step.go:30", after := #[{ on := 0, ground := Ground.data }, { on := 5, ground := Ground.chain }, { on := 0, ground := Ground.phase }, { on := 1, ground := Ground.textOnly Departure.lateStores }, { on := 2, ground := Ground.textOnly Departure.lateStores }, { on := 3, ground := Ground.textOnly Departure.lateStores }, { on := 4, ground := Ground.phase }, { on := 5, ground := Ground.textOnly Departure.lateStoresUnsure }], guard := none }) rfl (fun K' hK => ?_) AllReadyH.nil
      rw [if_pos (by rfl)]
      refine wp_store_row 42 (.tmp 8) (.tmp 45) rfl (w.heap.size + 1 + 1) n.vs rfl rfl 42 n.vs HD9.out.z i20 rfl n.vs_one ?_
      rw [setRow_self _ _ _ _ _ HD9.out.z]
      refine hK.out _ _ (⟨HD9.out, HB11.out⟩) (fun hHeld => ?_)
      clear hK
      try simp only [Act.put, List.setIfInBounds_toArray, List.set_cons_zero, List.set_cons_succ]
      refine wpAnyH_take (i := 7) (oi := { dst := some 9, op := Op.assign (Operand.tmp 50), type := 46, pos := "step.go:30", after := #[{ on := 5, ground := Ground.data }, { on := 6, ground := Ground.chain }, { on := 0, ground := Ground.phase }, { on := 1, ground := Ground.phase }, { on := 2, ground := Ground.phase }, { on := 3, ground := Ground.phase }, { on := 4, ground := Ground.phase }, { on := 5, ground := Ground.phase }, { on := 6, ground := Ground.phase }], guard := none }) (v := (.slice A k cc)) rfl (by kernel_rfl) (by kernel_rfl) (by kernel_rfl) (fun _ _ _ h => h) (Or.inl ⟨by rfl, ?_⟩) (by assumption) ?_
      · intro w' hSw
        go_simp
      simp only [Act.put, List.setIfInBounds_toArray, List.set_cons_zero, List.set_cons_succ]
      refine wpAnyH_take (i := 8) (oi := { dst := some 10, op := Op.assign (Operand.const (Value.int IntKind.i64 0)), type := 27, pos := "step.go:30", after := #[{ on := 7, ground := Ground.chain }, { on := 0, ground := Ground.phase }, { on := 1, ground := Ground.phase }, { on := 2, ground := Ground.phase }, { on := 3, ground := Ground.phase }, { on := 4, ground := Ground.phase }, { on := 5, ground := Ground.phase }, { on := 6, ground := Ground.phase }, { on := 7, ground := Ground.phase }], guard := none }) (v := (.int .i64 0)) rfl (by kernel_rfl) (by kernel_rfl) (by kernel_rfl) (fun _ _ _ h => h) (Or.inl ⟨by rfl, ?_⟩) (by assumption) ?_
      · intro w' hSw
        go_simp
      simp only [Act.put, List.setIfInBounds_toArray, List.set_cons_zero, List.set_cons_succ]
      refine wpAnyH_done (by kernel_rfl) ?_ _
      have HSZ := Lib.hid HK8.out.size
      clear hHeld KS HD8 HR8 HK8 HT8 HB10 hb5 HB11
      go_wp2_with fail
      exact ret_do rfl rfl rfl rfl rfl HD9.out.z (DoP.mk HK9.out (.inr ⟨H0.out, v, by rw [HEV.out, tcI HC.out]; exact HX5.out, .inr ⟨rfl, HN.out.symm, by unfold evs; rw [HEV.out]; rfl⟩⟩) hnW.out HR9.out hR.out HKC.out HC3.out (fun ad h => Nat.le_trans HSZ.out (HLO.out ad h)))
    · have hne : (e2 != 0) = true := by simpa using he2
      have HNE := Lib.hid he2
      clear he2
      go_wp2_with (first | (refine wpList_load_row rfl 42 (.tmp 4) rfl w.heap.size rfl 42 s.vs (0, 0) _ HD5.out.s Tryz.underlying42 rfl i20 ?_) | (refine wpList_store_row rfl 42 (.tmp 8) (.tmp 38) rfl (w.heap.size + 1 + 1) s.vs rfl rfl 42 s0.vs HD5.out.z i20 rfl s.vs_one ?_) | fail)
      exact ret_do rfl rfl rfl rfl rfl (HD5.out.row s).z (DoP.mk (A := none) (Kp.row HK5.out (by omega) _) (.inr ⟨H0.out, v, by rw [HEV.out, tcI HC.out]; exact HX5.out, .inl ⟨HNE.out, rfl, rfl⟩⟩) HS.out (mc.keep HR5.out (kp_row y3 (w.heap.size + 1 + 1) s.vs) (.inl (by have := HE.out; omega))) RdE.nil (Nat.le_refl _) (by omega) (fun ad h => by cases h))
  · have hne : (refE i size != 0) = true := by simpa using h0
    have H0 := Lib.hid h0
    obtain ⟨r, hr⟩ : ∃ r, refE i size = r := ⟨_, rfl⟩
    rw [hr] at KR hne
    have HRR := Lib.hid hr
    clear h0 hr
    go_wp2_with (first | (refine wpList_load_row rfl 26 (.tmp 5) rfl (w.heap.size + 1) rfl 26 i.vs (0, 0) _ HD.out.i Tryz.underlying26 rfl i9 ?_) | (go_at_call 62; refine KR.out.mono ?_; rintro e y1 ⟨rfl, hb1⟩; have HD1 := Lib.hid (HD.out.below hb1); have HR1 := mc.below HR hb1; have HK1 := Lib.hid (HK.out.trans (Kp.of hb1)); clear hb1 KR HD HR HK HT) | (refine wpList_load_row rfl 42 (.tmp 4) rfl w.heap.size rfl 42 s.vs (0, 0) _ HD1.out.s Tryz.underlying42 rfl i20 ?_) | (refine wpList_store_row rfl 42 (.tmp 8) (.tmp 20) rfl (w.heap.size + 1 + 1) s.vs rfl rfl 42 s0.vs HD1.out.z i20 rfl s.vs_one ?_) | fail)
    exact ret_do rfl rfl rfl rfl rfl (HD1.out.row s).z (DoP.mk (A := none) (Kp.row HK1.out (by omega) _) (.inl ⟨H0.out, rfl, rfl, rfl, HRR.out.symm⟩) HS.out (mc.keep HR1.out (kp_row y1 (w.heap.size + 1 + 1) s.vs) (.inl (by have := HE.out; omega))) RdE.nil (Nat.le_refl _) (by omega) (fun ad h => by cases h))
end
end Sp
end Go.Proofs.YtikbnfhnimjmmaaGreatDoor
