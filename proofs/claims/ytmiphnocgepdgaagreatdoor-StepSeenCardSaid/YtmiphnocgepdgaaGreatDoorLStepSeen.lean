/- StepSeen's walk. -/
import Derived.Test.YtmiphnocgepdgaaGreatDoorV1
import Derived.Test.YtmiphnocgepdgaaGreatDoorS20
import Derived.Test.YtmiphnocgepdgaaGreatDoorD1
import Derived.Deep.Cut
import Derived.Deep.CutRange
import Derived.BigRegion
namespace Go.Proofs.YtmiphnocgepdgaaGreatDoor
open Go Go.RowKit Go.Shelf
namespace stepSeen
open Wd Nt Mm Is Sp
set_option linter.unusedVariables false
set_option linter.unusedSimpArgs false
variable {R : World → Nat → Nat → Value → List Reg → Prop}
/-- both states and the instruction, in blocks of their own -/
structure Q3 (w : World) (s t : Stt) (i : Ins) (W : World) : Prop where
  s : Bk W w.heap.size 26 s.vs
  t : Bk W (w.heap.size + 1) 26 t.vs
  i : Bk W (w.heap.size + 1 + 1) 37 i.vs
  b : Below w.heap.size w W
theorem Q3.new (w : World) (s t : Stt) (i : Ins) : Q3 w s t i (((w.alloc (.cells s.vs 26)).alloc (.cells t.vs 26)).alloc (.cells i.vs 37)) := by
  have h1 := Bk.new w 26 s.vs
  have h2 := Bk.new (w.alloc (.cells s.vs 26)) 26 t.vs
  have h3 := Bk.new ((w.alloc (.cells s.vs 26)).alloc (.cells t.vs 26)) 37 i.vs
  have e1 : (w.alloc (.cells s.vs 26)).heap.size = w.heap.size + 1 := by simp
  have e2 : ((w.alloc (.cells s.vs 26)).alloc (.cells t.vs 26)).heap.size = w.heap.size + 1 + 1 := by simp
  rw [e1] at h2
  rw [e2] at h3
  have b2 := bel_alloc (w := w.alloc (.cells s.vs 26)) (.cells t.vs 26)
  have b3 := bel_alloc (w := (w.alloc (.cells s.vs 26)).alloc (.cells t.vs 26)) (.cells i.vs 37)
  have h1' := h1.below b2 h1.lt
  exact ⟨h1'.below b3 h1'.lt, h2.below b3 h2.lt, h3, bel_trans (bel_alloc (.cells s.vs 26)) (bel_trans b2 b3)⟩
theorem Q3.below {w W X : World} {s t : Stt} {i : Ins} (h : Q3 w s t i W) (hb : Below W.heap.size W X) : Q3 w s t i X :=
  ⟨h.s.below hb h.s.lt, h.t.below hb h.t.lt, h.i.below hb h.i.lt, bel_trans h.b hb⟩
theorem Q3.kp {w W X : World} {s t : Stt} {i : Ins} {B E : Nat} (h : Q3 w s t i W) (hk : Kp B E W X) (hB : w.heap.size + 1 + 1 < B) : Q3 w s t i X :=
  ⟨hk.bk h.s (.inl (by omega)), hk.bk h.t (.inl (by omega)), hk.bk h.i (.inl (by omega)), h.b.trans ((hk.wide (show w.heap.size ≤ B by omega) (Nat.le_refl _)).below h.b.size)⟩
theorem Q3.drew {w W : World} {s t : Stt} {i : Ins} (h : Q3 w s t i W) : Q3 w s t i W.drew := ⟨h.s, h.t, h.i, h.b.drew⟩
/-- a cell of the second state is turned -/
theorem Q3.put {w W : World} {s t n : Stt} {i : Ins} (h : Q3 w s t i W) (j : Nat) (v : Value) (e : t.vs.setIfInBounds j v = n.vs) : Q3 w s n i (W.setCell ⟨w.heap.size + 1, j, none⟩ v) := by
  have hk := kp_cell W (w.heap.size + 1) j v
  refine ⟨hk.bk h.s (.inl (by omega)), ?_, hk.bk h.i (.inr (by omega)), h.b.setCell (by show w.heap.size ≤ w.heap.size + 1; omega) v⟩
  rw [← e]
  exact h.t.set_ j v
/-- what both states share in the end -/
structure Shr (s t : Stt) (i : Ins) (n : Stt) : Prop where
  wf : n.wf
  seen : SeenT s n i
theorem set_r (s : Stt) (d : Nat) (v : Int) (k : Nat) : (s.set d v).r k = if k = d then v else s.r k := rfl
theorem held_nat (s : Stt) {k : Nat} (h : k < 16) : held s (k : Int) = s.r k := by
  unfold held
  rw [if_pos (by omega)]; rfl
theorem shr_of {s t : Stt} {i : Ins} (hs : s.wf) (ht : t.wf) {kb : Nat} (hb : i.b = (kb : Int)) (hkb : kb < 16) (hx : ¬ 0 ≤ i.x) :
    Shr s t i (((({ t with pc := s.pc, cf := s.cf, ov := s.ov, zf := s.zf } : Stt).set 4 (s.r 4)).set kb (s.r kb))) := by
  refine ⟨Stt.set_wf (Stt.set_wf (show ({ t with pc := s.pc, cf := s.cf, ov := s.ov, zf := s.zf } : Stt).wf from ⟨ht.r, hs.pc⟩) 4 (hs.r 4)) kb (hs.r kb), rfl, rfl, rfl, ?_, ?_, ?_⟩
  · rw [set_r, set_r]
    split
    · rename_i e; rw [e]
    · rw [if_pos rfl]
  · rw [hb, held_nat _ hkb, held_nat _ hkb, set_r, if_pos rfl]
  · unfold held; rw [if_neg (by omega), if_neg (by omega)]
theorem shr_of2 {s t : Stt} {i : Ins} (hs : s.wf) (ht : t.wf) {kb kx : Nat} (hb : i.b = (kb : Int)) (hkb : kb < 16) (hx : i.x = (kx : Int)) (hkx : kx < 16) :
    Shr s t i ((((({ t with pc := s.pc, cf := s.cf, ov := s.ov, zf := s.zf } : Stt).set 4 (s.r 4)).set kb (s.r kb))).set kx (s.r kx)) := by
  refine ⟨Stt.set_wf (Stt.set_wf (Stt.set_wf (show ({ t with pc := s.pc, cf := s.cf, ov := s.ov, zf := s.zf } : Stt).wf from ⟨ht.r, hs.pc⟩) 4 (hs.r 4)) kb (hs.r kb)) kx (hs.r kx), rfl, rfl, rfl, ?_, ?_, ?_⟩
  · rw [set_r, set_r, set_r]
    split
    · rename_i e; rw [e]
    · split
      · rename_i e; rw [e]
      · rw [if_pos rfl]
  · rw [hb, held_nat _ hkb, held_nat _ hkb, set_r, set_r]
    split
    · rename_i e; rw [e]
    · rw [if_pos rfl]
  · rw [hx, held_nat _ hkx, held_nat _ hkx, set_r, if_pos rfl]
/-- New's answer, in one form -/
def NewQ (R : World → Nat → Nat → Value → List Reg → Prop) (rs : List Reg) (w : World) (e : Ending) (w' : World) : Prop :=
  Below w.heap.size w w' ∧ ∃ p x, e = .returned (.tuple #[p, .int .i64 x]) ∧ Hid (x = 0 → Mm.Good rs ∧ ∃ M, M.Perm rs ∧ R w' w.heap.size w'.heap.size p M)
theorem new_q (mc : MemD R) (A : Option Addr) (n c : Nat) (rs : List Reg) (w : World) (h : Hid (AtR w A n rs)) (hn : n ≤ 9223372036854775807) : Calls Tryz.prog 16 #[.slice A n c] w (NewQ R rs w) := by
  refine (mc.new A n c rs w h hn).mono ?_
  rintro e w' ⟨hb, x, hx, ⟨h0, rfl⟩ | ⟨rfl, p, M, rfl, hp, hr⟩⟩
  · exact ⟨hb, _, _, rfl, Lib.hid (fun e => absurd e h0)⟩
  · exact ⟨hb, _, _, rfl, Lib.hid (fun _ => ⟨hx.good, M, hp, hr⟩)⟩
theorem chk_two {i : Ins} : (okI i = true ∧ chk i = 0) ∨ chk i = 2 := by
  unfold chk
  cases okI i <;> simp
theorem row_atR {w : World} {B g n c : Nat} {os : List OReg} (h : OwnR w B (.slice (some ⟨g, 0, none⟩) n c) os) : AtR w (some ⟨g, 0, none⟩) n (os.map (·.r)) := by
  obtain ⟨A, n', c', e, hr, _, _⟩ := h.rdR
  simp only [Value.slice.injEq] at e
  obtain ⟨rfl, rfl, rfl⟩ := e
  exact hr
theorem set_id {α : Type} {l : List α} {k : Nat} {a : α} (h : l[k]? = some a) : l.set k a = l := by
  apply List.ext_getElem?
  intro j
  by_cases hj : j = k
  · subst hj; rw [List.getElem?_set_self (List.getElem?_eq_some_iff.1 h).1, h]
  · rw [List.getElem?_set_ne (fun e => hj e.symm)]
/-- all that the last region reads -/
structure Q4 (w : World) (s t a : Stt) (i : Ins) (ha : Nat) (ad : Addr) (l : List Ev) (W : World) : Prop where
  q : Q3 w s t i W
  a : Bk W ha 26 a.vs
  e : RdE W W.heap.size (some ad) l.length l
theorem Q4.below {w W X : World} {s t a : Stt} {i : Ins} {ha : Nat} {ad : Addr} {l : List Ev} (h : Q4 w s t a i ha ad l W) (hb : Below W.heap.size W X) : Q4 w s t a i ha ad l X :=
  ⟨h.q.below hb, h.a.below hb h.a.lt, (h.e.below hb).more hb.size⟩
theorem Q4.drew {w W : World} {s t a : Stt} {i : Ins} {ha : Nat} {ad : Addr} {l : List Ev} (h : Q4 w s t a i ha ad l W) : Q4 w s t a i ha ad l W.drew := h.below (Below.drew (Below.refl _ _))
theorem Q4.mk' {w W : World} {s t a : Stt} {i : Ins} {ha k : Nat} {A : Option Addr} {l : List Ev} (h1 : Q3 w s t i W) (h2 : Bk W ha 26 a.vs) (h3 : RdE W W.heap.size A k l) (hk : 0 < k) : ∃ ad, A = some ad ∧ Q4 w s t a i ha ad l W := by
  obtain ⟨ad, rfl, _, _⟩ := h3.rd hk
  exact ⟨ad, rfl, h1, h2, by rw [h3.len]; exact h3⟩
theorem Q4.ev {w W : World} {s t a : Stt} {i : Ins} {ha k : Nat} {ad : Addr} {l : List Ev} (h : Q4 w s t a i ha ad l W) (hk : k < l.length) : W.cell? (ad.add (k * 2)) = some (.int .i64 (nthE l k).k) ∧ W.cell? ⟨(ad.add (k * 2)).block, (ad.add (k * 2)).off + 1, none⟩ = some (.int .u64 (nthE l k).a) := by
  obtain ⟨ad', e, _, h1, h2⟩ := h.e.at_ hk
  cases e
  exact ⟨h1, h2⟩
theorem Q4.ev0 {w W : World} {s t a : Stt} {i : Ins} {ha : Nat} {ad : Addr} {e : Ev} {l : List Ev} (h : Q4 w s t a i ha ad (e :: l) W) : W.cell? ad = some (.int .i64 e.k) ∧ W.cell? ⟨ad.block, ad.off + 1, none⟩ = some (.int .u64 e.a) := by
  have p := h.ev (k := 0) (by rw [List.length_cons]; omega)
  exact p
theorem Q4.ev1 {w W : World} {s t a : Stt} {i : Ins} {ha : Nat} {ad : Addr} {d e : Ev} {l : List Ev} (h : Q4 w s t a i ha ad (d :: e :: l) W) : W.cell? ⟨ad.block, ad.off + 2, none⟩ = some (.int .i64 e.k) ∧ W.cell? ⟨ad.block, ad.off + 2 + 1, none⟩ = some (.int .u64 e.a) := by
  have p := h.ev (k := 1) (by rw [List.length_cons, List.length_cons]; omega)
  exact p
theorem mem_no {i : Ins} (h : memB i = false) : (i.op == 3) = false ∧ (i.op == 4) = false ∧ (i.op == 28) = false ∧ (i.op == 29) = false := by
  unfold memB at h
  simp only [Bool.or_eq_false_iff, decide_eq_false_iff_not] at h
  refine ⟨?_, ?_, ?_, ?_⟩ <;> (rw [beq_eq_false_iff_ne]; omega)
theorem mem_yes {i : Ins} (h : memB i = true) : i.op = 3 ∨ i.op = 4 ∨ i.op = 28 ∨ i.op = 29 := by
  unfold memB at h
  simp only [Bool.or_eq_true, decide_eq_true_eq] at h
  omega
theorem evT (a b : Int) (W : World) : (binOp .eql 40 (.agg #[.int .i64 a, .int .u64 b]) (.agg #[.int .i64 a, .int .u64 b])).run Tryz.prog W = .ok (.bool true) W := by
  rw [evEq]; simp
set_option maxRecDepth 100000 in
set_option maxHeartbeats 40000000 in
theorem walk_ (mc : MemD R) (w : World) (hT : Tab w) (s t : Stt) (i : Ins) (A0 : Option Addr) (n0 c0 : Nat) (rs : List Reg) (z : Int) (hs : s.wf) (ht : t.wf) (hi : i.wf) (hr0 : RdR w w.heap.size A0 n0 rs) (hn0 : n0 ≤ c0) (hm0 : c0 ≤ 9223372036854775807) :
    Calls Tryz.prog 6 #[.agg s.vs, .agg t.vs, .agg i.vs, .slice A0 n0 c0, .int .u8 z] w fun e w' => e = .returned (.bool true) ∧ Below w.heap.size w w' := by
  have HS := Lib.hid hs
  have HTT := Lib.hid ht
  have HI := Lib.hid hi
  have HT := Lib.hid hT
  have HA0 : Hid (AtR w A0 n0 rs) := Lib.hid hr0
  have HLN := Lib.hid hr0.len
  have hn0' : n0 ≤ 9223372036854775807 := by omega
  clear hs ht hi hT hr0
  go_enter Tryz.func6, Tryz.ntmps6
  go_upto_region 1 with fail
  have HQ0 := Lib.hid (Q3.new w s t i)
  generalize World.alloc _ _ = W0 at *
  have KL := Lib.hid (slives_c mc W0 (HT.out.keep HQ0.out.b))
  go_upto_region 3 with (first | (go_at_call 9; refine KL.out.mono ?_; rintro e y1 ⟨rfl, hb⟩; have HQ1 := Lib.hid (HQ0.out.below hb); clear hb) | fail)
  clear KL HQ0
  have HA1 := AtR.step HA0 HQ1.out.b
  have ci0 : y1.cell? ⟨w.heap.size + 1 + 1, 0, none⟩ = some (.int .i64 i.op) := HQ1.out.i.cell 0
  have ci1 : y1.cell? ⟨w.heap.size + 1 + 1, 1, none⟩ = some (.int .i64 i.d) := HQ1.out.i.cell 1
  have ci2 : y1.cell? ⟨w.heap.size + 1 + 1, 2, none⟩ = some (.int .i64 i.s) := HQ1.out.i.cell 2
  have ci3 : y1.cell? ⟨w.heap.size + 1 + 1, 3, none⟩ = some (.int .i64 i.t) := HQ1.out.i.cell 3
  have ci4 : y1.cell? ⟨w.heap.size + 1 + 1, 4, none⟩ = some (.int .i64 i.b) := HQ1.out.i.cell 4
  have ci5 : y1.cell? ⟨w.heap.size + 1 + 1, 5, none⟩ = some (.int .i64 i.x) := HQ1.out.i.cell 5
  have ci6 : y1.cell? ⟨w.heap.size + 1 + 1, 6, none⟩ = some (.int .i64 i.sc) := HQ1.out.i.cell 6
  have ci7 : y1.cell? ⟨w.heap.size + 1 + 1, 7, none⟩ = some (.int .i64 i.di) := HQ1.out.i.cell 7
  have ci8 : y1.cell? ⟨w.heap.size + 1 + 1, 8, none⟩ = some (.int .i64 i.im) := HQ1.out.i.cell 8
  by_cases hlt : Lite rs
  case neg =>
    have L2 := Lib.hid (lightN_c A0 n0 c0 rs y1 HA1 hn0' hlt)
    clear hlt
    go_wp2_with (first | (go_at_call 15; refine L2.out.mono ?_; rintro e x2 ⟨rfl, rfl⟩) | fail)
    go_ret
    exact ⟨rfl, HQ1.out.b⟩
  have L2 := Lib.hid (light_c A0 n0 c0 rs y1 HA1 hn0' (by rw [← HLN.out]; exact hlt.1) hlt.2)
  have HL := Lib.hid hlt
  clear hlt
  by_cases h33 : i.op = 33
  · have e33 : (i.op == 33) = true := by rw [h33]; rfl
    go_wp2_with (first | (go_at_call 15; refine L2.out.mono ?_; rintro e x2 ⟨rfl, rfl⟩) | fail)
    go_ret
    exact ⟨rfl, HQ1.out.b⟩
  have e33 : (i.op == 33) = false := by rw [beq_eq_false_iff_ne]; exact h33
  have KC := Lib.hid (check_r i y1)
  have ROWI : Hid True := Lib.hid trivial
  rcases chk_two (i := i) with ⟨hk, he⟩ | he
  case inr =>
    rw [he] at KC
    clear he
    go_wp2_with (first | (go_at_call 15; refine L2.out.mono ?_; rintro e x2 ⟨rfl, rfl⟩) | (refine wpList_load_row rfl 37 (.tmp 7) rfl (w.heap.size + 1 + 1) rfl 37 i.vs (0, 0) _ HQ1.out.i Tryz.underlying37 rfl i9 ?_) | (go_at_call 28; refine KC.out.mono ?_; rintro e y2 ⟨rfl, hb⟩; have HQ2 := Lib.hid (HQ1.out.below hb); clear hb) | fail)
    go_ret
    exact ⟨rfl, HQ2.out.b⟩
  rw [he] at KC
  clear he
  have HK := Lib.hid hk
  have H33 := Lib.hid h33
  obtain ⟨⟨hb0, hb15⟩, hx0, hx15⟩ := ok_place hk
  obtain ⟨kb, hkb⟩ : ∃ kb : Nat, i.b = (kb : Int) := ⟨i.b.toNat, by omega⟩
  have hkb16 : kb < 16 := by omega
  have HKB := Lib.hid hkb
  have HX := Lib.hid hx15
  clear hb0 hb15 hkb hk h33 hx0 hx15
  go_upto_region 5 with (first | (go_at_call 15; refine L2.out.mono ?_; rintro e x2 ⟨rfl, rfl⟩) | (refine wpList_load_row rfl 37 (.tmp 7) rfl (w.heap.size + 1 + 1) rfl 37 i.vs (0, 0) _ HQ1.out.i Tryz.underlying37 rfl i9 ?_) | (go_at_call 28; refine KC.out.mono ?_; rintro e y2 ⟨rfl, hb⟩; have HQ2 := Lib.hid (HQ1.out.below hb); clear hb) | fail)
  clear KC L2 HQ1 HA1 ci0 ci1 ci2 ci3 ci4 ci5 ci6 ci7 ci8 e33
  have a16 : y2.cell? ⟨w.heap.size, 16, none⟩ = some (.int .u64 s.pc) := HQ2.out.s.cell 16
  have a17 : y2.cell? ⟨w.heap.size, 17, none⟩ = some (.bool s.cf) := HQ2.out.s.cell 17
  have a18 : y2.cell? ⟨w.heap.size, 18, none⟩ = some (.bool s.ov) := HQ2.out.s.cell 18
  have a19 : y2.cell? ⟨w.heap.size, 19, none⟩ = some (.bool s.zf) := HQ2.out.s.cell 19
  have b16 : y2.cell? ⟨w.heap.size + 1, 16, none⟩ = some (.int .u64 t.pc) := HQ2.out.t.cell 16
  have b17 : y2.cell? ⟨w.heap.size + 1, 17, none⟩ = some (.bool t.cf) := HQ2.out.t.cell 17
  have b18 : y2.cell? ⟨w.heap.size + 1, 18, none⟩ = some (.bool t.ov) := HQ2.out.t.cell 18
  have b19 : y2.cell? ⟨w.heap.size + 1, 19, none⟩ = some (.bool t.zf) := HQ2.out.t.cell 19
  have f16 := HQ2.out.t.frozen 16
  have f17 := HQ2.out.t.frozen 17
  have f18 := HQ2.out.t.frozen 18
  have f19 := HQ2.out.t.frozen 19
  obtain ⟨t1, ht1⟩ : ∃ t1 : Stt, t1 = { t with pc := s.pc, cf := s.cf, ov := s.ov, zf := s.zf } := ⟨_, rfl⟩
  have HT1 := Lib.hid ht1
  clear ht1
  have HQ3 : Hid (Q3 w s t1 i (((((y2.setCell ⟨w.heap.size + 1, 16, none⟩ (.int .u64 s.pc)).setCell ⟨w.heap.size + 1, 17, none⟩ (.bool s.cf)).setCell ⟨w.heap.size + 1, 18, none⟩ (.bool s.ov)).setCell ⟨w.heap.size + 1, 19, none⟩ (.bool s.zf)).drew)) := Lib.hid (by
    rw [HT1.out]
    exact ((((HQ2.out.put (n := { t with pc := s.pc }) 16 (.int .u64 s.pc) rfl).put (n := { t with pc := s.pc, cf := s.cf }) 17 (.bool s.cf) rfl).put (n := { t with pc := s.pc, cf := s.cf, ov := s.ov }) 18 (.bool s.ov) rfl).put (n := { t with pc := s.pc, cf := s.cf, ov := s.ov, zf := s.zf }) 19 (.bool s.zf) rfl).drew)
  go_big_region
  clear a16 a17 a18 a19 b16 b17 b18 b19 f16 f17 f18 f19 HQ2
  generalize World.drew _ = W3 at *
  have a4 : W3.cell? ⟨w.heap.size, 4, none⟩ = some (.int .u64 (s.r 4)) := HQ3.out.s.cell 4
  have b4 : W3.cell? ⟨w.heap.size + 1, 4, none⟩ = some (.int .u64 (t1.r 4)) := HQ3.out.t.cell 4
  have f4 := HQ3.out.t.frozen 4
  obtain ⟨t2, HT2⟩ : ∃ t2 : Stt, Hid (t2 = t1.set 4 (s.r 4)) := ⟨_, Lib.hid rfl⟩
  have HQ4 : Hid (Q3 w s t2 i (W3.setCell ⟨w.heap.size + 1, 4, none⟩ (.int .u64 (s.r 4)))) := Lib.hid (by rw [HT2.out]; exact HQ3.out.put 4 _ (Stt.vs_set t1 (by decide) _))
  go_upto_region 7 with fail
  clear a4 b4 f4 HQ3
  generalize World.setCell _ _ _ = W4 at *
  have c4 : W4.cell? ⟨w.heap.size + 1 + 1, 4, none⟩ = some (.int .i64 (kb : Int)) := by rw [← HKB.out]; exact HQ4.out.i.cell 4
  have akb : W4.cell? ⟨w.heap.size, kb, none⟩ = some (.int .u64 (s.r kb)) := (HQ4.out.s.cell kb).trans (s.vs_r hkb16)
  have bkb : W4.cell? ⟨w.heap.size + 1, kb, none⟩ = some (.int .u64 (t2.r kb)) := (HQ4.out.t.cell kb).trans (t2.vs_r hkb16)
  have fkb := HQ4.out.t.frozen kb
  have hkbi : (kb : Int) < 16 := by omega
  have hkb0 : (0 : Int) ≤ (kb : Int) := by omega
  obtain ⟨t3, HT3⟩ : ∃ t3 : Stt, Hid (t3 = t2.set kb (s.r kb)) := ⟨_, Lib.hid rfl⟩
  have HQ5 : Hid (Q3 w s t3 i (W4.setCell ⟨w.heap.size + 1, kb, none⟩ (.int .u64 (s.r kb))).drew) := Lib.hid (by rw [HT3.out]; exact (HQ4.out.put kb _ (Stt.vs_set t2 hkb16 _)).drew)
  go_big_region
  clear c4 akb bkb fkb HQ4
  generalize World.drew _ = W5 at *
  have HKB16 := Lib.hid hkb16
  clear hkb16 hkbi hkb0
  have c5 : W5.cell? ⟨w.heap.size + 1 + 1, 5, none⟩ = some (.int .i64 i.x) := HQ5.out.i.cell 5
  go_upto_if 72 with fail
  go_cut [] from 73 to 83 (fun wc => ∃ n : Stt, Hid (Shr s t i n ∧ Q3 w s n i wc))
  case first =>
    as_aux_lemma =>
      by_cases hx : 0 ≤ i.x
      · have hxd : decide (0 ≤ i.x) = true := decide_eq_true hx
        obtain ⟨kx, hkx⟩ : ∃ kx : Nat, i.x = (kx : Int) := ⟨i.x.toNat, by omega⟩
        have hkx16 : kx < 16 := by have := HX.out; omega
        have HKX := Lib.hid hkx
        rw [hkx] at c5
        have akx : W5.cell? ⟨w.heap.size, kx, none⟩ = some (.int .u64 (s.r kx)) := (HQ5.out.s.cell kx).trans (s.vs_r hkx16)
        have bkx : W5.cell? ⟨w.heap.size + 1, kx, none⟩ = some (.int .u64 (t3.r kx)) := (HQ5.out.t.cell kx).trans (t3.vs_r hkx16)
        have fkx := HQ5.out.t.frozen kx
        have hkxi : (kx : Int) < 16 := by omega
        have HQ6 : Hid (Q3 w s (t3.set kx (s.r kx)) i (W5.setCell ⟨w.heap.size + 1, kx, none⟩ (.int .u64 (s.r kx))).drew) := Lib.hid ((HQ5.out.put kx _ (Stt.vs_set t3 hkx16 _)).drew)
        have HF : Hid (Shr s t i (t3.set kx (s.r kx))) := Lib.hid (by rw [HT3.out, HT2.out, HT1.out]; exact shr_of2 HS.out HTT.out HKB.out HKB16.out HKX.out hkx16)
        clear hkx
        go_wp2_with fail
        go_big_region
        go_wp2_with fail
        go_meet
        exact ⟨t3.set kx (s.r kx), Lib.hid ⟨HF.out, HQ6.out⟩⟩
      · have hx' : i.x < 0 := by omega
        have hx2 : ¬ (0 ≤ i.x) := hx
        have HF : Hid (Shr s t i t3) := Lib.hid (by rw [HT3.out, HT2.out, HT1.out]; exact shr_of HS.out HTT.out HKB.out HKB16.out hx)
        go_wp2_with fail
        go_meet
        exact ⟨t3, Lib.hid ⟨HF.out, HQ5.out⟩⟩
  clear HQ5 HT1 HT2 HT3 c5 HKB HX HKB16
  obtain ⟨t4, HSQ⟩ := hcut
  have HSH := Lib.hid HSQ.out.1
  have HQ := Lib.hid HSQ.out.2
  clear HSQ HTT
  have HA1 := AtR.step HA0 HQ.out.b
  have KO := Lib.hid (kregs9_c A0 n0 c0 rs wc HA1 HL.out)
  obtain ⟨nr, hnr⟩ : ∃ nr, nr = rs.length := ⟨_, rfl⟩
  have HNR := Lib.hid hnr
  have hnr10 : nr ≤ 10 := by rw [hnr]; exact HL.out.1
  clear hnr
  go_upto_region 11 with (first | (go_at_call 29; refine KO.out.mono ?_; rintro e x1 ⟨hb, g, cg, os, rfl, hO⟩; rw [← HNR.out] at hO ⊢; have HQ1 := Lib.hid (HQ.out.below hb); have HXB := Lib.hid hb; clear hb) | fail)
  clear KO HA1
  have HO0 : Hid (OwnI x1 wc.heap.size x1.heap.size (.slice (some ⟨g, 0, none⟩) nr cg) os ∧ os.length = nr ∧ Sp.Alike rs (os.map (·.r))) := Lib.hid ⟨hO.out.1.toI, by rw [HNR.out, ← hO.out.2, List.length_map], by rw [hO.out.2]; rfl⟩
  clear hO
  have HSZ := Lib.hid (show w.heap.size + 1 + 1 < wc.heap.size from HQ.out.i.lt)
  go_wp2_with fail
  go_loopw [12] (fun av W => ∃ (a : Nat) (os' : List OReg), a ≤ nr ∧ av = .int .i64 (a : Int) ∧ Hid (OwnI W wc.heap.size x1.heap.size (.slice (some ⟨g, 0, none⟩) nr cg) os' ∧ os'.length = nr ∧ Sp.Alike rs (os'.map (·.r))) ∧ Hid (Kp wc.heap.size x1.heap.size x1 W)) (fun av _ => nr - (intOf av).toNat)
  case atStart => exact ⟨0, os, Nat.zero_le _, rfl, HO0, Lib.hid (Kp.of (Below.refl _ _))⟩
  case round =>
    obtain ⟨a, os', ha, rfl, hO, hK⟩ := hrel
    rcases Nat.lt_or_ge a nr with han | han
    · as_aux_lemma =>
        have hani : (a : Int) < (nr : Int) := by omega
        have ha0 : (0 : Int) ≤ (a : Int) := by omega
        obtain ⟨o, ho⟩ : ∃ o, os'[a]? = some o := ⟨_, List.getElem?_eq_getElem (by rw [hO.out.2.1]; exact han)⟩
        obtain ⟨nb, hnb⟩ : ∃ nb, nb = o.r.bytes.length := ⟨_, rfl⟩
        have hOo := Lib.hid (show ∃ o' : OReg, os'[a]? = some o' ∧ o'.g = o.g ∧ o'.c = o.c ∧ o'.r.bytes.length = nb from ⟨o, ho, rfl, rfl, hnb.symm⟩)
        have hnb3 : nb ≤ 300 := by
          have e : (os'.map (·.r))[a]? = some o.r := by rw [List.getElem?_map, ho]; rfl
          obtain ⟨r, hr, _, _, hl⟩ := hO.out.2.2.symm.at_ e
          have h1 := HL.out.2 a r hr
          have h2 : o.r.len = (o.r.bytes.length : Int) := rfl
          omega
        clear ho hnb
        go_wp2_with fail
        go_loopw [13] (fun bv W => ∃ (b : Nat) (os2 : List OReg), b ≤ nb ∧ bv = .int .i64 (b : Int) ∧ Hid (OwnI W wc.heap.size x1.heap.size (.slice (some ⟨g, 0, none⟩) nr cg) os2 ∧ os2.length = nr ∧ Sp.Alike rs (os2.map (·.r))) ∧ Hid (∃ o' : OReg, os2[a]? = some o' ∧ o'.g = o.g ∧ o'.c = o.c ∧ o'.r.bytes.length = nb) ∧ Hid (Kp wc.heap.size x1.heap.size x1 W)) (fun bv _ => nb - (intOf bv).toNat)
        case atStart => exact ⟨0, os', Nat.zero_le _, rfl, hO, hOo, hK⟩
        case round =>
          obtain ⟨b, os2, hb, rfl, hO2, ho2, hK2⟩ := hrel
          obtain ⟨o', h1, h2, h3, h4⟩ := ho2.out
          have cs0 := hO2.out.1.own.cell (g := g) rfl h1 (d := 1) (by omega)
          have cs : wr.cell? ⟨g, a * 3 + 1, none⟩ = some (.slice (some ⟨o.g, 0, none⟩) nb o.c) := by
            rw [cs0]
            show some (Value.slice (some ⟨o'.g, 0, none⟩) o'.r.bytes.length o'.c) = _
            rw [h2, h3, h4]
          clear cs0
          rcases Nat.lt_or_ge b nb with hbn | hbn
          · have hbni : (b : Int) < (nb : Int) := by omega
            have hb0 : (0 : Int) ≤ (b : Int) := by omega
            have hmo := List.mem_of_getElem? h1
            have hrow := hO2.out.1.own.each o' hmo
            have hsl : o'.sl = .slice (some ⟨o.g, 0, none⟩) nb o.c := by unfold OReg.sl; rw [h2, h3, h4]
            have hrow' := hrow
            rw [hsl, h4] at hrow'
            have cb : wr.cell? ⟨o.g, b, none⟩ = some (.int .u8 (bt o'.r.bytes b)) := by
              rw [hrow'.cellAt b (by omega)]
              exact b8_get (by omega)
            have fb : wr.frozen? ⟨o.g, b, none⟩ = false := hrow'.frozenAt b
            obtain ⟨y, hy⟩ : ∃ y, y = bt o'.r.bytes b := ⟨_, rfl⟩
            rw [← hy] at cb
            have hyb := (hO2.out.1.own.oks o' hmo).bytes.bt b
            rw [← hy] at hyb
            obtain ⟨hy0, hy1⟩ := hyb
            obtain ⟨hst, hgr⟩ := hrow'.stored b (.int .u8 ((y + z) % 256))
            rw [b8_set] at hst
            have hwr : 0 ≤ (y + z) % 256 ∧ (y + z) % 256 ≤ 255 := by omega
            have hAl : Sp.Alike rs ((os2.set a ⟨{ o'.r with bytes := o'.r.bytes.set b ((y + z) % 256) }, o'.g, o'.c⟩).map (·.r)) := by
              have e0 := hO2.out.2.2
              unfold Sp.Alike at e0 ⊢
              rw [e0, List.map_set, List.map_set]
              refine (set_id ?_).symm
              rw [List.getElem?_map, List.getElem?_map, h1]
              show some (zr o'.r) = some (zr _)
              unfold zr
              show some (Reg.mk o'.r.base (List.replicate o'.r.bytes.length 0) o'.r.write) = some (Reg.mk o'.r.base (List.replicate (o'.r.bytes.set b ((y + z) % 256)).length 0) o'.r.write)
              rw [List.length_set]
            have hO3 : Hid (OwnI (wr.setCell ⟨o.g, b, none⟩ (.int .u8 ((y + z) % 256))).drew wc.heap.size x1.heap.size (.slice (some ⟨g, 0, none⟩) nr cg) (os2.set a ⟨{ o'.r with bytes := o'.r.bytes.set b ((y + z) % 256) }, o'.g, o'.c⟩) ∧ (os2.set a ⟨{ o'.r with bytes := o'.r.bytes.set b ((y + z) % 256) }, o'.g, o'.c⟩).length = nr ∧ Sp.Alike rs ((os2.set a ⟨{ o'.r with bytes := o'.r.bytes.set b ((y + z) % 256) }, o'.g, o'.c⟩).map (·.r))) := by
              refine Lib.hid ⟨(hO2.out.1.turn h1 (List.length_set ..) ((hO2.out.1.own.oks o' hmo).bytes.set b hwr.1 hwr.2) (by rw [hsl, h4]; exact hst) (by rw [h2]; exact hgr)).below (Below.drew (Below.refl _ _)), by rw [List.length_set]; exact hO2.out.2.1, hAl⟩
            have ho3 : Hid (∃ o2 : OReg, (os2.set a ⟨{ o'.r with bytes := o'.r.bytes.set b ((y + z) % 256) }, o'.g, o'.c⟩)[a]? = some o2 ∧ o2.g = o.g ∧ o2.c = o.c ∧ o2.r.bytes.length = nb) :=
              Lib.hid ⟨_, List.getElem?_set_self (List.getElem?_eq_some_iff.1 h1).1, h2, h3, by show (o'.r.bytes.set b _).length = nb; rw [List.length_set]; exact h4⟩
            have hK3 : Hid (Kp wc.heap.size x1.heap.size x1 (wr.setCell ⟨o.g, b, none⟩ (.int .u8 ((y + z) % 256))).drew) := Lib.hid ((hK2.out.trans (Kp.grown hgr (by rw [← h2]; exact (hO2.out.1.own.lt hmo).1) (by rw [← h2]; exact hO2.out.1.each o' hmo))).trans (Kp.of (Below.drew (Below.refl _ _))))
            clear hrow hrow' hst hgr hO2 ho2 hK2 h1 h2 h3 h4 hy hsl hmo hAl
            go_wp2_with fail
            go_big_region
            go_wp2_with fail
            go_roundw
            case rel => exact ⟨b + 1, _, by omega, by go_num, hO3, ho3, hK3⟩
            case measure => (simp [intOf] <;> omega)
          · obtain rfl : b = nb := by omega
            clear h1 h2 h3 h4
            go_wp2_with fail
            go_roundw
            case rel => exact ⟨a + 1, os2, by omega, by go_num, hO2, hK2⟩
            case measure => (simp [intOf] <;> omega)
    · obtain rfl : a = nr := by omega
      have HQ2 : Hid (Q3 w s t4 i wr) := Lib.hid (HQ1.out.kp hK.out HSZ.out)
      have HA2 := AtR.step HA0 HQ2.out.b
      have HR2 : Hid (AtR wr (some ⟨g, 0, none⟩) a (os'.map (·.r))) := Lib.hid (row_atR hO.out.1.own)
      have HAL := Lib.hid hO.out.2.2
      have KN1 := Lib.hid (new_q mc A0 n0 c0 rs wr HA2 hn0')
      have HS2 : Hid (w.heap.size + 1 + 1 < wr.heap.size) := Lib.hid (HQ2.out.i.lt)
      have HTB : Hid (0 < wr.heap.size) := Lib.hid (by have h1 := HT.out.lt; have h2 := HS2.out; omega)
      clear hO hK HO0 HXB HSZ HQ1
      go_upto_region 19 with (first | (go_at_call 16; refine KN1.out.mono ?_; rintro e y5 ⟨hb, p1, x5, rfl, h5⟩; have HQ3 := Lib.hid (HQ2.out.below hb); have HR3 := AtR.step HR2 hb; have HB5 := Lib.hid hb; clear hb) | fail)
      as_aux_lemma =>
        have KN2 := Lib.hid (new_q mc (some ⟨g, 0, none⟩) a cg (os'.map (·.r)) y5 HR3 (by omega))
        clear KN1 HQ2 HA2 HR2
        go_upto_region 20 with (first | (go_at_call 16; refine KN2.out.mono ?_; rintro e y6 ⟨hb, p2, x6, rfl, h6⟩; have HQ4 := Lib.hid (HQ3.out.below hb); have HB6 := Lib.hid hb; clear hb) | fail)
        clear KN2 HR3 HQ3
        by_cases hx5 : x5 = 0
        case neg =>
          have e5 : (x5 == 0) = false := by rw [beq_eq_false_iff_ne]; exact hx5
          go_wp2_with fail
          go_ret
          exact ⟨rfl, HQ4.out.b⟩
        as_aux_lemma =>
          by_cases hx6 : x6 = 0
          case neg =>
            have e6 : (x6 == 0) = false := by rw [beq_eq_false_iff_ne]; exact hx6
            subst hx5
            go_wp2_with fail
            go_ret
            exact ⟨rfl, HQ4.out.b⟩
          obtain ⟨hg, M, hp, hr1⟩ := h5.out hx5
          obtain ⟨hg2, N, hq, hr2⟩ := h6.out hx6
          subst hx5
          subst hx6
          have HMN : Hid (Sp.Alike M N) := Lib.hid (alike_perm HAL.out hg hp hq (mc.shape hr1).2.2.1 (mc.shape hr2).2.2.1)
          have HR1 := mc.below (Lib.hid hr1) HB6.out
          have HR2 := Lib.hid hr2
          have HZ5 : Hid (wr.heap.size ≤ y5.heap.size) := Lib.hid HB5.out.size
          have HT6 := Lib.hid (HT.out.keep HQ4.out.b)
          have KD1 := Lib.hid (do_l mc HR1 s HS.out i HI.out 5 HT6.out HTB.out)
          clear hr1 hr2 hg hg2 hp hq h5 h6 HAL HR1 HB5 HB6
          go_upto_region 23 with (first | (refine wpList_load_row rfl 26 (.tmp 5) rfl w.heap.size rfl 26 s.vs (0, 0) _ HQ4.out.s Tryz.underlying26 rfl i20 ?_) | (refine wpList_load_row rfl 37 (.tmp 7) rfl (w.heap.size + 1 + 1) rfl 37 i.vs (0, 0) _ HQ4.out.i Tryz.underlying37 rfl i9 ?_) | (go_at_call 11; refine KD1.out.mono ?_; rintro e z1 ⟨hk, a1, l1, M1, g1, A1, k1, c1, rfl, hd, hn, hr, hR, hkc, hc3, hlo⟩; have HD1 := Lib.hid hd; have HK1 := Lib.hid hk; have HC1 : Hid (k1 ≤ c1 ∧ c1 ≤ 3) := Lib.hid ⟨hkc, hc3⟩; have HLO1 := Lib.hid hlo; clear hd hk hn hr hkc hc3 hlo) | (refine wpList_store_row rfl 26 (.tmp 18) (.tmp 140) rfl z1.heap.size a1.vs rfl rfl 26 s0.vs (Bk.new z1 26 s0.vs) i20 rfl a1.vs_one ?_; rw [World.setRow_alloc_new]) | fail)
          have HBZ := Lib.hid (bel_alloc (w := z1) (.cells a1.vs 26))
          have HQ5 : Hid (Q3 w s t4 i (z1.alloc (.cells a1.vs 26))) := Lib.hid ((HQ4.out.kp HK1.out HS2.out).below HBZ.out)
          have HR3 : Hid (R (z1.alloc (.cells a1.vs 26)) y5.heap.size y6.heap.size p2 N) := mc.below (Lib.hid (mc.keep HR2.out HK1.out (.inr (Nat.le_refl _)))) HBZ.out
          have HBa : Hid (Bk (z1.alloc (.cells a1.vs 26)) z1.heap.size 26 a1.vs) := Lib.hid (Bk.new _ _ _)
          have HE1 : Hid (RdE (z1.alloc (.cells a1.vs 26)) (z1.alloc (.cells a1.vs 26)).heap.size A1 k1 l1) := Lib.hid ((hR.out.below HBZ.out).more HBZ.out.size)
          have HHA : Hid (y6.heap.size ≤ z1.heap.size) := Lib.hid HK1.out.size
          have HT7 := Lib.hid (HT.out.keep HQ5.out.b)
          clear hR HBZ HK1 HR2 HT6 KD1 HQ4
          generalize z1.heap.size = ha at *
          generalize World.alloc _ _ = W7 at *
          as_aux_lemma =>
            have KD2 := Lib.hid (do_l mc HR3 t4 HSH.out.wf i HI.out 5 HT7.out (Nat.lt_of_lt_of_le HTB.out HZ5.out))
            go_upto_region 24 with (first | (refine wpList_load_row rfl 26 (.tmp 6) rfl (w.heap.size + 1) rfl 26 t4.vs (0, 0) _ HQ5.out.t Tryz.underlying26 rfl i20 ?_) | (refine wpList_load_row rfl 37 (.tmp 7) rfl (w.heap.size + 1 + 1) rfl 37 i.vs (0, 0) _ HQ5.out.i Tryz.underlying37 rfl i9 ?_) | (go_at_call 11; refine KD2.out.mono ?_; rintro e z2 ⟨hk, b1, l2, N1, g2, A2, k2, c2, rfl, hd, hn, hr, hR, hkc, hc3, hlo⟩; have HD2 := Lib.hid hd; have HK2 := Lib.hid hk; have HC2 : Hid (k2 ≤ c2 ∧ c2 ≤ 3) := Lib.hid ⟨hkc, hc3⟩; clear hd hk hn hr hkc hc3 hlo) | (refine wpList_store_row rfl 26 (.tmp 21) (.tmp 148) rfl z2.heap.size b1.vs rfl rfl 26 s0.vs (Bk.new z2 26 s0.vs) i20 rfl b1.vs_one ?_; rw [World.setRow_alloc_new]) | fail)
            have HBZ := Lib.hid (bel_alloc (w := z2) (.cells b1.vs 26))
            have HQ6 : Hid (Q3 w s t4 i (z2.alloc (.cells b1.vs 26))) := Lib.hid ((HQ5.out.kp HK2.out (Nat.lt_of_lt_of_le HS2.out HZ5.out)).below HBZ.out)
            have HBa2 : Hid (Bk (z2.alloc (.cells b1.vs 26)) ha 26 a1.vs) := Lib.hid (by have h := HK2.out.bk HBa.out (.inr HHA.out); exact h.below HBZ.out h.lt)
            have HBb : Hid (Bk (z2.alloc (.cells b1.vs 26)) z2.heap.size 26 b1.vs) := Lib.hid (Bk.new _ _ _)
            have HE2 : Hid (RdE (z2.alloc (.cells b1.vs 26)) (z2.alloc (.cells b1.vs 26)).heap.size A1 k1 l1) := Lib.hid (((((HE1.out.blk (fun j hj ad hA he => HK2.out.blk j hj (.inr (by rw [← he]; exact HLO1.out ad hA)))).more HK2.out.size).below HBZ.out)).more HBZ.out.size)
            have HE3 : Hid (RdE (z2.alloc (.cells b1.vs 26)) (z2.alloc (.cells b1.vs 26)).heap.size A2 k2 l2) := Lib.hid ((hR.out.below HBZ.out).more HBZ.out.size)
            obtain ⟨q1, q2, hc⟩ := seen_all H33.out HMN.out HSH.out.seen HD1.out HD2.out
            subst q1
            subst q2
            clear hR HBZ HK2 HT7 KD2 HQ5 HR3 HBa HE1 HHA HD1 HD2 HMN HSH HI HTB HS2 HZ5 HLO1
            generalize z2.heap.size = hbk at *
            generalize World.alloc _ _ = W8 at *
            have hl1 := HE2.out.len
            have hl2 := HE3.out.len
            obtain rfl : k2 = k1 := by omega
            have hk3 : k2 ≤ 3 := by have h := HC1.out; omega
            have KS := Lib.hid (same_e A1 A2 k2 c1 k2 c2 _ _ l2 l2 W8 HE2.out HE3.out (by omega) (by omega))
            rw [decide_eq_true rfl] at KS
            clear hl2 HE3 HC1 HC2
            as_aux_lemma =>
              rcases hc with ⟨hg, hl⟩ | ⟨hg, hpc, hsh⟩
              · obtain rfl : k2 = 0 := by rw [← hl1, hl]; rfl
                have eg : (g2 == 0) = false := by rw [beq_eq_false_iff_ne]; exact hg
                clear hl hl1
                go_wp2_with (first | (go_at_call 12; refine KS.out.mono ?_; rintro e x8 ⟨rfl, hb⟩; have HB8 := Lib.hid hb; clear hb) | fail)
                go_ret
                exact ⟨rfl, bel_tr HQ6.out.b HB8.out⟩
              subst hg
              have ca : W8.cell? ⟨ha, 16, none⟩ = some (.int .u64 a1.pc) := HBa2.out.cell 16
              have cb : W8.cell? ⟨hbk, 16, none⟩ = some (.int .u64 a1.pc) := by rw [← hpc]; exact HBb.out.cell 16
              clear hpc HBb
              have HSHP := Lib.hid hsh
              clear hsh
              as_aux_lemma =>
                go_upto_region 28 with (first | (go_at_call 12; refine KS.out.mono ?_; rintro e x8 ⟨rfl, hb⟩; have HQ7 := Lib.hid (HQ6.out.below hb); have HE4 := Lib.hid ((HE2.out.below hb).more hb.size); have HBa3 := Lib.hid (HBa2.out.below hb HBa2.out.lt); replace ca := bel_cell hb ca; replace cb := bel_cell hb cb; clear hb) | fail)
                clear KS HQ6 HE2 HBa2 ca cb
                as_aux_lemma =>
                  have c0 : x8.cell? ⟨w.heap.size + 1 + 1, 0, none⟩ = some (.int .i64 i.op) := HQ7.out.i.cell 0
                  have c1 : x8.cell? ⟨w.heap.size + 1 + 1, 1, none⟩ = some (.int .i64 i.d) := HQ7.out.i.cell 1
                  have c2 : x8.cell? ⟨w.heap.size + 1 + 1, 2, none⟩ = some (.int .i64 i.s) := HQ7.out.i.cell 2
                  have c3 : x8.cell? ⟨w.heap.size + 1 + 1, 3, none⟩ = some (.int .i64 i.t) := HQ7.out.i.cell 3
                  have c4 : x8.cell? ⟨w.heap.size + 1 + 1, 4, none⟩ = some (.int .i64 i.b) := HQ7.out.i.cell 4
                  have c5 : x8.cell? ⟨w.heap.size + 1 + 1, 5, none⟩ = some (.int .i64 i.x) := HQ7.out.i.cell 5
                  have c6 : x8.cell? ⟨w.heap.size + 1 + 1, 6, none⟩ = some (.int .i64 i.sc) := HQ7.out.i.cell 6
                  have c7 : x8.cell? ⟨w.heap.size + 1 + 1, 7, none⟩ = some (.int .i64 i.di) := HQ7.out.i.cell 7
                  have c8 : x8.cell? ⟨w.heap.size + 1 + 1, 8, none⟩ = some (.int .i64 i.im) := HQ7.out.i.cell 8
                  rcases HSHP.out with ⟨hj, hm, hls⟩ | ⟨hj, hm, hls, hp5⟩ | ⟨hj, hm, hls, hp5⟩
                  · as_aux_lemma =>
                      have KJ : Hid (∀ X, Calls Tryz.prog 30 #[.agg i.vs] X fun e w' => e = .returned (.bool true) ∧ Below X.heap.size X w') := Lib.hid (fun X => by have h := jump_r i X; rw [hj] at h; exact h)
                      subst hls
                      obtain rfl : k2 = 2 := hl1.symm
                      clear HSHP hl1 hk3
                      obtain ⟨e3, e4, e28, e29⟩ := mem_no hm
                      clear hm hj
                      go_upto_region 32 with (first | (refine wpList_load_row rfl 37 (.tmp 7) rfl (w.heap.size + 1 + 1) rfl 37 i.vs (0, 0) _ HQ7.out.i Tryz.underlying37 rfl i9 ?_) | (go_at_call 30; refine (KJ.out _).mono ?_; rintro e x9 ⟨rfl, hb⟩; have HQ8 := Lib.hid (HQ7.out.below hb); have HE5 := Lib.hid ((HE4.out.below hb).more hb.size); have HBa4 := Lib.hid (HBa3.out.below hb HBa3.out.lt); clear hb) | fail)
                      obtain ⟨ad, rfl, h4⟩ := Q4.mk' HQ8.out HBa4.out HE5.out (by decide)
                      have H4 := Lib.hid h4
                      clear h4
                      clear HQ7 HE4 HBa3 HQ8 HE5 HBa4 c0 c1 c2 c3 c4 c5 c6 c7 c8 e3 e4 e28 e29
                      as_aux_lemma =>
                        refine wp_region_held_drew (S := (fun w' => Q4 w s t4 a1 i ha ad [⟨1, s.pc⟩, ⟨4, a1.pc⟩] w')) (by kernel_rfl) H4.out.drew (fun hHeld => ?_)
                        have H5 := Lib.hid H4.out.drew
                        generalize World.drew _ = X1 at *
                        clear H4
                        refine wpAnyH_take (i := 0) (oi := { dst := some 199, op := Op.move (Operand.tmp 19), type := 30, pos := "law.go:170", after := #[], guard := none }) (v := (.slice (some ad) 2 c1)) rfl (by kernel_rfl) (by kernel_rfl) (by kernel_rfl) (fun _ _ _ h => h) (Or.inl ⟨by rfl, ?_⟩) (by assumption) ?_
                        · intro w' hSw
                          go_simp
                        simp only [Act.put, List.setIfInBounds_toArray, List.set_cons_zero, List.set_cons_succ]
                        refine wpAnyH_take (i := 1) (oi := { dst := some 200, op := Op.call { callee := Callee.builtin Builtin.len, args := #[Operand.tmp 199], argTypes := #[30] }, type := 3, pos := "law.go:170", after := #[{ on := 0, ground := Ground.data }], guard := none }) (v := (.int .i64 2)) rfl (by kernel_rfl) (by kernel_rfl) (by kernel_rfl) (fun _ _ _ h => h) (Or.inl ⟨by rfl, ?_⟩) (by assumption) ?_
                        · intro w' hSw
                          go_simp
                        simp only [Act.put, List.setIfInBounds_toArray, List.set_cons_zero, List.set_cons_succ]
                        refine wpAnyH_take (i := 2) (oi := { dst := some 201, op := Op.move (Operand.tmp 25), type := 3, pos := "law.go:170", after := #[], guard := none }) (v := (.int .i64 2)) rfl (by kernel_rfl) (by kernel_rfl) (by kernel_rfl) (fun _ _ _ h => h) (Or.inl ⟨by rfl, ?_⟩) (by assumption) ?_
                        · intro w' hSw
                          go_simp
                        simp only [Act.put, List.setIfInBounds_toArray, List.set_cons_zero, List.set_cons_succ]
                        refine wpAnyH_take (i := 3) (oi := { dst := some 202, op := Op.binOp BinOp.eql 3 (Operand.tmp 200) (Operand.tmp 201) 3, type := 4, pos := "law.go:170", after := #[{ on := 1, ground := Ground.data }, { on := 2, ground := Ground.data }], guard := none }) (v := (.bool true)) rfl (by kernel_rfl) (by kernel_rfl) (by kernel_rfl) (fun _ _ _ h => h) (Or.inl ⟨by rfl, ?_⟩) (by assumption) ?_
                        · intro w' hSw
                          go_simp
                        simp only [Act.put, List.setIfInBounds_toArray, List.set_cons_zero, List.set_cons_succ]
                        refine wpAnyH_take (i := 4) (oi := { dst := some 203, op := Op.move (Operand.tmp 202), type := 4, pos := "law.go:170", after := #[{ on := 3, ground := Ground.data }], guard := none }) (v := (.bool true)) rfl (by kernel_rfl) (by kernel_rfl) (by kernel_rfl) (fun _ _ _ h => h) (Or.inl ⟨by rfl, ?_⟩) (by assumption) ?_
                        · intro w' hSw
                          go_simp
                        simp only [Act.put, List.setIfInBounds_toArray, List.set_cons_zero, List.set_cons_succ]
                        refine wpAnyH_take (i := 5) (oi := { dst := some 204, op := Op.move (Operand.tmp 19), type := 30, pos := "law.go:170", after := #[{ on := 4, ground := Ground.guard }], guard := some (4, true) }) (v := (.slice (some ad) 2 c1)) rfl (by kernel_rfl) (by kernel_rfl) (by kernel_rfl) (fun _ _ _ h => h) (Or.inl ⟨by rfl, ?_⟩) (by assumption) ?_
                        · intro w' hSw
                          go_simp
                        simp only [Act.put, List.setIfInBounds_toArray, List.set_cons_zero, List.set_cons_succ]
                        refine wpAnyH_take (i := 6) (oi := { dst := some 205, op := Op.indexAddr 30 (Operand.tmp 204) (Operand.const (Value.int IntKind.i64 0)), type := 0, pos := "law.go:170", after := #[{ on := 5, ground := Ground.data }, { on := 4, ground := Ground.guard }], guard := some (4, true) }) (v := (.pointer (some (ad.add (0 * 2))))) rfl (by kernel_rfl) (by kernel_rfl) (by kernel_rfl) (fun _ _ _ h => h) (Or.inl ⟨by rfl, ?_⟩) (by assumption) ?_
                        · intro w' hSw
                          go_simp
                        simp only [Act.put, List.setIfInBounds_toArray, List.set_cons_zero, List.set_cons_succ]
                        refine wpAnyH_take (i := 7) (oi := { dst := some 206, op := Op.load 40 (Operand.tmp 205), type := 40, pos := "law.go:170", after := #[{ on := 6, ground := Ground.data }, { on := 4, ground := Ground.guard }], guard := some (4, true) }) (v := (.agg #[.int .i64 1, .int .u64 s.pc])) rfl (by kernel_rfl) (by kernel_rfl) (by kernel_rfl) (fun _ _ _ h => h) (Or.inl ⟨by rfl, ?_⟩) (by assumption) ?_
                        · intro w' hSw
                          obtain ⟨p1, p2⟩ := hSw.ev0
                          change _ = some (Value.int .i64 1) at p1
                          change _ = some (Value.int .u64 s.pc) at p2
                          go_simp
                        simp only [Act.put, List.setIfInBounds_toArray, List.set_cons_zero, List.set_cons_succ]
                        refine wpAnyH_take (i := 8) (oi := { dst := some 207, op := Op.fieldAddr 26 (Operand.tmp 5) 1, type := 0, pos := "law.go:170", after := #[{ on := 4, ground := Ground.guard }], guard := some (4, true) }) (v := (.pointer (some ⟨w.heap.size, 16, none⟩))) rfl (by kernel_rfl) (by kernel_rfl) (by kernel_rfl) (fun _ _ _ h => h) (Or.inl ⟨by rfl, ?_⟩) (by assumption) ?_
                        · intro w' hSw
                          go_simp
                        simp only [Act.put, List.setIfInBounds_toArray, List.set_cons_zero, List.set_cons_succ]
                        refine wpAnyH_take (i := 9) (oi := { dst := some 208, op := Op.load 23 (Operand.tmp 207), type := 23, pos := "law.go:170", after := #[{ on := 8, ground := Ground.data }, { on := 4, ground := Ground.guard }], guard := some (4, true) }) (v := (.int .u64 s.pc)) rfl (by kernel_rfl) (by kernel_rfl) (by kernel_rfl) (fun _ _ _ h => h) (Or.inl ⟨by rfl, ?_⟩) (by assumption) ?_
                        · intro w' hSw
                          have c := hSw.q.s.cell 16
                          change _ = some (Value.int .u64 s.pc) at c
                          go_simp
                        simp only [Act.put, List.setIfInBounds_toArray, List.set_cons_zero, List.set_cons_succ]
                        refine wpAnyH_take (i := 10) (oi := { dst := some 209, op := Op.build 40 #[(0, Operand.const (Value.int IntKind.i64 1)), (1, Operand.tmp 208)], type := 40, pos := "law.go:170", after := #[{ on := 9, ground := Ground.data }, { on := 4, ground := Ground.guard }], guard := some (4, true) }) (v := (.agg #[.int .i64 1, .int .u64 s.pc])) rfl (by kernel_rfl) (by kernel_rfl) (by kernel_rfl) (fun _ _ _ h => h) (Or.inl ⟨by rfl, ?_⟩) (by assumption) ?_
                        · intro w' hSw
                          go_simp
                        simp only [Act.put, List.setIfInBounds_toArray, List.set_cons_zero, List.set_cons_succ]
                        refine wpAnyH_take (i := 11) (oi := { dst := some 210, op := Op.binOp BinOp.eql 40 (Operand.tmp 206) (Operand.tmp 209) 40, type := 4, pos := "law.go:170", after := #[{ on := 7, ground := Ground.data }, { on := 10, ground := Ground.data }, { on := 4, ground := Ground.guard }], guard := some (4, true) }) (v := (.bool true)) rfl (by kernel_rfl) (by kernel_rfl) (by kernel_rfl) (fun _ _ _ h => h) (Or.inl ⟨by rfl, ?_⟩) (by assumption) ?_
                        · intro w' hSw
                          have he := evT 1 s.pc w'
                          go_simp
                        simp only [Act.put, List.setIfInBounds_toArray, List.set_cons_zero, List.set_cons_succ]
                        refine wpAnyH_take (i := 12) (oi := { dst := some 211, op := Op.pick (Operand.tmp 203) (Operand.tmp 210) (Operand.const (Value.bool false)), type := 4, pos := "law.go:170", after := #[{ on := 4, ground := Ground.data }, { on := 11, ground := Ground.data }], guard := none }) (v := (.bool true)) rfl (by kernel_rfl) (by kernel_rfl) (by kernel_rfl) (fun _ _ _ h => h) (Or.inl ⟨by rfl, ?_⟩) (by assumption) ?_
                        · intro w' hSw
                          go_simp
                        simp only [Act.put, List.setIfInBounds_toArray, List.set_cons_zero, List.set_cons_succ]
                        refine wpAnyH_take (i := 13) (oi := { dst := some 212, op := Op.move (Operand.tmp 211), type := 4, pos := "law.go:170", after := #[{ on := 12, ground := Ground.data }, { on := 4, ground := Ground.chain }], guard := none }) (v := (.bool true)) rfl (by kernel_rfl) (by kernel_rfl) (by kernel_rfl) (fun _ _ _ h => h) (Or.inl ⟨by rfl, ?_⟩) (by assumption) ?_
                        · intro w' hSw
                          go_simp
                        simp only [Act.put, List.setIfInBounds_toArray, List.set_cons_zero, List.set_cons_succ]
                        refine wpAnyH_take (i := 14) (oi := { dst := some 213, op := Op.load 37 (Operand.tmp 7), type := 37, pos := "law.go:170", after := #[{ on := 13, ground := Ground.guard }], guard := some (13, true) }) (v := (.agg i.vs)) rfl (by kernel_rfl) (by kernel_rfl) (by kernel_rfl) (fun _ _ _ h => h) (Or.inl ⟨by rfl, ?_⟩) (by assumption) ?_
                        · intro w' hSw
                          exact row_yields 37 (.tmp 7) rfl _ rfl i.vs _ hSw.q.i Tryz.underlying37 rfl i9
                        simp only [Act.put, List.setIfInBounds_toArray, List.set_cons_zero, List.set_cons_succ]
                        refine wpAnyH_ready (rs := [15]) (by kernel_rfl) (by simp) ?_
                        refine AllReadyH.cons (o := { dst := some 214, op := Op.call { callee := Callee.value (Operand.func 30), args := #[Operand.tmp 213], argTypes := #[37] }, type := 4, pos := "law.go:170", after := #[{ on := 14, ground := Ground.data }, { on := 13, ground := Ground.chain }, { on := 13, ground := Ground.guard }], guard := some (13, true) }) rfl (fun K' hK => ?_) AllReadyH.nil
                        rw [if_pos (by rfl)]
                        go_simp
                        go_at_call 30
                        refine (KJ.out _).mono ?_
                        rintro e X2 ⟨rfl, hb⟩
                        have H6 := Lib.hid (H5.out.below hb)
                        clear hb H5
                        refine hK.out _ _ (H6.out) (fun hHeld => ?_)
                        clear hK
                        try simp only [Act.put, List.setIfInBounds_toArray, List.set_cons_zero, List.set_cons_succ]
                        refine wpAnyH_take (i := 16) (oi := { dst := some 215, op := Op.unOp UnOp.not 4 (Operand.tmp 214), type := 4, pos := "law.go:170", after := #[{ on := 15, ground := Ground.data }, { on := 13, ground := Ground.guard }], guard := some (13, true) }) (v := (.bool false)) rfl (by kernel_rfl) (by kernel_rfl) (by kernel_rfl) (fun _ _ _ h => h) (Or.inl ⟨by rfl, ?_⟩) (by assumption) ?_
                        · intro w' hSw
                          go_simp
                        simp only [Act.put, List.setIfInBounds_toArray, List.set_cons_zero, List.set_cons_succ]
                        refine wpAnyH_take (i := 17) (oi := { dst := some 216, op := Op.move (Operand.tmp 215), type := 4, pos := "law.go:170", after := #[{ on := 16, ground := Ground.data }, { on := 15, ground := Ground.chain }, { on := 13, ground := Ground.guard }], guard := some (13, true) }) (v := (.bool false)) rfl (by kernel_rfl) (by kernel_rfl) (by kernel_rfl) (fun _ _ _ h => h) (Or.inl ⟨by rfl, ?_⟩) (by assumption) ?_
                        · intro w' hSw
                          go_simp
                        simp only [Act.put, List.setIfInBounds_toArray, List.set_cons_zero, List.set_cons_succ]
                        refine wpAnyH_take (i := 18) (oi := { dst := some 217, op := Op.move (Operand.tmp 19), type := 30, pos := "law.go:170", after := #[{ on := 17, ground := Ground.guard }], guard := some (17, false) }) (v := (.slice (some ad) 2 c1)) rfl (by kernel_rfl) (by kernel_rfl) (by kernel_rfl) (fun _ _ _ h => h) (Or.inl ⟨by rfl, ?_⟩) (by assumption) ?_
                        · intro w' hSw
                          go_simp
                        simp only [Act.put, List.setIfInBounds_toArray, List.set_cons_zero, List.set_cons_succ]
                        refine wpAnyH_take (i := 19) (oi := { dst := some 218, op := Op.indexAddr 30 (Operand.tmp 217) (Operand.const (Value.int IntKind.i64 1)), type := 0, pos := "law.go:170", after := #[{ on := 18, ground := Ground.data }, { on := 17, ground := Ground.guard }], guard := some (17, false) }) (v := (.pointer (some (ad.add (1 * 2))))) rfl (by kernel_rfl) (by kernel_rfl) (by kernel_rfl) (fun _ _ _ h => h) (Or.inl ⟨by rfl, ?_⟩) (by assumption) ?_
                        · intro w' hSw
                          go_simp
                        simp only [Act.put, List.setIfInBounds_toArray, List.set_cons_zero, List.set_cons_succ]
                        refine wpAnyH_take (i := 20) (oi := { dst := some 219, op := Op.load 40 (Operand.tmp 218), type := 40, pos := "law.go:170", after := #[{ on := 19, ground := Ground.data }, { on := 17, ground := Ground.guard }], guard := some (17, false) }) (v := (.agg #[.int .i64 4, .int .u64 a1.pc])) rfl (by kernel_rfl) (by kernel_rfl) (by kernel_rfl) (fun _ _ _ h => h) (Or.inl ⟨by rfl, ?_⟩) (by assumption) ?_
                        · intro w' hSw
                          obtain ⟨p1, p2⟩ := hSw.ev1
                          change _ = some (Value.int .i64 4) at p1
                          change _ = some (Value.int .u64 a1.pc) at p2
                          go_simp
                        simp only [Act.put, List.setIfInBounds_toArray, List.set_cons_zero, List.set_cons_succ]
                        refine wpAnyH_take (i := 21) (oi := { dst := some 220, op := Op.fieldAddr 26 (Operand.tmp 18) 1, type := 0, pos := "law.go:170", after := #[{ on := 17, ground := Ground.guard }], guard := some (17, false) }) (v := (.pointer (some ⟨ha, 16, none⟩))) rfl (by kernel_rfl) (by kernel_rfl) (by kernel_rfl) (fun _ _ _ h => h) (Or.inl ⟨by rfl, ?_⟩) (by assumption) ?_
                        · intro w' hSw
                          go_simp
                        simp only [Act.put, List.setIfInBounds_toArray, List.set_cons_zero, List.set_cons_succ]
                        refine wpAnyH_take (i := 22) (oi := { dst := some 221, op := Op.load 23 (Operand.tmp 220), type := 23, pos := "law.go:170", after := #[{ on := 21, ground := Ground.data }, { on := 17, ground := Ground.guard }], guard := some (17, false) }) (v := (.int .u64 a1.pc)) rfl (by kernel_rfl) (by kernel_rfl) (by kernel_rfl) (fun _ _ _ h => h) (Or.inl ⟨by rfl, ?_⟩) (by assumption) ?_
                        · intro w' hSw
                          have c := hSw.a.cell 16
                          change _ = some (Value.int .u64 a1.pc) at c
                          go_simp
                        simp only [Act.put, List.setIfInBounds_toArray, List.set_cons_zero, List.set_cons_succ]
                        refine wpAnyH_take (i := 23) (oi := { dst := some 222, op := Op.build 40 #[(0, Operand.const (Value.int IntKind.i64 4)), (1, Operand.tmp 221)], type := 40, pos := "law.go:170", after := #[{ on := 22, ground := Ground.data }, { on := 17, ground := Ground.guard }], guard := some (17, false) }) (v := (.agg #[.int .i64 4, .int .u64 a1.pc])) rfl (by kernel_rfl) (by kernel_rfl) (by kernel_rfl) (fun _ _ _ h => h) (Or.inl ⟨by rfl, ?_⟩) (by assumption) ?_
                        · intro w' hSw
                          go_simp
                        simp only [Act.put, List.setIfInBounds_toArray, List.set_cons_zero, List.set_cons_succ]
                        refine wpAnyH_take (i := 24) (oi := { dst := some 223, op := Op.binOp BinOp.eql 40 (Operand.tmp 219) (Operand.tmp 222) 40, type := 4, pos := "law.go:170", after := #[{ on := 20, ground := Ground.data }, { on := 23, ground := Ground.data }, { on := 17, ground := Ground.guard }], guard := some (17, false) }) (v := (.bool true)) rfl (by kernel_rfl) (by kernel_rfl) (by kernel_rfl) (fun _ _ _ h => h) (Or.inl ⟨by rfl, ?_⟩) (by assumption) ?_
                        · intro w' hSw
                          have he := evT 4 a1.pc w'
                          go_simp
                        simp only [Act.put, List.setIfInBounds_toArray, List.set_cons_zero, List.set_cons_succ]
                        refine wpAnyH_take (i := 25) (oi := { dst := some 224, op := Op.pick (Operand.tmp 216) (Operand.const (Value.bool true)) (Operand.tmp 223), type := 4, pos := "law.go:170", after := #[{ on := 17, ground := Ground.data }, { on := 24, ground := Ground.data }, { on := 13, ground := Ground.guard }], guard := some (13, true) }) (v := (.bool true)) rfl (by kernel_rfl) (by kernel_rfl) (by kernel_rfl) (fun _ _ _ h => h) (Or.inl ⟨by rfl, ?_⟩) (by assumption) ?_
                        · intro w' hSw
                          go_simp
                        simp only [Act.put, List.setIfInBounds_toArray, List.set_cons_zero, List.set_cons_succ]
                        refine wpAnyH_take (i := 26) (oi := { dst := some 225, op := Op.pick (Operand.tmp 212) (Operand.tmp 224) (Operand.const (Value.bool false)), type := 4, pos := "law.go:170", after := #[{ on := 13, ground := Ground.data }, { on := 25, ground := Ground.data }], guard := none }) (v := (.bool true)) rfl (by kernel_rfl) (by kernel_rfl) (by kernel_rfl) (fun _ _ _ h => h) (Or.inl ⟨by rfl, ?_⟩) (by assumption) ?_
                        · intro w' hSw
                          go_simp
                        simp only [Act.put, List.setIfInBounds_toArray, List.set_cons_zero, List.set_cons_succ]
                        refine wpAnyH_take (i := 27) (oi := { dst := some 226, op := Op.move (Operand.tmp 225), type := 4, pos := "law.go:170", after := #[{ on := 26, ground := Ground.data }, { on := 17, ground := Ground.chain }], guard := none }) (v := (.bool true)) rfl (by kernel_rfl) (by kernel_rfl) (by kernel_rfl) (fun _ _ _ h => h) (Or.inl ⟨by rfl, ?_⟩) (by assumption) ?_
                        · intro w' hSw
                          go_simp
                        simp only [Act.put, List.setIfInBounds_toArray, List.set_cons_zero, List.set_cons_succ]
                        refine wpAnyH_take (i := 28) (oi := { dst := some 227, op := Op.load 37 (Operand.tmp 7), type := 37, pos := "law.go:170", after := #[{ on := 27, ground := Ground.guard }], guard := some (27, true) }) (v := (.agg i.vs)) rfl (by kernel_rfl) (by kernel_rfl) (by kernel_rfl) (fun _ _ _ h => h) (Or.inl ⟨by rfl, ?_⟩) (by assumption) ?_
                        · intro w' hSw
                          exact row_yields 37 (.tmp 7) rfl _ rfl i.vs _ hSw.q.i Tryz.underlying37 rfl i9
                        simp only [Act.put, List.setIfInBounds_toArray, List.set_cons_zero, List.set_cons_succ]
                        refine wpAnyH_ready (rs := [29]) (by kernel_rfl) (by simp) ?_
                        refine AllReadyH.cons (o := { dst := some 228, op := Op.call { callee := Callee.value (Operand.func 30), args := #[Operand.tmp 227], argTypes := #[37] }, type := 4, pos := "law.go:170", after := #[{ on := 28, ground := Ground.data }, { on := 27, ground := Ground.chain }, { on := 27, ground := Ground.guard }], guard := some (27, true) }) rfl (fun K' hK => ?_) AllReadyH.nil
                        rw [if_pos (by rfl)]
                        go_simp
                        go_at_call 30
                        refine (KJ.out _).mono ?_
                        rintro e X3 ⟨rfl, hb⟩
                        have H7 := Lib.hid (H6.out.below hb)
                        clear hb H6
                        refine hK.out _ _ (H7.out) (fun hHeld => ?_)
                        clear hK
                        try simp only [Act.put, List.setIfInBounds_toArray, List.set_cons_zero, List.set_cons_succ]
                        refine wpAnyH_take (i := 30) (oi := { dst := some 229, op := Op.move (Operand.tmp 228), type := 4, pos := "law.go:170", after := #[{ on := 29, ground := Ground.data }, { on := 29, ground := Ground.chain }, { on := 27, ground := Ground.guard }], guard := some (27, true) }) (v := (.bool true)) rfl (by kernel_rfl) (by kernel_rfl) (by kernel_rfl) (fun _ _ _ h => h) (Or.inl ⟨by rfl, ?_⟩) (by assumption) ?_
                        · intro w' hSw
                          go_simp
                        simp only [Act.put, List.setIfInBounds_toArray, List.set_cons_zero, List.set_cons_succ]
                        refine wpAnyH_take (i := 31) (oi := { dst := some 230, op := Op.fieldAddr 26 (Operand.tmp 18) 1, type := 0, pos := "law.go:170", after := #[{ on := 30, ground := Ground.guard }], guard := some (30, false) }) (v := undef) rfl (by kernel_rfl) (by kernel_rfl) (by kernel_rfl) (fun _ _ _ h => h) (Or.inr ⟨by rfl, rfl⟩) (by assumption) ?_
                        simp only [Act.put, List.setIfInBounds_toArray, List.set_cons_zero, List.set_cons_succ]
                        refine wpAnyH_take (i := 32) (oi := { dst := some 231, op := Op.load 23 (Operand.tmp 230), type := 23, pos := "law.go:170", after := #[{ on := 31, ground := Ground.data }, { on := 30, ground := Ground.guard }], guard := some (30, false) }) (v := undef) rfl (by kernel_rfl) (by kernel_rfl) (by kernel_rfl) (fun _ _ _ h => h) (Or.inr ⟨by rfl, rfl⟩) (by assumption) ?_
                        simp only [Act.put, List.setIfInBounds_toArray, List.set_cons_zero, List.set_cons_succ]
                        refine wpAnyH_take (i := 33) (oi := { dst := some 232, op := Op.fieldAddr 26 (Operand.tmp 5) 1, type := 0, pos := "law.go:170", after := #[{ on := 30, ground := Ground.guard }], guard := some (30, false) }) (v := undef) rfl (by kernel_rfl) (by kernel_rfl) (by kernel_rfl) (fun _ _ _ h => h) (Or.inr ⟨by rfl, rfl⟩) (by assumption) ?_
                        simp only [Act.put, List.setIfInBounds_toArray, List.set_cons_zero, List.set_cons_succ]
                        refine wpAnyH_take (i := 34) (oi := { dst := some 233, op := Op.load 23 (Operand.tmp 232), type := 23, pos := "law.go:170", after := #[{ on := 33, ground := Ground.data }, { on := 30, ground := Ground.guard }], guard := some (30, false) }) (v := undef) rfl (by kernel_rfl) (by kernel_rfl) (by kernel_rfl) (fun _ _ _ h => h) (Or.inr ⟨by rfl, rfl⟩) (by assumption) ?_
                        simp only [Act.put, List.setIfInBounds_toArray, List.set_cons_zero, List.set_cons_succ]
                        refine wpAnyH_take (i := 35) (oi := { dst := some 234, op := Op.binOp BinOp.add 23 (Operand.tmp 233) (Operand.const (Value.int IntKind.u64 5)) 23, type := 23, pos := "law.go:170", after := #[{ on := 34, ground := Ground.data }, { on := 30, ground := Ground.guard }], guard := some (30, false) }) (v := undef) rfl (by kernel_rfl) (by kernel_rfl) (by kernel_rfl) (fun _ _ _ h => h) (Or.inr ⟨by rfl, rfl⟩) (by assumption) ?_
                        simp only [Act.put, List.setIfInBounds_toArray, List.set_cons_zero, List.set_cons_succ]
                        refine wpAnyH_take (i := 36) (oi := { dst := some 235, op := Op.binOp BinOp.eql 23 (Operand.tmp 231) (Operand.tmp 234) 23, type := 4, pos := "law.go:170", after := #[{ on := 32, ground := Ground.data }, { on := 35, ground := Ground.data }, { on := 30, ground := Ground.guard }], guard := some (30, false) }) (v := undef) rfl (by kernel_rfl) (by kernel_rfl) (by kernel_rfl) (fun _ _ _ h => h) (Or.inr ⟨by rfl, rfl⟩) (by assumption) ?_
                        simp only [Act.put, List.setIfInBounds_toArray, List.set_cons_zero, List.set_cons_succ]
                        refine wpAnyH_take (i := 37) (oi := { dst := some 236, op := Op.pick (Operand.tmp 229) (Operand.const (Value.bool true)) (Operand.tmp 235), type := 4, pos := "law.go:170", after := #[{ on := 30, ground := Ground.data }, { on := 36, ground := Ground.data }, { on := 27, ground := Ground.guard }], guard := some (27, true) }) (v := (.bool true)) rfl (by kernel_rfl) (by kernel_rfl) (by kernel_rfl) (fun _ _ _ h => h) (Or.inl ⟨by rfl, ?_⟩) (by assumption) ?_
                        · intro w' hSw
                          go_simp
                        simp only [Act.put, List.setIfInBounds_toArray, List.set_cons_zero, List.set_cons_succ]
                        refine wpAnyH_take (i := 38) (oi := { dst := some 237, op := Op.pick (Operand.tmp 226) (Operand.tmp 236) (Operand.const (Value.bool false)), type := 4, pos := "law.go:170", after := #[{ on := 27, ground := Ground.data }, { on := 37, ground := Ground.data }], guard := none }) (v := (.bool true)) rfl (by kernel_rfl) (by kernel_rfl) (by kernel_rfl) (fun _ _ _ h => h) (Or.inl ⟨by rfl, ?_⟩) (by assumption) ?_
                        · intro w' hSw
                          go_simp
                        simp only [Act.put, List.setIfInBounds_toArray, List.set_cons_zero, List.set_cons_succ]
                        refine wpAnyH_take (i := 39) (oi := { dst := some 10, op := Op.assign (Operand.tmp 237), type := 4, pos := "law.go:170", after := #[{ on := 38, ground := Ground.data }, { on := 30, ground := Ground.chain }, { on := 0, ground := Ground.phase }, { on := 1, ground := Ground.phase }, { on := 2, ground := Ground.phase }, { on := 3, ground := Ground.phase }, { on := 4, ground := Ground.phase }, { on := 5, ground := Ground.phase }, { on := 6, ground := Ground.phase }, { on := 7, ground := Ground.phase }, { on := 8, ground := Ground.phase }, { on := 9, ground := Ground.phase }, { on := 10, ground := Ground.phase }, { on := 11, ground := Ground.phase }, { on := 12, ground := Ground.phase }, { on := 13, ground := Ground.phase }, { on := 14, ground := Ground.phase }, { on := 15, ground := Ground.phase }, { on := 16, ground := Ground.phase }, { on := 17, ground := Ground.phase }, { on := 18, ground := Ground.phase }, { on := 19, ground := Ground.phase }, { on := 20, ground := Ground.phase }, { on := 21, ground := Ground.phase }, { on := 22, ground := Ground.phase }, { on := 23, ground := Ground.phase }, { on := 24, ground := Ground.phase }, { on := 25, ground := Ground.phase }, { on := 26, ground := Ground.phase }, { on := 27, ground := Ground.phase }, { on := 28, ground := Ground.phase }, { on := 29, ground := Ground.phase }, { on := 30, ground := Ground.phase }, { on := 31, ground := Ground.phase }, { on := 32, ground := Ground.phase }, { on := 33, ground := Ground.phase }, { on := 34, ground := Ground.phase }, { on := 35, ground := Ground.phase }, { on := 36, ground := Ground.phase }, { on := 37, ground := Ground.phase }, { on := 38, ground := Ground.phase }], guard := none }) (v := (.bool true)) rfl (by kernel_rfl) (by kernel_rfl) (by kernel_rfl) (fun _ _ _ h => h) (Or.inl ⟨by rfl, ?_⟩) (by assumption) ?_
                        · intro w' hSw
                          go_simp
                        simp only [Act.put, List.setIfInBounds_toArray, List.set_cons_zero, List.set_cons_succ]
                        refine wpAnyH_done (by kernel_rfl) ?_ _
                        go_wp2_with fail
                        go_ret
                        exact ⟨rfl, H7.out.q.b⟩
                  · as_aux_lemma =>
                      have hp6 : Hid (a1.pc = IntKind.u64.wrap (s.pc + 5)) := Lib.hid (by rw [hp5]; rfl)
                      clear hp5
                      have KJ : Hid (∀ X, Calls Tryz.prog 30 #[.agg i.vs] X fun e w' => e = .returned (.bool false) ∧ Below X.heap.size X w') := Lib.hid (fun X => by have h := jump_r i X; rw [hj] at h; exact h)
                      subst hls
                      obtain rfl : k2 = 2 := hl1.symm
                      clear HSHP hl1 hk3
                      have HMY := Lib.hid (mem_yes hm)
                      clear hm hj
                      go_cut [24] from 176 to 193 (fun v wc => v = .bool true ∧ wc = x8)
                      case first =>
                        clear c1 c2 c3 c4 c5 c6 c7 c8
                        rcases HMY.out with e | e | e | e
                        · have e3 : (i.op == 3) = true := by rw [e]; rfl
                          clear e
                          go_wp2_with fail
                          go_meet
                          exact ⟨rfl, rfl⟩
                        · have e3 : (i.op == 3) = false := by rw [e]; rfl
                          have e4 : (i.op == 4) = true := by rw [e]; rfl
                          clear e
                          go_wp2_with fail
                          go_meet
                          exact ⟨rfl, rfl⟩
                        · have e3 : (i.op == 3) = false := by rw [e]; rfl
                          have e4 : (i.op == 4) = false := by rw [e]; rfl
                          have e28 : (i.op == 28) = true := by rw [e]; rfl
                          clear e
                          go_wp2_with fail
                          go_meet
                          exact ⟨rfl, rfl⟩
                        · have e3 : (i.op == 3) = false := by rw [e]; rfl
                          have e4 : (i.op == 4) = false := by rw [e]; rfl
                          have e28 : (i.op == 28) = false := by rw [e]; rfl
                          have e29 : (i.op == 29) = true := by rw [e]; rfl
                          clear e
                          go_wp2_with fail
                          go_meet
                          exact ⟨rfl, rfl⟩
                      obtain ⟨rfl, rfl⟩ := hcut
                      clear c0 c1 c2 c3 c4 c5 c6 c7 c8
                      go_upto_region 32 with fail
                      obtain ⟨ad, rfl, h4⟩ := Q4.mk' HQ7.out HBa3.out HE4.out (by decide)
                      have H4 := Lib.hid h4
                      clear h4
                      clear HQ7 HE4 HBa3
                      as_aux_lemma =>
                        refine wp_region_held_drew (S := (fun w' => Q4 w s t4 a1 i ha ad [⟨1, s.pc⟩, tch s i] w')) (by kernel_rfl) H4.out.drew (fun hHeld => ?_)
                        have H5 := Lib.hid H4.out.drew
                        generalize World.drew _ = X1 at *
                        clear H4
                        refine wpAnyH_take (i := 0) (oi := { dst := some 199, op := Op.move (Operand.tmp 19), type := 30, pos := "law.go:170", after := #[], guard := none }) (v := (.slice (some ad) 2 c1)) rfl (by kernel_rfl) (by kernel_rfl) (by kernel_rfl) (fun _ _ _ h => h) (Or.inl ⟨by rfl, ?_⟩) (by assumption) ?_
                        · intro w' hSw
                          go_simp
                        simp only [Act.put, List.setIfInBounds_toArray, List.set_cons_zero, List.set_cons_succ]
                        refine wpAnyH_take (i := 1) (oi := { dst := some 200, op := Op.call { callee := Callee.builtin Builtin.len, args := #[Operand.tmp 199], argTypes := #[30] }, type := 3, pos := "law.go:170", after := #[{ on := 0, ground := Ground.data }], guard := none }) (v := (.int .i64 2)) rfl (by kernel_rfl) (by kernel_rfl) (by kernel_rfl) (fun _ _ _ h => h) (Or.inl ⟨by rfl, ?_⟩) (by assumption) ?_
                        · intro w' hSw
                          go_simp
                        simp only [Act.put, List.setIfInBounds_toArray, List.set_cons_zero, List.set_cons_succ]
                        refine wpAnyH_take (i := 2) (oi := { dst := some 201, op := Op.move (Operand.tmp 25), type := 3, pos := "law.go:170", after := #[], guard := none }) (v := (.int .i64 2)) rfl (by kernel_rfl) (by kernel_rfl) (by kernel_rfl) (fun _ _ _ h => h) (Or.inl ⟨by rfl, ?_⟩) (by assumption) ?_
                        · intro w' hSw
                          go_simp
                        simp only [Act.put, List.setIfInBounds_toArray, List.set_cons_zero, List.set_cons_succ]
                        refine wpAnyH_take (i := 3) (oi := { dst := some 202, op := Op.binOp BinOp.eql 3 (Operand.tmp 200) (Operand.tmp 201) 3, type := 4, pos := "law.go:170", after := #[{ on := 1, ground := Ground.data }, { on := 2, ground := Ground.data }], guard := none }) (v := (.bool true)) rfl (by kernel_rfl) (by kernel_rfl) (by kernel_rfl) (fun _ _ _ h => h) (Or.inl ⟨by rfl, ?_⟩) (by assumption) ?_
                        · intro w' hSw
                          go_simp
                        simp only [Act.put, List.setIfInBounds_toArray, List.set_cons_zero, List.set_cons_succ]
                        refine wpAnyH_take (i := 4) (oi := { dst := some 203, op := Op.move (Operand.tmp 202), type := 4, pos := "law.go:170", after := #[{ on := 3, ground := Ground.data }], guard := none }) (v := (.bool true)) rfl (by kernel_rfl) (by kernel_rfl) (by kernel_rfl) (fun _ _ _ h => h) (Or.inl ⟨by rfl, ?_⟩) (by assumption) ?_
                        · intro w' hSw
                          go_simp
                        simp only [Act.put, List.setIfInBounds_toArray, List.set_cons_zero, List.set_cons_succ]
                        refine wpAnyH_take (i := 5) (oi := { dst := some 204, op := Op.move (Operand.tmp 19), type := 30, pos := "law.go:170", after := #[{ on := 4, ground := Ground.guard }], guard := some (4, true) }) (v := (.slice (some ad) 2 c1)) rfl (by kernel_rfl) (by kernel_rfl) (by kernel_rfl) (fun _ _ _ h => h) (Or.inl ⟨by rfl, ?_⟩) (by assumption) ?_
                        · intro w' hSw
                          go_simp
                        simp only [Act.put, List.setIfInBounds_toArray, List.set_cons_zero, List.set_cons_succ]
                        refine wpAnyH_take (i := 6) (oi := { dst := some 205, op := Op.indexAddr 30 (Operand.tmp 204) (Operand.const (Value.int IntKind.i64 0)), type := 0, pos := "law.go:170", after := #[{ on := 5, ground := Ground.data }, { on := 4, ground := Ground.guard }], guard := some (4, true) }) (v := (.pointer (some (ad.add (0 * 2))))) rfl (by kernel_rfl) (by kernel_rfl) (by kernel_rfl) (fun _ _ _ h => h) (Or.inl ⟨by rfl, ?_⟩) (by assumption) ?_
                        · intro w' hSw
                          go_simp
                        simp only [Act.put, List.setIfInBounds_toArray, List.set_cons_zero, List.set_cons_succ]
                        refine wpAnyH_take (i := 7) (oi := { dst := some 206, op := Op.load 40 (Operand.tmp 205), type := 40, pos := "law.go:170", after := #[{ on := 6, ground := Ground.data }, { on := 4, ground := Ground.guard }], guard := some (4, true) }) (v := (.agg #[.int .i64 1, .int .u64 s.pc])) rfl (by kernel_rfl) (by kernel_rfl) (by kernel_rfl) (fun _ _ _ h => h) (Or.inl ⟨by rfl, ?_⟩) (by assumption) ?_
                        · intro w' hSw
                          obtain ⟨p1, p2⟩ := hSw.ev0
                          change _ = some (Value.int .i64 1) at p1
                          change _ = some (Value.int .u64 s.pc) at p2
                          go_simp
                        simp only [Act.put, List.setIfInBounds_toArray, List.set_cons_zero, List.set_cons_succ]
                        refine wpAnyH_take (i := 8) (oi := { dst := some 207, op := Op.fieldAddr 26 (Operand.tmp 5) 1, type := 0, pos := "law.go:170", after := #[{ on := 4, ground := Ground.guard }], guard := some (4, true) }) (v := (.pointer (some ⟨w.heap.size, 16, none⟩))) rfl (by kernel_rfl) (by kernel_rfl) (by kernel_rfl) (fun _ _ _ h => h) (Or.inl ⟨by rfl, ?_⟩) (by assumption) ?_
                        · intro w' hSw
                          go_simp
                        simp only [Act.put, List.setIfInBounds_toArray, List.set_cons_zero, List.set_cons_succ]
                        refine wpAnyH_take (i := 9) (oi := { dst := some 208, op := Op.load 23 (Operand.tmp 207), type := 23, pos := "law.go:170", after := #[{ on := 8, ground := Ground.data }, { on := 4, ground := Ground.guard }], guard := some (4, true) }) (v := (.int .u64 s.pc)) rfl (by kernel_rfl) (by kernel_rfl) (by kernel_rfl) (fun _ _ _ h => h) (Or.inl ⟨by rfl, ?_⟩) (by assumption) ?_
                        · intro w' hSw
                          have c := hSw.q.s.cell 16
                          change _ = some (Value.int .u64 s.pc) at c
                          go_simp
                        simp only [Act.put, List.setIfInBounds_toArray, List.set_cons_zero, List.set_cons_succ]
                        refine wpAnyH_take (i := 10) (oi := { dst := some 209, op := Op.build 40 #[(0, Operand.const (Value.int IntKind.i64 1)), (1, Operand.tmp 208)], type := 40, pos := "law.go:170", after := #[{ on := 9, ground := Ground.data }, { on := 4, ground := Ground.guard }], guard := some (4, true) }) (v := (.agg #[.int .i64 1, .int .u64 s.pc])) rfl (by kernel_rfl) (by kernel_rfl) (by kernel_rfl) (fun _ _ _ h => h) (Or.inl ⟨by rfl, ?_⟩) (by assumption) ?_
                        · intro w' hSw
                          go_simp
                        simp only [Act.put, List.setIfInBounds_toArray, List.set_cons_zero, List.set_cons_succ]
                        refine wpAnyH_take (i := 11) (oi := { dst := some 210, op := Op.binOp BinOp.eql 40 (Operand.tmp 206) (Operand.tmp 209) 40, type := 4, pos := "law.go:170", after := #[{ on := 7, ground := Ground.data }, { on := 10, ground := Ground.data }, { on := 4, ground := Ground.guard }], guard := some (4, true) }) (v := (.bool true)) rfl (by kernel_rfl) (by kernel_rfl) (by kernel_rfl) (fun _ _ _ h => h) (Or.inl ⟨by rfl, ?_⟩) (by assumption) ?_
                        · intro w' hSw
                          have he := evT 1 s.pc w'
                          go_simp
                        simp only [Act.put, List.setIfInBounds_toArray, List.set_cons_zero, List.set_cons_succ]
                        refine wpAnyH_take (i := 12) (oi := { dst := some 211, op := Op.pick (Operand.tmp 203) (Operand.tmp 210) (Operand.const (Value.bool false)), type := 4, pos := "law.go:170", after := #[{ on := 4, ground := Ground.data }, { on := 11, ground := Ground.data }], guard := none }) (v := (.bool true)) rfl (by kernel_rfl) (by kernel_rfl) (by kernel_rfl) (fun _ _ _ h => h) (Or.inl ⟨by rfl, ?_⟩) (by assumption) ?_
                        · intro w' hSw
                          go_simp
                        simp only [Act.put, List.setIfInBounds_toArray, List.set_cons_zero, List.set_cons_succ]
                        refine wpAnyH_take (i := 13) (oi := { dst := some 212, op := Op.move (Operand.tmp 211), type := 4, pos := "law.go:170", after := #[{ on := 12, ground := Ground.data }, { on := 4, ground := Ground.chain }], guard := none }) (v := (.bool true)) rfl (by kernel_rfl) (by kernel_rfl) (by kernel_rfl) (fun _ _ _ h => h) (Or.inl ⟨by rfl, ?_⟩) (by assumption) ?_
                        · intro w' hSw
                          go_simp
                        simp only [Act.put, List.setIfInBounds_toArray, List.set_cons_zero, List.set_cons_succ]
                        refine wpAnyH_take (i := 14) (oi := { dst := some 213, op := Op.load 37 (Operand.tmp 7), type := 37, pos := "law.go:170", after := #[{ on := 13, ground := Ground.guard }], guard := some (13, true) }) (v := (.agg i.vs)) rfl (by kernel_rfl) (by kernel_rfl) (by kernel_rfl) (fun _ _ _ h => h) (Or.inl ⟨by rfl, ?_⟩) (by assumption) ?_
                        · intro w' hSw
                          exact row_yields 37 (.tmp 7) rfl _ rfl i.vs _ hSw.q.i Tryz.underlying37 rfl i9
                        simp only [Act.put, List.setIfInBounds_toArray, List.set_cons_zero, List.set_cons_succ]
                        refine wpAnyH_ready (rs := [15]) (by kernel_rfl) (by simp) ?_
                        refine AllReadyH.cons (o := { dst := some 214, op := Op.call { callee := Callee.value (Operand.func 30), args := #[Operand.tmp 213], argTypes := #[37] }, type := 4, pos := "law.go:170", after := #[{ on := 14, ground := Ground.data }, { on := 13, ground := Ground.chain }, { on := 13, ground := Ground.guard }], guard := some (13, true) }) rfl (fun K' hK => ?_) AllReadyH.nil
                        rw [if_pos (by rfl)]
                        go_simp
                        go_at_call 30
                        refine (KJ.out _).mono ?_
                        rintro e X2 ⟨rfl, hb⟩
                        have H6 := Lib.hid (H5.out.below hb)
                        clear hb H5
                        refine hK.out _ _ (H6.out) (fun hHeld => ?_)
                        clear hK
                        try simp only [Act.put, List.setIfInBounds_toArray, List.set_cons_zero, List.set_cons_succ]
                        refine wpAnyH_take (i := 16) (oi := { dst := some 215, op := Op.unOp UnOp.not 4 (Operand.tmp 214), type := 4, pos := "law.go:170", after := #[{ on := 15, ground := Ground.data }, { on := 13, ground := Ground.guard }], guard := some (13, true) }) (v := (.bool true)) rfl (by kernel_rfl) (by kernel_rfl) (by kernel_rfl) (fun _ _ _ h => h) (Or.inl ⟨by rfl, ?_⟩) (by assumption) ?_
                        · intro w' hSw
                          go_simp
                        simp only [Act.put, List.setIfInBounds_toArray, List.set_cons_zero, List.set_cons_succ]
                        refine wpAnyH_take (i := 17) (oi := { dst := some 216, op := Op.move (Operand.tmp 215), type := 4, pos := "law.go:170", after := #[{ on := 16, ground := Ground.data }, { on := 15, ground := Ground.chain }, { on := 13, ground := Ground.guard }], guard := some (13, true) }) (v := (.bool true)) rfl (by kernel_rfl) (by kernel_rfl) (by kernel_rfl) (fun _ _ _ h => h) (Or.inl ⟨by rfl, ?_⟩) (by assumption) ?_
                        · intro w' hSw
                          go_simp
                        simp only [Act.put, List.setIfInBounds_toArray, List.set_cons_zero, List.set_cons_succ]
                        refine wpAnyH_take (i := 18) (oi := { dst := some 217, op := Op.move (Operand.tmp 19), type := 30, pos := "law.go:170", after := #[{ on := 17, ground := Ground.guard }], guard := some (17, false) }) (v := undef) rfl (by kernel_rfl) (by kernel_rfl) (by kernel_rfl) (fun _ _ _ h => h) (Or.inr ⟨by rfl, rfl⟩) (by assumption) ?_
                        simp only [Act.put, List.setIfInBounds_toArray, List.set_cons_zero, List.set_cons_succ]
                        refine wpAnyH_take (i := 19) (oi := { dst := some 218, op := Op.indexAddr 30 (Operand.tmp 217) (Operand.const (Value.int IntKind.i64 1)), type := 0, pos := "law.go:170", after := #[{ on := 18, ground := Ground.data }, { on := 17, ground := Ground.guard }], guard := some (17, false) }) (v := undef) rfl (by kernel_rfl) (by kernel_rfl) (by kernel_rfl) (fun _ _ _ h => h) (Or.inr ⟨by rfl, rfl⟩) (by assumption) ?_
                        simp only [Act.put, List.setIfInBounds_toArray, List.set_cons_zero, List.set_cons_succ]
                        refine wpAnyH_take (i := 20) (oi := { dst := some 219, op := Op.load 40 (Operand.tmp 218), type := 40, pos := "law.go:170", after := #[{ on := 19, ground := Ground.data }, { on := 17, ground := Ground.guard }], guard := some (17, false) }) (v := undef) rfl (by kernel_rfl) (by kernel_rfl) (by kernel_rfl) (fun _ _ _ h => h) (Or.inr ⟨by rfl, rfl⟩) (by assumption) ?_
                        simp only [Act.put, List.setIfInBounds_toArray, List.set_cons_zero, List.set_cons_succ]
                        refine wpAnyH_take (i := 21) (oi := { dst := some 220, op := Op.fieldAddr 26 (Operand.tmp 18) 1, type := 0, pos := "law.go:170", after := #[{ on := 17, ground := Ground.guard }], guard := some (17, false) }) (v := undef) rfl (by kernel_rfl) (by kernel_rfl) (by kernel_rfl) (fun _ _ _ h => h) (Or.inr ⟨by rfl, rfl⟩) (by assumption) ?_
                        simp only [Act.put, List.setIfInBounds_toArray, List.set_cons_zero, List.set_cons_succ]
                        refine wpAnyH_take (i := 22) (oi := { dst := some 221, op := Op.load 23 (Operand.tmp 220), type := 23, pos := "law.go:170", after := #[{ on := 21, ground := Ground.data }, { on := 17, ground := Ground.guard }], guard := some (17, false) }) (v := undef) rfl (by kernel_rfl) (by kernel_rfl) (by kernel_rfl) (fun _ _ _ h => h) (Or.inr ⟨by rfl, rfl⟩) (by assumption) ?_
                        simp only [Act.put, List.setIfInBounds_toArray, List.set_cons_zero, List.set_cons_succ]
                        refine wpAnyH_take (i := 23) (oi := { dst := some 222, op := Op.build 40 #[(0, Operand.const (Value.int IntKind.i64 4)), (1, Operand.tmp 221)], type := 40, pos := "law.go:170", after := #[{ on := 22, ground := Ground.data }, { on := 17, ground := Ground.guard }], guard := some (17, false) }) (v := undef) rfl (by kernel_rfl) (by kernel_rfl) (by kernel_rfl) (fun _ _ _ h => h) (Or.inr ⟨by rfl, rfl⟩) (by assumption) ?_
                        simp only [Act.put, List.setIfInBounds_toArray, List.set_cons_zero, List.set_cons_succ]
                        refine wpAnyH_take (i := 24) (oi := { dst := some 223, op := Op.binOp BinOp.eql 40 (Operand.tmp 219) (Operand.tmp 222) 40, type := 4, pos := "law.go:170", after := #[{ on := 20, ground := Ground.data }, { on := 23, ground := Ground.data }, { on := 17, ground := Ground.guard }], guard := some (17, false) }) (v := undef) rfl (by kernel_rfl) (by kernel_rfl) (by kernel_rfl) (fun _ _ _ h => h) (Or.inr ⟨by rfl, rfl⟩) (by assumption) ?_
                        simp only [Act.put, List.setIfInBounds_toArray, List.set_cons_zero, List.set_cons_succ]
                        refine wpAnyH_take (i := 25) (oi := { dst := some 224, op := Op.pick (Operand.tmp 216) (Operand.const (Value.bool true)) (Operand.tmp 223), type := 4, pos := "law.go:170", after := #[{ on := 17, ground := Ground.data }, { on := 24, ground := Ground.data }, { on := 13, ground := Ground.guard }], guard := some (13, true) }) (v := (.bool true)) rfl (by kernel_rfl) (by kernel_rfl) (by kernel_rfl) (fun _ _ _ h => h) (Or.inl ⟨by rfl, ?_⟩) (by assumption) ?_
                        · intro w' hSw
                          go_simp
                        simp only [Act.put, List.setIfInBounds_toArray, List.set_cons_zero, List.set_cons_succ]
                        refine wpAnyH_take (i := 26) (oi := { dst := some 225, op := Op.pick (Operand.tmp 212) (Operand.tmp 224) (Operand.const (Value.bool false)), type := 4, pos := "law.go:170", after := #[{ on := 13, ground := Ground.data }, { on := 25, ground := Ground.data }], guard := none }) (v := (.bool true)) rfl (by kernel_rfl) (by kernel_rfl) (by kernel_rfl) (fun _ _ _ h => h) (Or.inl ⟨by rfl, ?_⟩) (by assumption) ?_
                        · intro w' hSw
                          go_simp
                        simp only [Act.put, List.setIfInBounds_toArray, List.set_cons_zero, List.set_cons_succ]
                        refine wpAnyH_take (i := 27) (oi := { dst := some 226, op := Op.move (Operand.tmp 225), type := 4, pos := "law.go:170", after := #[{ on := 26, ground := Ground.data }, { on := 17, ground := Ground.chain }], guard := none }) (v := (.bool true)) rfl (by kernel_rfl) (by kernel_rfl) (by kernel_rfl) (fun _ _ _ h => h) (Or.inl ⟨by rfl, ?_⟩) (by assumption) ?_
                        · intro w' hSw
                          go_simp
                        simp only [Act.put, List.setIfInBounds_toArray, List.set_cons_zero, List.set_cons_succ]
                        refine wpAnyH_take (i := 28) (oi := { dst := some 227, op := Op.load 37 (Operand.tmp 7), type := 37, pos := "law.go:170", after := #[{ on := 27, ground := Ground.guard }], guard := some (27, true) }) (v := (.agg i.vs)) rfl (by kernel_rfl) (by kernel_rfl) (by kernel_rfl) (fun _ _ _ h => h) (Or.inl ⟨by rfl, ?_⟩) (by assumption) ?_
                        · intro w' hSw
                          exact row_yields 37 (.tmp 7) rfl _ rfl i.vs _ hSw.q.i Tryz.underlying37 rfl i9
                        simp only [Act.put, List.setIfInBounds_toArray, List.set_cons_zero, List.set_cons_succ]
                        refine wpAnyH_ready (rs := [29]) (by kernel_rfl) (by simp) ?_
                        refine AllReadyH.cons (o := { dst := some 228, op := Op.call { callee := Callee.value (Operand.func 30), args := #[Operand.tmp 227], argTypes := #[37] }, type := 4, pos := "law.go:170", after := #[{ on := 28, ground := Ground.data }, { on := 27, ground := Ground.chain }, { on := 27, ground := Ground.guard }], guard := some (27, true) }) rfl (fun K' hK => ?_) AllReadyH.nil
                        rw [if_pos (by rfl)]
                        go_simp
                        go_at_call 30
                        refine (KJ.out _).mono ?_
                        rintro e X3 ⟨rfl, hb⟩
                        have H7 := Lib.hid (H6.out.below hb)
                        clear hb H6
                        refine hK.out _ _ (H7.out) (fun hHeld => ?_)
                        clear hK
                        try simp only [Act.put, List.setIfInBounds_toArray, List.set_cons_zero, List.set_cons_succ]
                        refine wpAnyH_take (i := 30) (oi := { dst := some 229, op := Op.move (Operand.tmp 228), type := 4, pos := "law.go:170", after := #[{ on := 29, ground := Ground.data }, { on := 29, ground := Ground.chain }, { on := 27, ground := Ground.guard }], guard := some (27, true) }) (v := (.bool false)) rfl (by kernel_rfl) (by kernel_rfl) (by kernel_rfl) (fun _ _ _ h => h) (Or.inl ⟨by rfl, ?_⟩) (by assumption) ?_
                        · intro w' hSw
                          go_simp
                        simp only [Act.put, List.setIfInBounds_toArray, List.set_cons_zero, List.set_cons_succ]
                        refine wpAnyH_take (i := 31) (oi := { dst := some 230, op := Op.fieldAddr 26 (Operand.tmp 18) 1, type := 0, pos := "law.go:170", after := #[{ on := 30, ground := Ground.guard }], guard := some (30, false) }) (v := (.pointer (some ⟨ha, 16, none⟩))) rfl (by kernel_rfl) (by kernel_rfl) (by kernel_rfl) (fun _ _ _ h => h) (Or.inl ⟨by rfl, ?_⟩) (by assumption) ?_
                        · intro w' hSw
                          go_simp
                        simp only [Act.put, List.setIfInBounds_toArray, List.set_cons_zero, List.set_cons_succ]
                        refine wpAnyH_take (i := 32) (oi := { dst := some 231, op := Op.load 23 (Operand.tmp 230), type := 23, pos := "law.go:170", after := #[{ on := 31, ground := Ground.data }, { on := 30, ground := Ground.guard }], guard := some (30, false) }) (v := (.int .u64 a1.pc)) rfl (by kernel_rfl) (by kernel_rfl) (by kernel_rfl) (fun _ _ _ h => h) (Or.inl ⟨by rfl, ?_⟩) (by assumption) ?_
                        · intro w' hSw
                          have c := hSw.a.cell 16
                          change _ = some (Value.int .u64 a1.pc) at c
                          go_simp
                        simp only [Act.put, List.setIfInBounds_toArray, List.set_cons_zero, List.set_cons_succ]
                        refine wpAnyH_take (i := 33) (oi := { dst := some 232, op := Op.fieldAddr 26 (Operand.tmp 5) 1, type := 0, pos := "law.go:170", after := #[{ on := 30, ground := Ground.guard }], guard := some (30, false) }) (v := (.pointer (some ⟨w.heap.size, 16, none⟩))) rfl (by kernel_rfl) (by kernel_rfl) (by kernel_rfl) (fun _ _ _ h => h) (Or.inl ⟨by rfl, ?_⟩) (by assumption) ?_
                        · intro w' hSw
                          go_simp
                        simp only [Act.put, List.setIfInBounds_toArray, List.set_cons_zero, List.set_cons_succ]
                        refine wpAnyH_take (i := 34) (oi := { dst := some 233, op := Op.load 23 (Operand.tmp 232), type := 23, pos := "law.go:170", after := #[{ on := 33, ground := Ground.data }, { on := 30, ground := Ground.guard }], guard := some (30, false) }) (v := (.int .u64 s.pc)) rfl (by kernel_rfl) (by kernel_rfl) (by kernel_rfl) (fun _ _ _ h => h) (Or.inl ⟨by rfl, ?_⟩) (by assumption) ?_
                        · intro w' hSw
                          have c := hSw.q.s.cell 16
                          change _ = some (Value.int .u64 s.pc) at c
                          go_simp
                        simp only [Act.put, List.setIfInBounds_toArray, List.set_cons_zero, List.set_cons_succ]
                        refine wpAnyH_take (i := 35) (oi := { dst := some 234, op := Op.binOp BinOp.add 23 (Operand.tmp 233) (Operand.const (Value.int IntKind.u64 5)) 23, type := 23, pos := "law.go:170", after := #[{ on := 34, ground := Ground.data }, { on := 30, ground := Ground.guard }], guard := some (30, false) }) (v := (.int .u64 (IntKind.u64.wrap (s.pc + 5)))) rfl (by kernel_rfl) (by kernel_rfl) (by kernel_rfl) (fun _ _ _ h => h) (Or.inl ⟨by rfl, ?_⟩) (by assumption) ?_
                        · intro w' hSw
                          go_simp
                        simp only [Act.put, List.setIfInBounds_toArray, List.set_cons_zero, List.set_cons_succ]
                        refine wpAnyH_take (i := 36) (oi := { dst := some 235, op := Op.binOp BinOp.eql 23 (Operand.tmp 231) (Operand.tmp 234) 23, type := 4, pos := "law.go:170", after := #[{ on := 32, ground := Ground.data }, { on := 35, ground := Ground.data }, { on := 30, ground := Ground.guard }], guard := some (30, false) }) (v := (.bool true)) rfl (by kernel_rfl) (by kernel_rfl) (by kernel_rfl) (fun _ _ _ h => h) (Or.inl ⟨by rfl, ?_⟩) (by assumption) ?_
                        · intro w' hSw
                          have q := hp6.out
                          go_simp
                        simp only [Act.put, List.setIfInBounds_toArray, List.set_cons_zero, List.set_cons_succ]
                        refine wpAnyH_take (i := 37) (oi := { dst := some 236, op := Op.pick (Operand.tmp 229) (Operand.const (Value.bool true)) (Operand.tmp 235), type := 4, pos := "law.go:170", after := #[{ on := 30, ground := Ground.data }, { on := 36, ground := Ground.data }, { on := 27, ground := Ground.guard }], guard := some (27, true) }) (v := (.bool true)) rfl (by kernel_rfl) (by kernel_rfl) (by kernel_rfl) (fun _ _ _ h => h) (Or.inl ⟨by rfl, ?_⟩) (by assumption) ?_
                        · intro w' hSw
                          go_simp
                        simp only [Act.put, List.setIfInBounds_toArray, List.set_cons_zero, List.set_cons_succ]
                        refine wpAnyH_take (i := 38) (oi := { dst := some 237, op := Op.pick (Operand.tmp 226) (Operand.tmp 236) (Operand.const (Value.bool false)), type := 4, pos := "law.go:170", after := #[{ on := 27, ground := Ground.data }, { on := 37, ground := Ground.data }], guard := none }) (v := (.bool true)) rfl (by kernel_rfl) (by kernel_rfl) (by kernel_rfl) (fun _ _ _ h => h) (Or.inl ⟨by rfl, ?_⟩) (by assumption) ?_
                        · intro w' hSw
                          go_simp
                        simp only [Act.put, List.setIfInBounds_toArray, List.set_cons_zero, List.set_cons_succ]
                        refine wpAnyH_take (i := 39) (oi := { dst := some 10, op := Op.assign (Operand.tmp 237), type := 4, pos := "law.go:170", after := #[{ on := 38, ground := Ground.data }, { on := 30, ground := Ground.chain }, { on := 0, ground := Ground.phase }, { on := 1, ground := Ground.phase }, { on := 2, ground := Ground.phase }, { on := 3, ground := Ground.phase }, { on := 4, ground := Ground.phase }, { on := 5, ground := Ground.phase }, { on := 6, ground := Ground.phase }, { on := 7, ground := Ground.phase }, { on := 8, ground := Ground.phase }, { on := 9, ground := Ground.phase }, { on := 10, ground := Ground.phase }, { on := 11, ground := Ground.phase }, { on := 12, ground := Ground.phase }, { on := 13, ground := Ground.phase }, { on := 14, ground := Ground.phase }, { on := 15, ground := Ground.phase }, { on := 16, ground := Ground.phase }, { on := 17, ground := Ground.phase }, { on := 18, ground := Ground.phase }, { on := 19, ground := Ground.phase }, { on := 20, ground := Ground.phase }, { on := 21, ground := Ground.phase }, { on := 22, ground := Ground.phase }, { on := 23, ground := Ground.phase }, { on := 24, ground := Ground.phase }, { on := 25, ground := Ground.phase }, { on := 26, ground := Ground.phase }, { on := 27, ground := Ground.phase }, { on := 28, ground := Ground.phase }, { on := 29, ground := Ground.phase }, { on := 30, ground := Ground.phase }, { on := 31, ground := Ground.phase }, { on := 32, ground := Ground.phase }, { on := 33, ground := Ground.phase }, { on := 34, ground := Ground.phase }, { on := 35, ground := Ground.phase }, { on := 36, ground := Ground.phase }, { on := 37, ground := Ground.phase }, { on := 38, ground := Ground.phase }], guard := none }) (v := (.bool true)) rfl (by kernel_rfl) (by kernel_rfl) (by kernel_rfl) (fun _ _ _ h => h) (Or.inl ⟨by rfl, ?_⟩) (by assumption) ?_
                        · intro w' hSw
                          go_simp
                        simp only [Act.put, List.setIfInBounds_toArray, List.set_cons_zero, List.set_cons_succ]
                        refine wpAnyH_done (by kernel_rfl) ?_ _
                        go_wp2_with fail
                        go_ret
                        exact ⟨rfl, H7.out.q.b⟩
                  · as_aux_lemma =>
                      have hp6 : Hid (a1.pc = IntKind.u64.wrap (s.pc + 5)) := Lib.hid (by rw [hp5]; rfl)
                      clear hp5
                      have KJ : Hid (∀ X, Calls Tryz.prog 30 #[.agg i.vs] X fun e w' => e = .returned (.bool false) ∧ Below X.heap.size X w') := Lib.hid (fun X => by have h := jump_r i X; rw [hj] at h; exact h)
                      subst hls
                      obtain rfl : k2 = 1 := hl1.symm
                      clear HSHP hl1 hk3
                      obtain ⟨e3, e4, e28, e29⟩ := mem_no hm
                      clear hm hj
                      go_upto_region 32 with (first | (refine wpList_load_row rfl 37 (.tmp 7) rfl (w.heap.size + 1 + 1) rfl 37 i.vs (0, 0) _ HQ7.out.i Tryz.underlying37 rfl i9 ?_) | (go_at_call 30; refine (KJ.out _).mono ?_; rintro e x9 ⟨rfl, hb⟩; have HQ8 := Lib.hid (HQ7.out.below hb); have HE5 := Lib.hid ((HE4.out.below hb).more hb.size); have HBa4 := Lib.hid (HBa3.out.below hb HBa3.out.lt); clear hb) | fail)
                      obtain ⟨ad, rfl, h4⟩ := Q4.mk' HQ8.out HBa4.out HE5.out (by decide)
                      have H4 := Lib.hid h4
                      clear h4
                      clear HQ7 HE4 HBa3 HQ8 HE5 HBa4 c0 c1 c2 c3 c4 c5 c6 c7 c8 e3 e4 e28 e29
                      as_aux_lemma =>
                        refine wp_region_held_drew (S := (fun w' => Q4 w s t4 a1 i ha ad [⟨1, s.pc⟩] w')) (by kernel_rfl) H4.out.drew (fun hHeld => ?_)
                        have H5 := Lib.hid H4.out.drew
                        generalize World.drew _ = X1 at *
                        clear H4
                        refine wpAnyH_take (i := 0) (oi := { dst := some 199, op := Op.move (Operand.tmp 19), type := 30, pos := "law.go:170", after := #[], guard := none }) (v := (.slice (some ad) 1 c1)) rfl (by kernel_rfl) (by kernel_rfl) (by kernel_rfl) (fun _ _ _ h => h) (Or.inl ⟨by rfl, ?_⟩) (by assumption) ?_
                        · intro w' hSw
                          go_simp
                        simp only [Act.put, List.setIfInBounds_toArray, List.set_cons_zero, List.set_cons_succ]
                        refine wpAnyH_take (i := 1) (oi := { dst := some 200, op := Op.call { callee := Callee.builtin Builtin.len, args := #[Operand.tmp 199], argTypes := #[30] }, type := 3, pos := "law.go:170", after := #[{ on := 0, ground := Ground.data }], guard := none }) (v := (.int .i64 1)) rfl (by kernel_rfl) (by kernel_rfl) (by kernel_rfl) (fun _ _ _ h => h) (Or.inl ⟨by rfl, ?_⟩) (by assumption) ?_
                        · intro w' hSw
                          go_simp
                        simp only [Act.put, List.setIfInBounds_toArray, List.set_cons_zero, List.set_cons_succ]
                        refine wpAnyH_take (i := 2) (oi := { dst := some 201, op := Op.move (Operand.tmp 25), type := 3, pos := "law.go:170", after := #[], guard := none }) (v := (.int .i64 1)) rfl (by kernel_rfl) (by kernel_rfl) (by kernel_rfl) (fun _ _ _ h => h) (Or.inl ⟨by rfl, ?_⟩) (by assumption) ?_
                        · intro w' hSw
                          go_simp
                        simp only [Act.put, List.setIfInBounds_toArray, List.set_cons_zero, List.set_cons_succ]
                        refine wpAnyH_take (i := 3) (oi := { dst := some 202, op := Op.binOp BinOp.eql 3 (Operand.tmp 200) (Operand.tmp 201) 3, type := 4, pos := "law.go:170", after := #[{ on := 1, ground := Ground.data }, { on := 2, ground := Ground.data }], guard := none }) (v := (.bool true)) rfl (by kernel_rfl) (by kernel_rfl) (by kernel_rfl) (fun _ _ _ h => h) (Or.inl ⟨by rfl, ?_⟩) (by assumption) ?_
                        · intro w' hSw
                          go_simp
                        simp only [Act.put, List.setIfInBounds_toArray, List.set_cons_zero, List.set_cons_succ]
                        refine wpAnyH_take (i := 4) (oi := { dst := some 203, op := Op.move (Operand.tmp 202), type := 4, pos := "law.go:170", after := #[{ on := 3, ground := Ground.data }], guard := none }) (v := (.bool true)) rfl (by kernel_rfl) (by kernel_rfl) (by kernel_rfl) (fun _ _ _ h => h) (Or.inl ⟨by rfl, ?_⟩) (by assumption) ?_
                        · intro w' hSw
                          go_simp
                        simp only [Act.put, List.setIfInBounds_toArray, List.set_cons_zero, List.set_cons_succ]
                        refine wpAnyH_take (i := 5) (oi := { dst := some 204, op := Op.move (Operand.tmp 19), type := 30, pos := "law.go:170", after := #[{ on := 4, ground := Ground.guard }], guard := some (4, true) }) (v := (.slice (some ad) 1 c1)) rfl (by kernel_rfl) (by kernel_rfl) (by kernel_rfl) (fun _ _ _ h => h) (Or.inl ⟨by rfl, ?_⟩) (by assumption) ?_
                        · intro w' hSw
                          go_simp
                        simp only [Act.put, List.setIfInBounds_toArray, List.set_cons_zero, List.set_cons_succ]
                        refine wpAnyH_take (i := 6) (oi := { dst := some 205, op := Op.indexAddr 30 (Operand.tmp 204) (Operand.const (Value.int IntKind.i64 0)), type := 0, pos := "law.go:170", after := #[{ on := 5, ground := Ground.data }, { on := 4, ground := Ground.guard }], guard := some (4, true) }) (v := (.pointer (some (ad.add (0 * 2))))) rfl (by kernel_rfl) (by kernel_rfl) (by kernel_rfl) (fun _ _ _ h => h) (Or.inl ⟨by rfl, ?_⟩) (by assumption) ?_
                        · intro w' hSw
                          go_simp
                        simp only [Act.put, List.setIfInBounds_toArray, List.set_cons_zero, List.set_cons_succ]
                        refine wpAnyH_take (i := 7) (oi := { dst := some 206, op := Op.load 40 (Operand.tmp 205), type := 40, pos := "law.go:170", after := #[{ on := 6, ground := Ground.data }, { on := 4, ground := Ground.guard }], guard := some (4, true) }) (v := (.agg #[.int .i64 1, .int .u64 s.pc])) rfl (by kernel_rfl) (by kernel_rfl) (by kernel_rfl) (fun _ _ _ h => h) (Or.inl ⟨by rfl, ?_⟩) (by assumption) ?_
                        · intro w' hSw
                          obtain ⟨p1, p2⟩ := hSw.ev0
                          change _ = some (Value.int .i64 1) at p1
                          change _ = some (Value.int .u64 s.pc) at p2
                          go_simp
                        simp only [Act.put, List.setIfInBounds_toArray, List.set_cons_zero, List.set_cons_succ]
                        refine wpAnyH_take (i := 8) (oi := { dst := some 207, op := Op.fieldAddr 26 (Operand.tmp 5) 1, type := 0, pos := "law.go:170", after := #[{ on := 4, ground := Ground.guard }], guard := some (4, true) }) (v := (.pointer (some ⟨w.heap.size, 16, none⟩))) rfl (by kernel_rfl) (by kernel_rfl) (by kernel_rfl) (fun _ _ _ h => h) (Or.inl ⟨by rfl, ?_⟩) (by assumption) ?_
                        · intro w' hSw
                          go_simp
                        simp only [Act.put, List.setIfInBounds_toArray, List.set_cons_zero, List.set_cons_succ]
                        refine wpAnyH_take (i := 9) (oi := { dst := some 208, op := Op.load 23 (Operand.tmp 207), type := 23, pos := "law.go:170", after := #[{ on := 8, ground := Ground.data }, { on := 4, ground := Ground.guard }], guard := some (4, true) }) (v := (.int .u64 s.pc)) rfl (by kernel_rfl) (by kernel_rfl) (by kernel_rfl) (fun _ _ _ h => h) (Or.inl ⟨by rfl, ?_⟩) (by assumption) ?_
                        · intro w' hSw
                          have c := hSw.q.s.cell 16
                          change _ = some (Value.int .u64 s.pc) at c
                          go_simp
                        simp only [Act.put, List.setIfInBounds_toArray, List.set_cons_zero, List.set_cons_succ]
                        refine wpAnyH_take (i := 10) (oi := { dst := some 209, op := Op.build 40 #[(0, Operand.const (Value.int IntKind.i64 1)), (1, Operand.tmp 208)], type := 40, pos := "law.go:170", after := #[{ on := 9, ground := Ground.data }, { on := 4, ground := Ground.guard }], guard := some (4, true) }) (v := (.agg #[.int .i64 1, .int .u64 s.pc])) rfl (by kernel_rfl) (by kernel_rfl) (by kernel_rfl) (fun _ _ _ h => h) (Or.inl ⟨by rfl, ?_⟩) (by assumption) ?_
                        · intro w' hSw
                          go_simp
                        simp only [Act.put, List.setIfInBounds_toArray, List.set_cons_zero, List.set_cons_succ]
                        refine wpAnyH_take (i := 11) (oi := { dst := some 210, op := Op.binOp BinOp.eql 40 (Operand.tmp 206) (Operand.tmp 209) 40, type := 4, pos := "law.go:170", after := #[{ on := 7, ground := Ground.data }, { on := 10, ground := Ground.data }, { on := 4, ground := Ground.guard }], guard := some (4, true) }) (v := (.bool true)) rfl (by kernel_rfl) (by kernel_rfl) (by kernel_rfl) (fun _ _ _ h => h) (Or.inl ⟨by rfl, ?_⟩) (by assumption) ?_
                        · intro w' hSw
                          have he := evT 1 s.pc w'
                          go_simp
                        simp only [Act.put, List.setIfInBounds_toArray, List.set_cons_zero, List.set_cons_succ]
                        refine wpAnyH_take (i := 12) (oi := { dst := some 211, op := Op.pick (Operand.tmp 203) (Operand.tmp 210) (Operand.const (Value.bool false)), type := 4, pos := "law.go:170", after := #[{ on := 4, ground := Ground.data }, { on := 11, ground := Ground.data }], guard := none }) (v := (.bool true)) rfl (by kernel_rfl) (by kernel_rfl) (by kernel_rfl) (fun _ _ _ h => h) (Or.inl ⟨by rfl, ?_⟩) (by assumption) ?_
                        · intro w' hSw
                          go_simp
                        simp only [Act.put, List.setIfInBounds_toArray, List.set_cons_zero, List.set_cons_succ]
                        refine wpAnyH_take (i := 13) (oi := { dst := some 212, op := Op.move (Operand.tmp 211), type := 4, pos := "law.go:170", after := #[{ on := 12, ground := Ground.data }, { on := 4, ground := Ground.chain }], guard := none }) (v := (.bool true)) rfl (by kernel_rfl) (by kernel_rfl) (by kernel_rfl) (fun _ _ _ h => h) (Or.inl ⟨by rfl, ?_⟩) (by assumption) ?_
                        · intro w' hSw
                          go_simp
                        simp only [Act.put, List.setIfInBounds_toArray, List.set_cons_zero, List.set_cons_succ]
                        refine wpAnyH_take (i := 14) (oi := { dst := some 213, op := Op.load 37 (Operand.tmp 7), type := 37, pos := "law.go:170", after := #[{ on := 13, ground := Ground.guard }], guard := some (13, true) }) (v := (.agg i.vs)) rfl (by kernel_rfl) (by kernel_rfl) (by kernel_rfl) (fun _ _ _ h => h) (Or.inl ⟨by rfl, ?_⟩) (by assumption) ?_
                        · intro w' hSw
                          exact row_yields 37 (.tmp 7) rfl _ rfl i.vs _ hSw.q.i Tryz.underlying37 rfl i9
                        simp only [Act.put, List.setIfInBounds_toArray, List.set_cons_zero, List.set_cons_succ]
                        refine wpAnyH_ready (rs := [15]) (by kernel_rfl) (by simp) ?_
                        refine AllReadyH.cons (o := { dst := some 214, op := Op.call { callee := Callee.value (Operand.func 30), args := #[Operand.tmp 213], argTypes := #[37] }, type := 4, pos := "law.go:170", after := #[{ on := 14, ground := Ground.data }, { on := 13, ground := Ground.chain }, { on := 13, ground := Ground.guard }], guard := some (13, true) }) rfl (fun K' hK => ?_) AllReadyH.nil
                        rw [if_pos (by rfl)]
                        go_simp
                        go_at_call 30
                        refine (KJ.out _).mono ?_
                        rintro e X2 ⟨rfl, hb⟩
                        have H6 := Lib.hid (H5.out.below hb)
                        clear hb H5
                        refine hK.out _ _ (H6.out) (fun hHeld => ?_)
                        clear hK
                        try simp only [Act.put, List.setIfInBounds_toArray, List.set_cons_zero, List.set_cons_succ]
                        refine wpAnyH_take (i := 16) (oi := { dst := some 215, op := Op.unOp UnOp.not 4 (Operand.tmp 214), type := 4, pos := "law.go:170", after := #[{ on := 15, ground := Ground.data }, { on := 13, ground := Ground.guard }], guard := some (13, true) }) (v := (.bool true)) rfl (by kernel_rfl) (by kernel_rfl) (by kernel_rfl) (fun _ _ _ h => h) (Or.inl ⟨by rfl, ?_⟩) (by assumption) ?_
                        · intro w' hSw
                          go_simp
                        simp only [Act.put, List.setIfInBounds_toArray, List.set_cons_zero, List.set_cons_succ]
                        refine wpAnyH_take (i := 17) (oi := { dst := some 216, op := Op.move (Operand.tmp 215), type := 4, pos := "law.go:170", after := #[{ on := 16, ground := Ground.data }, { on := 15, ground := Ground.chain }, { on := 13, ground := Ground.guard }], guard := some (13, true) }) (v := (.bool true)) rfl (by kernel_rfl) (by kernel_rfl) (by kernel_rfl) (fun _ _ _ h => h) (Or.inl ⟨by rfl, ?_⟩) (by assumption) ?_
                        · intro w' hSw
                          go_simp
                        simp only [Act.put, List.setIfInBounds_toArray, List.set_cons_zero, List.set_cons_succ]
                        refine wpAnyH_take (i := 18) (oi := { dst := some 217, op := Op.move (Operand.tmp 19), type := 30, pos := "law.go:170", after := #[{ on := 17, ground := Ground.guard }], guard := some (17, false) }) (v := undef) rfl (by kernel_rfl) (by kernel_rfl) (by kernel_rfl) (fun _ _ _ h => h) (Or.inr ⟨by rfl, rfl⟩) (by assumption) ?_
                        simp only [Act.put, List.setIfInBounds_toArray, List.set_cons_zero, List.set_cons_succ]
                        refine wpAnyH_take (i := 19) (oi := { dst := some 218, op := Op.indexAddr 30 (Operand.tmp 217) (Operand.const (Value.int IntKind.i64 1)), type := 0, pos := "law.go:170", after := #[{ on := 18, ground := Ground.data }, { on := 17, ground := Ground.guard }], guard := some (17, false) }) (v := undef) rfl (by kernel_rfl) (by kernel_rfl) (by kernel_rfl) (fun _ _ _ h => h) (Or.inr ⟨by rfl, rfl⟩) (by assumption) ?_
                        simp only [Act.put, List.setIfInBounds_toArray, List.set_cons_zero, List.set_cons_succ]
                        refine wpAnyH_take (i := 20) (oi := { dst := some 219, op := Op.load 40 (Operand.tmp 218), type := 40, pos := "law.go:170", after := #[{ on := 19, ground := Ground.data }, { on := 17, ground := Ground.guard }], guard := some (17, false) }) (v := undef) rfl (by kernel_rfl) (by kernel_rfl) (by kernel_rfl) (fun _ _ _ h => h) (Or.inr ⟨by rfl, rfl⟩) (by assumption) ?_
                        simp only [Act.put, List.setIfInBounds_toArray, List.set_cons_zero, List.set_cons_succ]
                        refine wpAnyH_take (i := 21) (oi := { dst := some 220, op := Op.fieldAddr 26 (Operand.tmp 18) 1, type := 0, pos := "law.go:170", after := #[{ on := 17, ground := Ground.guard }], guard := some (17, false) }) (v := undef) rfl (by kernel_rfl) (by kernel_rfl) (by kernel_rfl) (fun _ _ _ h => h) (Or.inr ⟨by rfl, rfl⟩) (by assumption) ?_
                        simp only [Act.put, List.setIfInBounds_toArray, List.set_cons_zero, List.set_cons_succ]
                        refine wpAnyH_take (i := 22) (oi := { dst := some 221, op := Op.load 23 (Operand.tmp 220), type := 23, pos := "law.go:170", after := #[{ on := 21, ground := Ground.data }, { on := 17, ground := Ground.guard }], guard := some (17, false) }) (v := undef) rfl (by kernel_rfl) (by kernel_rfl) (by kernel_rfl) (fun _ _ _ h => h) (Or.inr ⟨by rfl, rfl⟩) (by assumption) ?_
                        simp only [Act.put, List.setIfInBounds_toArray, List.set_cons_zero, List.set_cons_succ]
                        refine wpAnyH_take (i := 23) (oi := { dst := some 222, op := Op.build 40 #[(0, Operand.const (Value.int IntKind.i64 4)), (1, Operand.tmp 221)], type := 40, pos := "law.go:170", after := #[{ on := 22, ground := Ground.data }, { on := 17, ground := Ground.guard }], guard := some (17, false) }) (v := undef) rfl (by kernel_rfl) (by kernel_rfl) (by kernel_rfl) (fun _ _ _ h => h) (Or.inr ⟨by rfl, rfl⟩) (by assumption) ?_
                        simp only [Act.put, List.setIfInBounds_toArray, List.set_cons_zero, List.set_cons_succ]
                        refine wpAnyH_take (i := 24) (oi := { dst := some 223, op := Op.binOp BinOp.eql 40 (Operand.tmp 219) (Operand.tmp 222) 40, type := 4, pos := "law.go:170", after := #[{ on := 20, ground := Ground.data }, { on := 23, ground := Ground.data }, { on := 17, ground := Ground.guard }], guard := some (17, false) }) (v := undef) rfl (by kernel_rfl) (by kernel_rfl) (by kernel_rfl) (fun _ _ _ h => h) (Or.inr ⟨by rfl, rfl⟩) (by assumption) ?_
                        simp only [Act.put, List.setIfInBounds_toArray, List.set_cons_zero, List.set_cons_succ]
                        refine wpAnyH_take (i := 25) (oi := { dst := some 224, op := Op.pick (Operand.tmp 216) (Operand.const (Value.bool true)) (Operand.tmp 223), type := 4, pos := "law.go:170", after := #[{ on := 17, ground := Ground.data }, { on := 24, ground := Ground.data }, { on := 13, ground := Ground.guard }], guard := some (13, true) }) (v := (.bool true)) rfl (by kernel_rfl) (by kernel_rfl) (by kernel_rfl) (fun _ _ _ h => h) (Or.inl ⟨by rfl, ?_⟩) (by assumption) ?_
                        · intro w' hSw
                          go_simp
                        simp only [Act.put, List.setIfInBounds_toArray, List.set_cons_zero, List.set_cons_succ]
                        refine wpAnyH_take (i := 26) (oi := { dst := some 225, op := Op.pick (Operand.tmp 212) (Operand.tmp 224) (Operand.const (Value.bool false)), type := 4, pos := "law.go:170", after := #[{ on := 13, ground := Ground.data }, { on := 25, ground := Ground.data }], guard := none }) (v := (.bool true)) rfl (by kernel_rfl) (by kernel_rfl) (by kernel_rfl) (fun _ _ _ h => h) (Or.inl ⟨by rfl, ?_⟩) (by assumption) ?_
                        · intro w' hSw
                          go_simp
                        simp only [Act.put, List.setIfInBounds_toArray, List.set_cons_zero, List.set_cons_succ]
                        refine wpAnyH_take (i := 27) (oi := { dst := some 226, op := Op.move (Operand.tmp 225), type := 4, pos := "law.go:170", after := #[{ on := 26, ground := Ground.data }, { on := 17, ground := Ground.chain }], guard := none }) (v := (.bool true)) rfl (by kernel_rfl) (by kernel_rfl) (by kernel_rfl) (fun _ _ _ h => h) (Or.inl ⟨by rfl, ?_⟩) (by assumption) ?_
                        · intro w' hSw
                          go_simp
                        simp only [Act.put, List.setIfInBounds_toArray, List.set_cons_zero, List.set_cons_succ]
                        refine wpAnyH_take (i := 28) (oi := { dst := some 227, op := Op.load 37 (Operand.tmp 7), type := 37, pos := "law.go:170", after := #[{ on := 27, ground := Ground.guard }], guard := some (27, true) }) (v := (.agg i.vs)) rfl (by kernel_rfl) (by kernel_rfl) (by kernel_rfl) (fun _ _ _ h => h) (Or.inl ⟨by rfl, ?_⟩) (by assumption) ?_
                        · intro w' hSw
                          exact row_yields 37 (.tmp 7) rfl _ rfl i.vs _ hSw.q.i Tryz.underlying37 rfl i9
                        simp only [Act.put, List.setIfInBounds_toArray, List.set_cons_zero, List.set_cons_succ]
                        refine wpAnyH_ready (rs := [29]) (by kernel_rfl) (by simp) ?_
                        refine AllReadyH.cons (o := { dst := some 228, op := Op.call { callee := Callee.value (Operand.func 30), args := #[Operand.tmp 227], argTypes := #[37] }, type := 4, pos := "law.go:170", after := #[{ on := 28, ground := Ground.data }, { on := 27, ground := Ground.chain }, { on := 27, ground := Ground.guard }], guard := some (27, true) }) rfl (fun K' hK => ?_) AllReadyH.nil
                        rw [if_pos (by rfl)]
                        go_simp
                        go_at_call 30
                        refine (KJ.out _).mono ?_
                        rintro e X3 ⟨rfl, hb⟩
                        have H7 := Lib.hid (H6.out.below hb)
                        clear hb H6
                        refine hK.out _ _ (H7.out) (fun hHeld => ?_)
                        clear hK
                        try simp only [Act.put, List.setIfInBounds_toArray, List.set_cons_zero, List.set_cons_succ]
                        refine wpAnyH_take (i := 30) (oi := { dst := some 229, op := Op.move (Operand.tmp 228), type := 4, pos := "law.go:170", after := #[{ on := 29, ground := Ground.data }, { on := 29, ground := Ground.chain }, { on := 27, ground := Ground.guard }], guard := some (27, true) }) (v := (.bool false)) rfl (by kernel_rfl) (by kernel_rfl) (by kernel_rfl) (fun _ _ _ h => h) (Or.inl ⟨by rfl, ?_⟩) (by assumption) ?_
                        · intro w' hSw
                          go_simp
                        simp only [Act.put, List.setIfInBounds_toArray, List.set_cons_zero, List.set_cons_succ]
                        refine wpAnyH_take (i := 31) (oi := { dst := some 230, op := Op.fieldAddr 26 (Operand.tmp 18) 1, type := 0, pos := "law.go:170", after := #[{ on := 30, ground := Ground.guard }], guard := some (30, false) }) (v := (.pointer (some ⟨ha, 16, none⟩))) rfl (by kernel_rfl) (by kernel_rfl) (by kernel_rfl) (fun _ _ _ h => h) (Or.inl ⟨by rfl, ?_⟩) (by assumption) ?_
                        · intro w' hSw
                          go_simp
                        simp only [Act.put, List.setIfInBounds_toArray, List.set_cons_zero, List.set_cons_succ]
                        refine wpAnyH_take (i := 32) (oi := { dst := some 231, op := Op.load 23 (Operand.tmp 230), type := 23, pos := "law.go:170", after := #[{ on := 31, ground := Ground.data }, { on := 30, ground := Ground.guard }], guard := some (30, false) }) (v := (.int .u64 a1.pc)) rfl (by kernel_rfl) (by kernel_rfl) (by kernel_rfl) (fun _ _ _ h => h) (Or.inl ⟨by rfl, ?_⟩) (by assumption) ?_
                        · intro w' hSw
                          have c := hSw.a.cell 16
                          change _ = some (Value.int .u64 a1.pc) at c
                          go_simp
                        simp only [Act.put, List.setIfInBounds_toArray, List.set_cons_zero, List.set_cons_succ]
                        refine wpAnyH_take (i := 33) (oi := { dst := some 232, op := Op.fieldAddr 26 (Operand.tmp 5) 1, type := 0, pos := "law.go:170", after := #[{ on := 30, ground := Ground.guard }], guard := some (30, false) }) (v := (.pointer (some ⟨w.heap.size, 16, none⟩))) rfl (by kernel_rfl) (by kernel_rfl) (by kernel_rfl) (fun _ _ _ h => h) (Or.inl ⟨by rfl, ?_⟩) (by assumption) ?_
                        · intro w' hSw
                          go_simp
                        simp only [Act.put, List.setIfInBounds_toArray, List.set_cons_zero, List.set_cons_succ]
                        refine wpAnyH_take (i := 34) (oi := { dst := some 233, op := Op.load 23 (Operand.tmp 232), type := 23, pos := "law.go:170", after := #[{ on := 33, ground := Ground.data }, { on := 30, ground := Ground.guard }], guard := some (30, false) }) (v := (.int .u64 s.pc)) rfl (by kernel_rfl) (by kernel_rfl) (by kernel_rfl) (fun _ _ _ h => h) (Or.inl ⟨by rfl, ?_⟩) (by assumption) ?_
                        · intro w' hSw
                          have c := hSw.q.s.cell 16
                          change _ = some (Value.int .u64 s.pc) at c
                          go_simp
                        simp only [Act.put, List.setIfInBounds_toArray, List.set_cons_zero, List.set_cons_succ]
                        refine wpAnyH_take (i := 35) (oi := { dst := some 234, op := Op.binOp BinOp.add 23 (Operand.tmp 233) (Operand.const (Value.int IntKind.u64 5)) 23, type := 23, pos := "law.go:170", after := #[{ on := 34, ground := Ground.data }, { on := 30, ground := Ground.guard }], guard := some (30, false) }) (v := (.int .u64 (IntKind.u64.wrap (s.pc + 5)))) rfl (by kernel_rfl) (by kernel_rfl) (by kernel_rfl) (fun _ _ _ h => h) (Or.inl ⟨by rfl, ?_⟩) (by assumption) ?_
                        · intro w' hSw
                          go_simp
                        simp only [Act.put, List.setIfInBounds_toArray, List.set_cons_zero, List.set_cons_succ]
                        refine wpAnyH_take (i := 36) (oi := { dst := some 235, op := Op.binOp BinOp.eql 23 (Operand.tmp 231) (Operand.tmp 234) 23, type := 4, pos := "law.go:170", after := #[{ on := 32, ground := Ground.data }, { on := 35, ground := Ground.data }, { on := 30, ground := Ground.guard }], guard := some (30, false) }) (v := (.bool true)) rfl (by kernel_rfl) (by kernel_rfl) (by kernel_rfl) (fun _ _ _ h => h) (Or.inl ⟨by rfl, ?_⟩) (by assumption) ?_
                        · intro w' hSw
                          have q := hp6.out
                          go_simp
                        simp only [Act.put, List.setIfInBounds_toArray, List.set_cons_zero, List.set_cons_succ]
                        refine wpAnyH_take (i := 37) (oi := { dst := some 236, op := Op.pick (Operand.tmp 229) (Operand.const (Value.bool true)) (Operand.tmp 235), type := 4, pos := "law.go:170", after := #[{ on := 30, ground := Ground.data }, { on := 36, ground := Ground.data }, { on := 27, ground := Ground.guard }], guard := some (27, true) }) (v := (.bool true)) rfl (by kernel_rfl) (by kernel_rfl) (by kernel_rfl) (fun _ _ _ h => h) (Or.inl ⟨by rfl, ?_⟩) (by assumption) ?_
                        · intro w' hSw
                          go_simp
                        simp only [Act.put, List.setIfInBounds_toArray, List.set_cons_zero, List.set_cons_succ]
                        refine wpAnyH_take (i := 38) (oi := { dst := some 237, op := Op.pick (Operand.tmp 226) (Operand.tmp 236) (Operand.const (Value.bool false)), type := 4, pos := "law.go:170", after := #[{ on := 27, ground := Ground.data }, { on := 37, ground := Ground.data }], guard := none }) (v := (.bool true)) rfl (by kernel_rfl) (by kernel_rfl) (by kernel_rfl) (fun _ _ _ h => h) (Or.inl ⟨by rfl, ?_⟩) (by assumption) ?_
                        · intro w' hSw
                          go_simp
                        simp only [Act.put, List.setIfInBounds_toArray, List.set_cons_zero, List.set_cons_succ]
                        refine wpAnyH_take (i := 39) (oi := { dst := some 10, op := Op.assign (Operand.tmp 237), type := 4, pos := "law.go:170", after := #[{ on := 38, ground := Ground.data }, { on := 30, ground := Ground.chain }, { on := 0, ground := Ground.phase }, { on := 1, ground := Ground.phase }, { on := 2, ground := Ground.phase }, { on := 3, ground := Ground.phase }, { on := 4, ground := Ground.phase }, { on := 5, ground := Ground.phase }, { on := 6, ground := Ground.phase }, { on := 7, ground := Ground.phase }, { on := 8, ground := Ground.phase }, { on := 9, ground := Ground.phase }, { on := 10, ground := Ground.phase }, { on := 11, ground := Ground.phase }, { on := 12, ground := Ground.phase }, { on := 13, ground := Ground.phase }, { on := 14, ground := Ground.phase }, { on := 15, ground := Ground.phase }, { on := 16, ground := Ground.phase }, { on := 17, ground := Ground.phase }, { on := 18, ground := Ground.phase }, { on := 19, ground := Ground.phase }, { on := 20, ground := Ground.phase }, { on := 21, ground := Ground.phase }, { on := 22, ground := Ground.phase }, { on := 23, ground := Ground.phase }, { on := 24, ground := Ground.phase }, { on := 25, ground := Ground.phase }, { on := 26, ground := Ground.phase }, { on := 27, ground := Ground.phase }, { on := 28, ground := Ground.phase }, { on := 29, ground := Ground.phase }, { on := 30, ground := Ground.phase }, { on := 31, ground := Ground.phase }, { on := 32, ground := Ground.phase }, { on := 33, ground := Ground.phase }, { on := 34, ground := Ground.phase }, { on := 35, ground := Ground.phase }, { on := 36, ground := Ground.phase }, { on := 37, ground := Ground.phase }, { on := 38, ground := Ground.phase }], guard := none }) (v := (.bool true)) rfl (by kernel_rfl) (by kernel_rfl) (by kernel_rfl) (fun _ _ _ h => h) (Or.inl ⟨by rfl, ?_⟩) (by assumption) ?_
                        · intro w' hSw
                          go_simp
                        simp only [Act.put, List.setIfInBounds_toArray, List.set_cons_zero, List.set_cons_succ]
                        refine wpAnyH_done (by kernel_rfl) ?_ _
                        go_wp2_with fail
                        go_ret
                        exact ⟨rfl, H7.out.q.b⟩
end stepSeen
end Go.Proofs.YtmiphnocgepdgaaGreatDoor
