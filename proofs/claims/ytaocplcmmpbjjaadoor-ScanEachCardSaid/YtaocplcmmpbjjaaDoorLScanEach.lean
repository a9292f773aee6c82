/- ScanEach's walk. -/
import Derived.Test.YtaocplcmmpbjjaaDoorOB
import Derived.Sort.CutIn
namespace Go.Proofs.YtaocplcmmpbjjaaDoor
open Go Go.RowKit Go.Maps Go.Shelf
namespace scanEach
open Nt Sn
open Gr (Rdr Rws row Sh rws_rd rws_form)
set_option linter.unusedVariables false
set_option linter.unusedSimpArgs false
attribute [local go_sem] Oper.semAt_some
theorem rowP_at {xs : List TV} {w w' : World} {v : Value} (h : RowP xs w v w') : ∃ A n c, v = .slice A n c ∧ n = xs.length ∧ n ≤ c ∧ Rdr w' w'.heap.size A n xs ∧ Below w.heap.size w w' := by
  obtain ⟨A, c, h1, h0, h2, h3⟩ := h
  exact ⟨A, _, c, h1, rfl, h0, h2, h3⟩
theorem tx_len (s : ByteArray) : (Tx s).length ≤ s.size + 1 := by
  have h := tl_len1 s
  rw [tl_scn] at h
  have h2 : (scn s).1.length ≤ s.size + 1 := by simpa [toks] using h
  unfold Tx
  rw [List.length_map]
  omega
theorem rdr_far {w : World} {B n : Nat} {A : Option Addr} {xs : List TV} {b : Nat} {v : Value} (h : Rdr w B A n xs) (hb : Bk w b 3 #[v]) (u : Value) : Rdr (w.setCell ⟨b, 0, none⟩ u) B A n xs :=
  ⟨h.len, fun h0 => by
    obtain ⟨g, o, e, hB, hc⟩ := h.rd h0
    obtain ⟨x, hx⟩ : ∃ x, xs[0]? = some x := ⟨_, List.getElem?_eq_getElem (by rw [h.len]; exact h0)⟩
    have h1 := hc 0 x hx 1 (.string x.t) rfl
    have hne : g ≠ b := fun e2 => by
      subst e2
      have h2 : w.heap[g]? = some (.cells #[v] 3 (0, 0)) := hb
      unfold World.cell? at h1
      rw [h2] at h1
      simp at h1
    exact ⟨g, o, e, hB, fun j y hj d u' hu => (World.cell?_of_block (a := ⟨g, _, none⟩) (Below.heap_setCell w ⟨b, 0, none⟩ u g hne)).trans (hc j y hj d u' hu)⟩⟩
/-- all of a source with a comment ahead -/
theorem all_pre (s z : ByteArray) (ev : Nat) (hs : s.size ≤ 200) (he : ev ≤ 300) (hz : z.data.toList = List.replicate ev 120) (W : World) (hT : Lib.Utf8Tabs 0 1 W) :
    Calls Tryd.prog 17 #[.string (⟨#[32, 35]⟩ ++ z ++ ⟨#[10, 9]⟩ ++ s)] W fun e w' => ∃ v, e = .returned (.tuple #[v, .bool true]) ∧ RowP ((Tx s).map (mvT (ev + 4))) W v w' := by
  have hd : Bs ((⟨#[32, 35]⟩ : ByteArray) ++ z ++ ⟨#[10, 9]⟩) = preB ev := by
    rw [bs_app, bs_app, show Bs z = _ from hz]
    rfl
  have hz2 : z.size = ev := by rw [← bs_size, show Bs z = _ from hz, List.length_replicate]
  have hsz : ((⟨#[32, 35]⟩ : ByteArray) ++ z ++ ⟨#[10, 9]⟩ ++ s).size ≤ 65536 := by
    rw [← bs_size, bs_app, List.length_append, hd, bs_size]
    unfold preB
    simp
    omega
  have h := lawAll_r _ hsz W hT
  unfold LawAllR at h
  rw [tvs_tl, (pre_ok ev _ s hd).2] at h
  exact h
theorem run_bool_cell {fn : Func} {p : Tmp} (h : fn.results = #[.cell p 4]) (tmps : Array Value) (w : World) (g : Nat) (b : Bool) (hp : tmps.getD p undef = .pointer (some ⟨g, 0, none⟩)) (hc : w.cell? ⟨g, 0, none⟩ = some (.bool b)) :
    (results fn tmps).run Tryd.prog w = .ok (.bool b) w := by
  have hp' : tmps[p]?.getD undef = .pointer (some ⟨g, 0, none⟩) := by simpa using hp
  have ha := Tryd.isAgg4 w
  simp [results, h, hp', asAddr, loadVar, ha, hc]
/-- what stands between two rounds -/
def EacI (Nb : Nat) (W0 : World) (Ev : Int) (R : Nat) (pre : List Tok) (W : World) : Prop :=
  Bk W Nb 3 #[.int .i64 (pre.length : Int)] ∧ W0.grownBy W (some Nb) ∧ R < W.heap.size ∧ W0.heap.size ≤ R ∧ (pre.length : Int) ≤ Ev
theorem eacI_ab (Nb : Nat) (W0 : World) (hN : Nb < W0.heap.size) (Ev : Int) : ∀ R t X Y row, EacI Nb W0 Ev R t X → X.grownBy Y row → AbR R W0.heap.size X row → EacI Nb W0 Ev R t Y := by
  rintro R t X Y row ⟨hn, hgr, hlt, hl, he⟩ hg hrow
  refine ⟨(hg.block Nb (Bk.lt hn) (fun e' => ?_)).trans hn, ?_, Nat.lt_of_lt_of_le hlt hg.size, hl, he⟩
  · rcases hrow Nb e'.symm with h | ⟨h, _⟩
    · omega
    · omega
  · refine ⟨hg.os.trans hgr.os, hg.tape.trans hgr.tape, hg.output.trans hgr.output, Nat.le_trans hgr.size hg.size, fun k hk hne => (hg.block k (Nat.lt_of_lt_of_le hk hgr.size) (fun e => ?_)).trans (hgr.block k hk hne)⟩
    rcases hrow k e.symm with h | ⟨h, _⟩
    · omega
    · omega
/-- where it was left -/
def EacX (Nb : Nat) (W0 : World) (Ev : Int) (R : Nat) (c : Code) (pre : List Tok) (W : World) : Prop := c = .exit 0 ∧ Bk W Nb 3 #[.int .i64 Ev] ∧ W0.grownBy W (some Nb)
theorem eacX_own (Nb : Nat) (W0 : World) (hN : Nb < W0.heap.size) (Ev : Int) (R : Nat) (c : Code) : OwnFrom W0.heap.size (EacX Nb W0 Ev R c) := by
  rintro pre X Y row ⟨h1, h2, h3⟩ hg hr
  refine ⟨h1, (hg.block Nb (Bk.lt h2) (fun e' => ?_)).trans h2, ⟨hg.os.trans h3.os, hg.tape.trans h3.tape, hg.output.trans h3.output, Nat.le_trans h3.size hg.size, fun k hk hne => (hg.block k (Nat.lt_of_lt_of_le hk h3.size) (fun e => ?_)).trans (h3.block k hk hne)⟩⟩
  · have := (hr Nb e'.symm).1; omega
  · have := (hr k e.symm).1; omega
set_option maxRecDepth 100000 in
set_option maxHeartbeats 8000000 in
theorem walk_in (n : Nat) (hn : 9 ≤ n) (w : World) (hT : Lib.Utf8Tabs 0 1 w) (s : ByteArray) (early : Int) (hs : s.size ≤ 200) (hw : -9223372036854775808 ≤ early ∧ early ≤ 9223372036854775807) :
    CallsIn Fence.wide n Tryd.prog 6 #[.string s, .int .i64 early] w fun e w' => e = .returned (.bool true) ∧ Below w.heap.size w w' := by
  have hn1 : 1 ≤ n := by omega
  have hmix : Tryd.prog.follows .mixedOrders = true := by kernel_rfl
  have HT := Lib.hid hT
  have HL := Lib.hid (fun W hT => lives_l W hT)
  have HAL := Lib.hid (fun W hT => lawAll_r s (by omega) W hT)
  unfold LawAllR at HAL
  rw [tvs_tl] at HAL
  have HXN : Hid ((Tx s).length ≤ 201) := Lib.hid (by have := tx_len s; omega)
  have e1 : ((200 : Int) < (s.size : Int)) = False := eq_false (by omega)
  have HS := Lib.hid hs
  have HE := Lib.hid (fun W => each_l s W)
  have HW := Lib.hid hw
  clear hT hs hw
  refine callsIn_of_wp_marks Tryd.func6 rfl trivial ?_ rfl
  simp only [Tryd.ntmps6, List.size_toArray, List.length_cons, List.length_nil, Nat.reduceAdd, Nat.reduceSub, Array.replicate_succ, Array.replicate_zero, List.push_toArray, List.append_toArray, List.nil_append, List.cons_append]
  try simp only [List.append]
  gi_wp2
  obtain ⟨w0, hw0⟩ : ∃ W, (w.alloc (.cells #[.int .i64 early] 3)).alloc (.cells #[.bool false] 4) = W := ⟨_, rfl⟩
  have hs0 : w0.heap.size = w.heap.size + 2 := by rw [← hw0]; simp
  have HB0 : Hid (Below w.heap.size w w0) := Lib.hid (by rw [← hw0]; exact below_al (below_al (Below.refl _ _) _) _)
  have HE0 : Hid (Bk w0 w.heap.size 3 #[.int .i64 early]) := Lib.hid (by rw [← hw0]; exact (Bk.new w 3 _).alloc _)
  have HR0 : Hid (Bk w0 (w.heap.size + 1) 4 #[.bool false]) := Lib.hid (by rw [← hw0]; exact Bk.new' (by simp))
  rw [hw0]
  clear hw0
  refine ⟨trivial, ?_⟩
  gi_at_call 8
  refine (callsIn_wide.2 (HL.out w0 (bel_tabs HT.out HB0.out))).mono ?_
  rintro e w1 ⟨rfl, hb⟩
  have HB1 := Lib.hid (bel_t HB0.out hb)
  have HE1 := Lib.hid (Bk.below HE0.out hb (by omega))
  have HR1 := Lib.hid (Bk.below HR0.out hb (by omega))
  have HS1 : Hid (w.heap.size + 2 ≤ w1.heap.size) := Lib.hid (by have := hb.size; omega)
  clear hb HB0 HE0 HR0 hs0
  gi_wp2
  refine ⟨trivial, ?_⟩
  gi_at_call 17
  refine (callsIn_wide.2 (HAL.out w1 (bel_tabs HT.out HB1.out))).mono ?_
  rintro e w2 ⟨v, rfl, hr0⟩
  obtain ⟨A, m, c, rfl, hm, _, hr, hb⟩ := rowP_at hr0
  have HB2 := Lib.hid (bel_t HB1.out hb)
  have HE2 := Lib.hid (Bk.below HE1.out hb (by have := HS1.out; omega))
  have HR2 := Lib.hid (Bk.below HR1.out hb (by have := HS1.out; omega))
  have HS2 : Hid (w.heap.size + 2 ≤ w2.heap.size) := Lib.hid (by have := hb.size; have := HS1.out; omega)
  have HM := Lib.hid hm
  have HX2 := Lib.hid hr
  have hmn : m ≤ 201 := by rw [hm]; exact HXN.out
  have HP := Lib.hid (fun W => Kit.pick_c early ((m : Int) + 1) W (by simp [Lit.wf, IntKind.min, IntKind.max, IntKind.signed, IntKind.bits]; have := HW.out; omega) (by simp [Lit.wf, IntKind.min, IntKind.max, IntKind.signed, IntKind.bits]; omega))
  obtain ⟨p1, p2⟩ := Kit.pick_lt (n := early) (m := (m : Int) + 1) (by omega)
  obtain ⟨ev, hev⟩ : ∃ ev : Nat, Kit.pick early ((m : Int) + 1) = (ev : Int) := ⟨(Kit.pick early ((m : Int) + 1)).toNat, by omega⟩
  rw [hev] at HP
  have hem : ev ≤ m := by omega
  have c0 := HE2.out.cell 0
  have f0 := HE2.out.frozen 0
  have hz2 : w.heap.size < w2.heap.size := by have := HS2.out; omega
  clear hr0 hr hb hm HB1 HE1 HR1 HS1 HAL HL p1 p2 hev
  gi_wp2_with (refine ⟨trivial, ?_⟩; gi_at_call 18; refine (callsIn_wide.2 (HP.out _)).mono ?_; rintro e w' ⟨rfl, rfl⟩)
  refine ⟨trivial, ?_⟩
  gi_at_call 19
  refine (callsIn_wide.2 (HE.out _)).mono ?_
  rintro e w3 ⟨rfl, rfl⟩
  gi_wp2
  obtain ⟨W0, hW0⟩ : ∃ W, (((w2.setCell ⟨w.heap.size, 0, none⟩ (.int .i64 (ev : Int))).alloc (.cells #[.slice A m c] 23)).alloc (.cells #[.int .i64 0] 3)).alloc (.cells #[.string s] 9) = W := ⟨_, rfl⟩
  have hs3 : W0.heap.size = w2.heap.size + 3 := by rw [← hW0]; simp
  have hE3 := ((((HE2.out.set_ 0 (.int .i64 (ev : Int))).alloc (.cells #[.slice A m c] 23)).alloc (.cells #[.int .i64 0] 3)).alloc (.cells #[.string s] 9))
  have hR3 := ((((Bk.far (p := ⟨w.heap.size, 0, none⟩) HR2.out (show w.heap.size + 1 ≠ w.heap.size by omega) (.int .i64 (ev : Int))).alloc (.cells #[.slice A m c] 23)).alloc (.cells #[.int .i64 0] 3)).alloc (.cells #[.string s] 9))
  have HB3 : Hid (Below w.heap.size w W0) := Lib.hid (by rw [← hW0]; exact below_al (below_al (below_al (HB2.out.setCell (p := ⟨w.heap.size, 0, none⟩) (Nat.le_refl _) _) _) _) _)
  rw [hW0] at hE3 hR3
  have HE3 : Hid (Bk W0 w.heap.size 3 #[.int .i64 (ev : Int)]) := Lib.hid hE3
  have HR3 : Hid (Bk W0 (w.heap.size + 1) 4 #[.bool false]) := Lib.hid hR3
  have HL3 : Hid (Bk W0 w2.heap.size 23 #[.slice A m c]) := Lib.hid (by rw [← hW0]; exact ((Bk.new' (by simp)).alloc _).alloc _)
  have HN3 : Hid (Bk W0 (w2.heap.size + 1) 3 #[.int .i64 0]) := Lib.hid (by rw [← hW0]; exact (Bk.new' (by simp)).alloc _)
  have HC3 : Hid (Bk W0 (w2.heap.size + 2) 9 #[.string s]) := Lib.hid (by rw [← hW0]; exact Bk.new' (by simp))
  have HX3 : Hid (Rdr W0 w2.heap.size A m (Tx s)) := Lib.hid (by
    rw [← hW0]
    have h1 := rdr_far HX2.out HE2.out (.int .i64 (ev : Int))
    refine h1.keep (fun p hp => ?_)
    exact (((Below.refl w2.heap.size (w2.setCell ⟨w.heap.size, 0, none⟩ (.int .i64 (ev : Int)))).alloc (by simp) _).alloc (by simp) _ |>.alloc (by simp; omega) _).cell hp)
  have HT3 : Hid (Lib.Utf8Tabs 0 1 W0) := Lib.hid (bel_tabs HT.out HB3.out)
  have l0 : 0 < w.heap.size := World.block_lt_of_cell? w _ (HT.out.1 0 (by omega))
  have l1 : 1 < w.heap.size := World.block_lt_of_cell? w _ (HT.out.2 0 (by omega)).1
  rw [hW0]
  clear hW0 hE3 hR3 c0 f0 HB2 HE2 HR2 HP HX2
  have hwl : w.heap.size + 2 ≤ w2.heap.size := HS2.out
  clear HS2 hz2
  generalize w2.heap.size = L at *
  refine wpIn_rangeR hn1 (gf := 27) (fb := #[]) (lb := #[.pointer (some ⟨L + 2, 0, none⟩)]) rfl (enters_of Tryd.func27 (by kernel_rfl) rfl)
    (each_seq (n - 1) (by omega) (L + 1) (L + 2) s (by have := HS.out; omega) W0 (HC3.out.cell 0) HT3.out ⟨by omega, by omega, by omega⟩) (by omega) (Below.refl _ _) (fun _ => rfl)
    (fun R W1 X hs1 ho => by obtain ⟨h1, h2⟩ := ho; omega) (fun _ _ _ _ _ _ => trivial)
    (EacI (L + 1) W0 (ev : Int)) (EacX (L + 1) W0 (ev : Int)) (eacI_ab (L + 1) W0 (by omega) (ev : Int)) (eacX_own (L + 1) W0 (by omega) (ev : Int))
    ?start
    (fun x a' W => ∃ Bx, W0.heap.size ≤ Bx ∧ BoxT W Bx s x ∧ a' = { tmps := #[.string s, .int .i64 early, undef, .pointer (some ⟨w.heap.size, 0, none⟩), .pointer (some ⟨w.heap.size + 1, 0, none⟩), .pointer (some ⟨L, 0, none⟩), .bool true, .pointer (some ⟨L + 1, 0, none⟩), .pointer (some ⟨Bx, 0, none⟩), undef, undef, .bool true, .bool false, .string s, .int .i64 (s.size : Int), .bool false, .tuple #[.slice A m c, .bool true], .string s, .tuple #[.slice A m c, .bool true], .slice A m c, .bool true, .bool true, .bool false, .int .i64 early, .slice A m c, .int .i64 (m : Int), .int .i64 ((m : Int) + 1), .int .i64 (ev : Int), .string s, .func (.func 27) #[] #[.pointer (some ⟨L + 1 + 1, 0, none⟩)], .agg (tokVs s x).toArray, undef, undef, undef, undef, undef, undef, undef, undef, undef, undef, undef, undef, undef, undef, undef, undef, undef, undef, undef, undef, undef, undef, undef, undef, undef, undef, undef, undef, undef, undef, undef, undef, undef, undef, undef, undef, undef, undef, undef, undef, undef, undef, undef, undef, undef, undef, undef, undef, undef, undef, undef, undef, undef, undef, undef, undef, undef, undef, undef, undef, undef, undef, undef, undef, undef], defers := [] })
    (fun x a' => by
      rintro u X Y row ⟨Bx, hlt, hx, he⟩ hg hr
      exact ⟨Bx, hlt, boxT_own Bx s x () X Y row hx hg (fun r e => (hr r e).2), he⟩) ?assign ?body ?done ?stop
  case start =>
    rintro R W1 X hb1 hs1 ⟨h1, h2⟩ hbX
    exact ⟨((hbX.block _ (by omega)).trans (hb1.block _ (by omega))).trans HN3.out, grown_weak _ (below_grown (hb1.trans (hbX.mono (by omega)))), h2, by omega, by show (0 : Int) ≤ (ev : Int); omega⟩
  case assign =>
    rintro l R pre x W K ⟨hn', hB, hlt, hl, he⟩ hK
    unfold encT tokV
    gi_wp2
    have hsz := hB.size
    refine hK _ _ ((KeepsOthers.alloc _ _).from _) (kps_alloc _ (by omega) hlt) ?_ ⟨W.heap.size, by omega, World.alloc_heap_new W _, rfl⟩
    exact ⟨Bk.alloc hn' _, ⟨hB.os, hB.tape, hB.output, by rw [World.size_alloc]; omega, fun k hk hne => (Below.heap_alloc W _ k (by omega)).trans (hB.block k hk hne)⟩, by rw [World.size_alloc]; omega, hl, he⟩
  case body =>
    rintro l R pre x a' W hl _ _ ⟨hn', hB, hlt, hRl, he⟩ ⟨Bx, hBx, hbx, rfl⟩ hpx
    obtain ⟨b0, b1, b2⟩ := hbx.cells
    have hsz := hB.size
    have hEW : Bk W w.heap.size 3 #[.int .i64 (ev : Int)] := (hB.block w.heap.size (by omega) (by simp; omega)).trans HE3.out
    have hLW : Bk W L 23 #[.slice A m c] := (hB.block L (by omega) (by simp)).trans HL3.out
    have c1 := hEW.cell 0
    have c2 := hLW.cell 0
    have c3 := hn'.cell 0
    have f3 := hn'.frozen 0
    have HN8 := Lib.hid hn'
    have HB8 := Lib.hid hB
    have HX8 : Hid (Rdr W L A m (Tx s)) := Lib.hid (HX3.out.keep (fun p hp => World.cell?_of_block (hB.block p.block (by omega) (by simp; omega))))
    by_cases hE : pre.length = ev
    · subst hE
      clear hEW hLW hbx hB hn' hpx
      gi_wp2
      exact ⟨KeepsFrom.refl _ _, rfl, HN8.out, HB8.out⟩
    · have hx : (Tx s)[pre.length]? = some (tvOf s x) := by
        rw [← tvs_tl]
        unfold tvs
        rw [List.getElem?_map]
        obtain ⟨z, hz⟩ := hpx
        rw [← hz, List.append_assoc, List.getElem?_append_right (Nat.le_refl _), Nat.sub_self]
        rfl
      have hplt : pre.length < m := by have := (List.getElem?_eq_some_iff.1 hx).1; rw [HM.out]; exact this
      obtain ⟨ab, ao, rfl, _, hc1, hc2, hc3⟩ := tv_at HX8.out hx
      unfold tvOf at hc1 hc2 hc3
      dsimp only at hc1 hc2 hc3
      have hne2 : ∀ Y, (Go.Op.equalIn 10000 33 (.agg #[.int .i64 (x.k : Int), .string (s.extract x.p x.b), .int .i64 (x.p : Int)]) (.agg #[.int .i64 (x.k : Int), .string (s.extract x.p x.b), .int .i64 (x.p : Int)])).run Tryd.prog Y = .ok true Y := fun Y => by
        have := tokEq (tvOf s x) (tvOf s x) Y
        rwa [decide_eq_true rfl] at this
      have hnE : ((pre.length : Int) == (ev : Int)) = false := by simp; omega
      have hnE2 : ((pre.length : Int) = (ev : Int)) = False := eq_false (by omega)
      have hpi : (pre.length : Int) < (m : Int) := by omega
      have hpi0 : (0 : Int) ≤ (pre.length : Int) := by omega
      have HPE : Hid ((pre.length : Int) + 1 ≤ (ev : Int)) := Lib.hid (by omega)
      have HPL : Hid (((pre ++ [x]).length : Int) = (pre.length : Int) + 1) := Lib.hid (by rw [List.length_append, List.length_singleton]; omega)
      generalize hpq : pre.length = pl at *
      clear hEW hLW hbx hB hn' hpx hx hE he
      have hfin : KeepsFrom W0.heap.size W ((W.setCell ⟨L + 1, 0, none⟩ (.int .i64 ((pl : Int) + 1))).drew) ∧ Kps (L + 1) R W ((W.setCell ⟨L + 1, 0, none⟩ (.int .i64 ((pl : Int) + 1))).drew) ∧ EacI (L + 1) W0 (ev : Int) R (pre ++ [x]) ((W.setCell ⟨L + 1, 0, none⟩ (.int .i64 ((pl : Int) + 1))).drew) := by
        have hko : KeepsOthers W ((W.setCell ⟨L + 1, 0, none⟩ (.int .i64 ((pl : Int) + 1))).drew) := ⟨(KeepsOthers.setCell W _ _).size, fun k o hk ho => (KeepsOthers.setCell W ⟨L + 1, 0, none⟩ _).same k o hk ho⟩
        have hbl : ∀ k, k ≠ L + 1 → ((W.setCell ⟨L + 1, 0, none⟩ (.int .i64 ((pl : Int) + 1))).drew).heap[k]? = W.heap[k]? := fun k hk => Below.heap_setCell W ⟨L + 1, 0, none⟩ _ k hk
        have h8 := HB8.out
        refine ⟨hko.from _, ⟨⟨rfl, rfl, rfl, hko.size, fun k hk => hbl k (by omega)⟩, hko.walks, hbl R (by omega)⟩, ?_, ⟨h8.os, h8.tape, h8.output, Nat.le_trans h8.size hko.size, fun k hk hne => (hbl k (fun e => hne (by rw [e]))).trans (h8.block k hk hne)⟩, Nat.lt_of_lt_of_le hlt hko.size, hRl, ?_⟩
        · rw [HPL.out]
          exact (show Bk _ _ _ _ from Bk.set_ HN8.out 0 _)
        · rw [HPL.out]; exact HPE.out
      gi_wp2
      gi_region_with_o (fail)
      all_goals (gi_wp2; exact hfin)
  case done =>
    rintro D R W hD hne ⟨hn', hG, hlt, hRl, he⟩ _ hK
    have hlen : (tl s s.size 0 0 4).1.length = m := by rw [HM.out, ← tvs_tl, tvs_len]
    rw [hlen] at hn' he
    rw [show (m : Int) = (ev : Int) by omega] at hn'
    have hN := hn'
    have HK := Lib.hid hK
    have HDD := Lib.hid hD
    have HG := Lib.hid hG
    have HN6 := Lib.hid hN
    have HBW : Hid (Below w.heap.size w W) := Lib.hid (HB3.out.trans ⟨hG.os, hG.tape, hG.output, hG.size, fun k hk => hG.block k (by omega) (by simp; omega)⟩)
    have HTW := Lib.hid (bel_tabs HT.out HBW.out)
    have he := hG.block w.heap.size (by omega) (by simp; omega)
    have hr' := hG.block (w.heap.size + 1) (by omega) (by simp; omega)
    have hl' := hG.block L (by omega) (by simp)
    have HEW : Hid (Bk W w.heap.size 3 #[.int .i64 (ev : Int)]) := Lib.hid (he.trans HE3.out)
    have HRW : Hid (Bk W (w.heap.size + 1) 4 #[.bool false]) := Lib.hid (hr'.trans HR3.out)
    have HLW : Hid (Bk W L 23 #[.slice A m c]) := Lib.hid (hl'.trans HL3.out)
    have HXW : Hid (Rdr W L A m (Tx s)) := Lib.hid (HX3.out.keep (fun p hp => World.cell?_of_block (hG.block p.block (by omega) (by simp; omega))))
    have HSW : Hid (L + 3 ≤ W.heap.size) := Lib.hid (by have := hG.size; omega)
    have n0 := hN.cell 0
    have HTI := Lib.hid (times_l 120 ev (by omega) W)
    clear hK hD hG hN he hr' hl'
    gi_wp2
    refine ⟨trivial, ?_⟩
    gi_at_call 12
    refine (callsIn_wide.2 HTI.out).mono ?_
    rintro e w5 ⟨z, rfl, hz, hzs, hb⟩
    have HB5 := Lib.hid hb
    have hze : z.size = ev := by rw [← bs_size, show Bs z = _ from hz.out, List.length_replicate]
    have k1 : (9223372036854775807 < 2 + z.size) = False := eq_false (by omega)
    have k2 : (9223372036854775807 < 2 + z.size + 2) = False := eq_false (by omega)
    have k3 : (9223372036854775807 < 2 + z.size + 2 + s.size) = False := eq_false (by have := HS.out; omega)
    have HA2 := Lib.hid (all_pre s z ev HS.out (by omega) hz.out w5 (bel_tabs HTW.out hb))
    clear HTI hb hzs hze n0
    gi_wp2
    refine ⟨trivial, ?_⟩
    gi_at_call 17
    refine (callsIn_wide.2 HA2.out).mono ?_
    rintro e w6 ⟨v, rfl, hr0⟩
    obtain ⟨B, m2, d, rfl, hm2, _, hr, hb⟩ := rowP_at hr0
    have HB6 : Hid (Below W.heap.size W w6) := Lib.hid (bel_t HB5.out hb)
    have hmm : m2 = m := by rw [hm2, List.length_map, HM.out]
    subst hmm
    have HY6 := Lib.hid hr
    have HX6 : Hid (Rdr w6 L A m2 (Tx s)) := Lib.hid (HXW.out.keep (fun p hp => HB6.out.cell (by have := HSW.out; omega)))
    have HE6 := Lib.hid (Bk.below HEW.out HB6.out (by have := HSW.out; omega))
    have HR6 := Lib.hid (Bk.below HRW.out HB6.out (by have := HSW.out; omega))
    have HL6 := Lib.hid (Bk.below HLW.out HB6.out (by have := HSW.out; omega))
    have HN7 := Lib.hid (Bk.below HN6.out HB6.out (by have := HSW.out; omega))
    have HK6 : Hid (w6.heap[D]? = some (.deferred (some []))) := Lib.hid ((HB6.out.block D (Array.getElem?_eq_some_iff.1 HK.out).1).trans HK.out)
    have HBX : Hid (Below w.heap.size w w6) := Lib.hid (bel_t HBW.out HB6.out)
    have c1 := HE6.out.cell 0
    have c2 := HL6.out.cell 0
    have c3 := HN7.out.cell 0
    clear hr0 hr hb hm2 k1 k2 k3 HA2 HB5 HB6 HXW HEW HRW HLW HN6 HK HBW HTW
    gi_wp2
    gi_loopw [10] (fun i wr => ∃ k q : Nat, k ≤ m2 ∧ i = .int .i64 k ∧ wr = w6.drewN q) (fun i _ => m2 - (intOf i).toNat)
    case atStart => exact ⟨0, 0, Nat.zero_le _, rfl, rfl⟩
    case round =>
      obtain ⟨k, q, hk, rfl, rfl⟩ := hrel
      by_cases hlt : k < m2
      · obtain ⟨x, hx⟩ : ∃ x, (Tx s)[k]? = some x := ⟨_, List.getElem?_eq_getElem (by rw [← HM.out]; exact hlt)⟩
        have hy : ((Tx s).map (mvT (ev + 4)))[k]? = some (mvT (ev + 4) x) := by rw [List.getElem?_map, hx]; rfl
        obtain ⟨ab, ao, rfl, _, hc1, hc2, hc3⟩ := tv_at HX6.out hx
        obtain ⟨bb, bo, rfl, _, hd1, hd2, hd3⟩ := tv_at HY6.out hy
        unfold mvT at hd1 hd2
        obtain ⟨xk, xt, xp⟩ := x
        dsimp only at hc1 hc2 hd1 hd2
        have hki : (k : Int) < (m2 : Int) := by omega
        have hk0 : (0 : Int) ≤ (k : Int) := by omega
        have HLT := Lib.hid hlt
        clear hx hy hc3 hd3 hlt hk
        gi_wp2
        refine wpIn_wide.2 ?_
        go_quiet (fail)
        gi_wp2
        go_roundw
        case rel => exact ⟨k + 1, _, HLT.out, by go_num, by first | rfl | exact World.drewN_drewN _ _ _⟩
        case measure => (have := HLT.out; simp [intOf] <;> omega)
      · obtain rfl : k = m2 := by omega
        have r0 : (w6.drewN q).cell? ⟨w.heap.size + 1, 0, none⟩ = some (.bool false) := HR6.out.cell 0
        have rf : (w6.drewN q).frozen? ⟨w.heap.size + 1, 0, none⟩ = false := HR6.out.frozen 0
        have lq : (w6.drewN q).cell? ⟨L, 0, none⟩ = some (.slice A k c) := HL6.out.cell 0
        have HKq : Hid ((w6.drewN q).heap[D]? = some (.deferred (some []))) := Lib.hid HK6.out
        have HRq : Hid (Bk (w6.drewN q) (w.heap.size + 1) 4 #[.bool false]) := Lib.hid HR6.out
        have HBq : Hid (Below w.heap.size w (w6.drewN q)) := Lib.hid (bel_t HBX.out (bel_drN w6 q))
        generalize w6.drewN q = w7 at *
        gi_wp2
        have hK2 : (w7.setCell ⟨w.heap.size + 1, 0, none⟩ (.bool true)).heap[D]? = some (.deferred (some [])) := (KeepsOthers.setCell _ _ _).same D _ HKq.out rfl
        have b4 := ((HRq.out.set_ 0 (.bool true)).putObj (.deferred none) hK2 rfl).cell 0
        refine ⟨by simp, .inl ⟨_, _, rfl, run_takeDeferred hK2, ?_⟩⟩
        refine ⟨_, run_bool_cell rfl _ _ (w.heap.size + 1) true rfl b4, rfl, ?_⟩
        have hfin : Below w.heap.size (w7.setCell ⟨w.heap.size + 1, 0, none⟩ (.bool true)) ((w7.setCell ⟨w.heap.size + 1, 0, none⟩ (.bool true)).putObj D (.deferred none)) := ⟨rfl, rfl, rfl, by simp, fun k hk => World.putObj_heap_other (by have := HDD.out; have := hs3; omega)⟩
        exact (HBq.out.setCell (p := ⟨w.heap.size + 1, 0, none⟩) (by show w.heap.size ≤ w.heap.size + 1; omega) _).trans hfin

  case stop =>
    rintro D R cc pre W hD hpre ⟨rfl, hN, hG⟩ hK
    have HK := Lib.hid hK
    have HDD := Lib.hid hD
    have HG := Lib.hid hG
    have HN6 := Lib.hid hN
    have HBW : Hid (Below w.heap.size w W) := Lib.hid (HB3.out.trans ⟨hG.os, hG.tape, hG.output, hG.size, fun k hk => hG.block k (by omega) (by simp; omega)⟩)
    have HTW := Lib.hid (bel_tabs HT.out HBW.out)
    have he := hG.block w.heap.size (by omega) (by simp; omega)
    have hr' := hG.block (w.heap.size + 1) (by omega) (by simp; omega)
    have hl' := hG.block L (by omega) (by simp)
    have HEW : Hid (Bk W w.heap.size 3 #[.int .i64 (ev : Int)]) := Lib.hid (he.trans HE3.out)
    have HRW : Hid (Bk W (w.heap.size + 1) 4 #[.bool false]) := Lib.hid (hr'.trans HR3.out)
    have HLW : Hid (Bk W L 23 #[.slice A m c]) := Lib.hid (hl'.trans HL3.out)
    have HXW : Hid (Rdr W L A m (Tx s)) := Lib.hid (HX3.out.keep (fun p hp => World.cell?_of_block (hG.block p.block (by omega) (by simp; omega))))
    have HSW : Hid (L + 3 ≤ W.heap.size) := Lib.hid (by have := hG.size; omega)
    have n0 := hN.cell 0
    have HTI := Lib.hid (times_l 120 ev (by omega) W)
    clear hK hD hG hN he hr' hl'
    gi_wp2
    refine ⟨trivial, ?_⟩
    gi_at_call 12
    refine (callsIn_wide.2 HTI.out).mono ?_
    rintro e w5 ⟨z, rfl, hz, hzs, hb⟩
    have HB5 := Lib.hid hb
    have hze : z.size = ev := by rw [← bs_size, show Bs z = _ from hz.out, List.length_replicate]
    have k1 : (9223372036854775807 < 2 + z.size) = False := eq_false (by omega)
    have k2 : (9223372036854775807 < 2 + z.size + 2) = False := eq_false (by omega)
    have k3 : (9223372036854775807 < 2 + z.size + 2 + s.size) = False := eq_false (by have := HS.out; omega)
    have HA2 := Lib.hid (all_pre s z ev HS.out (by omega) hz.out w5 (bel_tabs HTW.out hb))
    clear HTI hb hzs hze n0
    gi_wp2
    refine ⟨trivial, ?_⟩
    gi_at_call 17
    refine (callsIn_wide.2 HA2.out).mono ?_
    rintro e w6 ⟨v, rfl, hr0⟩
    obtain ⟨B, m2, d, rfl, hm2, _, hr, hb⟩ := rowP_at hr0
    have HB6 : Hid (Below W.heap.size W w6) := Lib.hid (bel_t HB5.out hb)
    have hmm : m2 = m := by rw [hm2, List.length_map, HM.out]
    subst hmm
    have HY6 := Lib.hid hr
    have HX6 : Hid (Rdr w6 L A m2 (Tx s)) := Lib.hid (HXW.out.keep (fun p hp => HB6.out.cell (by have := HSW.out; omega)))
    have HE6 := Lib.hid (Bk.below HEW.out HB6.out (by have := HSW.out; omega))
    have HR6 := Lib.hid (Bk.below HRW.out HB6.out (by have := HSW.out; omega))
    have HL6 := Lib.hid (Bk.below HLW.out HB6.out (by have := HSW.out; omega))
    have HN7 := Lib.hid (Bk.below HN6.out HB6.out (by have := HSW.out; omega))
    have HK6 : Hid (w6.heap[D]? = some (.deferred (some []))) := Lib.hid ((HB6.out.block D (Array.getElem?_eq_some_iff.1 HK.out).1).trans HK.out)
    have HBX : Hid (Below w.heap.size w w6) := Lib.hid (bel_t HBW.out HB6.out)
    have c1 := HE6.out.cell 0
    have c2 := HL6.out.cell 0
    have c3 := HN7.out.cell 0
    clear hr0 hr hb hm2 k1 k2 k3 HA2 HB5 HB6 HXW HEW HRW HLW HN6 HK HBW HTW
    gi_wp2
    gi_loopw [10] (fun i wr => ∃ k q : Nat, k ≤ m2 ∧ i = .int .i64 k ∧ wr = w6.drewN q) (fun i _ => m2 - (intOf i).toNat)
    case atStart => exact ⟨0, 0, Nat.zero_le _, rfl, rfl⟩
    case round =>
      obtain ⟨k, q, hk, rfl, rfl⟩ := hrel
      by_cases hlt : k < m2
      · obtain ⟨x, hx⟩ : ∃ x, (Tx s)[k]? = some x := ⟨_, List.getElem?_eq_getElem (by rw [← HM.out]; exact hlt)⟩
        have hy : ((Tx s).map (mvT (ev + 4)))[k]? = some (mvT (ev + 4) x) := by rw [List.getElem?_map, hx]; rfl
        obtain ⟨ab, ao, rfl, _, hc1, hc2, hc3⟩ := tv_at HX6.out hx
        obtain ⟨bb, bo, rfl, _, hd1, hd2, hd3⟩ := tv_at HY6.out hy
        unfold mvT at hd1 hd2
        obtain ⟨xk, xt, xp⟩ := x
        dsimp only at hc1 hc2 hd1 hd2
        have hki : (k : Int) < (m2 : Int) := by omega
        have hk0 : (0 : Int) ≤ (k : Int) := by omega
        have HLT := Lib.hid hlt
        clear hx hy hc3 hd3 hlt hk
        gi_wp2
        refine wpIn_wide.2 ?_
        go_quiet (fail)
        gi_wp2
        go_roundw
        case rel => exact ⟨k + 1, _, HLT.out, by go_num, by first | rfl | exact World.drewN_drewN _ _ _⟩
        case measure => (have := HLT.out; simp [intOf] <;> omega)
      · obtain rfl : k = m2 := by omega
        have r0 : (w6.drewN q).cell? ⟨w.heap.size + 1, 0, none⟩ = some (.bool false) := HR6.out.cell 0
        have rf : (w6.drewN q).frozen? ⟨w.heap.size + 1, 0, none⟩ = false := HR6.out.frozen 0
        have lq : (w6.drewN q).cell? ⟨L, 0, none⟩ = some (.slice A k c) := HL6.out.cell 0
        have HKq : Hid ((w6.drewN q).heap[D]? = some (.deferred (some []))) := Lib.hid HK6.out
        have HRq : Hid (Bk (w6.drewN q) (w.heap.size + 1) 4 #[.bool false]) := Lib.hid HR6.out
        have HBq : Hid (Below w.heap.size w (w6.drewN q)) := Lib.hid (bel_t HBX.out (bel_drN w6 q))
        generalize w6.drewN q = w7 at *
        gi_wp2
        have hK2 : (w7.setCell ⟨w.heap.size + 1, 0, none⟩ (.bool true)).heap[D]? = some (.deferred (some [])) := (KeepsOthers.setCell _ _ _).same D _ HKq.out rfl
        have b4 := ((HRq.out.set_ 0 (.bool true)).putObj (.deferred none) hK2 rfl).cell 0
        refine ⟨by simp, .inl ⟨_, _, rfl, run_takeDeferred hK2, ?_⟩⟩
        refine ⟨_, run_bool_cell rfl _ _ (w.heap.size + 1) true rfl b4, rfl, ?_⟩
        have hfin : Below w.heap.size (w7.setCell ⟨w.heap.size + 1, 0, none⟩ (.bool true)) ((w7.setCell ⟨w.heap.size + 1, 0, none⟩ (.bool true)).putObj D (.deferred none)) := ⟨rfl, rfl, rfl, by simp, fun k hk => World.putObj_heap_other (by have := HDD.out; have := hs3; omega)⟩
        exact (HBq.out.setCell (p := ⟨w.heap.size + 1, 0, none⟩) (by show w.heap.size ≤ w.heap.size + 1; omega) _).trans hfin

set_option maxRecDepth 100000 in
set_option maxHeartbeats 8000000 in
/-- a source that is too long -/
theorem walk_l (w : World) (hT : Lib.Utf8Tabs 0 1 w) (s : ByteArray) (early : Int) (hs : ¬ s.size ≤ 200) :
    Calls Tryd.prog 6 #[.string s, .int .i64 early] w fun e w' => e = .returned (.bool true) ∧ Below w.heap.size w w' := by
  have HT := Lib.hid hT
  have HL := Lib.hid (fun W hT => lives_l W hT)
  have e1 : ((200 : Int) < (s.size : Int)) = True := eq_true (by omega)
  clear hT hs
  go_enter Tryd.func6, Tryd.ntmps6
  try simp only [List.append]
  go_wp2_with fail
  obtain ⟨w0, hw0⟩ : ∃ W, (w.alloc (.cells #[.int .i64 early] 3)).alloc (.cells #[.bool false] 4) = W := ⟨_, rfl⟩
  have hs0 : w0.heap.size = w.heap.size + 2 := by rw [← hw0]; simp
  have HB0 : Hid (Below w.heap.size w w0) := Lib.hid (by rw [← hw0]; exact below_al (below_al (Below.refl _ _) _) _)
  have HR0 : Hid (Bk w0 (w.heap.size + 1) 4 #[.bool false]) := Lib.hid (by rw [← hw0]; exact Bk.new' (by simp))
  rw [hw0]
  clear hw0
  go_at_call 8
  refine (HL.out w0 (bel_tabs HT.out HB0.out)).mono ?_
  rintro e w1 ⟨rfl, hb⟩
  have HB1 := Lib.hid (bel_t HB0.out hb)
  have HR1 := Lib.hid (Bk.below HR0.out hb (by omega))
  have r0 := HR1.out.cell 0
  have rf := HR1.out.frozen 0
  clear hb HB0 HR0 hs0
  go_wp2_with fail
  exact bodyPost_ret (run_bool_cell rfl _ _ (w.heap.size + 1) true rfl ((HR1.out.set_ 0 (.bool true)).cell 0)) rfl ⟨rfl, HB1.out.setCell (p := ⟨w.heap.size + 1, 0, none⟩) (by show w.heap.size ≤ w.heap.size + 1; omega) _⟩
theorem walk_ (w : World) (hT : Lib.Utf8Tabs 0 1 w) (s : ByteArray) (early : Int) (ws : s.size ≤ maxLen) (hw : -9223372036854775808 ≤ early ∧ early ≤ 9223372036854775807) :
    Calls Tryd.prog 6 #[.string s, .int .i64 early] w fun e w' => e = .returned (.bool true) ∧ Below w.heap.size w w' := by
  by_cases hs : s.size ≤ 200
  · exact (callsIn_wide (n := 9)).1 (walk_in 9 (by omega) w hT s early hs hw)
  · exact walk_l w hT s early hs
end scanEach
end Go.Proofs.YtaocplcmmpbjjaaDoor
