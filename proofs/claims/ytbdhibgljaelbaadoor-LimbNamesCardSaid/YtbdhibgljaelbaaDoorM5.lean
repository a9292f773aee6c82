/- The landed package limb: Steps, Ends; a run under way, what it sees. -/
import Derived.Test.YtbdhibgljaelbaaDoorM4
namespace Go.Proofs.YtbdhibgljaelbaaDoor
open Go Go.RowKit Go.Sort Go.Shelf
namespace Lb
open Wd Nt Gr
set_option linter.unusedVariables false
set_option linter.unusedSimpArgs false
theorem evP_le (p : Pg) (H : Ok p) : evP p.op ≤ 1125899906842624 := by
  have h1 := H.elen p.op.length (Nat.le_refl _)
  have h2 := H.frOk p.op.length (Nat.le_refl _)
  rw [H.fin] at h1
  have e : eAt p.op p.op.length = evF p.op := by unfold eAt; rw [List.take_length]
  rw [e] at h1 h2
  unfold evP
  match hq : evF p.op, h1 with
  | [x], _ => rw [hq] at h2; exact (h2 x (by simp)).2
set_option maxRecDepth 100000 in
set_option maxHeartbeats 2000000 in
theorem steps_l (p : Pg) (hp : p.wf) (A X : Option Addr) (c d : Nat) (w : World) (hT : TabF w) (hR : Rdr w w.heap.size A p.bf.length p.bf) (hX : Rdr w w.heap.size X p.op.length p.op) :
    Calls Tryd.prog 15 #[pgV p A c X d] w fun e w' => e = .returned (.int .i64 ((stepsP p : Nat) : Int)) ∧ Below w.heap.size w w' := by
  have HC := Lib.hid (fun (W : World) (hb : Below w.heap.size w W) => check_l p hp A X c d W (hT.keep hb) ((hR.below hb).more hb.size) ((hX.below hb).more hb.size))
  have HEV := Lib.hid (fun (h : (chkP p).2 = 0) (W : World) (hb : Below w.heap.size w W) => events_l p (ok_of h) hp X d W ((hX.below hb).more hb.size))
  have HS : Hid (stepsP p = if (chkP p).2 = 0 then evP p.op else 0) := Lib.hid rfl
  have HLE := Lib.hid (fun (h : (chkP p).2 = 0) => evP_le p (ok_of h))
  generalize stepsP p = st at *
  generalize evP p.op = ev at *
  generalize chkP p = ck at *
  unfold pgV at *
  clear hT hR hX
  have HB0 := Lib.hid (bel_al (w := w) (.cells #[.int .i64 p.rg, .slice A p.bf.length c, .slice X p.op.length d] 26))
  have HK0 := Lib.hid (Bk.new w 26 #[.int .i64 p.rg, .slice A p.bf.length c, .slice X p.op.length d])
  go_enter Tryd.func15, Tryd.ntmps15
  go_wp2_with fail
  go_at_call 22
  refine (HC.out _ HB0.out).mono ?_
  rintro e w2 ⟨rfl, hb⟩
  have HB2 := Lib.hid (bel_tr HB0.out hb)
  have HK2 := Lib.hid (HK0.out.below hb HK0.out.lt)
  clear hb HC
  obtain ⟨a0, a1, a2⟩ := c3 HK2.out
  obtain ⟨k1, k2⟩ := ck
  dsimp only at *
  by_cases h : k2 = 0
  · subst h
    rw [if_pos rfl] at HS
    have hle := HLE.out (by first | exact rfl | trivial)
    have HE := Lib.hid (HEV.out (by first | exact rfl | trivial) w2 HB2.out)
    have hle4 : (ev : Int) ≤ 1125899906842624 := by omega
    have ew : IntKind.i64.wrap (ev : Int) = (ev : Int) := IntWalk.i64_in _ (by omega)
    go_wp2_with fail
    go_at_call 36
    refine HE.out.mono ?_
    rintro e w3 ⟨rfl, hb⟩
    have HB3 := Lib.hid (bel_tr HB2.out hb)
    clear hb
    go_wp2_with fail
    go_ret
    exact ⟨by rw [HS.out]; rfl, HB3.out⟩
  · rw [if_neg h] at HS
    have hne : (k2 != 0) = true := by simpa using h
    clear h
    go_wp2_with fail
    go_ret
    exact ⟨by rw [HS.out]; rfl, HB2.out⟩
theorem own_mono {w : World} {B B' : Nat} {e : TypeId} {s : Nat} {v : Value} {n : Nat} {xs : List Value} (h : w.ownsRow B e s v n xs) (hb : B' ≤ B) : w.ownsRow B' e s v n xs := by
  rcases h.2 with h2 | ⟨g, cap, cur, e1, h2, h3⟩
  · exact ⟨h.1, .inl h2⟩
  · exact ⟨h.1, .inr ⟨g, cap, cur, e1, Nat.le_trans hb h2, h3⟩⟩
/-- what Ends tells -/
def endsP (p : Pg) : List Int := if (chkP p).2 = 0 then enP p.op else []
set_option maxRecDepth 100000 in
set_option maxHeartbeats 2000000 in
theorem endsX_l (p : Pg) (hp : p.wf) (A X : Option Addr) (c d : Nat) (w : World) (hT : TabF w) (hR : Rdr w w.heap.size A p.bf.length p.bf) (hX : Rdr w w.heap.size X p.op.length p.op) :
    Calls Tryd.prog 17 #[pgV p A c X d] w fun e w' => (∃ v, e = .returned v ∧ Rws 3 w.heap.size v (endsP p) w') ∧ Below w.heap.size w w' := by
  have HC := Lib.hid (fun (W : World) (hb : Below w.heap.size w W) => check_l p hp A X c d W (hT.keep hb) ((hR.below hb).more hb.size) ((hX.below hb).more hb.size))
  have HEV := Lib.hid (fun (h : (chkP p).2 = 0) (W : World) (hb : Below w.heap.size w W) => ends_l p (ok_of h) hp X d W ((hX.below hb).more hb.size))
  have HS : Hid (endsP p = if (chkP p).2 = 0 then enP p.op else []) := Lib.hid rfl
  generalize endsP p = st at *
  generalize enP p.op = ev at *
  generalize chkP p = ck at *
  unfold pgV at *
  clear hT hR hX
  have HB0 := Lib.hid (bel_al (w := w) (.cells #[.int .i64 p.rg, .slice A p.bf.length c, .slice X p.op.length d] 26))
  have HK0 := Lib.hid (Bk.new w 26 #[.int .i64 p.rg, .slice A p.bf.length c, .slice X p.op.length d])
  go_enter Tryd.func17, Tryd.ntmps17
  go_wp2_with fail
  go_at_call 22
  refine (HC.out _ HB0.out).mono ?_
  rintro e w2 ⟨rfl, hb⟩
  have HB2 := Lib.hid (bel_tr HB0.out hb)
  have HK2 := Lib.hid (HK0.out.below hb HK0.out.lt)
  clear hb HC
  obtain ⟨a0, a1, a2⟩ := c3 HK2.out
  obtain ⟨k1, k2⟩ := ck
  dsimp only at *
  by_cases h : k2 = 0
  · subst h
    rw [if_pos rfl] at HS
    have HE := Lib.hid (HEV.out (by first | exact rfl | trivial) w2 HB2.out)
    go_wp2_with fail
    go_at_call 38
    refine HE.out.mono ?_
    rintro e w3 ⟨⟨v, rfl, hv⟩, hb⟩
    have HB3 := Lib.hid (bel_tr HB2.out hb)
    have HV : Hid (Rws 3 w.heap.size v st w3) := Lib.hid (by rw [HS.out]; exact own_mono hv HB2.out.size)
    clear hb hv
    go_wp2_with fail
    go_ret
    exact ⟨⟨_, rfl, HV.out⟩, HB3.out⟩
  · rw [if_neg h] at HS
    have hne : (k2 != 0) = true := by simpa using h
    clear h
    go_wp2_with fail
    go_ret
    exact ⟨⟨_, rfl, by rw [HS.out]; exact World.ownsRow_nil _ _ _ _⟩, HB2.out⟩
/-! ### a run under way -/
def rgL (rg : Nat → Int) : List Value := (List.range 64).map fun i => .int .u64 (rg i)
theorem rgL_len (rg : Nat → Int) : (rgL rg).length = 64 := by unfold rgL; simp
theorem rgL_get (rg : Nat → Int) {i : Nat} (h : i < 64) : (rgL rg)[i]? = some (.int .u64 (rg i)) := by
  unfold rgL
  rw [List.getElem?_map, List.getElem?_range h]
  rfl
theorem rgL_set (rg : Nat → Int) {i : Nat} (h : i < 64) (v : Int) : (rgL rg).set i (.int .u64 v) = rgL (fun k => if k = i then v else rg k) := by
  apply List.ext_getElem?
  intro k
  rcases Nat.lt_or_ge k 64 with hk | hk
  · rw [rgL_get _ hk, List.getElem?_set, rgL_len]
    by_cases e : i = k
    · subst e; rw [if_pos rfl, if_pos hk, if_pos rfl]
    · rw [if_neg e, rgL_get _ hk, if_neg (fun e' => e e'.symm)]
  · rw [List.getElem?_eq_none (by rw [List.length_set, rgL_len]; exact hk), List.getElem?_eq_none (by rw [rgL_len]; exact hk)]
def rnA (ov ev : Value) (rg : Nat → Int) (rv sv : Value) : Array Value := (ov :: ev :: (rgL rg ++ [rv, sv])).toArray
section
variable {ov ev rv sv : Value} {rg : Nat → Int}
theorem rnA_0 : (rnA ov ev rg rv sv)[0]? = some ov := rfl
theorem rnA_1 : (rnA ov ev rg rv sv)[1]? = some ev := rfl
theorem rnA_rg {i : Nat} (h : i < 64) : (rnA ov ev rg rv sv)[2 + i]? = some (.int .u64 (rg i)) := by
  unfold rnA
  rw [List.getElem?_toArray, show 2 + i = i + 1 + 1 by omega, List.getElem?_cons_succ, List.getElem?_cons_succ, List.getElem?_append_left (by rw [rgL_len]; exact h), rgL_get rg h]
theorem rnA_66 : (rnA ov ev rg rv sv)[66]? = some rv := by
  unfold rnA
  rw [List.getElem?_toArray, show (66 : Nat) = 64 + 1 + 1 from rfl, List.getElem?_cons_succ, List.getElem?_cons_succ, List.getElem?_append_right (by rw [rgL_len]; omega), rgL_len]
  rfl
theorem rnA_67 : (rnA ov ev rg rv sv)[67]? = some sv := by
  unfold rnA
  rw [List.getElem?_toArray, show (67 : Nat) = 65 + 1 + 1 from rfl, List.getElem?_cons_succ, List.getElem?_cons_succ, List.getElem?_append_right (by rw [rgL_len]; omega), rgL_len]
  rfl
theorem rnA_set {i : Nat} (h : i < 64) (v : Int) : (rnA ov ev rg rv sv).setIfInBounds (2 + i) (.int .u64 v) = rnA ov ev (fun k => if k = i then v else rg k) rv sv := by
  unfold rnA
  apply Array.ext'
  rw [Array.toList_setIfInBounds, show 2 + i = i + 1 + 1 by omega]
  show ov :: ev :: ((rgL rg ++ [rv, sv]).set i (.int .u64 v)) = _
  rw [List.set_append_left _ _ (by rw [rgL_len]; exact h), rgL_set rg h]
theorem rnA_set67 (u : Value) : (rnA ov ev rg rv sv).setIfInBounds 67 u = rnA ov ev rg rv u := by
  unfold rnA
  apply Array.ext'
  rw [Array.toList_setIfInBounds, show (67 : Nat) = 65 + 1 + 1 from rfl]
  show ov :: ev :: ((rgL rg ++ [rv, sv]).set 65 u) = _
  rw [List.set_append_right _ _ (by rw [rgL_len]; omega), rgL_len]
  rfl
end
theorem put_nat (rg : Nat → Int) (j : Nat) (v : Int) : put rg (j : Int) v = fun k => if k = j then v else rg k := by
  funext k
  unfold put
  rw [Int.toNat_natCast]
  by_cases h : k = j
  · rw [if_pos ⟨by omega, h⟩, if_pos h]
  · rw [if_neg (fun e => h e.2), if_neg h]
/-- a row, as the slice that it is -/
def slv (x : Nat × List Int) : Value := .slice (some ⟨x.1, 0, none⟩) x.2.length x.2.length
/-- rows, in blocks of one's own -/
structure RowsB (w : World) (B G : Nat) (xs : List (Nat × List Int)) : Prop where
  blk : Bk w G 43 (xs.map slv).toArray
  hG : B ≤ G
  each : ∀ x ∈ xs, B ≤ x.1 ∧ Bk w x.1 31 (us x.2) ∧ Ws x.2
  nd : (xs.map (·.1)).Nodup
theorem RowsB.below {w w' : World} {B G : Nat} {xs : List (Nat × List Int)} (h : RowsB w B G xs) (hb : Below w.heap.size w w') : RowsB w' B G xs :=
  ⟨h.blk.below hb h.blk.lt, h.hG, fun x hx => ⟨(h.each x hx).1, (h.each x hx).2.1.below hb (h.each x hx).2.1.lt, (h.each x hx).2.2⟩, h.nd⟩
theorem bk_far {w : World} {g a i : Nat} {t t' : TypeId} {cs cs' : Array Value} {u : Value} (h : Bk w g t cs) (h' : Bk w a t' cs') (hne : t ≠ t') : Bk (w.setCell ⟨a, i, none⟩ u) g t cs := by
  refine h.far (p := ⟨a, i, none⟩) ?_ u
  intro e
  subst e
  unfold Bk at h h'
  rw [h] at h'
  injection h' with h'
  injection h' with _ h2
  exact hne h2
theorem RowsB.far {w : World} {B G a i : Nat} {t' : TypeId} {cs' : Array Value} {u : Value} {xs : List (Nat × List Int)} (h : RowsB w B G xs) (h' : Bk w a t' cs') (h1 : 43 ≠ t') (h2 : 31 ≠ t') : RowsB (w.setCell ⟨a, i, none⟩ u) B G xs :=
  ⟨bk_far h.blk h' h1, h.hG, fun x hx => ⟨(h.each x hx).1, bk_far (h.each x hx).2.1 h' h2, (h.each x hx).2.2⟩, h.nd⟩
/-- the slice of ends, and what it holds -/
structure EnV where
  v : Value
  xs : List Int
theorem own_own {w w' : World} {B B' s s' n n' : Nat} {e e' : TypeId} {v v' : Value} {xs ys : List Value} (h : w.ownsRow B e s v n xs) (h' : w.ownsRow B' e' s' v' n' ys) (hne : e ≠ e') (hgr : w.grownBy w' v'.ownBlock) : w'.ownsRow B e s v n xs := by
  refine h.kept hgr ?_
  rcases h.2 with ⟨e1, _⟩ | ⟨g, cap, cur, e1, _, hg, _⟩
  · exact .inl (by rw [e1]; rfl)
  · refine .inr (fun e2 => ?_)
    rcases h'.2 with ⟨e3, _⟩ | ⟨g', cap', cur', e3, _, hg', _⟩
    · rw [e1, e3] at e2; cases e2
    · rw [e1, e3] at e2
      simp [Value.ownBlock] at e2
      subst e2
      rw [hg] at hg'
      injection hg' with hg'
      injection hg' with _ h2
      exact hne h2
/-- a run under way: registers, rows, what was seen -/
structure RnW (w : World) (B R : Nat) (ov : Value) (ev : EnV) (xs : List (Nat × List Int)) (rg : Nat → Int) (seen : List Ev) : Prop where
  ex : ∃ G sv, Bk w R 71 (rnA ov ev.v rg (.slice (some ⟨G, 0, none⟩) xs.length xs.length) sv) ∧ Rws 46 B sv seen w ∧ RowsB w B G xs
  en : Rws 3 B ev.v ev.xs w
  hR : B ≤ R
  rgs : ∀ i, W (rg i)
theorem RnW.below {w w' : World} {B R : Nat} {ov : Value} {ev : EnV} {xs : List (Nat × List Int)} {rg : Nat → Int} {seen : List Ev} (h : RnW w B R ov ev xs rg seen) (hb : Below w.heap.size w w') : RnW w' B R ov ev xs rg seen := by
  obtain ⟨G, sv, h1, h2, h3⟩ := h.ex
  exact ⟨⟨G, sv, h1.below hb h1.lt, own_below h2 hb, h3.below hb⟩, own_below h.en hb, h.hR, h.rgs⟩
theorem info_ev : (Tryd.prog.info? 46).map (fun i => (i.zero, i.size, i.bytes)) = some (some (.agg #[.int .i64 0, .int .i64 0]), 2, 16) := by kernel_rfl
set_option maxRecDepth 100000 in
set_option maxHeartbeats 2000000 in
theorem see_l (B R : Nat) (ov : Value) (ev : EnV) (xs : List (Nat × List Int)) (rg : Nat → Int) (seen : List Ev) (op at_ : Int) (w : World) (h : RnW w B R ov ev xs rg seen) (hB : B ≤ w.heap.size) (hn : seen.length ≤ 100000000) :
    Calls Tryd.prog 69 #[.pointer (some ⟨R, 0, none⟩), .int .i64 op, .int .i64 at_] w fun e w' => e = .returned (.tuple #[]) ∧ RnW w' B R ov ev xs rg (seen ++ [(op, at_)]) ∧ Below B w w' := by
  obtain ⟨G, sv, h1, h2, h3⟩ := h.ex
  obtain ⟨A, c, rfl, hc⟩ := rws_form h2
  obtain ⟨i, hi, hz, q2, q3⟩ := info_parts info_ev
  have hB1 : Below B w (w.alloc (.cells #[.int .i64 op, .int .i64 at_] 46)) := (bel_al _).mono hB
  obtain ⟨A5, c5, w5, hap, hown5, hgr5, _⟩ := app_one (W := w.alloc (.cells #[.int .i64 op, .int .i64 at_] 46)) (z := ((op, at_) : Ev)) 40 40 i _ 16 Tryd.underlying40 hi hz q2 q3 rfl (own_below h2 (bel_al _)) (Bk.new w _ _) (by omega) (by simp only [maxLen]; omega) (by rw [World.size_alloc]; omega)
  have h2a := own_below h2 (bel_al (.cells #[.int .i64 op, .int .i64 at_] 46))
  have HB5 : Hid (Below B w w5) := Lib.hid (own_grown h2a hgr5 hB1 (Nat.le_refl _) (by rw [World.size_alloc]; omega))
  have HK5 := Lib.hid (own_other h2a (h1.below (bel_al _) h1.lt) (by decide) hgr5)
  have h3a := h3.below (bel_al (.cells #[.int .i64 op, .int .i64 at_] 46))
  have HR5 : Hid (RowsB w5 B G xs) := Lib.hid ⟨own_other h2a h3a.blk (by decide) hgr5, h3a.hG, fun x hx => ⟨(h3a.each x hx).1, own_other h2a (h3a.each x hx).2.1 (by decide) hgr5, (h3a.each x hx).2.2⟩, h3a.nd⟩
  have HO5 := Lib.hid hown5
  have HEN5 : Hid (Rws 3 B ev.v ev.xs w5) := Lib.hid (own_own (own_below h.en (bel_al _)) h2a (by decide) hgr5)
  have g67 := (h1.cell 67).trans rnA_67
  have hRl := h1.lt
  have k67 := (HK5.out.cell 67).trans rnA_67
  have f67 := HK5.out.frozen 67
  have hRl5 := HK5.out.lt
  have HRG := Lib.hid (show B ≤ R ∧ ∀ i, W (rg i) from ⟨h.hR, h.rgs⟩)
  clear h1 h2 h3 h h2a h3a hgr5 hown5 hB1
  go_enter Tryd.func69, Tryd.ntmps69
  go_wp2_with (first | (at_builtin; refine wpList_append_eq rfl _ _ 40 rfl _ _ rfl rfl _ _ hap ?_) | fail)
  go_end0
  refine ⟨rfl, ⟨⟨G, .slice A5 (seen.length + 1) c5, ?_, ?_, ?_⟩, own_far HEN5.out HK5.out (by decide), HRG.out.1, HRG.out.2⟩, HB5.out.setCell (p := ⟨R, 67, none⟩) HRG.out.1 _⟩
  · rw [← rnA_set67]
    exact HK5.out.set_ _ _
  · exact own_far HO5.out HK5.out (by decide)
  · exact HR5.out.far HK5.out (by decide) (by decide)
end Lb
end Go.Proofs.YtbdhibgljaelbaaDoor
