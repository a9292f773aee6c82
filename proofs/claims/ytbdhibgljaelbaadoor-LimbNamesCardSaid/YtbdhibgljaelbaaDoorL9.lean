/- The landed package limb: what an operation counts as standing ahead. -/
import Derived.Test.YtbdhibgljaelbaaDoorL8
import Derived.StillTail
import Derived.StillTailTactics
namespace Go.Proofs.YtbdhibgljaelbaaDoor
open Go Go.RowKit Go.Sort Go.Shelf
namespace Lb
open Wd Nt Gr
set_option linter.unusedVariables false
set_option linter.unusedSimpArgs false
theorem own_drop {w : World} {B gl m c : Nat} {e : TypeId} {xs : List Int} (h : w.ownsRow B e 1 (.slice (some ⟨gl, 0, none⟩) (m + 1) c) (m + 1) (row xs)) (hl : xs.length = m + 1) : w.ownsRow B e 1 (.slice (some ⟨gl, 0, none⟩) m c) m (row xs.dropLast) := by
  rcases h.2 with ⟨e1, _⟩ | ⟨g', cap, cur, e1, h2, h3, h4, h5, h6, h7⟩
  · cases e1
  · cases e1
    refine ⟨by rw [row_len, List.length_dropLast, hl]; rfl, .inr ⟨gl, c, cur, rfl, h2, h3, by omega, h5, h6, ?_⟩⟩
    have e2 : row xs = row xs.dropLast ++ row [xs.getLast (by intro e; rw [e] at hl; cases hl)] := by rw [← row_app, List.dropLast_concat_getLast]
    have e3 : (row xs.dropLast).length = m := by rw [row_len, List.length_dropLast, hl]; show (m + 1 - 1) * 1 = m; omega
    have h8 := congrArg (List.take m) h7
    rw [List.take_take, Nat.mul_one, Nat.min_eq_left (Nat.le_succ m), e2, List.take_left' e3] at h8
    rw [Nat.mul_one]
    exact h8
theorem info_int : (Tryd.prog.info? 3).map (fun i => (i.zero, i.size, i.bytes)) = some (some (.int .i64 0), 1, 8) := by kernel_rfl
/-- a row of numbers of one's own, with one more -/
theorem appI {W : World} {B g2 : Nat} {v : Value} {xs : List Int} {z : Int} (ho : W.ownsRow B 3 1 v xs.length (row xs)) (hs : Bk W g2 3 #[.int .i64 z]) (hk : xs.length ≤ 100000) (hB : B ≤ W.heap.size) :
    ∃ v' w', (Builtin.append_ #[49, 49] 49 #[v, .slice (some ⟨g2, 0, none⟩) 1 1]).run Tryd.prog W = .ok v' w' ∧ w'.ownsRow B 3 1 v' (xs ++ [z]).length (row (xs ++ [z])) ∧ W.grownBy w' v.ownBlock := by
  obtain ⟨i, hi, hz, h2, h3⟩ := info_parts info_int
  obtain ⟨v', w3, hrun, h4, h5, _, _⟩ := run_append_own_at (P := Tryd.prog) (w := W) B 49 49 3 i _ 1 8 Tryd.underlying49 hi hz h2 h3 rfl (by omega) _ _ _ ho ⟨g2, 0, none⟩ 1 1 [.int .i64 z] rfl (fun j u hu => by
    have hj : j = 0 := by
      have := (List.getElem?_eq_some_iff.1 hu).1
      simp at this
      exact this
    subst hj
    simp at hu
    subst hu
    exact hs.cell 0) (fun u hu => by simp at hu; subst hu; rfl) (by simp only [maxLen]; omega) (by omega) hB
  refine ⟨v', w3, hrun, ?_, h5⟩
  rw [List.length_append, row_app]
  exact h4
theorem own_set {w : World} {g i B s n : Nat} {e t : TypeId} {u v : Value} {cs : Array Value} {xs : List Value} (h : w.ownsRow B e s v n xs) (hb : Bk w g t cs) (hne : e ≠ t) : (w.setCell ⟨g, i, none⟩ u).ownsRow B e s v n xs := by
  refine h.kept (row := some g) (only_setCell _ _ _ _) ?_
  rcases h.2 with ⟨e1, _⟩ | ⟨g', cap, cur, e1, _, hg, _⟩
  · exact .inl (by rw [e1]; rfl)
  · refine .inr (fun e' => ?_)
    rw [e1] at e'
    simp [Value.ownBlock] at e'
    subst e'
    unfold Bk at hb
    rw [hb] at hg
    injection hg with hg
    injection hg with _ h2
    exact hne h2.symm
theorem own_drew {w : World} {B s n : Nat} {e : TypeId} {v : Value} {xs : List Value} (h : w.ownsRow B e s v n xs) : w.drew.ownsRow B e s v n xs := h.kept (row := none) (only_drew _ _) (by cases hv : v.ownBlock <;> simp)
theorem own_al {w : World} {B s n : Nat} {e : TypeId} {v : Value} {xs : List Value} (o : Obj) (h : w.ownsRow B e s v n xs) : (w.alloc o).ownsRow B e s v n xs := h.kept (row := none) ⟨(bel_al (w := w) _).os, (bel_al (w := w) _).tape, (bel_al (w := w) _).output, (bel_al (w := w) _).size, fun k hk _ => (bel_al (w := w) _).block k hk⟩ (by cases hv : v.ownBlock <;> simp)
/-- append, by its run, as a step of a region that draws -/
theorem step_append_eq {P : Program} {ops : Array Oper} {o : Oper} {a : Act} {w : World} {K : Act → World → Prop} {Q : Exit → Act → World → Prop} {E : Prop}
    (hg : o.guard = none) (s x : Operand) (t : TypeId) (hop : o.op = Op.call { callee := Callee.builtin Builtin.append, args := #[s, x], argTypes := #[t, t] })
    (v sx : Value) (hs : a.eval s = v) (hx : a.eval x = sx) (v' : Value) (w' : World) (hrun : (Builtin.append_ #[t, t] o.type #[v, sx]).run P w = .ok v' w') (hK : K (a.put o.dst v') w') :
    if Region.wanted o (yielded ops a.tmps) = true then Oper.wp P o a w K Q else E := by
  have hw : Region.wanted o (yielded ops a.tmps) = true := by simp [Region.wanted, hg]
  rw [if_pos hw]
  unfold Oper.wp execOp
  simp only [hop, resolve, invoke, builtin, Sem.run_bind, Sem.run_pure, Result.andThen_ok, List.map_toArray, List.map_cons, List.map_nil, hs, hx, hrun]
  exact hK
theorem hD17 : hD 17 = false := by decide
set_option maxRecDepth 100000 in
set_option maxHeartbeats 8000000 in
theorem add_l (B g : Nat) (s : Ah) (o : Op) (ho : Rgs o) (hD1 : hD o.k = true → 0 ≤ o.d) (h17 : o.k = 17 → s.lp ≠ []) (w : World) (hA : AhW w B g s) (hnl : s.lp.length ≤ 8) (hB : B ≤ w.heap.size) :
    Calls Tryd.prog 47 #[.pointer (some ⟨g, 0, none⟩), .agg (Op.vs o).toArray] w fun e w' => e = .returned (.tuple #[]) ∧ AhW w' B g (adv s o) ∧ Below B w w' := by
  obtain ⟨A, c, hBk, hR, hlt, hcc, hown⟩ := hA.open_
  have HHG := Lib.hid hA.hg
  have HRG := Lib.hid hA.rg
  have HAD : Hid (adv s o = if o.k = 17 then ⟨setR s.md (s.lp.getLast?.getD (-1)) false, s.lp.dropLast⟩ else ⟨setR (setR s.md o.d true) o.e true, if o.k = 16 then s.lp ++ [o.d] else s.lp⟩) := Lib.hid rfl
  have HRO := Lib.hid ho
  generalize adv s o = t at *
  have HI0 := Lib.hid (Bk.new w 33 (Op.vs o).toArray)
  have HA0 := Lib.hid (hBk.alloc (.cells (Op.vs o).toArray 33))
  have HO0 : Hid ((w.alloc (.cells (Op.vs o).toArray 33)).ownsRow B 3 1 (.slice A s.lp.length c) s.lp.length (row s.lp)) := Lib.hid (hown.kept (row := none) ⟨(bel_al (w := w) _).os, (bel_al (w := w) _).tape, (bel_al (w := w) _).output, (bel_al (w := w) _).size, fun k hk _ => (bel_al (w := w) _).block k hk⟩ (by cases hv : (Value.slice A s.lp.length c).ownBlock <;> simp))
  have HB0 : Hid (Below B w (w.alloc (.cells (Op.vs o).toArray 33))) := Lib.hid ((bel_al (w := w) _).mono hB)
  have hne : w.heap.size ≠ g := by have := hBk.lt; omega
  have HNE := Lib.hid hne
  have HBW := Lib.hid hBk
  clear hBk hR hcc hown ho hA hne
  obtain ⟨W0, hW0⟩ : ∃ W0, W0 = w.alloc (.cells (Op.vs o).toArray 33) := ⟨_, rfl⟩
  rw [← hW0] at HI0 HA0 HO0 HB0
  have HW0 := Lib.hid hW0
  have HSZ : Hid (B ≤ W0.heap.size) := Lib.hid (by rw [hW0]; simp; omega)
  clear hW0
  obtain ⟨ok, od, oe, oa, ob, oc, obf, oim⟩ := o
  unfold Op.vs at *
  dsimp only at *
  simp only [List.toArray] at *
  by_cases hk : ok = 17
  · subst hk
    rw [if_pos rfl] at HAD
    obtain ⟨m, hm⟩ : ∃ m, s.lp.length = m + 1 := ⟨s.lp.length - 1, by have := List.length_pos_iff.2 (h17 rfl); omega⟩
    have hlast : s.lp[m]? = some (s.lp.getLast?.getD (-1)) := by
      rw [List.getLast?_eq_getElem?, hm, show m + 1 - 1 = m from rfl, List.getElem?_eq_getElem (by omega)]
      rfl
    have HDL := Lib.hid (HRG.out _ (List.mem_of_getElem? hlast))
    obtain ⟨gl, o, rfl, _, hcl⟩ := int_at (rws_rd (xs := s.lp) HO0.out).2.1 hlast
    have ho0 : o = 0 := by
      rcases HO0.out.2 with ⟨e1, _⟩ | ⟨g', cap, cur, e1, _⟩
      · cases e1
      · cases e1; rfl
    subst ho0
    rw [Nat.zero_add] at hcl
    have HOW := HO0
    rw [hm] at HOW HA0 HBW
    have g64w := (HBW.out.cell 64).trans (ahA_last _ _)
    have HLN := Lib.hid hm
    generalize s.lp.getLast?.getD (-1) = dl at *
    clear hlast h17
    have hA1 := HA0.out
    have g64 : W0.cell? ⟨g, 64, none⟩ = some (.slice (some ⟨gl, 0, none⟩) (m + 1) c) := (hA1.cell 64).trans (ahA_last _ _)
    have g64d : W0.drew.cell? ⟨g, 64, none⟩ = some (.slice (some ⟨gl, 0, none⟩) (m + 1) c) := g64
    have hcld : W0.drew.cell? ⟨gl, m, none⟩ = some (.int .i64 dl) := hcl
    have hm9 : (m : Int) < (m : Int) + 1 := by omega
    have hm10 : (m : Int) ≤ 8 := by omega
    have hcm : m + 1 ≤ c := by
      rcases HOW.out.2 with ⟨e1, _⟩ | ⟨g', cap, cur, e1, _, _, h4, _⟩
      · cases e1
      · cases e1; exact h4
    have HK := Lib.hid (drop_m g s.md (.slice (some ⟨gl, 0, none⟩) (m + 1) c) dl HDL.out W0.drew hA1.drew)
    have ew1 : IntKind.i64.wrap ((m : Int) + 1 - 1) = (m : Int) := by rw [show (m : Int) + 1 - 1 = (m : Int) by omega]; exact IntWalk.i64_in _ (by omega)
    have HCA : Hid ((m : Int) ≤ (c : Int)) := Lib.hid (by omega)
    clear hA1
    go_enter Tryd.func47, Tryd.ntmps47
    obtain ⟨a0, a1, a2, a3, a4, a5, a6, a7⟩ := c8 HI0.out
    go_wp2_with fail
    rw [← HW0.out]
    refine wp_region_still_tail 10 (by kernel_rfl) (by kernel_rfl) ?_
    simp only [List.take_succ_cons, List.take_zero, List.drop_succ_cons, List.drop_zero]
    iterate 10 still_step
    refine wpStill_nil ?_
    go_wp2_with fail
    go_at_call 76
    refine HK.out.mono ?_
    rintro e' w4 ⟨rfl, hw4⟩
    have HA4 : Hid (Bk w4 g 79 (ahA (setR s.md dl false) (.slice (some ⟨gl, 0, none⟩) (m + 1) c))) := Lib.hid (by
      rw [hw4]
      obtain ⟨j, rfl⟩ : ∃ j : Nat, dl = (j : Int) := ⟨dl.toNat, by have := HDL.out.1; omega⟩
      rw [setR_nat, Int.toNat_natCast, ← ahA_set _ _ (by have := HDL.out.2; omega)]
      exact HA0.out.drew.set_ _ _)
    have HO4 : Hid (w4.ownsRow B 3 1 (.slice (some ⟨gl, 0, none⟩) (m + 1) c) (m + 1) (row s.lp)) := Lib.hid (by
      rw [hw4]
      exact own_set (own_drew HOW.out) HA0.out.drew (by decide))
    have HB4 : Hid (Below B w w4) := Lib.hid (by
      rw [hw4]
      exact (below_drewN HB0.out 1).setCell (p := ⟨g, dl.toNat, none⟩) HHG.out _)
    clear hw4 a0 a1 a2 a3 a4 a5 a6 a7 g64 g64d g64w hcl hcld hlt
    have g64 := (HA4.out.cell 64).trans (ahA_last _ _)
    have f64 := HA4.out.frozen 64
    have hgl := HA4.out.lt
    go_wp2_with fail
    refine bodyPost_ret (results_none rfl _ _ _) rfl ?_
    refine ⟨rfl, ⟨⟨.slice (some ⟨gl, 0, none⟩) m c, ?_, ?_⟩, HHG.out, ?_⟩, HB4.out.setCell (p := ⟨g, 64, none⟩) HHG.out _⟩
    · rw [HAD.out, ← ahA_setL _ (.slice (some ⟨gl, 0, none⟩) (m + 1) c)]
      exact HA4.out.set_ _ _
    · rw [HAD.out]
      have h := own_drop HO4.out HLN.out
      have hl : s.lp.dropLast.length = m := by rw [List.length_dropLast, HLN.out]; rfl
      rw [hl]
      exact own_set h HA4.out (by decide)
    · rw [HAD.out]
      exact fun d hd => HRG.out d (List.dropLast_subset _ hd)
  · have n17 : (ok == 17) = false := by rw [beq_eq_false_iff_ne]; exact hk
    rw [if_neg hk] at HAD
    have HK := Lib.hid (add_m g s.md (.slice A s.lp.length c) od HRO.out.d W0.drew HA0.out.drew)
    have HD0 : Hid (ok = 16 → 0 ≤ od ∧ od < 64) := Lib.hid (fun e => ⟨hD1 (by rw [e]; decide), HRO.out.d.2⟩)
    generalize hsl : (Value.slice A s.lp.length c) = sv at *
    have HSV := Lib.hid hsl
    clear hsl h17 hD1 HBW hlt hk
    go_enter Tryd.func47, Tryd.ntmps47
    go_wp2_with fail
    rw [← HW0.out]
    have a1 : W0.drew.cell? ⟨w.heap.size, 1, none⟩ = some (.int .i64 od) := HI0.out.cell 1
    refine wp_region_still_tail 5 (by kernel_rfl) (by kernel_rfl) ?_
    simp only [List.take_succ_cons, List.take_zero, List.drop_succ_cons, List.drop_zero]
    iterate 5 still_step
    refine wpStill_nil ?_
    go_wp2_with fail
    go_at_call 77
    refine HK.out.mono ?_
    rintro e' w4 ⟨rfl, hw4⟩
    have hw4' : w4 = mkW W0.drew g od := hw4
    have HA4 : Hid (Bk w4 g 79 (ahA (setR s.md od true) sv)) := Lib.hid (by rw [hw4']; exact mkW_bk HRO.out.d HA0.out.drew)
    have HI4 : Hid (Bk w4 w.heap.size 33 #[.int .i64 ok, .int .i64 od, .int .i64 oe, .int .i64 oa, .int .i64 ob, .int .i64 oc, .int .i64 obf, .int .u64 oim]) := Lib.hid (by rw [hw4']; exact mkW_far HI0.out.drew HNE.out)
    have HO4 : Hid (w4.ownsRow B 3 1 sv s.lp.length (row s.lp)) := Lib.hid (by rw [hw4']; exact mkW_own (own_drew HO0.out) HA0.out.drew (by decide))
    have HB4 : Hid (Below B w w4) := Lib.hid (by
      rw [hw4']
      unfold mkW
      split
      · exact below_drewN HB0.out 1
      · exact (below_drewN HB0.out 1).setCell (p := ⟨g, od.toNat, none⟩) HHG.out _)
    clear hw4 hw4' a1 HK HA0 HI0 HO0 HB0
    have HK := Lib.hid (add_m g _ sv oe HRO.out.e w4.drew HA4.out.drew)
    have a2 : w4.drew.cell? ⟨w.heap.size, 2, none⟩ = some (.int .i64 oe) := HI4.out.cell 2
    go_wp2_with fail
    refine wp_region_still_tail 5 (by kernel_rfl) (by kernel_rfl) ?_
    simp only [List.take_succ_cons, List.take_zero, List.drop_succ_cons, List.drop_zero]
    iterate 5 still_step
    refine wpStill_nil ?_
    go_wp2_with fail
    go_at_call 77
    refine HK.out.mono ?_
    rintro e' w5 ⟨rfl, hw5⟩
    have hw5' : w5 = mkW w4.drew g oe := hw5
    have HA5 : Hid (Bk w5 g 79 (ahA (setR (setR s.md od true) oe true) sv)) := Lib.hid (by rw [hw5']; exact mkW_bk HRO.out.e HA4.out.drew)
    have HI5 : Hid (Bk w5 w.heap.size 33 #[.int .i64 ok, .int .i64 od, .int .i64 oe, .int .i64 oa, .int .i64 ob, .int .i64 oc, .int .i64 obf, .int .u64 oim]) := Lib.hid (by rw [hw5']; exact mkW_far HI4.out.drew HNE.out)
    have HO5 : Hid (w5.ownsRow B 3 1 sv s.lp.length (row s.lp)) := Lib.hid (by rw [hw5']; exact mkW_own (own_drew HO4.out) HA4.out.drew (by decide))
    have HB5 : Hid (Below B w w5) := Lib.hid (by
      rw [hw5']
      unfold mkW
      split
      · exact below_drewN HB4.out 1
      · exact (below_drewN HB4.out 1).setCell (p := ⟨g, oe.toNat, none⟩) HHG.out _)
    clear hw5 hw5' a2 HK HA4 HI4 HO4 HB4
    obtain ⟨a0, a1, a2, a3, a4, a5, a6, a7⟩ := c8 HI5.out
    by_cases h16 : ok = 16
    · subst h16
      rw [if_pos rfl] at HAD
      have HSZ5 : Hid (B ≤ w5.heap.size) := Lib.hid (Nat.le_trans hB HB5.out.size)
      obtain ⟨v', w6, hap, hown6, hgr6⟩ := appI (W := w5.drew.alloc (.cells #[.int .i64 od] 3)) (B := B) (g2 := w5.heap.size) (v := sv) (xs := s.lp) (z := od) (own_al _ (own_drew HO5.out)) (Bk.new w5.drew _ _) (by omega) (by rw [World.size_alloc]; exact Nat.le_succ_of_le HSZ5.out)
      obtain ⟨A6, c6, rfl, _⟩ := rws_form (xs := s.lp ++ [od]) hown6
      have HA6 : Hid (Bk w6 g 79 (ahA (setR (setR s.md od true) oe true) sv)) := Lib.hid (by
        have h := HA5.out.drew.alloc (.cells #[.int .i64 od] 3)
        refine (hgr6.block g h.lt ?_).trans h
        intro e
        rcases HO5.out.2 with ⟨e1, _⟩ | ⟨g', cap, cur, e1, _, hg, _⟩
        · rw [e1] at e; cases e
        · rw [e1] at e
          simp [Value.ownBlock] at e
          subst e
          have hb := HA5.out
          unfold Bk at hb
          rw [hb] at hg
          injection hg with hg
          injection hg with _ h2
          exact absurd h2 (by decide))
      have HB6 : Hid (Below B w w6) := Lib.hid (((below_drewN HB5.out 1).alloc HSZ5.out _).grown hgr6 (by rw [World.size_alloc]; exact Nat.le_succ_of_le HSZ5.out) (fun k e => by
        rcases HO5.out.2 with ⟨e1, _⟩ | ⟨g', cap, cur, e1, hBg, hg, _⟩
        · rw [e1] at e; cases e
        · rw [e1] at e
          simp [Value.ownBlock] at e
          omega))
      have HO6 := Lib.hid hown6
      have g64 : w5.drew.cell? ⟨g, 64, none⟩ = some sv := (HA5.out.cell 64).trans (ahA_last _ _)
      have g645 : w5.cell? ⟨g, 64, none⟩ = some sv := (HA5.out.cell 64).trans (ahA_last _ _)
      have hgl := HA5.out.lt
      have f64 := HA6.out.frozen 64
      have g64' : w6.cell? ⟨g, 64, none⟩ = some sv := (HA6.out.cell 64).trans (ahA_last _ _)
      go_wp2_with fail
      go_region_law (refine step_append_eq rfl _ _ 49 rfl _ _ rfl rfl _ _ hap ?_)
      all_goals
        go_wp2_with fail
        go_end0
        refine ⟨rfl, ⟨⟨.slice A6 (s.lp.length + 1) c6, ?_, ?_⟩, HHG.out, ?_⟩, HB6.out.setCell (p := ⟨g, 64, none⟩) HHG.out _⟩
        · rw [HAD.out, ← ahA_setL _ sv]
          exact HA6.out.set_ _ _
        · rw [HAD.out]
          have e : (s.lp ++ [od]).length = s.lp.length + 1 := by simp
          have h := HO6.out
          rw [e] at h
          show World.ownsRow _ _ _ _ _ (s.lp ++ [od]).length _
          rw [e]
          exact own_set h HA6.out (by decide)
        · rw [HAD.out]
          intro d hd
          rcases List.mem_append.1 hd with hd | hd
          · exact HRG.out d hd
          · obtain rfl := List.mem_singleton.1 hd
            exact HD0.out (by first | exact rfl | trivial)
    · have n16 : (ok == 16) = false := by rw [beq_eq_false_iff_ne]; exact h16
      rw [if_neg h16] at HAD
      clear h16
      go_wp2_with fail
      go_end0
      refine ⟨rfl, ⟨⟨sv, ?_, ?_⟩, HHG.out, ?_⟩, HB5.out⟩
      · rw [HAD.out]; exact HA5.out
      · rw [HAD.out]; exact HO5.out
      · rw [HAD.out]; exact HRG.out
end Lb
end Go.Proofs.YtbdhibgljaelbaaDoor
