/- The landed package limb: a load, a store. -/
import Derived.Test.YtbdhibgljaelbaaDoorM7
namespace Go.Proofs.YtbdhibgljaelbaaDoor
open Go Go.RowKit Go.Sort Go.Shelf
namespace Lb
open Wd Nt Gr
set_option linter.unusedVariables false
set_option linter.unusedSimpArgs false
theorem RnW.row {w : World} {B R : Nat} {ov : Value} {ev : EnV} {xs : List (Nat × List Int)} {rg : Nat → Int} {seen : List Ev} (h : RnW w B R ov ev xs rg seen) {i : Nat} {g : Nat} {ys : List Int} (hi : xs[i]? = some (g, ys)) :
    ∃ G, w.cell? ⟨R, 66, none⟩ = some (.slice (some ⟨G, 0, none⟩) xs.length xs.length) ∧ w.cell? ⟨G, i, none⟩ = some (.slice (some ⟨g, 0, none⟩) ys.length ys.length) ∧ (∀ q, q < ys.length → w.cell? ⟨g, q, none⟩ = some (.int .u64 (Nt.at_ ys q))) ∧ (∀ q, w.frozen? ⟨g, q, none⟩ = false) ∧ B ≤ g ∧ g < w.heap.size ∧ Ws ys := by
  obtain ⟨G, sv, h1, h2, h3⟩ := h.ex
  obtain ⟨e1, e2, e3⟩ := h3.each _ (List.mem_of_getElem? hi)
  refine ⟨G, (h1.cell 66).trans rnA_66, ?_, fun q hq => (e2.cell q).trans (us_get hq), fun q => e2.frozen q, e1, e2.lt, e3⟩
  rw [h3.blk.cell, List.getElem?_toArray, List.getElem?_map, hi]
  rfl
theorem RnW.store {w : World} {B R : Nat} {ov : Value} {ev : EnV} {xs : List (Nat × List Int)} {rg : Nat → Int} {seen : List Ev} (h : RnW w B R ov ev xs rg seen) {i : Nat} {g : Nat} {ys : List Int} (hi : xs[i]? = some (g, ys)) {q : Nat} (hq : q < ys.length) {v : Int} (hv : W v) :
    RnW (w.setCell ⟨g, q, none⟩ (.int .u64 v)) B R ov ev (xs.set i (g, ys.set q v)) rg seen := by
  obtain ⟨G, sv, h1, h2, h3⟩ := h.ex
  obtain ⟨e1, e2, e3⟩ := h3.each _ (List.mem_of_getElem? hi)
  have hil := (List.getElem?_eq_some_iff.1 hi).1
  refine ⟨⟨G, sv, ?_, own_far h2 e2 (by decide), ?_⟩, own_far h.en e2 (by decide), h.hR, h.rgs⟩
  · rw [List.length_set]
    exact bk_far h1 e2 (by decide)
  · have hmap : (xs.set i (g, ys.set q v)).map slv = xs.map slv := by
      apply List.ext_getElem?
      intro k
      rw [List.getElem?_map, List.getElem?_map, List.getElem?_set]
      by_cases e : i = k
      · subst e
        rw [if_pos rfl, if_pos hil, hi]
        show some (slv (g, ys.set q v)) = some (slv (g, ys))
        unfold slv
        simp
      · rw [if_neg e]
    have hfst : (xs.set i (g, ys.set q v)).map (·.1) = xs.map (·.1) := by
      apply List.ext_getElem?
      intro k
      rw [List.getElem?_map, List.getElem?_map, List.getElem?_set]
      by_cases e : i = k
      · subst e
        rw [if_pos rfl, if_pos hil, hi]
        rfl
      · rw [if_neg e]
    refine ⟨by rw [hmap]; exact bk_far h3.blk e2 (by decide), h3.hG, fun x hx => ?_, by rw [hfst]; exact h3.nd⟩
    obtain ⟨k, hk, hxk⟩ := List.getElem_of_mem hx
    have hkl : k < xs.length := by rw [List.length_set] at hk; exact hk
    by_cases e : i = k
    · subst e
      rw [List.getElem_set_self] at hxk
      subst hxk
      exact ⟨e1, by rw [← us_set]; exact e2.set_ q _, e3.set q hv⟩
    · rw [List.getElem_set_ne e] at hxk
      subst hxk
      have hm := List.getElem_mem hkl
      obtain ⟨k1, k2, k3⟩ := h3.each _ hm
      refine ⟨k1, k2.far (p := ⟨g, q, none⟩) ?_ _, k3⟩
      intro e4
      have hn := List.pairwise_iff_getElem.1 h3.nd
      have ei : xs[i] = (g, ys) := by rw [List.getElem?_eq_getElem hil] at hi; exact Option.some.inj hi
      rcases Nat.lt_or_gt_of_ne e with h5 | h5
      · refine hn i k (by rw [List.length_map]; exact hil) (by rw [List.length_map]; exact hkl) h5 ?_
        rw [List.getElem_map, List.getElem_map, ei]
        exact e4.symm
      · refine hn k i (by rw [List.length_map]; exact hkl) (by rw [List.length_map]; exact hil) h5 ?_
        rw [List.getElem_map, List.getElem_map, ei]
        exact e4
/-- a limb's place -/
def plQ (o : Op) (rg : Nat → Int) : Nat := ((o.im + hld rg o.a) % 18446744073709551616).toNat
/-- what a load or store leaves -/
def TchP (B R : Nat) (ov : Value) (ev : EnV) (xs : List (Nat × List Int)) (rg : Nat → Int) (seen : List Ev) (k : Nat) (o : Op) (i g : Nat) (ys : List Int) (e : Ending) (w' : World) : Prop :=
  if ys.length ≤ plQ o rg then e = .returned (.bool false) ∧ RnW w' B R ov ev xs rg seen
  else e = .returned (.bool true) ∧ RnW w' B R ov ev (if o.k = 15 then xs.set i (g, ys.set (plQ o rg) (rg o.b.toNat)) else xs) (if o.k = 15 then rg else Lb.put rg o.d (Nt.at_ ys (plQ o rg))) (seen ++ [((k : Int), ((plQ o rg : Nat) : Int))])
set_option maxRecDepth 100000 in
set_option maxHeartbeats 8000000 in
theorem touch_l (B R : Nat) (ops : List Op) (X : Option Addr) (n d : Nat) (ev : EnV) (xs : List (Nat × List Int)) (rg : Nat → Int) (seen : List Ev) (k : Nat) (o : Op) (hk : ops[k]? = some o) (hkn : k < n) (hn : n ≤ 65536) (hrg : Rgs o) (hkind : o.k = 14 ∨ o.k = 15) (hdd : o.k = 14 → 0 ≤ o.d) (hbb : o.k = 15 → 0 ≤ o.b) (him : W o.im)
    (i g : Nat) (ys : List Int) (hbf : o.bf = (i : Int)) (hi : xs[i]? = some (g, ys)) (hys : ys.length ≤ 65536) (hxs : xs.length ≤ 32) (w : World) (h : RnW w B R (.slice X n d) ev xs rg seen) (hX : Rdr w B X n ops) (hB : B ≤ w.heap.size) (hs : seen.length ≤ 100000000) :
    Calls Tryd.prog 67 #[.pointer (some ⟨R, 0, none⟩), .int .i64 (k : Int)] w fun e w' => TchP B R (.slice X n d) ev xs rg seen k o i g ys e w' ∧ Below B w w' := by
  obtain ⟨bx, ox, rfl, hbx, hO⟩ := opc_at hX hk
  obtain ⟨o0, o1, o2, o3, o4, o5, o6, o7⟩ := hO
  obtain ⟨G, g1, g2, g3, g4, g5, g6, g7⟩ := h.row hi
  obtain ⟨r0, r1, rr, rf, hR⟩ := h.cells
  have hil := (List.getElem?_eq_some_iff.1 hi).1
  have hil4 : (i : Int) < (xs.length : Int) := by omega
  have hi0 : (0 : Int) ≤ (i : Int) := by omega
  have hkn4 : (k : Int) < (n : Int) := by omega
  have hk0 : (0 : Int) ≤ (k : Int) := by omega
  have hxs4 : (xs.length : Int) ≤ 32 := by omega
  have hys4 : (ys.length : Int) ≤ 65536 := by omega
  have eyl : IntKind.u64.wrap (ys.length : Int) = (ys.length : Int) := by simp only [IntKind.wrap_u64]; omega
  have HA := Lib.hid (fun W (hb : RnW W B R (.slice (some ⟨bx, ox, none⟩) n d) ev xs rg seen) => held_l B R (.slice (some ⟨bx, ox, none⟩) n d) ev xs rg seen o.a hrg.a W hb)
  have hwa := hld_W h.rgs o.a
  obtain ⟨q, hq⟩ : ∃ q : Nat, (o.im + hld rg o.a) % 18446744073709551616 = (q : Int) := ⟨((o.im + hld rg o.a) % 18446744073709551616).toNat, by omega⟩
  have HQ : Hid (plQ o rg = q) := Lib.hid (by unfold plQ; rw [hq, Int.toNat_natCast])
  have HSEE := Lib.hid (fun xs' rg' (W : World) (hw : RnW W B R (.slice (some ⟨bx, ox, none⟩) n d) ev xs' rg' seen) (hb : B ≤ W.heap.size) => see_l B R _ ev xs' rg' seen (k : Int) (q : Int) W hw hb hs)
  have HH := Lib.hid h
  have HI := Lib.hid hi
  have HRGS := Lib.hid hrg
  have ewq : IntKind.u64.wrap (o.im + hld rg o.a) = (q : Int) := by rw [IntKind.wrap_u64]; exact hq
  rw [hbf] at o6
  clear h hX hi hrg hq him
  go_enter Tryd.func67, Tryd.ntmps67
  go_wp2_with fail
  go_quiet (fail)
  obtain ⟨W1, hW1⟩ : ∃ W1, W1 = w.drewN nq := ⟨_, rfl⟩
  have HO1 : Hid (OpC W1 bx (ox + k * 8) o) := Lib.hid (by rw [hW1]; exact ⟨o0, o1, o2, o3, o4, o5, by rw [hbf]; exact o6, o7⟩)
  have HH1 : Hid (RnW W1 B R (.slice (some ⟨bx, ox, none⟩) n d) ev xs rg seen) := Lib.hid (by rw [hW1]; exact HH.out.below (below_drewN (Below.refl _ _) nq))
  have HB1 : Hid (Below B w W1) := Lib.hid (by rw [hW1]; exact below_drewN (Below.refl _ _) nq)
  rw [← hW1]
  clear hW1 o0 o1 o2 o3 o4 o5 o6 o7 g1 g2 g3 g4 r0 r1 rr rf HH
  obtain ⟨o0, o1, o2, o3, o4, o5, o6, o7⟩ := HO1.out
  have HA1 := Lib.hid (fun r => HA.out (W1.drewN r) (HH1.out.below (below_drewN (Below.refl _ _) r)))
  go_wp2_with fail
  go_quiet ((go_at_call 91; with_reducible exact Calls.quiet_of_same (HA1.out _)))
  obtain ⟨W2, hW2⟩ : ∃ W2, W2 = W1.drewN nq := ⟨_, rfl⟩
  have HO2 : Hid (OpC W2 bx (ox + k * 8) o) := Lib.hid (by rw [hW2]; exact HO1.out)
  have HH2 : Hid (RnW W2 B R (.slice (some ⟨bx, ox, none⟩) n d) ev xs rg seen) := Lib.hid (by rw [hW2]; exact HH1.out.below (below_drewN (Below.refl _ _) nq))
  have HB2 : Hid (Below B w W2) := Lib.hid (by rw [hW2]; exact below_drewN HB1.out nq)
  rw [← hW2]
  clear hW2 o0 o1 o2 o3 o4 o5 o6 o7 HA1 HA HH1 HO1 HB1
  obtain ⟨o0, o1, o2, o3, o4, o5, o6, o7⟩ := HO2.out
  obtain ⟨r0, r1, rr, rf, hR2⟩ := HH2.out.cells
  obtain ⟨G2, g1, g2, g3, g4, g5, g6, g7⟩ := HH2.out.row HI.out
  by_cases hle : (ys.length : Int) ≤ (q : Int)
  · go_wp2_with fail
    go_ret
    refine ⟨?_, HB2.out⟩
    unfold TchP
    rw [HQ.out, if_pos (by omega)]
    exact ⟨rfl, HH2.out⟩
  have hlt : q < ys.length := by omega
  have hlt4 : (q : Int) < (ys.length : Int) := by omega
  have hq0 : (0 : Int) ≤ (q : Int) := by omega
  have eq1 : IntKind.i64.wrap (q : Int) = (q : Int) := IntWalk.i64_in _ (by omega)
  have gq := g3 q hlt
  have gf := g4 q
  have HLE := Lib.hid hle
  clear hle g1 g2 g3 g4 hwa ewq eyl
  have HSZ : Hid (B ≤ W2.heap.size) := Lib.hid (Nat.le_trans hB HB2.out.size)
  have HBR := Lib.hid HH2.out.hR
  rcases hkind with hk14 | hk15
  · obtain ⟨j, hj⟩ : ∃ j : Nat, o.d = (j : Int) := ⟨o.d.toNat, by have := hdd hk14; omega⟩
    have hj64 : j < 64 := by have := HRGS.out.d.2; omega
    have hj4 : (j : Int) < 64 := by omega
    have hj0 : (0 : Int) ≤ (j : Int) := by omega
    rw [hk14] at o0
    rw [hj] at o1
    have n15 : Hid (¬ o.k = 15) := Lib.hid (by omega)
    have HJ := Lib.hid hj
    have HWV := Lib.hid (g7.at_ q)
    have x0 : W2.drew.cell? ⟨bx, ox + k * 8 + 1, none⟩ = some (.int .i64 (j : Int)) := o1
    have x1 : W2.drew.cell? ⟨g, q, none⟩ = some (.int .u64 (Nt.at_ ys q)) := gq
    have x2 : W2.drew.cell? ⟨R, 2 + j, none⟩ = some (.int .u64 (rg j)) := rr j hj64
    have x3 : W2.drew.frozen? ⟨R, 2 + j, none⟩ = false := rf _
    have y2 : W2.cell? ⟨R, 2 + j, none⟩ = some (.int .u64 (rg j)) := rr j hj64
    have y3 : W2.frozen? ⟨R, 2 + j, none⟩ = false := rf _
    have HH3 := Lib.hid (HH2.out.drew.put hj64 HWV.out)
    have HB3 : Hid (Below B w (W2.drew.setCell ⟨R, 2 + j, none⟩ (.int .u64 (Nt.at_ ys q)))) := Lib.hid ((below_drewN HB2.out 1).setCell (p := ⟨R, 2 + j, none⟩) HBR.out _)
    obtain ⟨vq, hvq⟩ : ∃ v, Nt.at_ ys q = v := ⟨_, rfl⟩
    rw [hvq] at gq x1 HWV HH3 HB3
    have HVQ := Lib.hid hvq
    clear hvq
    clear r0 r1 rr rf hj
    go_wp2_with fail
    refine wp_region_still_tail 12 (by kernel_rfl) (by kernel_rfl) ?_
    simp only [List.take_succ_cons, List.take_zero, List.drop_succ_cons, List.drop_zero]
    iterate 12 still_step
    refine wpStill_nil ?_
    go_wp2_with fail
    go_at_call 69
    refine (HSEE.out _ _ _ HH3.out (Nat.le_trans hB HB3.out.size)).mono ?_
    rintro e w5 ⟨rfl, hR5, hb5⟩
    have HR5 := Lib.hid hR5
    have HB5 := Lib.hid (HB3.out.trans hb5)
    clear hR5 hb5
    go_wp2_with fail
    go_ret
    refine ⟨?_, HB5.out⟩
    unfold TchP
    rw [HQ.out, if_neg (by omega), if_neg n15.out, if_neg n15.out, HJ.out, HVQ.out]
    exact ⟨rfl, HR5.out⟩
  · obtain ⟨j, hj⟩ : ∃ j : Nat, o.b = (j : Int) := ⟨o.b.toNat, by have := hbb hk15; omega⟩
    have hj64 : j < 64 := by have := HRGS.out.b.2; omega
    have hj4 : (j : Int) < 64 := by omega
    have hj0 : (0 : Int) ≤ (j : Int) := by omega
    rw [hk15] at o0
    rw [hj] at o4
    have n15 : Hid (o.k = 15) := Lib.hid hk15
    have HJ : Hid (o.b.toNat = j) := Lib.hid (by rw [hj, Int.toNat_natCast])
    have HWV := Lib.hid (HH2.out.rgs j)
    have x0 : W2.drew.cell? ⟨bx, ox + k * 8 + 4, none⟩ = some (.int .i64 (j : Int)) := o4
    have x1 : W2.drew.cell? ⟨g, q, none⟩ = some (.int .u64 (Nt.at_ ys q)) := gq
    have x2 : W2.drew.cell? ⟨R, 2 + j, none⟩ = some (.int .u64 (rg j)) := rr j hj64
    have x3 : W2.drew.frozen? ⟨g, q, none⟩ = false := gf
    have HH3 := Lib.hid (HH2.out.drew.store HI.out hlt HWV.out)
    have HB3 : Hid (Below B w (W2.drew.setCell ⟨g, q, none⟩ (.int .u64 (rg j)))) := Lib.hid ((below_drewN HB2.out 1).setCell (p := ⟨g, q, none⟩) g5 _)
    obtain ⟨vq, hvq⟩ : ∃ v, rg j = v := ⟨_, rfl⟩
    rw [hvq] at x2 HWV HH3 HB3
    have HVQ := Lib.hid hvq
    clear hvq r0 r1 rr rf hj
    go_wp2_with fail
    refine wp_region_still_tail 12 (by kernel_rfl) (by kernel_rfl) ?_
    simp only [List.take_succ_cons, List.take_zero, List.drop_succ_cons, List.drop_zero]
    iterate 12 still_step
    refine wpStill_nil ?_
    go_wp2_with fail
    go_at_call 69
    refine (HSEE.out _ _ _ HH3.out (Nat.le_trans hB HB3.out.size)).mono ?_
    rintro e w5 ⟨rfl, hR5, hb5⟩
    have HR5 := Lib.hid hR5
    have HB5 := Lib.hid (HB3.out.trans hb5)
    clear hR5 hb5
    go_wp2_with fail
    go_ret
    refine ⟨?_, HB5.out⟩
    unfold TchP
    rw [HQ.out, if_neg (by omega), if_pos n15.out, if_pos n15.out, HJ.out, HVQ.out]
    exact ⟨rfl, HR5.out⟩
end Lb
end Go.Proofs.YtbdhibgljaelbaaDoor
