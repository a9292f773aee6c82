/- The landed code of package modular: the step of the search, Inverse. | Modular: the nine contracts of the landed package modular, in the shapes of the document's answers. -/
import Derived.Test.YtopajockmcgpmaaMD
import Derived.StillTailTactics
import Derived.Deep.RegionHeld3
namespace Go.Proofs.Ytopajockmcgpmaa
open Go Go.RowKit
namespace Nt
open Wd Sti
set_option linter.unusedVariables false
/-- the search's four numbers, where they lie -/
structure Div4 (w : World) (D : Nat) (C : Option Addr) (nc cc : Nat) (zs : List Int) (L : Nat) (ul ut ll lt : List Int) : Prop where
  ex : ∃ A1 n1 c1 A2 n2 c2 A3 n3 c3 A4 n4 c4, Bk w D 51 #[.slice A1 n1 c1, .slice A2 n2 c2, .slice A3 n3 c3, .slice A4 n4 c4] ∧
    Hid (Gd w A1 n1 c1 ul (L + 1)) ∧ Hid (Gd w A2 n2 c2 ut (L + 1)) ∧ Hid (Gd w A3 n3 c3 ll (L + 1)) ∧ Hid (Gd w A4 n4 c4 lt (L + 1))
  md : Hid (Gd w C nc cc zs L)
theorem noInts_4 (A1 A2 A3 A4 : Option Addr) (n1 c1 n2 c2 n3 c3 n4 c4 : Nat) : noInts #[.slice A1 n1 c1, .slice A2 n2 c2, .slice A3 n3 c3, .slice A4 n4 c4] := by
  intro i x h
  rcases i with _ | _ | _ | _ | i <;> simp at h
theorem Gd.drew {w : World} {A : Option Addr} {n c K : Nat} {xs : List Int} (h : Hid (Gd w A n c xs K)) : Hid (Gd w.drew A n c xs K) := Gd.step h (Below.refl _ w).drew
section
variable {w : World} {A B C : Option Addr} {na ca nb cb nc cc K L : Nat} {xs ys zs : List Int}
set_option maxRecDepth 100000 in
set_option maxHeartbeats 2000000 in
theorem step_m (D : Nat) (ul ut ll lt : List Int) (h : Div4 w D C nc cc zs L ul ut ll lt) (hL : L ≤ 30000) (h0 : V zs ≠ 0) (hl : V ll ≠ 0) :
    Calls Try.prog 41 #[.pointer (some ⟨D, 0, none⟩), .slice C nc cc] w fun e w' => (∃ v, e = .returned v) ∧
      ∃ r s, Div4 w' D C nc cc zs L ll lt r s ∧ Hid (Is r (V ul % V ll)) ∧ Hid (Is s ((V ut - V ul / V ll * V lt) % V zs)) ∧ Asd D w w' := by
  obtain ⟨⟨A1, n1, c1, A2, n2, c2, A3, n3, c3, A4, n4, c4, hD, g1, g2, g3, g4⟩, hc⟩ := h
  have hA0 := Lib.hid (Asd.drew D w)
  have hD := hD.drew
  replace g1 := Gd.drew g1
  replace g2 := Gd.drew g2
  replace g3 := Gd.drew g3
  replace g4 := Gd.drew g4
  replace hc := Gd.drew hc
  have d1 : w.drew.cell? ⟨D, 0, none⟩ = some (.slice A1 n1 c1) := hD.cell 0
  have d3 : w.drew.cell? ⟨D, 2, none⟩ = some (.slice A3 n3 c3) := hD.cell 2
  have H1 := Lib.hid (div_m g1 g3 (by omega) (by omega) hl)
  have H0 := Lib.hid h0
  clear hl h0
  go_enter Try.func41, Try.ntmps41
  try simp only [List.append]
  go_wp2_with fail
  go_region_held3 (fun w' => w'.cell? ⟨D, 0, none⟩ = some (.slice A1 n1 c1) ∧ w'.cell? ⟨D, 2, none⟩ = some (.slice A3 n3 c3)) (first | exact ⟨d1, d3⟩ | exact ⟨d1', d3'⟩)
    (first | (go_at_call 49; refine H1.out.mono ?_; rintro e w1 ⟨v1, v2, rfl, ⟨Aq, nq, cq, oq, rfl, iq, gq, hbq⟩, ⟨Ar, nr, cr, orr, rfl, ir, gr, hbr⟩⟩; have hD1 := hD.below hbq hD.lt; have d1' : w1.cell? ⟨D, 0, none⟩ = some (.slice A1 n1 c1) := hD1.cell 0; have d3' : w1.cell? ⟨D, 2, none⟩ = some (.slice A3 n3 c3) := hD1.cell 2))
  have hA1 := Lib.hid (hA0.out.trans (Asd.of hbq (Nat.le_of_lt hD.lt)))
  have hA2 := Lib.hid (hA1.out.trans (Asd.drew D w1))
  have hD2 := hD1.drew
  have g2' := Gd.drew (Gd.step g2 hbq)
  have g3' := Gd.drew (Gd.step g3 hbq)
  have g4' := Gd.drew (Gd.step g4 hbq)
  have gq' := Gd.drew gq
  have gr' := Gd.drew gr
  have hc' := Gd.drew (Gd.step hc hbq)
  have d2 : w1.drew.cell? ⟨D, 1, none⟩ = some (.slice A2 n2 c2) := hD2.cell 1
  have d4 : w1.drew.cell? ⟨D, 3, none⟩ = some (.slice A4 n4 c4) := hD2.cell 3
  have H3 := Lib.hid (mul_m gq' g4' (by omega) (by omega) (2 * L + 2) (by omega) (by omega))
  have HQ := Lib.hid iq.out.v
  clear d1 d3 d1' d3' H1 g1 g2 g3 g4 hc gq gr iq hbq hbr hD hD1 hA0 hA1
  go_wp2_with fail
  go_region_held3 (fun w' => w'.cell? ⟨D, 1, none⟩ = some (.slice A2 n2 c2) ∧ w'.cell? ⟨D, 3, none⟩ = some (.slice A4 n4 c4)) (first | exact ⟨d2, d4⟩ | exact ⟨d2', d4'⟩ | exact ⟨d2'', d4''⟩)
    (first | (go_at_call 47; refine H3.out.mono ?_; rintro e w2 ⟨v, rfl, Am, nm, cm, om, rfl, im, gm, hbm⟩; have hD3 := hD2.below hbm hD2.lt; have d2' : w2.cell? ⟨D, 1, none⟩ = some (.slice A2 n2 c2) := hD3.cell 1; have d4' : w2.cell? ⟨D, 3, none⟩ = some (.slice A4 n4 c4) := hD3.cell 3; have H4 := Lib.hid (sub3_m (Gd.up (Gd.step g2' hbm) (show L + 1 ≤ 2 * L + 2 by omega)) gm (Gd.step hc' hbm) (by omega) (by omega) H0.out)) | (go_at_call 16; refine H4.out.mono ?_; rintro e w3 ⟨v, rfl, As, ns, cs, os, rfl, is, gs, hbs⟩; have hD4 := hD3.below hbs hD3.lt; have d2'' : w3.cell? ⟨D, 1, none⟩ = some (.slice A2 n2 c2) := hD4.cell 1; have d4'' : w3.cell? ⟨D, 3, none⟩ = some (.slice A4 n4 c4) := hD4.cell 3))
  have hb3 := below_trans hbm hbs
  have hA3 := Lib.hid (hA2.out.trans (Asd.of hb3 (Nat.le_of_lt hD2.lt)))
  have k3 := Gd.step g3' hb3
  have k4 := Gd.step g4' hb3
  have kr := Gd.step gr' hb3
  have kc := Gd.step hc' hb3
  have d0 : w3.cell? ⟨D, 0, none⟩ = some (.slice A1 n1 c1) := hD4.cell 0
  have d1 : w3.cell? ⟨D, 1, none⟩ = some (.slice A2 n2 c2) := hD4.cell 1
  have d2 : w3.cell? ⟨D, 2, none⟩ = some (.slice A3 n3 c3) := hD4.cell 2
  have d3 : w3.cell? ⟨D, 3, none⟩ = some (.slice A4 n4 c4) := hD4.cell 3
  have f0 : w3.frozen? ⟨D, 0, none⟩ = false := hD4.frozen 0
  have f1 : w3.frozen? ⟨D, 1, none⟩ = false := hD4.frozen 1
  have f2 : w3.frozen? ⟨D, 2, none⟩ = false := hD4.frozen 2
  have f3 : w3.frozen? ⟨D, 3, none⟩ = false := hD4.frozen 3
  have HIS : Hid (Is os ((V ut - V ul / V ll * V lt) % V zs)) := Lib.hid (by have h := is.out; rwa [im.out.v, HQ.out] at h)
  clear H3 H4 d2' d4' d2'' d4'' g2' g3' g4' gq' gr' hc' gm hbm hbs hb3 is im hD2 hD3 hA2
  go_wp2_with fail
  go_end0
  have hA5 := (((Asd.set w3 D 0 (.slice A3 n3 c3)).trans (Asd.set _ D 1 (.slice A4 n4 c4))).trans (Asd.set _ D 2 (.slice Ar nr cr))).trans (Asd.set _ D 3 (.slice As ns cs))
  have hD5 := (((hD4.set_ 0 (.slice A3 n3 c3)).set_ 1 (.slice A4 n4 c4)).set_ 2 (.slice Ar nr cr)).set_ 3 (.slice As ns cs)
  have hno := noInts_4 A1 A2 A3 A4 n1 c1 n2 c2 n3 c3 n4 c4
  exact ⟨⟨_, rfl⟩, orr, os, ⟨⟨_, _, _, _, _, _, _, _, _, _, _, _, hD5, Gd.aside k3 hA5 hD4 hno, Gd.aside k4 hA5 hD4 hno, Gd.aside kr hA5 hD4 hno, Gd.up (Gd.aside gs hA5 hD4 hno) (by omega)⟩, Gd.aside kc hA5 hD4 hno⟩, ir, HIS, hA3.out.trans hA5⟩

theorem Div4.below {w w' : World} {D : Nat} {C : Option Addr} {nc cc L : Nat} {zs ul ut ll lt : List Int} (h : Div4 w D C nc cc zs L ul ut ll lt) (hb : Below w.heap.size w w') : Div4 w' D C nc cc zs L ul ut ll lt := by
  obtain ⟨⟨A1, n1, c1, A2, n2, c2, A3, n3, c3, A4, n4, c4, hD, g1, g2, g3, g4⟩, hc⟩ := h
  exact ⟨⟨A1, n1, c1, A2, n2, c2, A3, n3, c3, A4, n4, c4, hD.below hb hD.lt, Gd.step g1 hb, Gd.step g2 hb, Gd.step g3 hb, Gd.step g4 hb⟩, Gd.step hc hb⟩
/-- the lower number that is left, as it lies there -/
def memL (W : World) (D : Nat) : Nat := match W.cell? ⟨D, 2, none⟩ with
  | some v => (memV W v).toNat
  | none => 0
theorem memL_of {w : World} {D : Nat} {C : Option Addr} {nc cc L : Nat} {zs ul ut ll lt : List Int} (h : Div4 w D C nc cc zs L ul ut ll lt) : memL w D = (V ll).toNat := by
  obtain ⟨⟨A1, n1, c1, A2, n2, c2, A3, n3, c3, A4, n4, c4, hD, g1, g2, g3, g4⟩, hc⟩ := h
  have e : w.cell? ⟨D, 2, none⟩ = some (.slice A3 n3 c3) := hD.cell 2
  unfold memL
  rw [e]
  show (memV w (.slice A3 n3 c3)).toNat = _
  rw [memV_at c3 g3.out.at_]
/-- what goes with the four numbers -/
structure InvI (x y : Int) (ul ut ll lt : List Int) : Prop where
  g : gc (V ul) (V ll) = gc x y
  u : (V ut * x) % y = V ul % y
  l : (V lt * x) % y = V ll % y
  tu : trim ut = ut ∧ Ws ut
  tl : trim lt = lt ∧ Ws lt
  big : 2 ≤ y → V ut < y ∧ V lt < y
  one : y = 1 → V ll = 0 ∧ V ut = 0
theorem InvI.start {x y : Int} {ul ll : List Int} (hy : 0 < y) (hu : V ul = y) (hl : V ll = x % y) (hx : 0 ≤ x) : InvI x y ul [] ll [1] := by
  refine ⟨?_, ?_, ?_, ⟨rfl, Ws.nil⟩, ⟨by decide, fun z hz => by simp at hz; subst hz; unfold Wd.W; omega⟩, fun h => ⟨?_, ?_⟩, fun h => ⟨?_, rfl⟩⟩
  · rw [hu, hl, ← gc_mod hx hy]
    unfold gc; rw [Nat.gcd_comm]
  · rw [hu, Int.emod_self, show V [] = 0 from rfl, Int.zero_mul]; exact Int.zero_emod _
  · rw [hl, show V [1] = 1 from rfl, Int.one_mul, Int.emod_emod_of_dvd _ (Int.dvd_refl _)]
  · show (0 : Int) < y; omega
  · show (1 : Int) < y; omega
  · rw [hl, h]; exact Int.emod_one _
theorem InvI.step {x y : Int} {ul ut ll lt r s : List Int} (h : InvI x y ul ut ll lt) (hy : 0 < y) (hu : 0 ≤ V ul) (hl : 0 < V ll) (hr : Is r (V ul % V ll)) (hs : Is s ((V ut - V ul / V ll * V lt) % y)) : InvI x y ll lt r s := by
  have hlt := Int.emod_lt_of_pos (V ut - V ul / V ll * V lt) hy
  refine ⟨?_, h.l, ?_, h.tl, ⟨hs.tr, hs.ws⟩, fun h2 => ⟨(h.big h2).2, by rw [hs.v]; exact hlt⟩, fun h1 => ?_⟩
  · rw [hr.v, gc_step hu hl]; exact h.g
  · rw [hs.v, mod_mul_l, hr.v]; exact inv_step h.u h.l
  · have := (h.one h1).1; omega
theorem invE_m (hc : Hid (Gd w C nc cc zs L)) (hL : L ≤ 65536) (h0 : V zs = 0) :
    Calls Try.prog 12 #[.slice A na ca, .slice C nc cc] w fun e w' => e = .returned (.tuple #[.slice none 0 0, .int .i64 2]) ∧ Below w.heap.size w w' := by
  have H1 := Lib.hid (restE_m (A := A) (na := na) (ca := ca) hc (by omega) h0)
  clear hc h0
  go_enter Try.func12, Try.ntmps12
  try simp only [List.append]
  go_wp2_with fail
  go_at_call 38
  refine H1.out.mono ?_
  rintro e w1 ⟨rfl, hb⟩
  have HB := Lib.hid hb
  clear H1 hb
  go_wp2_with fail
  go_ret2
  exact ⟨rfl, HB.out⟩
set_option maxRecDepth 100000 in
set_option maxHeartbeats 4000000 in
theorem inv_m (ha : Hid (Gd w A na ca xs K)) (hc : Hid (Gd w C nc cc zs L)) (hK : K ≤ 65536) (hL : L ≤ 30000) (h0 : V zs ≠ 0) :
    Calls Try.prog 12 #[.slice A na ca, .slice C nc cc] w fun e w' => OutM w e w' (InvO (V xs) (V zs)) L := by
  have H1 := Lib.hid (rest_m ha hc (by omega) (by omega) h0)
  have hx0 := V_nonneg ha.out.at_.ws
  have HX0 := Lib.hid hx0
  have hz0 := V_nonneg hc.out.at_.ws
  have H0 := Lib.hid h0
  have HZP := Lib.hid (show 0 < V zs by omega)
  clear ha h0 hz0 hx0
  go_enter Try.func12, Try.ntmps12
  try simp only [List.append]
  go_wp2_with fail
  go_at_call 38
  refine H1.out.mono ?_
  rintro e w1 ⟨v, rfl, A1, n1, c1, z1, rfl, i1, g1, hb1⟩
  have HB := Lib.hid hb1
  replace hc := Gd.step hc hb1
  clear H1 hb1
  obtain ⟨W0, hW0⟩ : ∃ W0, W0 = (w1.alloc (.cells #[.int .u64 1] 29)).alloc (.cells #[.slice C nc cc, .slice none 0 0, .slice A1 n1 c1, .slice (some ⟨w1.heap.size, 0, none⟩) 1 1] 51) := ⟨_, rfl⟩
  have hb5 : Below w1.heap.size w1 W0 := by rw [hW0]; exact (below_alloc _).trans ((below_alloc _).mono (by simp))
  have ht0 : Hid (Gd W0 (some ⟨w1.heap.size, 0, none⟩) 1 1 [1] (L + 1)) := by
    rw [hW0]
    exact Gd.up (Gd.step (one_lit w1) (below_alloc _)) (by omega)
  have hD : Bk W0 (w1.heap.size + 1) 51 #[.slice C nc cc, .slice none 0 0, .slice A1 n1 c1, .slice (some ⟨w1.heap.size, 0, none⟩) 1 1] := by
    rw [hW0]; exact Bk.new' (by simp)
  replace hc := Gd.step hc hb5
  replace g1 := Gd.step g1 hb5
  have hDL : w.heap.size ≤ w1.heap.size + 1 := Nat.le_trans HB.out.size (Nat.le_succ _)
  go_wp2_with fail
  rw [← hW0]
  clear hW0
  obtain ⟨D, hDd⟩ : ∃ D, D = w1.heap.size + 1 := ⟨_, rfl⟩
  rw [← hDd] at hD hDL ⊢
  clear hDd
  have HB0 := Lib.hid (below_trans HB.out hb5)
  have HDL := Lib.hid hDL
  have h40 : Div4 W0 D C nc cc zs L zs [] z1 [1] := ⟨⟨_, _, _, _, _, _, _, _, _, _, _, _, hD, Gd.up hc (by omega), Gd.nil _ _, Gd.up g1 (by omega), ht0⟩, hc⟩
  have hi0 := Lib.hid (InvI.start (x := V xs) (ul := zs) (ll := z1) HZP.out rfl i1.out.v HX0.out)
  have H40 := Lib.hid h40
  clear hb5 ht0 hD hc g1 i1 hDL h40 HB
  go_loopw [] (fun W => ∃ ul ut ll lt, Hid (Div4 W D C nc cc zs L ul ut ll lt) ∧ Hid (InvI (V xs) (V zs) ul ut ll lt) ∧ Hid (Asd D W0 W)) (fun W => memL W D)
  case atStart => exact ⟨zs, [], z1, [1], H40, hi0, Lib.hid (Asd.refl _ _)⟩
  case round =>
    obtain ⟨ul, ut, ll, lt, h4, hI, HA⟩ := hrel
    obtain ⟨⟨A1, n1, c1, A2, n2, c2, A3, n3, c3, A4, n4, c4, hD, g1, g2, g3, g4⟩, hc⟩ := h4.out
    have d2 : wr.cell? ⟨D, 2, none⟩ = some (.slice A3 n3 c3) := hD.cell 2
    have hu0 := V_nonneg g1.out.at_.ws
    have hl0 := V_nonneg g3.out.at_.ws
    by_cases hl : V ll = 0
    · have hB := Lib.hid (bitsZ_m g3 (by omega) hl)
      have hU : V ul = gc (V xs) (V zs) := by have h := hI.out.g; rwa [hl, gc_zero _ hu0] at h
      have hF := hI.out.u
      have hT := hI.out.tu
      have hlt : V ut < V zs := by
        have := HZP.out
        rcases Int.lt_or_le (V zs) 2 with h | h
        · have := (hI.out.one (by omega)).2; omega
        · exact (hI.out.big h).1
      have hu00 := V_nonneg g2.out.at_.ws
      have HU := Lib.hid hU
      have HF := Lib.hid hF
      have HT := Lib.hid hT
      have HLT := Lib.hid (show 0 ≤ V ut ∧ V ut < V zs from ⟨hu00, hlt⟩)
      have hsh := is_short (⟨hT.2, hT.1, rfl⟩ : Is ut (V ut)) (Int.lt_of_lt_of_le hlt (Int.le_of_lt (Gd.lt hc)))
      rw [g2.out.at_.len] at hsh
      clear hl hl0 hu0 hU hF hT hlt hu00 h4 hI hi0 H40 g3 g4 hc
      go_wp2_with fail
      go_at_call 40
      refine hB.out.mono ?_
      rintro e w6 ⟨rfl, hb6⟩
      have hD6 := hD.below hb6 hD.lt
      have HA6 := Lib.hid (HA.out.trans (Asd.of hb6 (Nat.le_of_lt hD.lt)))
      replace g1 := Gd.step g1 hb6
      replace g2 := Gd.step g2 hb6
      have c0 : w6.cell? ⟨D, 0, none⟩ = some (.slice A1 n1 c1) := hD6.cell 0
      have hbl : Below w6.heap.size w6 (w6.alloc (.cells (us [1]) 29)) := below_alloc _
      have HC := cmp_u (Lib.hid (Gd.step g1 hbl).out.at_) (Lib.hid (one_lit w6).out.at_) (ca := c1) (cb := 1) (by have := g1.out.le; omega) (by omega)
      have HC : Hid (Calls Try.prog 42 #[.slice A1 n1 c1, .slice (some ⟨w6.heap.size, 0, none⟩) 1 1] (w6.alloc (.cells #[.int .u64 1] 29)) fun e w' => e = .returned (.int .i64 (cmpN (V ul) (V [1]))) ∧ Below (w6.alloc (.cells (us [1]) 29)).heap.size (w6.alloc (.cells (us [1]) 29)) w') := Lib.hid HC
      rw [show V [1] = 1 from rfl] at HC
      have HBL := Lib.hid hbl
      by_cases hg : V ul = 1
      · rw [cmp_eq' hg] at HC
        have HG := Lib.hid hg
        clear hB hb6 hD d2 hg hbl HA
        go_wp2_with fail
        go_at_call 42
        refine HC.out.mono ?_
        rintro e w7 ⟨rfl, hb7⟩
        replace hb7 := below_trans HBL.out hb7
        have hD7 := hD6.below hb7 hD6.lt
        have HA7 := Lib.hid (HA6.out.trans (Asd.of hb7 (Nat.le_of_lt hD6.lt)))
        replace g2 := Gd.step g2 hb7
        have c1 : w7.cell? ⟨D, 1, none⟩ = some (.slice A2 n2 c2) := hD7.cell 1
        clear HC hb7 c0 hD6 g1
        go_wp2_with fail
        go_ret2
        exact ⟨A2, n2, c2, ut, 0, rfl, Lib.hid (.inr (.inr ⟨H0.out, by rw [← HU.out]; exact HG.out, rfl, V ut, ⟨HT.out.2, HT.out.1, rfl⟩, HLT.out.1, HLT.out.2, by rw [HF.out, HG.out]⟩)),
          Lib.hid ⟨g2.out.at_, g2.out.cap, g2.out.max, hsh⟩, HB0.out.trans (HA7.out.low.mono HDL.out)⟩
      · have hcn : ∃ z, cmpN (V ul) 1 = z ∧ (z == 0) = false := by
          rcases Int.lt_trichotomy (V ul) 1 with h | h | h
          · exact ⟨-1, cmp_lt' h, rfl⟩
          · exact absurd h hg
          · exact ⟨1, cmp_gt' h, rfl⟩
        obtain ⟨z, hz1, hz2⟩ := hcn
        rw [hz1] at HC
        have HG := Lib.hid hg
        have hz3 : (z != 0) = true := by simp at hz2 ⊢; exact hz2
        clear hB hb6 hD d2 hg hbl HA hz1
        go_wp2_with fail
        go_at_call 42
        refine HC.out.mono ?_
        rintro e w7 ⟨rfl, hb7⟩
        replace hb7 := below_trans HBL.out hb7
        have HA7 := Lib.hid (HA6.out.trans (Asd.of hb7 (Nat.le_of_lt hD6.lt)))
        clear HC hb7 c0 hD6 g1
        go_wp2_with fail
        go_ret2
        exact ⟨none, 0, 0, [], 5, rfl, Lib.hid (.inr (.inl ⟨H0.out, by rw [← HU.out]; exact HG.out, rfl, rfl⟩)), Gd.nil _ _, HB0.out.trans (HA7.out.low.mono HDL.out)⟩
    · obtain ⟨m, hm, hB⟩ := bitsP_m g3 (by omega) hl
      have HB := Lib.hid hB
      have HLP := Lib.hid (show 0 < V ll by omega)
      have HL := Lib.hid hl
      have HU0 := Lib.hid hu0
      have hDlt := Lib.hid hD.lt
      clear hl hl0 hu0 hB hi0 H40 g1 g2 g3 g4 hc
      go_wp2_with fail
      go_at_call 40
      refine HB.out.mono ?_
      rintro e w6 ⟨rfl, hb6⟩
      have HA6 := Lib.hid (HA.out.trans (Asd.of hb6 (Nat.le_of_lt hDlt.out)))
      have HS := Lib.hid (step_m D ul ut ll lt (h4.out.below hb6) hL H0.out HL.out)
      clear HB hb6 d2 hD HA
      go_wp2_with fail
      go_at_call 41
      refine HS.out.mono ?_
      rintro e w7 ⟨⟨v, rfl⟩, r, s, h47, hr, hs, hA7⟩
      have HA7 := Lib.hid (HA6.out.trans hA7)
      have HI7 := Lib.hid (hI.out.step HZP.out HU0.out HLP.out hr.out hs.out)
      have HM := Lib.hid (show memL w7 D < memL wr D by
        rw [memL_of h47, memL_of h4.out, hr.out.v]
        have := Int.emod_nonneg (V ul) HL.out
        have := Int.emod_lt_of_pos (V ul) HLP.out
        have := HLP.out
        omega)
      have H47 := Lib.hid h47
      clear HS h47 hr hs hA7 h4 hI HA6
      go_wp2_with fail
      go_roundw
      case rel => exact ⟨ll, lt, r, s, H47, HI7, HA7⟩
      case measure => exact HM.out
end
end Nt
end Go.Proofs.Ytopajockmcgpmaa
namespace Go.Proofs.Ytopajockmcgpmaa
open Go Go.RowKit
namespace Nt
open Wd Sti
set_option linter.unusedVariables false
section
variable {w : World} {A B C : Option Addr} {na ca nb cb nc cc K L : Nat} {xs ys zs : List Int}
theorem madd_o (ha : Hid (Gd w A na ca xs K)) (hb : Hid (Gd w B nb cb ys K)) (hc : Hid (Gd w C nc cc zs L)) (hK : K ≤ 64) (hL : L ≤ 64) :
    Calls Try.prog 10 #[.slice A na ca, .slice B nb cb, .slice C nc cc] w fun e w' => OutM w e w' (ModO (V zs) ((V xs + V ys) % V zs)) L := by
  by_cases h : V zs = 0
  · exact (add3E_m ha hb hc (by omega) (by omega) h).mono fun _ _ hh => outM_err h hh
  · exact (add3_m ha hb hc (by omega) (by omega) h).mono fun _ _ hh => outM_ok h hh
theorem msub_o (ha : Hid (Gd w A na ca xs K)) (hb : Hid (Gd w B nb cb ys K)) (hc : Hid (Gd w C nc cc zs L)) (hK : K ≤ 64) (hL : L ≤ 64) :
    Calls Try.prog 16 #[.slice A na ca, .slice B nb cb, .slice C nc cc] w fun e w' => OutM w e w' (ModO (V zs) ((V xs - V ys) % V zs)) L := by
  by_cases h : V zs = 0
  · exact (sub3E_m hc (by omega) h).mono fun _ _ hh => outM_err h hh
  · exact (sub3_m ha hb hc (by omega) (by omega) h).mono fun _ _ hh => outM_ok h hh
theorem mmul_o (ha : Hid (Gd w A na ca xs K)) (hb : Hid (Gd w B nb cb ys K)) (hc : Hid (Gd w C nc cc zs L)) (hK : K ≤ 64) (hL : L ≤ 64) :
    Calls Try.prog 17 #[.slice A na ca, .slice B nb cb, .slice C nc cc] w fun e w' => OutM w e w' (ModO (V zs) ((V xs * V ys) % V zs)) L := by
  by_cases h : V zs = 0
  · exact (mul3E_m ha hb hc (by omega) (by omega) h).mono fun _ _ hh => outM_err h hh
  · exact (mul3_m ha hb hc (by omega) (by omega) h).mono fun _ _ hh => outM_ok h hh
theorem mpow_o (ha : Hid (Gd w A na ca xs K)) (hb : Hid (Gd w B nb cb ys K)) (hc : Hid (Gd w C nc cc zs L)) (hK : K ≤ 64) (hL : L ≤ 64) (E : Nat) (hE : V ys = E) :
    Calls Try.prog 18 #[.slice A na ca, .slice B nb cb, .slice C nc cc] w fun e w' => OutM w e w' (ModO (V zs) (V xs ^ E % V zs)) L := by
  by_cases h : V zs = 0
  · exact (powE_m hc (by omega) h).mono fun _ _ hh => outM_err h hh
  · exact (pow_m ha hb hc (by omega) (by omega) h E hE).mono fun _ _ hh => outM_ok h hh
theorem minv_o (ha : Hid (Gd w A na ca xs K)) (hc : Hid (Gd w C nc cc zs L)) (hK : K ≤ 64) (hL : L ≤ 64) :
    Calls Try.prog 12 #[.slice A na ca, .slice C nc cc] w fun e w' => OutM w e w' (InvO (V xs) (V zs)) L := by
  by_cases h : V zs = 0
  · refine (invE_m hc (by omega) h).mono ?_
    rintro e w' ⟨rfl, hb⟩
    exact ⟨none, 0, 0, [], 2, rfl, Lib.hid (.inl ⟨h, rfl, rfl⟩), Gd.nil _ _, hb⟩
  · exact inv_m ha hc (by omega) (by omega) h
theorem mrad_o (k : Int) (hc : Hid (Gd w C nc cc zs L)) (hL : L ≤ 64) :
    Calls Try.prog 14 #[.int .i64 k, .slice C nc cc] w fun e w' => OutM w e w' (RadO k (V zs)) L := by
  by_cases h : (k < 0 ∨ 512 < k) ∨ V zs = 0
  · refine (radixE_m k hc (by omega) h).mono ?_
    rintro e w' ⟨rfl, hb⟩
    exact ⟨none, 0, 0, [], 2, rfl, Lib.hid (.inl ⟨h, rfl, rfl⟩), Gd.nil _ _, hb⟩
  · obtain ⟨k, rfl⟩ : ∃ j : Nat, k = j := ⟨k.toNat, by omega⟩
    have hz : V zs ≠ 0 := fun e => h (.inr e)
    refine (radix_m k (by omega) hc (by omega) hz).mono ?_
    rintro e w' ⟨v, rfl, A1, n1, c1, z1, rfl, h1, h2, h3⟩
    exact ⟨A1, n1, c1, z1, 0, rfl, Lib.hid (.inr ⟨by omega, by omega, hz, by rw [Int.toNat_natCast]; exact h1.out, rfl⟩), h2, h3⟩
theorem mred_o (k : Int) (ha : Hid (Gd w A na ca xs K)) (hc : Hid (Gd w C nc cc zs L)) (hK : K ≤ 64) (hL : L ≤ 64) :
    Calls Try.prog 15 #[.slice A na ca, .slice C nc cc, .int .i64 k] w fun e w' => OutM w e w' (RedO (V xs) (V zs) k) L := by
  by_cases h : (k < 0 ∨ 512 < k) ∨ V zs = 0 ∨ V zs % 2 ≠ 1
  · refine (reduceE_m k hc (by omega) h).mono ?_
    rintro e w' ⟨rfl, hb⟩
    exact ⟨none, 0, 0, [], 2, rfl, Lib.hid (.inl ⟨h, rfl, rfl⟩), Gd.nil _ _, hb⟩
  · obtain ⟨k, rfl⟩ : ∃ j : Nat, k = j := ⟨k.toNat, by omega⟩
    have hz : V zs ≠ 0 := fun e => h (.inr (.inl e))
    have ho : V zs % 2 = 1 := by omega
    refine (reduce_m k (by omega) ha hc (by omega) (by omega) hz ho).mono ?_
    rintro e w' ⟨v, N, rfl, ⟨A1, n1, c1, z1, rfl, h1, h2, h3⟩, h4⟩
    exact ⟨A1, n1, c1, z1, 0, rfl, Lib.hid (.inr ⟨by omega, by omega, hz, ho, rfl, N, h1.out, by rw [Int.toNat_natCast]; exact h4.out⟩), h2, h3⟩
theorem mcon_o (hc : Hid (Gd w C nc cc zs L)) (hL : L ≤ 64) :
    Calls Try.prog 13 #[.slice C nc cc] w fun e w' => ∃ x ev, e = .returned (.tuple #[.int .u64 x, .int .i64 ev]) ∧ Hid (ConO (Nt.at_ zs 0) (V zs) x ev) ∧ Below w.heap.size w w' := by
  by_cases h : V zs % 2 = 1
  · refine (const_m hc (by omega) h).mono ?_
    rintro e w' ⟨x, rfl, h1, h2, h3⟩
    exact ⟨x, 0, rfl, Lib.hid (.inr ⟨h, h1, h2, rfl⟩), h3⟩
  · refine (constE_m hc (by omega) h).mono ?_
    rintro e w' ⟨rfl, h3⟩
    exact ⟨0, 2, rfl, Lib.hid (.inl ⟨h, rfl, rfl⟩), h3⟩
theorem mgcd_o (ha : Hid (Gd w A na ca xs K)) (hb : Hid (Gd w B nb cb ys K)) (hK : K ≤ 64) :
    Calls Try.prog 20 #[.slice A na ca, .slice B nb cb] w fun e w' => ∃ v, e = .returned v ∧ Res w w' v (gc (V xs) (V ys)) K := gcd_m ha hb (by omega)
end
end Nt
end Go.Proofs.Ytopajockmcgpmaa
