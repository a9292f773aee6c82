/- Add: the sum of two naturals. -/
import Derived.Test.YtdklchejnpaenaaDoorNatTr
import Derived.Test.YtdklchejnpaenaaDoorPairsD
import Derived.Test.YtdklchejnpaenaaDoorWordC
import Derived.Test.YtdklchejnpaenaaDoorHoldIn
namespace Go.Proofs.YtdklchejnpaenaaDoor
open Go Go.RowKit Go.Shelf
attribute [local go_sem] Oper.semAt_some
namespace Nt
open Wd Sti
set_option linter.unusedVariables false

theorem info_u64 : (Tryd.prog.info? 28).map (fun i => (i.zero, i.size, i.bytes)) = some (some (.int .u64 0), 1, 8) := by kernel_rfl
theorem make_nat (n : Nat) (hn : n ≤ 1099511627776) (w : World) :
    (Instr.makeSlice 24 (.int .i64 (n : Int)) (.int .i64 (n : Int))).run Tryd.prog w = .ok (.slice (some ⟨w.heap.size, 0, none⟩) n n) (w.alloc (.cells (us (List.replicate n 0)) 28)) := by
  obtain ⟨i, hi, hz, h1, h2⟩ := info_parts info_u64
  have hr := run_make (P := Tryd.prog) w 24 28 i (.int .u64 0) Tryd.underlying24 hi hz .i64 .i64 (n : Int) (n : Int) (by omega) (by omega) (by rw [h2]; omega) (by omega)
  simp only [Int.toNat_natCast] at hr
  rw [hr, us_zeros, h1]
  have e : madeCells (Value.int .u64 0).cells (n * 1) = Array.replicate n (Value.int .u64 0) := by
    apply Array.ext <;> simp [madeCells, Value.cells, Nat.mod_one]
  rw [e]
/-- what holds of the sum when k limbs are there -/
structure AddI (w : World) (B0 : Nat) (m : Nat) (A B : Option Addr) (na ca nb cb : Nat) (xs ys : List Int) (k : Nat) (W : World) : Prop where
  sum : ∃ os c, Bk W B0 28 (us os) ∧ os.length = m ∧ Ws os ∧ Bk W (B0 + 2) 4 #[.bool c] ∧ lo os k + P k * b1 c = lo xs k + lo ys k ∧ (∀ j, k ≤ j → Nt.at_ os j = 0)
  out : Bk W (B0 + 1) 24 #[.slice (some ⟨B0, 0, none⟩) m m]
  ba : Bk W (B0 + 3) 23 #[.slice A na ca]
  bb : Bk W (B0 + 4) 23 #[.slice B nb cb]
  be : Below B0 w W
theorem AddI.own {w : World} {B0 m na ca nb cb B : Nat} {A C : Option Addr} {xs ys : List Int} (hB : B0 ≤ B) (hw : B0 ≤ w.heap.size) : OwnFrom B (AddI w B0 m A C na ca nb cb xs ys) := by
  intro k W W' row h hg hr
  have hr' : ∀ r, row = some r → ∃ o : Obj, W.heap[r]? = some o ∧ o.isCells = false := fun r e => (hr r e).2
  obtain ⟨⟨os, c, h1, h2, h3, h4, h5, h6⟩, h7, h8, h9, h10⟩ := h
  exact ⟨⟨os, c, h1.grown hg hr', h2, h3, h4.grown hg hr', h5, h6⟩, h7.grown hg hr', h8.grown hg hr', h9.grown hg hr', h10.grown hg (Nat.le_trans hw h10.size) (fun r e => Nat.le_trans hB (hr r e).1)⟩
theorem add_step {os xs ys : List Int} {k : Nat} {c : Bool} (hk : k < os.length) (hx : Ws xs) (hy : Ws ys) (h : lo os k + P k * b1 c = lo xs k + lo ys k) :
    lo (os.set k (Wd.add (Nt.at_ xs k) (Nt.at_ ys k) c)) (k + 1) + P (k + 1) * b1 (addO (Nt.at_ xs k) (Nt.at_ ys k) c) = lo xs (k + 1) + lo ys (k + 1) := by
  have e := add_eq (hx.at_ k) (hy.at_ k) c
  rw [lo_succ, lo_succ, lo_succ, lo_set_ge _ _ _ _ (Nat.le_refl _), at_set _ _ _ _ hk, if_pos rfl, P_succ]
  generalize Wd.add (Nt.at_ xs k) (Nt.at_ ys k) c = s at *
  generalize addO (Nt.at_ xs k) (Nt.at_ ys k) c = d at *
  have e2 : P k * s + 18446744073709551616 * P k * b1 d = P k * (s + 18446744073709551616 * b1 d) := by
    rw [Int.mul_add, Int.mul_comm 18446744073709551616 (P k), Int.mul_assoc]
  rw [Int.add_assoc, e2, e, Int.mul_add, Int.mul_add]
  omega

set_option maxRecDepth 100000 in
set_option maxHeartbeats 4000000 in
theorem add_n1 (A B : Option Addr) (na ca nb cb : Nat) (xs ys : List Int) (w : World) (ha : Rd w w.heap.size A na xs) (hb : Rd w w.heap.size B nb ys) (la : na ≤ 1073741824) (lb : nb ≤ 1073741824) (hcmp : na < nb) :
    Calls Tryd.prog 18 #[.slice A na ca, .slice B nb cb] w fun e w' => ∃ v, e = .returned v ∧ Ans w w' v (V xs + V ys) (nb + 1) := by
  have hF : Wide Fence.wide Tryd.prog := wide _
  refine callsIn_wide (n := 3).1 (callsIn_of_wp_marks Tryd.func18 rfl trivial ?_ rfl)
  simp only [Tryd.ntmps18, List.size_toArray, List.length_cons, List.length_nil, Nat.reduceAdd, Nat.reduceSub, Array.replicate_succ, Array.replicate_zero, List.push_toArray, List.append_toArray, List.nil_append, List.cons_append]
  have hmk := fun W => make_nat (nb + 1) (by omega) W
  simp only [Int.natCast_add, Int.natCast_one] at hmk
  gi_wp2_with (refine ⟨trivial, ?_⟩; gi_at_call 52; refine (pairs_c hF rfl A B na ca nb cb _).mono ?_; rintro e w' ⟨rfl, rfl⟩)
  have hsz : ((((w.alloc (.cells (us (List.replicate (nb + 1) 0)) 28)).alloc (.cells #[.slice (some ⟨w.heap.size, 0, none⟩) (nb + 1) (nb + 1)] 24)).alloc (.cells #[.bool false] 4)).alloc (.cells #[.slice A na ca] 23)).heap.size = w.heap.size + 4 := by simp
  refine wpIn_rangeB rfl (fun h => by cases h) (gf := 70) (lb := _) rfl trivial (enters_of Tryd.func70 (by kernel_rfl) rfl)
    (pairs_gives (n := 2) hF rfl (w.heap.size + 3) (w.heap.size + 4) A B na ca nb cb nb (by omega) (by omega) (by omega) (Nt.at_ xs) (Nt.at_ ys)) (fun _ => rfl)
    (AddI w w.heap.size (nb + 1) A B na ca nb cb xs ys) (fun _ _ => False) (AddI.own (by simp; omega) (Nat.le_refl _)) (fun _ _ _ _ h _ _ => h)
    ?rdy ?start (fun k b W => w.heap.size + 4 < b ∧ Bk W b 68 #[.int .u64 (Nt.at_ xs k), .int .u64 (Nt.at_ ys k)]) ?ax
    (fun k b T => (((T.setIfInBounds 19 (.int .i64 (k : Int))).setIfInBounds 20 (.agg #[.int .u64 (Nt.at_ xs k), .int .u64 (Nt.at_ ys k)])).setIfInBounds 7 (.int .i64 (k : Int))).setIfInBounds 8 (.pointer (some ⟨b, 0, none⟩))) ?assign ?body ?done ?stop
  case rdy => exact fun k W hi => ⟨hi.ba.cell 0, hi.bb.cell 0, fun _ => ⟨(ha.below hi.be).lat k, (hb.below hi.be).lat k⟩⟩
  case start =>
    refine ⟨⟨List.replicate (nb + 1) 0, false, ((((Bk.new' rfl).alloc _).alloc _).alloc _).alloc _, by simp, Ws.zeros _, ((Bk.new' (by simp)).alloc _).alloc _, by rw [lo_zero, lo_zero, lo_zero, P_zero, b1_f]; rfl, fun j _ => ?_⟩,
      (((Bk.new' (by simp)).alloc _).alloc _).alloc _, (Bk.new' (by simp)).alloc _, Bk.new' (by simp), (((((Below.refl _ w).alloc (Nat.le_refl _) _).alloc (by simp) _).alloc (by simp; omega) _).alloc (by simp; omega) _).alloc (by simp; omega) _⟩
    unfold Nt.at_
    rw [List.getElem?_replicate]
    split <;> rfl
  case ax => exact fun k b => fun _ W W' row h hg hr => ⟨h.1, h.2.grown hg (fun r e => (hr r e).2)⟩
  case assign =>
    intro l k W K hi hK
    gi_wp2
    exact hK W.heap.size _ ((KeepsOthers.alloc _ _).from _) ((AddI.own (Nat.le_refl _) (Nat.le_refl _)).alloc _ hi) ⟨hi.bb.lt, Bk.new W _ _⟩
  case body =>
    rintro l k b W hl hi ⟨hb1, hb2⟩ hk
    obtain ⟨⟨os, c, h1, h2, h3, h4, h5, h6⟩, h7, h8, h9, h10⟩ := hi
    have hko : k < os.length := by omega
    have c1 : W.drew.cell? ⟨w.heap.size + 1, 0, none⟩ = some (.slice (some ⟨w.heap.size, 0, none⟩) (nb + 1) (nb + 1)) := h7.cell 0
    have c2 : W.drew.cell? ⟨w.heap.size + 1 + 1, 0, none⟩ = some (.bool c) := h4.cell 0
    have f2 : W.drew.frozen? ⟨w.heap.size + 1 + 1, 0, none⟩ = false := h4.frozen 0
    have c3 : W.drew.cell? ⟨b, 0, none⟩ = some (.int .u64 (Nt.at_ xs k)) := hb2.cell 0
    have c4 : W.drew.cell? ⟨b, 1, none⟩ = some (.int .u64 (Nt.at_ ys k)) := hb2.cell 1
    have c5 : W.drew.cell? ⟨w.heap.size, k, none⟩ = some (.int .u64 (Nt.at_ os k)) := (h1.cell k).trans (us_get hko)
    have f5 : W.drew.frozen? ⟨w.heap.size, k, none⟩ = false := h1.frozen k
    have hki : (k : Int) < (nb : Int) + 1 := by omega
    have cad := (add_c (Nt.at_ xs k) (Nt.at_ ys k) c W.drew (ha.ws.at_ k) (hb.ws.at_ k)).mono (R' := fun e w' => e = .returned (.tuple #[.int .u64 (Wd.add (Nt.at_ xs k) (Nt.at_ ys k) c), .bool (addO (Nt.at_ xs k) (Nt.at_ ys k) c)]) ∧ w' = W.drew) (fun _ _ h => ⟨h.1, h.2.symm⟩)
    simp only [List.setIfInBounds_toArray]
    gi_wp2
    refine wpIn_region_holdR hF rfl l 12 12 10 (by kernel_rfl) (by kernel_rfl) (by kernel_rfl) ?_
    simp only [hold, behind, List.push_toArray, List.cons_append, List.nil_append, List.take_succ_cons, List.take_zero, List.drop_succ_cons, List.drop_zero]
    iterate 7 still_step
    still_call cad
    iterate 4 still_step
    refine wpStill_nil ?_
    have c2' : W.cell? ⟨w.heap.size + 1 + 1, 0, none⟩ = some (.bool c) := c2
    have f2' : W.frozen? ⟨w.heap.size + 1 + 1, 0, none⟩ = false := f2
    have c5' : W.cell? ⟨w.heap.size, k, none⟩ = some (.int .u64 (Nt.at_ os k)) := c5
    have f5' : W.frozen? ⟨w.heap.size, k, none⟩ = false := f5
    clear cad c1 c2 c3 c4 f2 c5 f5
    gi_wp2
    refine ⟨(((KeepsOthers.setCell _ _ _).trans (KeepsOthers.setCell _ _ _)).trans (KeepsOthers.drew _)).from _, ⟨os.set k (Wd.add (Nt.at_ xs k) (Nt.at_ ys k) c), addO (Nt.at_ xs k) (Nt.at_ ys k) c, ?_, by simpa using h2, h3.set _ (W_add _ _ _), ?_, add_step hko ha.ws hb.ws h5, fun j hj => ?_⟩, ?_, ?_, ?_, ?_⟩
    · have := h1.set_ k (.int .u64 (Wd.add (Nt.at_ xs k) (Nt.at_ ys k) c))
      rw [us_set] at this
      exact (this.far (by simp; omega) _).drew
    · exact ((h4.far (by simp) _).set_ 0 _).drew
    · rw [at_set _ _ _ _ hko, if_neg (by omega)]; exact h6 j (by omega)
    · exact ((h7.far (by simp) _).far (by simp) _).drew
    · exact ((h8.far (by simp) _).far (by simp) _).drew
    · exact ((h9.far (by simp) _).far (by simp) _).drew
    · exact ((h10.setCell (Nat.le_refl _) _).setCell (by simp; omega) _).drew
  case done =>
    rintro D W hD hi hK
    obtain ⟨⟨os, c, h1, h2, h3, h4, h5, h6⟩, h7, h8, h9, h10⟩ := hi
    have hDs : w.heap.size + 5 ≤ D := by simpa using hD
    have c1 : W.cell? ⟨w.heap.size + 1, 0, none⟩ = some (.slice (some ⟨w.heap.size, 0, none⟩) (nb + 1) (nb + 1)) := h7.cell 0
    have c2 : W.cell? ⟨w.heap.size + 1 + 1, 0, none⟩ = some (.bool c) := h4.cell 0
    cases c with
    | false =>
      have ht := trimmed_c (some ⟨w.heap.size, 0, none⟩) (nb + 1) (nb + 1) W.heap.size os W (h1.rd0 h1.lt h3 h2) (Nat.le_refl _) (by omega)
      have HT := Lib.hid ht
      clear ht
      gi_wp2_with (refine ⟨trivial, ?_⟩; gi_at_call 44; refine (callsIn_wide.2 HT.out).mono ?_; rintro e w' ⟨rfl, rfl⟩)
      refine ⟨by simp, .inl ⟨_, _, rfl, run_takeDeferred hK, ⟨_, results_tmp rfl _ _ _, _, rfl, ?_⟩⟩⟩
      have hv : V os = V xs + V ys := by
        have e := lo_succ os (nb)
        rw [lo_all (by omega), h6 (nb) (Nat.le_refl _), Int.mul_zero] at e
        rw [b1_f, Int.mul_zero, lo_all (xs := xs) (by rw [ha.len]; omega), lo_all (xs := ys) (by rw [hb.len]; omega)] at h5
        omega
      have := ans_trim (w := w) (m := nb + 1) (h1.putObj (.deferred none) hK rfl) h3 hv (by omega) (below_putObj h10 (Nat.le_refl _) (by omega) _)
      rw [h2] at this
      exact this
    | true =>
      have hko : nb < os.length := by omega
      have c5 : W.cell? ⟨w.heap.size, nb, none⟩ = some (.int .u64 (Nt.at_ os (nb))) := (h1.cell _).trans (us_get hko)
      have f5 : W.frozen? ⟨w.heap.size, nb, none⟩ = false := h1.frozen _
      have h1' := h1.set_ (nb) (.int .u64 1)
      rw [us_set] at h1'
      have h3' : Ws (os.set (nb) 1) := h3.set _ (by unfold Wd.W; omega)
      have ht := trimmed_c (some ⟨w.heap.size, 0, none⟩) (nb + 1) (nb + 1) W.heap.size (os.set (nb) 1) (W.setCell ⟨w.heap.size, nb, none⟩ (.int .u64 1)) (h1'.rd0 h1.lt h3' (by simpa using h2)) (Nat.le_refl _) (by omega)
      have HT := Lib.hid ht
      clear ht
      gi_wp2_with (refine ⟨trivial, ?_⟩; gi_at_call 44; refine (callsIn_wide.2 HT.out).mono ?_; rintro e w' ⟨rfl, rfl⟩)
      have hK' := (KeepsOthers.setCell W ⟨w.heap.size, nb, none⟩ (.int .u64 1)).same D _ hK rfl
      refine ⟨by simp, .inl ⟨_, _, rfl, run_takeDeferred hK', ⟨_, results_tmp rfl _ _ _, _, rfl, ?_⟩⟩⟩
      have hv : V (os.set (nb) 1) = V xs + V ys := by
        have e := lo_succ os (nb)
        rw [lo_all (by omega), h6 (nb) (Nat.le_refl _), Int.mul_zero] at e
        rw [b1_t, lo_all (xs := xs) (by rw [ha.len]; omega), lo_all (xs := ys) (by rw [hb.len]; omega)] at h5
        rw [V_set _ _ _ hko, h6 (nb) (Nat.le_refl _)]
        omega
      have := ans_trim (w := w) (m := nb + 1) (h1'.putObj (.deferred none) hK' rfl) h3' hv (by rw [List.length_set]; omega) (below_putObj (h10.setCell (Nat.le_refl _) _) (Nat.le_refl _) (by omega) _)
      rw [List.length_set, h2] at this
      exact this
  case stop =>
    rintro D c W hD h _
    exact h.elim

set_option maxRecDepth 100000 in
set_option maxHeartbeats 4000000 in
theorem add_n2 (A B : Option Addr) (na ca nb cb : Nat) (xs ys : List Int) (w : World) (ha : Rd w w.heap.size A na xs) (hb : Rd w w.heap.size B nb ys) (la : na ≤ 1073741824) (lb : nb ≤ 1073741824) (hcmp : ¬ na < nb) :
    Calls Tryd.prog 18 #[.slice A na ca, .slice B nb cb] w fun e w' => ∃ v, e = .returned v ∧ Ans w w' v (V xs + V ys) (na + 1) := by
  have hF : Wide Fence.wide Tryd.prog := wide _
  refine callsIn_wide (n := 3).1 (callsIn_of_wp_marks Tryd.func18 rfl trivial ?_ rfl)
  simp only [Tryd.ntmps18, List.size_toArray, List.length_cons, List.length_nil, Nat.reduceAdd, Nat.reduceSub, Array.replicate_succ, Array.replicate_zero, List.push_toArray, List.append_toArray, List.nil_append, List.cons_append]
  have hmk := fun W => make_nat (na + 1) (by omega) W
  simp only [Int.natCast_add, Int.natCast_one] at hmk
  gi_wp2_with (refine ⟨trivial, ?_⟩; gi_at_call 52; refine (pairs_c hF rfl A B na ca nb cb _).mono ?_; rintro e w' ⟨rfl, rfl⟩)
  have hsz : ((((w.alloc (.cells (us (List.replicate (na + 1) 0)) 28)).alloc (.cells #[.slice (some ⟨w.heap.size, 0, none⟩) (na + 1) (na + 1)] 24)).alloc (.cells #[.bool false] 4)).alloc (.cells #[.slice A na ca] 23)).heap.size = w.heap.size + 4 := by simp
  refine wpIn_rangeB rfl (fun h => by cases h) (gf := 70) (lb := _) rfl trivial (enters_of Tryd.func70 (by kernel_rfl) rfl)
    (pairs_gives (n := 2) hF rfl (w.heap.size + 3) (w.heap.size + 4) A B na ca nb cb na (by omega) (by omega) (by omega) (Nt.at_ xs) (Nt.at_ ys)) (fun _ => rfl)
    (AddI w w.heap.size (na + 1) A B na ca nb cb xs ys) (fun _ _ => False) (AddI.own (by simp; omega) (Nat.le_refl _)) (fun _ _ _ _ h _ _ => h)
    ?rdy ?start (fun k b W => w.heap.size + 4 < b ∧ Bk W b 68 #[.int .u64 (Nt.at_ xs k), .int .u64 (Nt.at_ ys k)]) ?ax
    (fun k b T => (((T.setIfInBounds 19 (.int .i64 (k : Int))).setIfInBounds 20 (.agg #[.int .u64 (Nt.at_ xs k), .int .u64 (Nt.at_ ys k)])).setIfInBounds 7 (.int .i64 (k : Int))).setIfInBounds 8 (.pointer (some ⟨b, 0, none⟩))) ?assign ?body ?done ?stop
  case rdy => exact fun k W hi => ⟨hi.ba.cell 0, hi.bb.cell 0, fun _ => ⟨(ha.below hi.be).lat k, (hb.below hi.be).lat k⟩⟩
  case start =>
    refine ⟨⟨List.replicate (na + 1) 0, false, ((((Bk.new' rfl).alloc _).alloc _).alloc _).alloc _, by simp, Ws.zeros _, ((Bk.new' (by simp)).alloc _).alloc _, by rw [lo_zero, lo_zero, lo_zero, P_zero, b1_f]; rfl, fun j _ => ?_⟩,
      (((Bk.new' (by simp)).alloc _).alloc _).alloc _, (Bk.new' (by simp)).alloc _, Bk.new' (by simp), (((((Below.refl _ w).alloc (Nat.le_refl _) _).alloc (by simp) _).alloc (by simp; omega) _).alloc (by simp; omega) _).alloc (by simp; omega) _⟩
    unfold Nt.at_
    rw [List.getElem?_replicate]
    split <;> rfl
  case ax => exact fun k b => fun _ W W' row h hg hr => ⟨h.1, h.2.grown hg (fun r e => (hr r e).2)⟩
  case assign =>
    intro l k W K hi hK
    gi_wp2
    exact hK W.heap.size _ ((KeepsOthers.alloc _ _).from _) ((AddI.own (Nat.le_refl _) (Nat.le_refl _)).alloc _ hi) ⟨hi.bb.lt, Bk.new W _ _⟩
  case body =>
    rintro l k b W hl hi ⟨hb1, hb2⟩ hk
    obtain ⟨⟨os, c, h1, h2, h3, h4, h5, h6⟩, h7, h8, h9, h10⟩ := hi
    have hko : k < os.length := by omega
    have c1 : W.drew.cell? ⟨w.heap.size + 1, 0, none⟩ = some (.slice (some ⟨w.heap.size, 0, none⟩) (na + 1) (na + 1)) := h7.cell 0
    have c2 : W.drew.cell? ⟨w.heap.size + 1 + 1, 0, none⟩ = some (.bool c) := h4.cell 0
    have f2 : W.drew.frozen? ⟨w.heap.size + 1 + 1, 0, none⟩ = false := h4.frozen 0
    have c3 : W.drew.cell? ⟨b, 0, none⟩ = some (.int .u64 (Nt.at_ xs k)) := hb2.cell 0
    have c4 : W.drew.cell? ⟨b, 1, none⟩ = some (.int .u64 (Nt.at_ ys k)) := hb2.cell 1
    have c5 : W.drew.cell? ⟨w.heap.size, k, none⟩ = some (.int .u64 (Nt.at_ os k)) := (h1.cell k).trans (us_get hko)
    have f5 : W.drew.frozen? ⟨w.heap.size, k, none⟩ = false := h1.frozen k
    have hki : (k : Int) < (na : Int) + 1 := by omega
    have cad := (add_c (Nt.at_ xs k) (Nt.at_ ys k) c W.drew (ha.ws.at_ k) (hb.ws.at_ k)).mono (R' := fun e w' => e = .returned (.tuple #[.int .u64 (Wd.add (Nt.at_ xs k) (Nt.at_ ys k) c), .bool (addO (Nt.at_ xs k) (Nt.at_ ys k) c)]) ∧ w' = W.drew) (fun _ _ h => ⟨h.1, h.2.symm⟩)
    simp only [List.setIfInBounds_toArray]
    gi_wp2
    refine wpIn_region_holdR hF rfl l 12 12 10 (by kernel_rfl) (by kernel_rfl) (by kernel_rfl) ?_
    simp only [hold, behind, List.push_toArray, List.cons_append, List.nil_append, List.take_succ_cons, List.take_zero, List.drop_succ_cons, List.drop_zero]
    iterate 7 still_step
    still_call cad
    iterate 4 still_step
    refine wpStill_nil ?_
    have c2' : W.cell? ⟨w.heap.size + 1 + 1, 0, none⟩ = some (.bool c) := c2
    have f2' : W.frozen? ⟨w.heap.size + 1 + 1, 0, none⟩ = false := f2
    have c5' : W.cell? ⟨w.heap.size, k, none⟩ = some (.int .u64 (Nt.at_ os k)) := c5
    have f5' : W.frozen? ⟨w.heap.size, k, none⟩ = false := f5
    clear cad c1 c2 c3 c4 f2 c5 f5
    gi_wp2
    refine ⟨(((KeepsOthers.setCell _ _ _).trans (KeepsOthers.setCell _ _ _)).trans (KeepsOthers.drew _)).from _, ⟨os.set k (Wd.add (Nt.at_ xs k) (Nt.at_ ys k) c), addO (Nt.at_ xs k) (Nt.at_ ys k) c, ?_, by simpa using h2, h3.set _ (W_add _ _ _), ?_, add_step hko ha.ws hb.ws h5, fun j hj => ?_⟩, ?_, ?_, ?_, ?_⟩
    · have := h1.set_ k (.int .u64 (Wd.add (Nt.at_ xs k) (Nt.at_ ys k) c))
      rw [us_set] at this
      exact (this.far (by simp; omega) _).drew
    · exact ((h4.far (by simp) _).set_ 0 _).drew
    · rw [at_set _ _ _ _ hko, if_neg (by omega)]; exact h6 j (by omega)
    · exact ((h7.far (by simp) _).far (by simp) _).drew
    · exact ((h8.far (by simp) _).far (by simp) _).drew
    · exact ((h9.far (by simp) _).far (by simp) _).drew
    · exact ((h10.setCell (Nat.le_refl _) _).setCell (by simp; omega) _).drew
  case done =>
    rintro D W hD hi hK
    obtain ⟨⟨os, c, h1, h2, h3, h4, h5, h6⟩, h7, h8, h9, h10⟩ := hi
    have hDs : w.heap.size + 5 ≤ D := by simpa using hD
    have c1 : W.cell? ⟨w.heap.size + 1, 0, none⟩ = some (.slice (some ⟨w.heap.size, 0, none⟩) (na + 1) (na + 1)) := h7.cell 0
    have c2 : W.cell? ⟨w.heap.size + 1 + 1, 0, none⟩ = some (.bool c) := h4.cell 0
    cases c with
    | false =>
      have ht := trimmed_c (some ⟨w.heap.size, 0, none⟩) (na + 1) (na + 1) W.heap.size os W (h1.rd0 h1.lt h3 h2) (Nat.le_refl _) (by omega)
      have HT := Lib.hid ht
      clear ht
      gi_wp2_with (refine ⟨trivial, ?_⟩; gi_at_call 44; refine (callsIn_wide.2 HT.out).mono ?_; rintro e w' ⟨rfl, rfl⟩)
      refine ⟨by simp, .inl ⟨_, _, rfl, run_takeDeferred hK, ⟨_, results_tmp rfl _ _ _, _, rfl, ?_⟩⟩⟩
      have hv : V os = V xs + V ys := by
        have e := lo_succ os (na)
        rw [lo_all (by omega), h6 (na) (Nat.le_refl _), Int.mul_zero] at e
        rw [b1_f, Int.mul_zero, lo_all (xs := xs) (by rw [ha.len]; omega), lo_all (xs := ys) (by rw [hb.len]; omega)] at h5
        omega
      have := ans_trim (w := w) (m := na + 1) (h1.putObj (.deferred none) hK rfl) h3 hv (by omega) (below_putObj h10 (Nat.le_refl _) (by omega) _)
      rw [h2] at this
      exact this
    | true =>
      have hko : na < os.length := by omega
      have c5 : W.cell? ⟨w.heap.size, na, none⟩ = some (.int .u64 (Nt.at_ os (na))) := (h1.cell _).trans (us_get hko)
      have f5 : W.frozen? ⟨w.heap.size, na, none⟩ = false := h1.frozen _
      have h1' := h1.set_ (na) (.int .u64 1)
      rw [us_set] at h1'
      have h3' : Ws (os.set (na) 1) := h3.set _ (by unfold Wd.W; omega)
      have ht := trimmed_c (some ⟨w.heap.size, 0, none⟩) (na + 1) (na + 1) W.heap.size (os.set (na) 1) (W.setCell ⟨w.heap.size, na, none⟩ (.int .u64 1)) (h1'.rd0 h1.lt h3' (by simpa using h2)) (Nat.le_refl _) (by omega)
      have HT := Lib.hid ht
      clear ht
      gi_wp2_with (refine ⟨trivial, ?_⟩; gi_at_call 44; refine (callsIn_wide.2 HT.out).mono ?_; rintro e w' ⟨rfl, rfl⟩)
      have hK' := (KeepsOthers.setCell W ⟨w.heap.size, na, none⟩ (.int .u64 1)).same D _ hK rfl
      refine ⟨by simp, .inl ⟨_, _, rfl, run_takeDeferred hK', ⟨_, results_tmp rfl _ _ _, _, rfl, ?_⟩⟩⟩
      have hv : V (os.set (na) 1) = V xs + V ys := by
        have e := lo_succ os (na)
        rw [lo_all (by omega), h6 (na) (Nat.le_refl _), Int.mul_zero] at e
        rw [b1_t, lo_all (xs := xs) (by rw [ha.len]; omega), lo_all (xs := ys) (by rw [hb.len]; omega)] at h5
        rw [V_set _ _ _ hko, h6 (na) (Nat.le_refl _)]
        omega
      have := ans_trim (w := w) (m := na + 1) (h1'.putObj (.deferred none) hK' rfl) h3' hv (by rw [List.length_set]; omega) (below_putObj (h10.setCell (Nat.le_refl _) _) (Nat.le_refl _) (by omega) _)
      rw [List.length_set, h2] at this
      exact this
  case stop =>
    rintro D c W hD h _
    exact h.elim

theorem add_n (A B : Option Addr) (na ca nb cb : Nat) (xs ys : List Int) (w : World) (ha : Rd w w.heap.size A na xs) (hb : Rd w w.heap.size B nb ys) (la : na ≤ 1073741824) (lb : nb ≤ 1073741824) :
    Calls Tryd.prog 18 #[.slice A na ca, .slice B nb cb] w fun e w' => ∃ v, e = .returned v ∧ Ans w w' v (V xs + V ys) (max na nb + 1) := by
  by_cases h : na < nb
  · rw [Nat.max_eq_right (by omega)]; exact add_n1 A B na ca nb cb xs ys w ha hb la lb h
  · rw [Nat.max_eq_left (by omega)]; exact add_n2 A B na ca nb cb xs ys w ha hb la lb h
end Nt
end Go.Proofs.YtdklchejnpaenaaDoor
