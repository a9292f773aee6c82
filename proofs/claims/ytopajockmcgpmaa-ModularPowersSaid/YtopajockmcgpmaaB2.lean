/- Add: the sum of two naturals. | take: one row of limbs less another, in place. | Compare: how two naturals stand to each other. | Trim, Low, Fit, Bits, Bit, Sub. -/
import Derived.Test.YtopajockmcgpmaaB1
import Derived.Laws.CopyRow
import Derived.Laws.CopyOwn
import Derived.Laws.IdiomCopy
namespace Go.Proofs.Ytopajockmcgpmaa
open Go Go.RowKit Go.Shelf
attribute [local go_sem] Oper.semAt_some
namespace Nt
open Wd Sti
set_option linter.unusedVariables false
theorem info_u64 : (Try.prog.info? 29).map (fun i => (i.zero, i.size, i.bytes)) = some (some (.int .u64 0), 1, 8) := by kernel_rfl
theorem make_nat (n : Nat) (hn : n ≤ 1099511627776) (w : World) :
    (Instr.makeSlice 24 (.int .i64 (n : Int)) (.int .i64 (n : Int))).run Try.prog w = .ok (.slice (some ⟨w.heap.size, 0, none⟩) n n) (w.alloc (.cells (us (List.replicate n 0)) 29)) := by
  obtain ⟨i, hi, hz, h1, h2⟩ := info_parts info_u64
  have hr := run_make (P := Try.prog) w 24 29 i (.int .u64 0) Try.underlying24 hi hz .i64 .i64 (n : Int) (n : Int) (by omega) (by omega) (by rw [h2]; omega) (by omega)
  simp only [Int.toNat_natCast] at hr
  rw [hr, us_zeros, h1]
  have e : madeCells (Value.int .u64 0).cells (n * 1) = Array.replicate n (Value.int .u64 0) := by
    apply Array.ext <;> simp [madeCells, Value.cells, Nat.mod_one]
  rw [e]
/-- what holds of the sum when k limbs are there -/
structure AddI (w : World) (B0 : Nat) (m : Nat) (A B : Option Addr) (na ca nb cb : Nat) (xs ys : List Int) (k : Nat) (W : World) : Prop where
  sum : ∃ os c, Bk W B0 29 (us os) ∧ os.length = m ∧ Ws os ∧ Bk W (B0 + 2) 4 #[.bool c] ∧ lo os k + P k * b1 c = lo xs k + lo ys k ∧ (∀ j, k ≤ j → Nt.at_ os j = 0)
  out : Bk W (B0 + 1) 24 #[.slice (some ⟨B0, 0, none⟩) m m]
  ba : Bk W (B0 + 3) 23 #[.slice A na ca]
  bb : Bk W (B0 + 4) 23 #[.slice B nb cb]
  be : Below B0 w W
theorem AddI.own {w : World} {B0 m na ca nb cb B : Nat} {A C : Option Addr} {xs ys : List Int} (hB : B0 ≤ B) (hw : B0 ≤ w.heap.size) : OwnFrom B (AddI w B0 m A C na ca nb cb xs ys) := by
  intro k W W' row h hg hr
  have hr' : ∀ r, row = some r → ∃ o : Obj, W.heap[r]? = some o ∧ o.isCells = false := fun r e => (hr r e).2
  obtain ⟨⟨os, c, h1, h2, h3, h4, h5, h6⟩, h7, h8, h9, h10⟩ := h
  exact ⟨⟨os, c, h1.grown hg hr', h2, h3, h4.grown hg hr', h5, h6⟩, h7.grown hg hr', h8.grown hg hr', h9.grown hg hr', h10.grown hg (Nat.le_trans hw h10.size) (fun r e => Nat.le_trans hB (hr r e).1)⟩
theorem add_step {os xs ys : List Int} {k : Nat} {c : Bool} (hk : k < os.length) (hx : Ws xs) (hy : Ws ys) (h : lo os k + P k * b1 c = lo xs k + lo ys k) :
    lo (os.set k (Wd.add (Nt.at_ xs k) (Nt.at_ ys k) c)) (k + 1) + P (k + 1) * b1 (addO (Nt.at_ xs k) (Nt.at_ ys k) c) = lo xs (k + 1) + lo ys (k + 1) := by
  have e := add_eq (hx.at_ k) (hy.at_ k) c
  rw [lo_succ, lo_succ, lo_succ, lo_set_ge _ _ _ _ (Nat.le_refl _), at_set _ _ _ _ hk, if_pos rfl, P_succ]
  generalize Wd.add (Nt.at_ xs k) (Nt.at_ ys k) c = s at *
  generalize addO (Nt.at_ xs k) (Nt.at_ ys k) c = d at *
  have e2 : P k * s + 18446744073709551616 * P k * b1 d = P k * (s + 18446744073709551616 * b1 d) := by
    rw [Int.mul_add, Int.mul_comm 18446744073709551616 (P k), Int.mul_assoc]
  rw [Int.add_assoc, e2, e, Int.mul_add, Int.mul_add]
  omega

set_option maxRecDepth 100000 in
set_option maxHeartbeats 4000000 in
theorem add_n1 (A B : Option Addr) (na ca nb cb : Nat) (xs ys : List Int) (w : World) (ha : Rd w w.heap.size A na xs) (hb : Rd w w.heap.size B nb ys) (la : na ≤ 1073741824) (lb : nb ≤ 1073741824) (hcmp : na < nb) :
    Calls Try.prog 39 #[.slice A na ca, .slice B nb cb] w fun e w' => ∃ v, e = .returned v ∧ Ans w w' v (V xs + V ys) (nb + 1) := by
  have hF : Wide Fence.wide Try.prog := wide _
  refine callsIn_wide (n := 3).1 (callsIn_of_wp_marks Try.func39 rfl trivial ?_ rfl)
  simp only [Try.ntmps39, List.size_toArray, List.length_cons, List.length_nil, Nat.reduceAdd, Nat.reduceSub, Array.replicate_succ, Array.replicate_zero, List.push_toArray, List.append_toArray, List.nil_append, List.cons_append]
  have hmk := fun W => make_nat (nb + 1) (by omega) W
  simp only [Int.natCast_add, Int.natCast_one] at hmk
  gi_wp2_with (refine ⟨trivial, ?_⟩; gi_at_call 62; refine (pairs_c hF rfl A B na ca nb cb _).mono ?_; rintro e w' ⟨rfl, rfl⟩)
  have hsz : ((((w.alloc (.cells (us (List.replicate (nb + 1) 0)) 29)).alloc (.cells #[.slice (some ⟨w.heap.size, 0, none⟩) (nb + 1) (nb + 1)] 24)).alloc (.cells #[.bool false] 4)).alloc (.cells #[.slice A na ca] 23)).heap.size = w.heap.size + 4 := by simp
  refine wpIn_rangeB rfl (fun h => by cases h) (gf := 78) (lb := _) rfl trivial (enters_of Try.func78 (by kernel_rfl) rfl)
    (pairs_gives (n := 2) hF rfl (w.heap.size + 3) (w.heap.size + 4) A B na ca nb cb nb (by omega) (by omega) (by omega) (Nt.at_ xs) (Nt.at_ ys)) (fun _ => rfl)
    (AddI w w.heap.size (nb + 1) A B na ca nb cb xs ys) (fun _ _ => False) (AddI.own (by simp; omega) (Nat.le_refl _)) (fun _ _ _ _ h _ _ => h)
    ?rdy ?start (fun k b W => w.heap.size + 4 < b ∧ Bk W b 69 #[.int .u64 (Nt.at_ xs k), .int .u64 (Nt.at_ ys k)]) ?ax
    (fun k b T => (((T.setIfInBounds 19 (.int .i64 (k : Int))).setIfInBounds 20 (.agg #[.int .u64 (Nt.at_ xs k), .int .u64 (Nt.at_ ys k)])).setIfInBounds 7 (.int .i64 (k : Int))).setIfInBounds 8 (.pointer (some ⟨b, 0, none⟩))) ?assign ?body ?done ?stop
  case rdy => exact fun k W hi => ⟨hi.ba.cell 0, hi.bb.cell 0, fun _ => ⟨(ha.below hi.be).lat k, (hb.below hi.be).lat k⟩⟩
  case start =>
    refine ⟨⟨List.replicate (nb + 1) 0, false, ((((Bk.new' rfl).alloc _).alloc _).alloc _).alloc _, by simp, Ws.zeros _, ((Bk.new' (by simp)).alloc _).alloc _, by rw [lo_zero, lo_zero, lo_zero, P_zero, b1_f]; rfl, fun j _ => ?_⟩,
      (((Bk.new' (by simp)).alloc _).alloc _).alloc _, (Bk.new' (by simp)).alloc _, Bk.new' (by simp), (((((Below.refl _ w).alloc (Nat.le_refl _) _).alloc (by simp) _).alloc (by simp; omega) _).alloc (by simp; omega) _).alloc (by simp; omega) _⟩
    unfold Nt.at_
    rw [List.getElem?_replicate]
    split <;> rfl
  case ax => exact fun k b => fun _ W W' row h hg hr => ⟨h.1, h.2.grown hg (fun r e => (hr r e).2)⟩
  case assign =>
    intro l k W K hi hK
    gi_wp2
    exact hK W.heap.size _ ((KeepsOthers.alloc _ _).from _) ((AddI.own (Nat.le_refl _) (Nat.le_refl _)).alloc _ hi) ⟨hi.bb.lt, Bk.new W _ _⟩
  case body =>
    rintro l k b W hl hi ⟨hb1, hb2⟩ hk
    obtain ⟨⟨os, c, h1, h2, h3, h4, h5, h6⟩, h7, h8, h9, h10⟩ := hi
    have hko : k < os.length := by omega
    have c1 : W.drew.cell? ⟨w.heap.size + 1, 0, none⟩ = some (.slice (some ⟨w.heap.size, 0, none⟩) (nb + 1) (nb + 1)) := h7.cell 0
    have c2 : W.drew.cell? ⟨w.heap.size + 1 + 1, 0, none⟩ = some (.bool c) := h4.cell 0
    have f2 : W.drew.frozen? ⟨w.heap.size + 1 + 1, 0, none⟩ = false := h4.frozen 0
    have c3 : W.drew.cell? ⟨b, 0, none⟩ = some (.int .u64 (Nt.at_ xs k)) := hb2.cell 0
    have c4 : W.drew.cell? ⟨b, 1, none⟩ = some (.int .u64 (Nt.at_ ys k)) := hb2.cell 1
    have c5 : W.drew.cell? ⟨w.heap.size, k, none⟩ = some (.int .u64 (Nt.at_ os k)) := (h1.cell k).trans (us_get hko)
    have f5 : W.drew.frozen? ⟨w.heap.size, k, none⟩ = false := h1.frozen k
    have hki : (k : Int) < (nb : Int) + 1 := by omega
    have cad := (add_c (Nt.at_ xs k) (Nt.at_ ys k) c W.drew (ha.ws.at_ k) (hb.ws.at_ k)).mono (R' := fun e w' => e = .returned (.tuple #[.int .u64 (Wd.add (Nt.at_ xs k) (Nt.at_ ys k) c), .bool (addO (Nt.at_ xs k) (Nt.at_ ys k) c)]) ∧ w' = W.drew) (fun _ _ h => ⟨h.1, h.2.symm⟩)
    simp only [List.setIfInBounds_toArray]
    gi_wp2
    refine wpIn_region_holdR hF rfl l 12 12 10 (by kernel_rfl) (by kernel_rfl) (by kernel_rfl) ?_
    simp only [hold, behind, List.push_toArray, List.cons_append, List.nil_append, List.take_succ_cons, List.take_zero, List.drop_succ_cons, List.drop_zero]
    iterate 7 still_step
    still_call cad
    iterate 4 still_step
    refine wpStill_nil ?_
    have c2' : W.cell? ⟨w.heap.size + 1 + 1, 0, none⟩ = some (.bool c) := c2
    have f2' : W.frozen? ⟨w.heap.size + 1 + 1, 0, none⟩ = false := f2
    have c5' : W.cell? ⟨w.heap.size, k, none⟩ = some (.int .u64 (Nt.at_ os k)) := c5
    have f5' : W.frozen? ⟨w.heap.size, k, none⟩ = false := f5
    clear cad c1 c2 c3 c4 f2 c5 f5
    gi_wp2
    refine ⟨(((KeepsOthers.setCell _ _ _).trans (KeepsOthers.setCell _ _ _)).trans (KeepsOthers.drew _)).from _, ⟨os.set k (Wd.add (Nt.at_ xs k) (Nt.at_ ys k) c), addO (Nt.at_ xs k) (Nt.at_ ys k) c, ?_, by simpa using h2, h3.set _ (W_add _ _ _), ?_, add_step hko ha.ws hb.ws h5, fun j hj => ?_⟩, ?_, ?_, ?_, ?_⟩
    · have := h1.set_ k (.int .u64 (Wd.add (Nt.at_ xs k) (Nt.at_ ys k) c))
      rw [us_set] at this
      exact (this.far (by simp; omega) _).drew
    · exact ((h4.far (by simp) _).set_ 0 _).drew
    · rw [at_set _ _ _ _ hko, if_neg (by omega)]; exact h6 j (by omega)
    · exact ((h7.far (by simp) _).far (by simp) _).drew
    · exact ((h8.far (by simp) _).far (by simp) _).drew
    · exact ((h9.far (by simp) _).far (by simp) _).drew
    · exact ((h10.setCell (Nat.le_refl _) _).setCell (by simp; omega) _).drew
  case done =>
    rintro D W hD hi hK
    obtain ⟨⟨os, c, h1, h2, h3, h4, h5, h6⟩, h7, h8, h9, h10⟩ := hi
    have hDs : w.heap.size + 5 ≤ D := by simpa using hD
    have c1 : W.cell? ⟨w.heap.size + 1, 0, none⟩ = some (.slice (some ⟨w.heap.size, 0, none⟩) (nb + 1) (nb + 1)) := h7.cell 0
    have c2 : W.cell? ⟨w.heap.size + 1 + 1, 0, none⟩ = some (.bool c) := h4.cell 0
    cases c with
    | false =>
      have ht := trimmed_c (some ⟨w.heap.size, 0, none⟩) (nb + 1) (nb + 1) W.heap.size os W (h1.rd0 h1.lt h3 h2) (Nat.le_refl _) (by omega)
      have HT := Lib.hid ht
      clear ht
      gi_wp2_with (refine ⟨trivial, ?_⟩; gi_at_call 64; refine (callsIn_wide.2 HT.out).mono ?_; rintro e w' ⟨rfl, rfl⟩)
      refine ⟨by simp, .inl ⟨_, _, rfl, run_takeDeferred hK, ⟨_, results_tmp rfl _ _ _, _, rfl, ?_⟩⟩⟩
      have hv : V os = V xs + V ys := by
        have e := lo_succ os (nb)
        rw [lo_all (by omega), h6 (nb) (Nat.le_refl _), Int.mul_zero] at e
        rw [b1_f, Int.mul_zero, lo_all (xs := xs) (by rw [ha.len]; omega), lo_all (xs := ys) (by rw [hb.len]; omega)] at h5
        omega
      have := ans_trim (w := w) (m := nb + 1) (h1.putObj (.deferred none) hK rfl) h3 hv (by omega) (below_putObj h10 (Nat.le_refl _) (by omega) _)
      rw [h2] at this
      exact this
    | true =>
      have hko : nb < os.length := by omega
      have c5 : W.cell? ⟨w.heap.size, nb, none⟩ = some (.int .u64 (Nt.at_ os (nb))) := (h1.cell _).trans (us_get hko)
      have f5 : W.frozen? ⟨w.heap.size, nb, none⟩ = false := h1.frozen _
      have h1' := h1.set_ (nb) (.int .u64 1)
      rw [us_set] at h1'
      have h3' : Ws (os.set (nb) 1) := h3.set _ (by unfold Wd.W; omega)
      have ht := trimmed_c (some ⟨w.heap.size, 0, none⟩) (nb + 1) (nb + 1) W.heap.size (os.set (nb) 1) (W.setCell ⟨w.heap.size, nb, none⟩ (.int .u64 1)) (h1'.rd0 h1.lt h3' (by simpa using h2)) (Nat.le_refl _) (by omega)
      have HT := Lib.hid ht
      clear ht
      gi_wp2_with (refine ⟨trivial, ?_⟩; gi_at_call 64; refine (callsIn_wide.2 HT.out).mono ?_; rintro e w' ⟨rfl, rfl⟩)
      have hK' := (KeepsOthers.setCell W ⟨w.heap.size, nb, none⟩ (.int .u64 1)).same D _ hK rfl
      refine ⟨by simp, .inl ⟨_, _, rfl, run_takeDeferred hK', ⟨_, results_tmp rfl _ _ _, _, rfl, ?_⟩⟩⟩
      have hv : V (os.set (nb) 1) = V xs + V ys := by
        have e := lo_succ os (nb)
        rw [lo_all (by omega), h6 (nb) (Nat.le_refl _), Int.mul_zero] at e
        rw [b1_t, lo_all (xs := xs) (by rw [ha.len]; omega), lo_all (xs := ys) (by rw [hb.len]; omega)] at h5
        rw [V_set _ _ _ hko, h6 (nb) (Nat.le_refl _)]
        omega
      have := ans_trim (w := w) (m := nb + 1) (h1'.putObj (.deferred none) hK' rfl) h3' hv (by rw [List.length_set]; omega) (below_putObj (h10.setCell (Nat.le_refl _) _) (Nat.le_refl _) (by omega) _)
      rw [List.length_set, h2] at this
      exact this
  case stop =>
    rintro D c W hD h _
    exact h.elim

set_option maxRecDepth 100000 in
set_option maxHeartbeats 4000000 in
theorem add_n2 (A B : Option Addr) (na ca nb cb : Nat) (xs ys : List Int) (w : World) (ha : Rd w w.heap.size A na xs) (hb : Rd w w.heap.size B nb ys) (la : na ≤ 1073741824) (lb : nb ≤ 1073741824) (hcmp : ¬ na < nb) :
    Calls Try.prog 39 #[.slice A na ca, .slice B nb cb] w fun e w' => ∃ v, e = .returned v ∧ Ans w w' v (V xs + V ys) (na + 1) := by
  have hF : Wide Fence.wide Try.prog := wide _
  refine callsIn_wide (n := 3).1 (callsIn_of_wp_marks Try.func39 rfl trivial ?_ rfl)
  simp only [Try.ntmps39, List.size_toArray, List.length_cons, List.length_nil, Nat.reduceAdd, Nat.reduceSub, Array.replicate_succ, Array.replicate_zero, List.push_toArray, List.append_toArray, List.nil_append, List.cons_append]
  have hmk := fun W => make_nat (na + 1) (by omega) W
  simp only [Int.natCast_add, Int.natCast_one] at hmk
  gi_wp2_with (refine ⟨trivial, ?_⟩; gi_at_call 62; refine (pairs_c hF rfl A B na ca nb cb _).mono ?_; rintro e w' ⟨rfl, rfl⟩)
  have hsz : ((((w.alloc (.cells (us (List.replicate (na + 1) 0)) 29)).alloc (.cells #[.slice (some ⟨w.heap.size, 0, none⟩) (na + 1) (na + 1)] 24)).alloc (.cells #[.bool false] 4)).alloc (.cells #[.slice A na ca] 23)).heap.size = w.heap.size + 4 := by simp
  refine wpIn_rangeB rfl (fun h => by cases h) (gf := 78) (lb := _) rfl trivial (enters_of Try.func78 (by kernel_rfl) rfl)
    (pairs_gives (n := 2) hF rfl (w.heap.size + 3) (w.heap.size + 4) A B na ca nb cb na (by omega) (by omega) (by omega) (Nt.at_ xs) (Nt.at_ ys)) (fun _ => rfl)
    (AddI w w.heap.size (na + 1) A B na ca nb cb xs ys) (fun _ _ => False) (AddI.own (by simp; omega) (Nat.le_refl _)) (fun _ _ _ _ h _ _ => h)
    ?rdy ?start (fun k b W => w.heap.size + 4 < b ∧ Bk W b 69 #[.int .u64 (Nt.at_ xs k), .int .u64 (Nt.at_ ys k)]) ?ax
    (fun k b T => (((T.setIfInBounds 19 (.int .i64 (k : Int))).setIfInBounds 20 (.agg #[.int .u64 (Nt.at_ xs k), .int .u64 (Nt.at_ ys k)])).setIfInBounds 7 (.int .i64 (k : Int))).setIfInBounds 8 (.pointer (some ⟨b, 0, none⟩))) ?assign ?body ?done ?stop
  case rdy => exact fun k W hi => ⟨hi.ba.cell 0, hi.bb.cell 0, fun _ => ⟨(ha.below hi.be).lat k, (hb.below hi.be).lat k⟩⟩
  case start =>
    refine ⟨⟨List.replicate (na + 1) 0, false, ((((Bk.new' rfl).alloc _).alloc _).alloc _).alloc _, by simp, Ws.zeros _, ((Bk.new' (by simp)).alloc _).alloc _, by rw [lo_zero, lo_zero, lo_zero, P_zero, b1_f]; rfl, fun j _ => ?_⟩,
      (((Bk.new' (by simp)).alloc _).alloc _).alloc _, (Bk.new' (by simp)).alloc _, Bk.new' (by simp), (((((Below.refl _ w).alloc (Nat.le_refl _) _).alloc (by simp) _).alloc (by simp; omega) _).alloc (by simp; omega) _).alloc (by simp; omega) _⟩
    unfold Nt.at_
    rw [List.getElem?_replicate]
    split <;> rfl
  case ax => exact fun k b => fun _ W W' row h hg hr => ⟨h.1, h.2.grown hg (fun r e => (hr r e).2)⟩
  case assign =>
    intro l k W K hi hK
    gi_wp2
    exact hK W.heap.size _ ((KeepsOthers.alloc _ _).from _) ((AddI.own (Nat.le_refl _) (Nat.le_refl _)).alloc _ hi) ⟨hi.bb.lt, Bk.new W _ _⟩
  case body =>
    rintro l k b W hl hi ⟨hb1, hb2⟩ hk
    obtain ⟨⟨os, c, h1, h2, h3, h4, h5, h6⟩, h7, h8, h9, h10⟩ := hi
    have hko : k < os.length := by omega
    have c1 : W.drew.cell? ⟨w.heap.size + 1, 0, none⟩ = some (.slice (some ⟨w.heap.size, 0, none⟩) (na + 1) (na + 1)) := h7.cell 0
    have c2 : W.drew.cell? ⟨w.heap.size + 1 + 1, 0, none⟩ = some (.bool c) := h4.cell 0
    have f2 : W.drew.frozen? ⟨w.heap.size + 1 + 1, 0, none⟩ = false := h4.frozen 0
    have c3 : W.drew.cell? ⟨b, 0, none⟩ = some (.int .u64 (Nt.at_ xs k)) := hb2.cell 0
    have c4 : W.drew.cell? ⟨b, 1, none⟩ = some (.int .u64 (Nt.at_ ys k)) := hb2.cell 1
    have c5 : W.drew.cell? ⟨w.heap.size, k, none⟩ = some (.int .u64 (Nt.at_ os k)) := (h1.cell k).trans (us_get hko)
    have f5 : W.drew.frozen? ⟨w.heap.size, k, none⟩ = false := h1.frozen k
    have hki : (k : Int) < (na : Int) + 1 := by omega
    have cad := (add_c (Nt.at_ xs k) (Nt.at_ ys k) c W.drew (ha.ws.at_ k) (hb.ws.at_ k)).mono (R' := fun e w' => e = .returned (.tuple #[.int .u64 (Wd.add (Nt.at_ xs k) (Nt.at_ ys k) c), .bool (addO (Nt.at_ xs k) (Nt.at_ ys k) c)]) ∧ w' = W.drew) (fun _ _ h => ⟨h.1, h.2.symm⟩)
    simp only [List.setIfInBounds_toArray]
    gi_wp2
    refine wpIn_region_holdR hF rfl l 12 12 10 (by kernel_rfl) (by kernel_rfl) (by kernel_rfl) ?_
    simp only [hold, behind, List.push_toArray, List.cons_append, List.nil_append, List.take_succ_cons, List.take_zero, List.drop_succ_cons, List.drop_zero]
    iterate 7 still_step
    still_call cad
    iterate 4 still_step
    refine wpStill_nil ?_
    have c2' : W.cell? ⟨w.heap.size + 1 + 1, 0, none⟩ = some (.bool c) := c2
    have f2' : W.frozen? ⟨w.heap.size + 1 + 1, 0, none⟩ = false := f2
    have c5' : W.cell? ⟨w.heap.size, k, none⟩ = some (.int .u64 (Nt.at_ os k)) := c5
    have f5' : W.frozen? ⟨w.heap.size, k, none⟩ = false := f5
    clear cad c1 c2 c3 c4 f2 c5 f5
    gi_wp2
    refine ⟨(((KeepsOthers.setCell _ _ _).trans (KeepsOthers.setCell _ _ _)).trans (KeepsOthers.drew _)).from _, ⟨os.set k (Wd.add (Nt.at_ xs k) (Nt.at_ ys k) c), addO (Nt.at_ xs k) (Nt.at_ ys k) c, ?_, by simpa using h2, h3.set _ (W_add _ _ _), ?_, add_step hko ha.ws hb.ws h5, fun j hj => ?_⟩, ?_, ?_, ?_, ?_⟩
    · have := h1.set_ k (.int .u64 (Wd.add (Nt.at_ xs k) (Nt.at_ ys k) c))
      rw [us_set] at this
      exact (this.far (by simp; omega) _).drew
    · exact ((h4.far (by simp) _).set_ 0 _).drew
    · rw [at_set _ _ _ _ hko, if_neg (by omega)]; exact h6 j (by omega)
    · exact ((h7.far (by simp) _).far (by simp) _).drew
    · exact ((h8.far (by simp) _).far (by simp) _).drew
    · exact ((h9.far (by simp) _).far (by simp) _).drew
    · exact ((h10.setCell (Nat.le_refl _) _).setCell (by simp; omega) _).drew
  case done =>
    rintro D W hD hi hK
    obtain ⟨⟨os, c, h1, h2, h3, h4, h5, h6⟩, h7, h8, h9, h10⟩ := hi
    have hDs : w.heap.size + 5 ≤ D := by simpa using hD
    have c1 : W.cell? ⟨w.heap.size + 1, 0, none⟩ = some (.slice (some ⟨w.heap.size, 0, none⟩) (na + 1) (na + 1)) := h7.cell 0
    have c2 : W.cell? ⟨w.heap.size + 1 + 1, 0, none⟩ = some (.bool c) := h4.cell 0
    cases c with
    | false =>
      have ht := trimmed_c (some ⟨w.heap.size, 0, none⟩) (na + 1) (na + 1) W.heap.size os W (h1.rd0 h1.lt h3 h2) (Nat.le_refl _) (by omega)
      have HT := Lib.hid ht
      clear ht
      gi_wp2_with (refine ⟨trivial, ?_⟩; gi_at_call 64; refine (callsIn_wide.2 HT.out).mono ?_; rintro e w' ⟨rfl, rfl⟩)
      refine ⟨by simp, .inl ⟨_, _, rfl, run_takeDeferred hK, ⟨_, results_tmp rfl _ _ _, _, rfl, ?_⟩⟩⟩
      have hv : V os = V xs + V ys := by
        have e := lo_succ os (na)
        rw [lo_all (by omega), h6 (na) (Nat.le_refl _), Int.mul_zero] at e
        rw [b1_f, Int.mul_zero, lo_all (xs := xs) (by rw [ha.len]; omega), lo_all (xs := ys) (by rw [hb.len]; omega)] at h5
        omega
      have := ans_trim (w := w) (m := na + 1) (h1.putObj (.deferred none) hK rfl) h3 hv (by omega) (below_putObj h10 (Nat.le_refl _) (by omega) _)
      rw [h2] at this
      exact this
    | true =>
      have hko : na < os.length := by omega
      have c5 : W.cell? ⟨w.heap.size, na, none⟩ = some (.int .u64 (Nt.at_ os (na))) := (h1.cell _).trans (us_get hko)
      have f5 : W.frozen? ⟨w.heap.size, na, none⟩ = false := h1.frozen _
      have h1' := h1.set_ (na) (.int .u64 1)
      rw [us_set] at h1'
      have h3' : Ws (os.set (na) 1) := h3.set _ (by unfold Wd.W; omega)
      have ht := trimmed_c (some ⟨w.heap.size, 0, none⟩) (na + 1) (na + 1) W.heap.size (os.set (na) 1) (W.setCell ⟨w.heap.size, na, none⟩ (.int .u64 1)) (h1'.rd0 h1.lt h3' (by simpa using h2)) (Nat.le_refl _) (by omega)
      have HT := Lib.hid ht
      clear ht
      gi_wp2_with (refine ⟨trivial, ?_⟩; gi_at_call 64; refine (callsIn_wide.2 HT.out).mono ?_; rintro e w' ⟨rfl, rfl⟩)
      have hK' := (KeepsOthers.setCell W ⟨w.heap.size, na, none⟩ (.int .u64 1)).same D _ hK rfl
      refine ⟨by simp, .inl ⟨_, _, rfl, run_takeDeferred hK', ⟨_, results_tmp rfl _ _ _, _, rfl, ?_⟩⟩⟩
      have hv : V (os.set (na) 1) = V xs + V ys := by
        have e := lo_succ os (na)
        rw [lo_all (by omega), h6 (na) (Nat.le_refl _), Int.mul_zero] at e
        rw [b1_t, lo_all (xs := xs) (by rw [ha.len]; omega), lo_all (xs := ys) (by rw [hb.len]; omega)] at h5
        rw [V_set _ _ _ hko, h6 (na) (Nat.le_refl _)]
        omega
      have := ans_trim (w := w) (m := na + 1) (h1'.putObj (.deferred none) hK' rfl) h3' hv (by rw [List.length_set]; omega) (below_putObj (h10.setCell (Nat.le_refl _) _) (Nat.le_refl _) (by omega) _)
      rw [List.length_set, h2] at this
      exact this
  case stop =>
    rintro D c W hD h _
    exact h.elim

theorem add_n (A B : Option Addr) (na ca nb cb : Nat) (xs ys : List Int) (w : World) (ha : Rd w w.heap.size A na xs) (hb : Rd w w.heap.size B nb ys) (la : na ≤ 1073741824) (lb : nb ≤ 1073741824) :
    Calls Try.prog 39 #[.slice A na ca, .slice B nb cb] w fun e w' => ∃ v, e = .returned v ∧ Ans w w' v (V xs + V ys) (max na nb + 1) := by
  by_cases h : na < nb
  · rw [Nat.max_eq_right (by omega)]; exact add_n1 A B na ca nb cb xs ys w ha hb la lb h
  · rw [Nat.max_eq_left (by omega)]; exact add_n2 A B na ca nb cb xs ys w ha hb la lb h
end Nt
end Go.Proofs.Ytopajockmcgpmaa
namespace Go.Proofs.Ytopajockmcgpmaa
open Go Go.RowKit Go.Shelf
attribute [local go_sem] Oper.semAt_some
namespace Nt
open Wd Sti
set_option linter.unusedVariables false
structure TakeI (w : World) (s g n c : Nat) (B : Option Addr) (nb cb : Nat) (os ys : List Int) (k : Nat) (W : World) : Prop where
  rest : ∃ os' b, Bk W g 29 (us os') ∧ os'.length = n ∧ Ws os' ∧ Bk W (s + 1) 4 #[.bool b] ∧ lo os' k - P k * b1 b = lo os k - lo ys k ∧ (∀ j, k ≤ j → Nt.at_ os' j = Nt.at_ os j)
  out : Bk W s 74 #[.slice (some ⟨g, 0, none⟩) n c]
  ba : Bk W (s + 2) 23 #[.slice (some ⟨g, 0, none⟩) n c]
  bb : Bk W (s + 3) 23 #[.slice B nb cb]
  be : w.grownBy W (some g)
theorem grownBy_trans {a b c : World} {r r' : Option Nat} (h : a.grownBy b r) (k : b.grownBy c r') (hr : ∀ j, r' = some j → r = some j ∨ a.heap.size ≤ j) : a.grownBy c r :=
  ⟨k.os.trans h.os, k.tape.trans h.tape, k.output.trans h.output, Nat.le_trans h.size k.size, fun i hi hne => (k.block i (Nat.lt_of_lt_of_le hi h.size) (fun e => by
    rcases hr i e.symm with h' | h'
    · exact hne h'.symm
    · omega)).trans (h.block i hi hne)⟩
theorem TakeI.own {w : World} {s g n c nb cb C : Nat} {B : Option Addr} {os ys : List Int} (hC : w.heap.size ≤ C) : OwnFrom C (TakeI w s g n c B nb cb os ys) := by
  intro k W W' row h hg hr
  have hr' : ∀ r, row = some r → ∃ o : Obj, W.heap[r]? = some o ∧ o.isCells = false := fun r e => (hr r e).2
  obtain ⟨⟨os', b, h1, h2, h3, h4, h5, h6⟩, h7, h8, h9, h10⟩ := h
  exact ⟨⟨os', b, h1.grown hg hr', h2, h3, h4.grown hg hr', h5, h6⟩, h7.grown hg hr', h8.grown hg hr', h9.grown hg hr', grownBy_trans h10 hg (fun j e => .inr (Nat.le_trans hC (hr j e).1))⟩
theorem take_step {os os' ys : List Int} {k : Nat} {c : Bool} (hk : k < os'.length) (ho : Ws os) (hy : Ws ys) (he : Nt.at_ os' k = Nt.at_ os k) (h : lo os' k - P k * b1 c = lo os k - lo ys k) :
    lo (os'.set k (Wd.sub (Nt.at_ os k) (Nt.at_ ys k) c)) (k + 1) - P (k + 1) * b1 (subO (Nt.at_ os k) (Nt.at_ ys k) c) = lo os (k + 1) - lo ys (k + 1) := by
  have e := sub_eq (ho.at_ k) (hy.at_ k) c
  rw [lo_succ, lo_succ, lo_succ, lo_set_ge _ _ _ _ (Nat.le_refl _), at_set _ _ _ _ hk, if_pos rfl, P_succ]
  generalize Wd.sub (Nt.at_ os k) (Nt.at_ ys k) c = s at *
  generalize subO (Nt.at_ os k) (Nt.at_ ys k) c = d at *
  have e2 : P k * s - 18446744073709551616 * P k * b1 d = P k * (s - 18446744073709551616 * b1 d) := by
    rw [Int.mul_sub, Int.mul_comm 18446744073709551616 (P k), Int.mul_assoc]
  rw [Int.add_sub_assoc, e2, e, Int.mul_sub, Int.mul_sub]
  omega
theorem Rd.grown {w w' : World} {B n : Nat} {A : Option Addr} {xs : List Int} {r : Option Nat} (h : Rd w B A n xs) (hg : w.grownBy w' r) (hB : B ≤ w.heap.size) (hr : ∀ j, r = some j → B ≤ j) : Rd w' B A n xs :=
  h.keep fun p hp => World.cell?_of_block (hg.block p.block (by omega) (fun e => by have := hr _ e.symm; omega))

set_option maxRecDepth 100000 in
set_option maxHeartbeats 4000000 in
theorem take_n (g n c : Nat) (B : Option Addr) (nb cb Bb : Nat) (os ys : List Int) (w : World) (hr : Bk w g 29 (us os)) (ho : Ws os) (hn : os.length = n) (hb : Rd w Bb B nb ys) (hBb : Bb ≤ g) (hnb : nb ≤ n) (ln : n ≤ 1073741824) :
    Calls Try.prog 69 #[.slice (some ⟨g, 0, none⟩) n c, .slice B nb cb] w fun e w' => ∃ os' b, e = .returned (.bool b) ∧ Bk w' g 29 (us os') ∧ os'.length = n ∧ Ws os' ∧ V os' = V os - V ys + P n * b1 b ∧ w.grownBy w' (some g) := by
  have hF : Wide Fence.wide Try.prog := wide _
  have hgs := hr.lt
  refine callsIn_wide (n := 3).1 (callsIn_of_wp_marks Try.func69 rfl trivial ?_ rfl)
  simp only [Try.ntmps69, List.size_toArray, List.length_cons, List.length_nil, Nat.reduceAdd, Nat.reduceSub, Array.replicate_succ, Array.replicate_zero, List.push_toArray, List.append_toArray, List.nil_append, List.cons_append]
  gi_wp2_with (refine ⟨trivial, ?_⟩; gi_at_call 62; refine (pairs_c hF rfl (some ⟨g, 0, none⟩) B n c nb cb _).mono ?_; rintro e w' ⟨rfl, rfl⟩)
  refine wpIn_rangeB rfl (fun h => by cases h) (gf := 78) (lb := _) rfl trivial (enters_of Try.func78 (by kernel_rfl) rfl)
    (pairs_gives (n := 2) hF rfl (w.heap.size + 2) (w.heap.size + 3) (some ⟨g, 0, none⟩) B n c nb cb n (by omega) (by omega) (by omega) (Nt.at_ os) (Nt.at_ ys)) (fun _ => rfl)
    (TakeI w w.heap.size g n c B nb cb os ys) (fun _ _ => False) (TakeI.own (by simp; omega)) (fun _ _ _ _ h _ _ => h)
    ?rdy ?start (fun k b W => w.heap.size + 3 < b ∧ Bk W b 69 #[.int .u64 (Nt.at_ os k), .int .u64 (Nt.at_ ys k)]) ?ax
    (fun k b T => (((T.setIfInBounds 10 (.int .i64 (k : Int))).setIfInBounds 11 (.agg #[.int .u64 (Nt.at_ os k), .int .u64 (Nt.at_ ys k)])).setIfInBounds 5 (.int .i64 (k : Int))).setIfInBounds 6 (.pointer (some ⟨b, 0, none⟩))) ?assign ?body ?done ?stop
  case rdy =>
    intro k W hi
    refine ⟨hi.ba.cell 0, hi.bb.cell 0, fun hk => ⟨?_, (hb.grown hi.be (by omega) (fun j e => by cases e; exact hBb)).lat k⟩⟩
    obtain ⟨os', b, h1, h2, h3, h4, h5, h6⟩ := hi.rest
    have := (h1.rd0 h1.lt h3 h2).lat k
    rwa [h6 k (Nat.le_refl _)] at this
  case start =>
    refine ⟨⟨os, false, (((hr.alloc _).alloc _).alloc _).alloc _, hn, ho, ((Bk.new' (by simp)).alloc _).alloc _, by rw [lo_zero, lo_zero, P_zero, b1_f]; rfl, fun j _ => rfl⟩,
      (((Bk.new' (by simp)).alloc _).alloc _).alloc _, (Bk.new' (by simp)).alloc _, Bk.new' (by simp), ?_⟩
    exact grownBy_trans (grownBy_trans (grownBy_trans (World.grownBy_alloc w _ _) (World.grownBy_alloc _ _ none) (fun j e => by cases e)) (World.grownBy_alloc _ _ none) (fun j e => by cases e)) (World.grownBy_alloc _ _ none) (fun j e => by cases e)
  case ax => exact fun k b => fun _ W W' row h hg hr => ⟨h.1, h.2.grown hg (fun r e => (hr r e).2)⟩
  case assign =>
    intro l k W K hi hK
    gi_wp2
    exact hK W.heap.size _ ((KeepsOthers.alloc _ _).from _) ((TakeI.own (Nat.le_refl _)).alloc _ hi) ⟨hi.bb.lt, Bk.new W _ _⟩
  case body =>
    rintro l k b W hl hi ⟨hb1, hb2⟩ hk
    obtain ⟨⟨os', c', h1, h2, h3, h4, h5, h6⟩, h7, h8, h9, h10⟩ := hi
    have hko : k < os'.length := by omega
    have e6 := h6 k (Nat.le_refl _)
    have c1 : W.drew.cell? ⟨w.heap.size, 0, none⟩ = some (.slice (some ⟨g, 0, none⟩) n c) := h7.cell 0
    have c2 : W.drew.cell? ⟨w.heap.size + 1, 0, none⟩ = some (.bool c') := h4.cell 0
    have f2 : W.drew.frozen? ⟨w.heap.size + 1, 0, none⟩ = false := h4.frozen 0
    have c3 : W.drew.cell? ⟨b, 0, none⟩ = some (.int .u64 (Nt.at_ os k)) := hb2.cell 0
    have c4 : W.drew.cell? ⟨b, 1, none⟩ = some (.int .u64 (Nt.at_ ys k)) := hb2.cell 1
    have c5 : W.drew.cell? ⟨g, k, none⟩ = some (.int .u64 (Nt.at_ os' k)) := (h1.cell k).trans (us_get hko)
    have f5 : W.drew.frozen? ⟨g, k, none⟩ = false := h1.frozen k
    have hki : (k : Int) < (n : Int) := by omega
    have cad := (sub_c (Nt.at_ os k) (Nt.at_ ys k) c' W.drew (ho.at_ k) (hb.ws.at_ k)).mono (R' := fun e w' => e = .returned (.tuple #[.int .u64 (Wd.sub (Nt.at_ os k) (Nt.at_ ys k) c'), .bool (subO (Nt.at_ os k) (Nt.at_ ys k) c')]) ∧ w' = W.drew) (fun _ _ h => ⟨h.1, h.2.symm⟩)
    have E6 := Lib.hid e6
    clear e6
    simp only [List.setIfInBounds_toArray]
    gi_wp2
    refine wpIn_region_holdR hF rfl l 12 12 10 (by kernel_rfl) (by kernel_rfl) (by kernel_rfl) ?_
    simp only [hold, behind, List.push_toArray, List.cons_append, List.nil_append, List.take_succ_cons, List.take_zero, List.drop_succ_cons, List.drop_zero]
    iterate 7 still_step
    still_call cad
    iterate 4 still_step
    refine wpStill_nil ?_
    have c2' : W.cell? ⟨w.heap.size + 1, 0, none⟩ = some (.bool c') := c2
    have f2' : W.frozen? ⟨w.heap.size + 1, 0, none⟩ = false := f2
    have c5' : W.cell? ⟨g, k, none⟩ = some (.int .u64 (Nt.at_ os' k)) := c5
    have f5' : W.frozen? ⟨g, k, none⟩ = false := f5
    have c2'' : (W.setCell ⟨g, k, none⟩ (.int .u64 (Wd.sub (Nt.at_ os k) (Nt.at_ ys k) c'))).cell? ⟨w.heap.size + 1, 0, none⟩ = some (.bool c') := by
      rw [World.cell?_setCell_other _ _ _ _ (fun e => by cases e; omega)]; exact c2
    clear cad c1 c2 c3 c4 f2 c5 f5
    gi_wp2
    refine ⟨(((KeepsOthers.setCell _ _ _).trans (KeepsOthers.setCell _ _ _)).trans (KeepsOthers.drew _)).from _, ⟨os'.set k (Wd.sub (Nt.at_ os k) (Nt.at_ ys k) c'), subO (Nt.at_ os k) (Nt.at_ ys k) c', ?_, by simpa using h2, h3.set _ (W_sub _ _ _), ?_, take_step hko ho hb.ws E6.out h5, fun j hj => ?_⟩, ?_, ?_, ?_, ?_⟩
    · have := h1.set_ k (.int .u64 (Wd.sub (Nt.at_ os k) (Nt.at_ ys k) c'))
      rw [us_set] at this
      exact (this.far (by simp; omega) _).drew
    · exact ((h4.far (by simp; omega) _).set_ 0 _).drew
    · rw [at_set _ _ _ _ hko, if_neg (by omega)]; exact h6 j (by omega)
    · exact ((h7.far (by simp; omega) _).far (by simp) _).drew
    · exact ((h8.far (by simp; omega) _).far (by simp) _).drew
    · exact ((h9.far (by simp; omega) _).far (by simp) _).drew
    · refine grownBy_trans (grownBy_trans (grownBy_trans h10 (only_setCell _ _ _ _) (fun j e => .inl e)) (only_setCell _ _ _ _) (fun j e => ?_)) (only_drew _ none) (fun j e => by cases e)
      cases e; exact .inr (by omega)
  case done =>
    rintro D W hD hi hK
    obtain ⟨⟨os', c', h1, h2, h3, h4, h5, h6⟩, h7, h8, h9, h10⟩ := hi
    have hDs : w.heap.size + 4 ≤ D := by simpa using hD
    have c2 : W.cell? ⟨w.heap.size + 1, 0, none⟩ = some (.bool c') := h4.cell 0
    have f2 : W.frozen? ⟨w.heap.size + 1, 0, none⟩ = false := h4.frozen 0
    gi_wp2
    have hK' := (KeepsOthers.setCell W ⟨w.heap.size + 1, 0, none⟩ (.bool c')).same D _ hK rfl
    have h4' := ((h4.set_ 0 (.bool c')).putObj (.deferred none) hK' rfl).cell 0
    have hc5 : ((W.setCell ⟨w.heap.size + 1, 0, none⟩ (.bool c')).putObj D (.deferred none)).cell? ⟨w.heap.size + 1, 0, none⟩ = some (.bool c') := h4'
    refine ⟨by simp, .inl ⟨_, _, rfl, run_takeDeferred hK', ⟨.bool c', by simp [results, Try.f69, go_sem, hc5], os', c', rfl, ?_, h2, h3, ?_, ?_⟩⟩⟩
    · exact ((h1.far (by simp; omega) _).putObj (.deferred none) hK' rfl)
    · rw [lo_all (xs := os') (by omega), lo_all (xs := os) (by omega), lo_all (xs := ys) (by rw [hb.len]; omega)] at h5
      omega
    · exact grownBy_trans (grownBy_trans h10 (only_setCell _ _ _ _) (fun j e => by cases e; exact .inr (by omega))) (grownBy_putObj' _ D _) (fun j e => by cases e; exact .inr (by omega))
  case stop =>
    rintro D c W hD h _
    exact h.elim
end Nt
end Go.Proofs.Ytopajockmcgpmaa
namespace Go.Proofs.Ytopajockmcgpmaa
open Go Go.RowKit Go.Shelf
attribute [local go_sem] Oper.semAt_some
namespace Nt
open Wd Sti
set_option linter.unusedVariables false
def cmpN (a b : Int) : Int := if a < b then -1 else if a = b then 0 else 1
theorem cmp_lt {xs ys : List Int} {j : Nat} (hx : Ws xs) (hy : Ws ys) (he : hi xs (j + 1) = hi ys (j + 1)) (h : Nt.at_ xs j < Nt.at_ ys j) : V xs < V ys := by
  have a1 := V_split xs j
  have a2 := V_split ys j
  rw [hi_succ] at a1 a2
  have b1 := lo_lt hx j
  have b2 := lo_nonneg hy j
  have p := P_pos j
  rw [he] at a1
  generalize hi ys (j + 1) = t at *
  have h1 : P j * (Nt.at_ xs j + 1 + 18446744073709551616 * t) ≤ P j * (Nt.at_ ys j + 18446744073709551616 * t) := Int.mul_le_mul_of_nonneg_left (by omega) (by omega)
  have h2 : P j * (Nt.at_ xs j + 1 + 18446744073709551616 * t) = P j * (Nt.at_ xs j + 18446744073709551616 * t) + P j := by
    rw [show Nt.at_ xs j + 1 + 18446744073709551616 * t = (Nt.at_ xs j + 18446744073709551616 * t) + 1 by omega, Int.mul_add, Int.mul_one]
  omega
theorem cmp_at {xs ys : List Int} {j : Nat} (hx : Ws xs) (hy : Ws ys) (he : hi xs (j + 1) = hi ys (j + 1)) (h : Nt.at_ xs j ≠ Nt.at_ ys j) : cmpN (Nt.at_ xs j) (Nt.at_ ys j) = cmpN (V xs) (V ys) := by
  unfold cmpN
  by_cases hl : Nt.at_ xs j < Nt.at_ ys j
  · rw [if_pos hl, if_pos (cmp_lt hx hy he hl)]
  · have := cmp_lt hy hx he.symm (j := j) (by omega)
    rw [if_neg hl, if_neg h, if_neg (by omega), if_neg (by omega)]
theorem cmp_same {xs ys : List Int} (h : V xs = V ys) : cmpN (V xs) (V ys) = 0 := by unfold cmpN; rw [if_neg (by omega), if_pos h]

set_option maxHeartbeats 1000000 in
theorem ucmp_c (a b : Int) (w : World) : Calls Try.prog 67 #[.int .u64 a, .int .u64 b] w fun e w' => e = .returned (.int .i64 (cmpN a b)) ∧ w' = w := by
  have hn : ∀ (x : Int) (w : World), Calls Try.prog 81 #[.int .u64 x] w fun e w' => e = .returned (.bool false) ∧ w = w' := by
    intro x w
    have hxx : (x != x) = false := by simp
    go_enter Try.func81, Try.ntmps81
    go_wp2_with fail
    go_ret
    exact ⟨rfl, rfl⟩
  have HN := Lib.hid hn
  clear hn
  unfold cmpN
  by_cases h1 : a < b
  · rw [if_pos h1]
    go_enter Try.func67, Try.ntmps67
    go_wp2_with (go_at_call 81; refine (HN.out _ _).mono ?_; rintro e w' ⟨rfl, rfl⟩)
    go_ret
    exact ⟨rfl, rfl⟩
  · rw [if_neg h1]
    by_cases h2 : a = b
    · subst h2
      rw [if_pos rfl]
      go_enter Try.func67, Try.ntmps67
      go_wp2_with (go_at_call 81; refine (HN.out _ _).mono ?_; rintro e w' ⟨rfl, rfl⟩)
      go_ret
      exact ⟨rfl, rfl⟩
    · rw [if_neg h2]
      have h3 : b < a := by omega
      clear h2
      go_enter Try.func67, Try.ntmps67
      go_wp2_with (go_at_call 81; refine (HN.out _ _).mono ?_; rintro e w' ⟨rfl, rfl⟩)
      go_ret
      exact ⟨rfl, rfl⟩

structure CmpI (w : World) (N : Nat) (A B : Option Addr) (na ca nb cb : Nat) (xs ys : List Int) (k : Nat) (W : World) : Prop where
  le : k ≤ N
  same : hi xs (N - k) = hi ys (N - k)
  res : Bk W w.heap.size 3 #[.int .i64 0]
  ba : Bk W (w.heap.size + 1) 23 #[.slice A na ca]
  bb : Bk W (w.heap.size + 2) 23 #[.slice B nb cb]
  be : Below w.heap.size w W
structure CmpX (w : World) (xs ys : List Int) (c : Code) (W : World) : Prop where
  ret : c = .ret
  res : Bk W w.heap.size 3 #[.int .i64 (cmpN (V xs) (V ys))]
  be : Below w.heap.size w W
theorem CmpI.own {w : World} {N na ca nb cb C : Nat} {A B : Option Addr} {xs ys : List Int} (hC : w.heap.size ≤ C) : OwnFrom C (CmpI w N A B na ca nb cb xs ys) := by
  intro k W W' row h hg hr
  have hr' : ∀ r, row = some r → ∃ o : Obj, W.heap[r]? = some o ∧ o.isCells = false := fun r e => (hr r e).2
  exact ⟨h.le, h.same, h.res.grown hg hr', h.ba.grown hg hr', h.bb.grown hg hr', h.be.grown hg h.be.size (fun r e => Nat.le_trans hC (hr r e).1)⟩
theorem CmpX.own {w : World} {C : Nat} {xs ys : List Int} (hC : w.heap.size ≤ C) : OwnFrom C (CmpX w xs ys) := by
  intro k W W' row h hg hr
  have hr' : ∀ r, row = some r → ∃ o : Obj, W.heap[r]? = some o ∧ o.isCells = false := fun r e => (hr r e).2
  exact ⟨h.ret, h.res.grown hg hr', h.be.grown hg h.be.size (fun r e => Nat.le_trans hC (hr r e).1)⟩

set_option maxRecDepth 100000 in
set_option maxHeartbeats 4000000 in
theorem compare_n (A B : Option Addr) (na ca nb cb Ba Bb : Nat) (xs ys : List Int) (w : World) (ha : Rd w Ba A na xs) (hBa : Ba ≤ w.heap.size) (hb : Rd w Bb B nb ys) (hBb : Bb ≤ w.heap.size) (la : na ≤ 1073741824) (lb : nb ≤ 1073741824) :
    Calls Try.prog 42 #[.slice A na ca, .slice B nb cb] w fun e w' => e = .returned (.int .i64 (cmpN (V xs) (V ys))) ∧ Below w.heap.size w w' := by
  replace ha := ha.more hBa
  replace hb := hb.more hBb
  have hF : Wide Fence.wide Try.prog := wide _
  refine callsIn_wide (n := 3).1 (callsIn_of_wp_marks Try.func42 rfl trivial ?_ rfl)
  simp only [Try.ntmps42, List.size_toArray, List.length_cons, List.length_nil, Nat.reduceAdd, Nat.reduceSub, Array.replicate_succ, Array.replicate_zero, List.push_toArray, List.append_toArray, List.nil_append, List.cons_append]
  gi_wp2_with (refine ⟨trivial, ?_⟩; gi_at_call 66; refine (pairsDown_c hF rfl A B na ca nb cb _).mono ?_; rintro e w' ⟨rfl, rfl⟩)
  obtain ⟨N, hN⟩ : ∃ N, N = max na nb := ⟨_, rfl⟩
  refine wpIn_rangeB rfl (fun h => by cases h) (gf := 80) (lb := _) rfl trivial (enters_of Try.func80 (by kernel_rfl) rfl)
    (pairsDown_gives (n := 2) hF rfl (w.heap.size + 1) (w.heap.size + 2) A B na ca nb cb N hN (by omega) (by omega) (Nt.at_ xs) (Nt.at_ ys)) (fun _ => rfl)
    (CmpI w N A B na ca nb cb xs ys) (CmpX w xs ys) (CmpI.own (by simp; omega)) (CmpX.own (by simp; omega))
    ?rdy ?start (fun k b W => w.heap.size + 2 < b ∧ Bk W b 69 #[.int .u64 (Nt.at_ xs (N - 1 - k)), .int .u64 (Nt.at_ ys (N - 1 - k))]) ?ax
    (fun k b T => ((T.setIfInBounds 10 (.int .i64 ((N - 1 - k : Nat) : Int))).setIfInBounds 11 (.agg #[.int .u64 (Nt.at_ xs (N - 1 - k)), .int .u64 (Nt.at_ ys (N - 1 - k))])).setIfInBounds 6 (.pointer (some ⟨b, 0, none⟩))) ?assign ?body ?done ?stop
  case rdy => exact fun k W hi => ⟨hi.ba.cell 0, hi.bb.cell 0, fun _ => ⟨(ha.below hi.be).lat _, (hb.below hi.be).lat _⟩⟩
  case start =>
    refine ⟨Nat.zero_le _, ?_, ((Bk.new' rfl).alloc _).alloc _, (Bk.new' (by simp)).alloc _, Bk.new' (by simp), (((Below.refl _ w).alloc (Nat.le_refl _) _).alloc (by simp) _).alloc (by simp; omega) _⟩
    rw [hi_all (by rw [ha.len]; omega), hi_all (by rw [hb.len]; omega)]
  case ax => exact fun k b => fun _ W W' row h hg hr => ⟨h.1, h.2.grown hg (fun r e => (hr r e).2)⟩
  case assign =>
    intro l k W K hi hK
    clear hN
    gi_wp2
    exact hK W.heap.size _ ((KeepsOthers.alloc _ _).from _) ((CmpI.own (Nat.le_refl _)).alloc _ hi) ⟨hi.bb.lt, Bk.new W _ _⟩
  case body =>
    rintro l k b W hl ⟨g0, g1, g2, g3, g4, g5⟩ ⟨hb1, hb2⟩ hk
    clear hN
    obtain ⟨j, hj⟩ : ∃ j, N - 1 - k = j := ⟨_, rfl⟩
    rw [hj] at hb2
    have hjs : N - k = j + 1 := by omega
    rw [hjs] at g1
    have hjs' : N - (k + 1) = j := by omega
    have c3 : W.cell? ⟨b, 0, none⟩ = some (.int .u64 (Nt.at_ xs j)) := hb2.cell 0
    have c4 : W.cell? ⟨b, 1, none⟩ = some (.int .u64 (Nt.at_ ys j)) := hb2.cell 1
    have c0 : W.cell? ⟨w.heap.size, 0, none⟩ = some (.int .i64 0) := g2.cell 0
    have f0 : W.frozen? ⟨w.heap.size, 0, none⟩ = false := g2.frozen 0
    rw [hj]
    have G1 := Lib.hid g1
    have HJ := Lib.hid hjs'
    clear hj hjs hjs' g1
    have hxw := ha.ws.at_ j
    have hyw := hb.ws.at_ j
    have HI : Nt.at_ xs j = Nt.at_ ys j → Hid (hi xs j = hi ys j) := fun e => Lib.hid (by rw [hi_succ, hi_succ ys, e, G1.out])
    have HC : Nt.at_ xs j ≠ Nt.at_ ys j → Hid (cmpN (Nt.at_ xs j) (Nt.at_ ys j) = cmpN (V xs) (V ys)) := fun e => Lib.hid (cmp_at ha.ws hb.ws G1.out e)
    simp only [List.setIfInBounds_toArray]
    by_cases hx : Nt.at_ xs j = Nt.at_ ys j
    · have HI' := HI hx
      rw [hx] at c3
      clear HI HC hx
      generalize Nt.at_ ys j = z at *
      gi_wp2
      exact ⟨KeepsFrom.refl _ _, by omega, by rw [HJ.out]; exact HI'.out, g2, g3, g4, g5⟩
    · have HC' := HC hx
      have hxx : (Nt.at_ xs j != Nt.at_ ys j) = true := by simpa using hx
      have cc := ucmp_c (Nt.at_ xs j) (Nt.at_ ys j) W
      rw [HC'.out] at cc
      clear HI HC hx HC'
      generalize Nt.at_ ys j = z at *
      generalize Nt.at_ xs j = z' at *
      gi_wp2_with (refine ⟨trivial, ?_⟩; gi_at_call 67; refine (CallsIn.inRound l (callsIn_wide.2 cc)).mono ?_; rintro e w' ⟨rfl, rfl⟩)
      refine ⟨(KeepsOthers.setCell _ _ _).from _, rfl, g2.set_ 0 _, g5.setCell (Nat.le_refl _) _⟩
  case done =>
    rintro D W hD ⟨g0, g1, g2, g3, g4, g5⟩ hK
    have hDs : w.heap.size + 3 ≤ D := by simpa using hD
    have c0 : W.cell? ⟨w.heap.size, 0, none⟩ = some (.int .i64 0) := g2.cell 0
    have f0 : W.frozen? ⟨w.heap.size, 0, none⟩ = false := g2.frozen 0
    have hv : V xs = V ys := by rw [Nat.sub_self, hi_zero, hi_zero] at g1; exact g1
    have HV := Lib.hid hv
    clear hv g1
    gi_wp2
    have hK' := (KeepsOthers.setCell W ⟨w.heap.size, 0, none⟩ (.int .i64 0)).same D _ hK rfl
    have hc5 : ((W.setCell ⟨w.heap.size, 0, none⟩ (.int .i64 0)).putObj D (.deferred none)).cell? ⟨w.heap.size, 0, none⟩ = some (.int .i64 0) := ((g2.set_ 0 (.int .i64 0)).putObj (.deferred none) hK' rfl).cell 0
    refine ⟨by simp, .inl ⟨_, _, rfl, run_takeDeferred hK', ⟨.int .i64 0, by simp [results, Try.f42, go_sem, hc5], by rw [cmp_same HV.out], below_putObj (g5.setCell (Nat.le_refl _) _) (Nat.le_refl _) (by omega) _⟩⟩⟩
  case stop =>
    rintro D c W hD ⟨rfl, h1, h2⟩ hK
    have hDs : w.heap.size + 3 ≤ D := by simpa using hD
    gi_wp2
    have hc5 : (W.putObj D (.deferred none)).cell? ⟨w.heap.size, 0, none⟩ = some (.int .i64 (cmpN (V xs) (V ys))) := (h1.putObj (.deferred none) hK rfl).cell 0
    refine ⟨by simp, .inl ⟨_, _, rfl, run_takeDeferred hK, ⟨.int .i64 (cmpN (V xs) (V ys)), by simp [results, Try.f42, go_sem, hc5], rfl, below_putObj h2 (Nat.le_refl _) (by omega) _⟩⟩⟩
end Nt
end Go.Proofs.Ytopajockmcgpmaa
namespace Go.Proofs.Ytopajockmcgpmaa
open Go Go.RowKit
namespace Nt
open Wd Sti
set_option linter.unusedVariables false
theorem copy_run {w : World} (dT sT ty : TypeId) (hu : Try.prog.underlying dT = some (.slice 29)) {g B n c dLen dCap : Nat} {A : Option Addr} {xs os : List Int} (hg : Bk w g 29 (us os)) (hd : os.length = dLen) (hr : Rd w B A n xs) (hn : n ≤ dLen) :
    ∃ w', (Builtin.copy_ #[dT, sT] ty #[.slice (some ⟨g, 0, none⟩) dLen dCap, .slice A n c]).run Try.prog w = .ok (goInt n) w' ∧ Bk w' g 29 (us (xs ++ os.drop n)) ∧ w.grownBy w' (some g) := by
  have hsz : (Try.prog.info? 29).map (·.size) = some 1 := by kernel_rfl
  rcases Nat.eq_zero_or_pos n with rfl | h0
  · obtain rfl : xs = [] := List.eq_nil_of_length_eq_zero hr.len
    exact ⟨w, run_copy_none w dT sT ty _ _ _ _ _ _ _ hu hsz (by simp), by simpa using hg, World.grownBy.refl w _⟩
  · obtain ⟨ad, rfl, _, hc⟩ := hr.rd h0
    have h := run_copy_row (P := Try.prog) w dT sT ty 29 g 0 dLen dCap ad n c (us os) 29 (xs.map (Value.int .u64)) hu hsz hg (by rw [List.length_map, hr.len]; show n = min n dLen; omega)
      (fun j v hj => by
        rw [List.getElem?_map] at hj
        have hjl : j < n := by
          rcases Nat.lt_or_ge j xs.length with h | h
          · rw [← hr.len]; exact h
          · rw [List.getElem?_eq_none h] at hj; cases hj
        rw [hc j hjl]
        rw [at_lt (by rw [hr.len]; exact hjl)] at hj
        exact hj) (by rw [us_size, List.length_map, hr.len]; omega) (fun v hv => by
        obtain ⟨x, _, rfl⟩ := List.mem_map.1 hv
        simp [Value.oneCell'])
    rw [List.length_map, hr.len] at h
    refine ⟨_, h, ?_, ?_⟩
    · have := setRow_heap w g (us os) ((us os).toList.take 0 ++ xs.map (Value.int .u64) ++ (us os).toList.drop (0 + n)).toArray 29 (0, 0) hg
      have e : ((us os).toList.take 0 ++ xs.map (Value.int .u64) ++ (us os).toList.drop (0 + n)).toArray = us (xs ++ os.drop n) := by
        simp [us, List.map_drop]
      rw [e] at this ⊢
      exact this
    · exact ⟨rfl, rfl, rfl, by simp [World.setRow], fun k _ hne => setRow_other w g k _ (fun e => hne (by rw [e]))⟩

theorem only_alloc (w : World) (o : Obj) (r : Option Nat) : w.grownBy (w.alloc o) r := World.grownBy_alloc w o r
theorem below_of_own {w w' : World} {o : Obj} (h : (w.alloc o).grownBy w' (some w.heap.size)) : Below w.heap.size w w' :=
  ((Below.refl _ w).alloc (Nat.le_refl _) o).grown h (by simp) (fun k e => by cases e; exact Nat.le_refl _)

theorem clone_c (A : Option Addr) (n c B : Nat) (xs : List Int) (w : World) (h : Rd w B A n xs) (hB : B ≤ w.heap.size) (hn : n ≤ 1099511627776) :
    Calls Try.prog 75 #[.slice A n c] w fun e w' => e = .returned (.slice (some ⟨w.heap.size, 0, none⟩) n n) ∧ Bk w' w.heap.size 29 (us xs) ∧ Below w.heap.size w w' := by
  have hmk := make_nat n hn w
  obtain ⟨w2, hcp, h2, hg⟩ := copy_run (dLen := n) (dCap := n) (c := c) 24 24 3 Try.underlying24 (Bk.new' (w := w) rfl (t := 29) (cs := us (List.replicate n 0))) (by simp) (h.keep (w' := w.alloc (.cells (us (List.replicate n 0)) 29)) (fun p hp => World.cell?_alloc_lt w _ p (by omega))) (Nat.le_refl _)
  have hb := below_of_own hg
  rw [List.drop_of_length_le (by simp), List.append_nil] at h2
  clear hg h
  go_enter Try.func75, Try.ntmps75
  go_wp2_with fail
  go_ret
  exact ⟨rfl, h2, hb⟩

theorem trim_n (A : Option Addr) (n c B : Nat) (xs : List Int) (w : World) (h : Rd w B A n xs) (hB : B ≤ w.heap.size) (hc : n ≤ c ∧ n ≤ 1073741824) (hn : c ≤ 9223372036854775807) :
    Calls Try.prog 50 #[.slice A n c] w fun e w' => ∃ v, e = .returned v ∧ Ans w w' v (V xs) n := by
  obtain ⟨hc, hcn⟩ := hc
  have HT := Lib.hid (trimmed_c A n c B xs w h hc (by omega))
  have hl : (trim xs).length ≤ n := by have := trim_le xs; have := h.len; omega
  have HC := Lib.hid (clone_c A (trim xs).length c B (trim xs) w h.trim hB (by omega))
  have HI := Lib.hid (Is.of_trim h.ws)
  have HW := Lib.hid h.ws
  clear h
  go_enter Try.func50, Try.ntmps50
  go_wp2_with fail
  go_at_call 64
  refine HT.out.mono ?_; rintro e w' ⟨rfl, rfl⟩
  go_wp2_with fail
  go_at_call 75
  refine HC.out.mono ?_; rintro e w2 ⟨rfl, h2, hb⟩
  go_wp2_with fail
  go_ret
  exact ⟨_, rfl, _, _, _, trim xs, rfl, HI.out, h2.rd0 h2.lt HI.out.ws rfl, Nat.le_refl _, hl, hb⟩
end Nt
end Go.Proofs.Ytopajockmcgpmaa
