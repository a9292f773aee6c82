/- take: one row of limbs less another, in place. -/
import Derived.Test.YtdklchejnpaenaaDoorNatAdd
namespace Go.Proofs.YtdklchejnpaenaaDoor
open Go Go.RowKit Go.Shelf
attribute [local go_sem] Oper.semAt_some
namespace Nt
open Wd Sti
set_option linter.unusedVariables false

structure TakeI (w : World) (s g n c : Nat) (B : Option Addr) (nb cb : Nat) (os ys : List Int) (k : Nat) (W : World) : Prop where
  rest : ∃ os' b, Bk W g 28 (us os') ∧ os'.length = n ∧ Ws os' ∧ Bk W (s + 1) 4 #[.bool b] ∧ lo os' k - P k * b1 b = lo os k - lo ys k ∧ (∀ j, k ≤ j → Nt.at_ os' j = Nt.at_ os j)
  out : Bk W s 53 #[.slice (some ⟨g, 0, none⟩) n c]
  ba : Bk W (s + 2) 23 #[.slice (some ⟨g, 0, none⟩) n c]
  bb : Bk W (s + 3) 23 #[.slice B nb cb]
  be : w.grownBy W (some g)
theorem grownBy_trans {a b c : World} {r r' : Option Nat} (h : a.grownBy b r) (k : b.grownBy c r') (hr : ∀ j, r' = some j → r = some j ∨ a.heap.size ≤ j) : a.grownBy c r :=
  ⟨k.os.trans h.os, k.tape.trans h.tape, k.output.trans h.output, Nat.le_trans h.size k.size, fun i hi hne => (k.block i (Nat.lt_of_lt_of_le hi h.size) (fun e => by
    rcases hr i e.symm with h' | h'
    · exact hne h'.symm
    · omega)).trans (h.block i hi hne)⟩
theorem TakeI.own {w : World} {s g n c nb cb C : Nat} {B : Option Addr} {os ys : List Int} (hC : w.heap.size ≤ C) : OwnFrom C (TakeI w s g n c B nb cb os ys) := by
  intro k W W' row h hg hr
  have hr' : ∀ r, row = some r → ∃ o : Obj, W.heap[r]? = some o ∧ o.isCells = false := fun r e => (hr r e).2
  obtain ⟨⟨os', b, h1, h2, h3, h4, h5, h6⟩, h7, h8, h9, h10⟩ := h
  exact ⟨⟨os', b, h1.grown hg hr', h2, h3, h4.grown hg hr', h5, h6⟩, h7.grown hg hr', h8.grown hg hr', h9.grown hg hr', grownBy_trans h10 hg (fun j e => .inr (Nat.le_trans hC (hr j e).1))⟩
theorem take_step {os os' ys : List Int} {k : Nat} {c : Bool} (hk : k < os'.length) (ho : Ws os) (hy : Ws ys) (he : Nt.at_ os' k = Nt.at_ os k) (h : lo os' k - P k * b1 c = lo os k - lo ys k) :
    lo (os'.set k (Wd.sub (Nt.at_ os k) (Nt.at_ ys k) c)) (k + 1) - P (k + 1) * b1 (subO (Nt.at_ os k) (Nt.at_ ys k) c) = lo os (k + 1) - lo ys (k + 1) := by
  have e := sub_eq (ho.at_ k) (hy.at_ k) c
  rw [lo_succ, lo_succ, lo_succ, lo_set_ge _ _ _ _ (Nat.le_refl _), at_set _ _ _ _ hk, if_pos rfl, P_succ]
  generalize Wd.sub (Nt.at_ os k) (Nt.at_ ys k) c = s at *
  generalize subO (Nt.at_ os k) (Nt.at_ ys k) c = d at *
  have e2 : P k * s - 18446744073709551616 * P k * b1 d = P k * (s - 18446744073709551616 * b1 d) := by
    rw [Int.mul_sub, Int.mul_comm 18446744073709551616 (P k), Int.mul_assoc]
  rw [Int.add_sub_assoc, e2, e, Int.mul_sub, Int.mul_sub]
  omega
theorem Rd.grown {w w' : World} {B n : Nat} {A : Option Addr} {xs : List Int} {r : Option Nat} (h : Rd w B A n xs) (hg : w.grownBy w' r) (hB : B ≤ w.heap.size) (hr : ∀ j, r = some j → B ≤ j) : Rd w' B A n xs :=
  h.keep fun p hp => World.cell?_of_block (hg.block p.block (by omega) (fun e => by have := hr _ e.symm; omega))

set_option maxRecDepth 100000 in
set_option maxHeartbeats 4000000 in
theorem take_n (g n c : Nat) (B : Option Addr) (nb cb Bb : Nat) (os ys : List Int) (w : World) (hr : Bk w g 28 (us os)) (ho : Ws os) (hn : os.length = n) (hb : Rd w Bb B nb ys) (hBb : Bb ≤ g) (hnb : nb ≤ n) (ln : n ≤ 1073741824) :
    Calls Tryd.prog 43 #[.slice (some ⟨g, 0, none⟩) n c, .slice B nb cb] w fun e w' => ∃ os' b, e = .returned (.bool b) ∧ Bk w' g 28 (us os') ∧ os'.length = n ∧ Ws os' ∧ V os' = V os - V ys + P n * b1 b ∧ w.grownBy w' (some g) := by
  have hF : Wide Fence.wide Tryd.prog := wide _
  have hgs := hr.lt
  refine callsIn_wide (n := 3).1 (callsIn_of_wp_marks Tryd.func43 rfl trivial ?_ rfl)
  simp only [Tryd.ntmps43, List.size_toArray, List.length_cons, List.length_nil, Nat.reduceAdd, Nat.reduceSub, Array.replicate_succ, Array.replicate_zero, List.push_toArray, List.append_toArray, List.nil_append, List.cons_append]
  gi_wp2_with (refine ⟨trivial, ?_⟩; gi_at_call 52; refine (pairs_c hF rfl (some ⟨g, 0, none⟩) B n c nb cb _).mono ?_; rintro e w' ⟨rfl, rfl⟩)
  refine wpIn_rangeB rfl (fun h => by cases h) (gf := 70) (lb := _) rfl trivial (enters_of Tryd.func70 (by kernel_rfl) rfl)
    (pairs_gives (n := 2) hF rfl (w.heap.size + 2) (w.heap.size + 3) (some ⟨g, 0, none⟩) B n c nb cb n (by omega) (by omega) (by omega) (Nt.at_ os) (Nt.at_ ys)) (fun _ => rfl)
    (TakeI w w.heap.size g n c B nb cb os ys) (fun _ _ => False) (TakeI.own (by simp; omega)) (fun _ _ _ _ h _ _ => h)
    ?rdy ?start (fun k b W => w.heap.size + 3 < b ∧ Bk W b 68 #[.int .u64 (Nt.at_ os k), .int .u64 (Nt.at_ ys k)]) ?ax
    (fun k b T => (((T.setIfInBounds 10 (.int .i64 (k : Int))).setIfInBounds 11 (.agg #[.int .u64 (Nt.at_ os k), .int .u64 (Nt.at_ ys k)])).setIfInBounds 5 (.int .i64 (k : Int))).setIfInBounds 6 (.pointer (some ⟨b, 0, none⟩))) ?assign ?body ?done ?stop
  case rdy =>
    intro k W hi
    refine ⟨hi.ba.cell 0, hi.bb.cell 0, fun hk => ⟨?_, (hb.grown hi.be (by omega) (fun j e => by cases e; exact hBb)).lat k⟩⟩
    obtain ⟨os', b, h1, h2, h3, h4, h5, h6⟩ := hi.rest
    have := (h1.rd0 h1.lt h3 h2).lat k
    rwa [h6 k (Nat.le_refl _)] at this
  case start =>
    refine ⟨⟨os, false, (((hr.alloc _).alloc _).alloc _).alloc _, hn, ho, ((Bk.new' (by simp)).alloc _).alloc _, by rw [lo_zero, lo_zero, P_zero, b1_f]; rfl, fun j _ => rfl⟩,
      (((Bk.new' (by simp)).alloc _).alloc _).alloc _, (Bk.new' (by simp)).alloc _, Bk.new' (by simp), ?_⟩
    exact grownBy_trans (grownBy_trans (grownBy_trans (World.grownBy_alloc w _ _) (World.grownBy_alloc _ _ none) (fun j e => by cases e)) (World.grownBy_alloc _ _ none) (fun j e => by cases e)) (World.grownBy_alloc _ _ none) (fun j e => by cases e)
  case ax => exact fun k b => fun _ W W' row h hg hr => ⟨h.1, h.2.grown hg (fun r e => (hr r e).2)⟩
  case assign =>
    intro l k W K hi hK
    gi_wp2
    exact hK W.heap.size _ ((KeepsOthers.alloc _ _).from _) ((TakeI.own (Nat.le_refl _)).alloc _ hi) ⟨hi.bb.lt, Bk.new W _ _⟩
  case body =>
    rintro l k b W hl hi ⟨hb1, hb2⟩ hk
    obtain ⟨⟨os', c', h1, h2, h3, h4, h5, h6⟩, h7, h8, h9, h10⟩ := hi
    have hko : k < os'.length := by omega
    have e6 := h6 k (Nat.le_refl _)
    have c1 : W.drew.cell? ⟨w.heap.size, 0, none⟩ = some (.slice (some ⟨g, 0, none⟩) n c) := h7.cell 0
    have c2 : W.drew.cell? ⟨w.heap.size + 1, 0, none⟩ = some (.bool c') := h4.cell 0
    have f2 : W.drew.frozen? ⟨w.heap.size + 1, 0, none⟩ = false := h4.frozen 0
    have c3 : W.drew.cell? ⟨b, 0, none⟩ = some (.int .u64 (Nt.at_ os k)) := hb2.cell 0
    have c4 : W.drew.cell? ⟨b, 1, none⟩ = some (.int .u64 (Nt.at_ ys k)) := hb2.cell 1
    have c5 : W.drew.cell? ⟨g, k, none⟩ = some (.int .u64 (Nt.at_ os' k)) := (h1.cell k).trans (us_get hko)
    have f5 : W.drew.frozen? ⟨g, k, none⟩ = false := h1.frozen k
    have hki : (k : Int) < (n : Int) := by omega
    have cad := (sub_c (Nt.at_ os k) (Nt.at_ ys k) c' W.drew (ho.at_ k) (hb.ws.at_ k)).mono (R' := fun e w' => e = .returned (.tuple #[.int .u64 (Wd.sub (Nt.at_ os k) (Nt.at_ ys k) c'), .bool (subO (Nt.at_ os k) (Nt.at_ ys k) c')]) ∧ w' = W.drew) (fun _ _ h => ⟨h.1, h.2.symm⟩)
    have E6 := Lib.hid e6
    clear e6
    simp only [List.setIfInBounds_toArray]
    gi_wp2
    refine wpIn_region_holdR hF rfl l 12 12 10 (by kernel_rfl) (by kernel_rfl) (by kernel_rfl) ?_
    simp only [hold, behind, List.push_toArray, List.cons_append, List.nil_append, List.take_succ_cons, List.take_zero, List.drop_succ_cons, List.drop_zero]
    iterate 7 still_step
    still_call cad
    iterate 4 still_step
    refine wpStill_nil ?_
    have c2' : W.cell? ⟨w.heap.size + 1, 0, none⟩ = some (.bool c') := c2
    have f2' : W.frozen? ⟨w.heap.size + 1, 0, none⟩ = false := f2
    have c5' : W.cell? ⟨g, k, none⟩ = some (.int .u64 (Nt.at_ os' k)) := c5
    have f5' : W.frozen? ⟨g, k, none⟩ = false := f5
    have c2'' : (W.setCell ⟨g, k, none⟩ (.int .u64 (Wd.sub (Nt.at_ os k) (Nt.at_ ys k) c'))).cell? ⟨w.heap.size + 1, 0, none⟩ = some (.bool c') := by
      rw [World.cell?_setCell_other _ _ _ _ (fun e => by cases e; omega)]; exact c2
    clear cad c1 c2 c3 c4 f2 c5 f5
    gi_wp2
    refine ⟨(((KeepsOthers.setCell _ _ _).trans (KeepsOthers.setCell _ _ _)).trans (KeepsOthers.drew _)).from _, ⟨os'.set k (Wd.sub (Nt.at_ os k) (Nt.at_ ys k) c'), subO (Nt.at_ os k) (Nt.at_ ys k) c', ?_, by simpa using h2, h3.set _ (W_sub _ _ _), ?_, take_step hko ho hb.ws E6.out h5, fun j hj => ?_⟩, ?_, ?_, ?_, ?_⟩
    · have := h1.set_ k (.int .u64 (Wd.sub (Nt.at_ os k) (Nt.at_ ys k) c'))
      rw [us_set] at this
      exact (this.far (by simp; omega) _).drew
    · exact ((h4.far (by simp; omega) _).set_ 0 _).drew
    · rw [at_set _ _ _ _ hko, if_neg (by omega)]; exact h6 j (by omega)
    · exact ((h7.far (by simp; omega) _).far (by simp) _).drew
    · exact ((h8.far (by simp; omega) _).far (by simp) _).drew
    · exact ((h9.far (by simp; omega) _).far (by simp) _).drew
    · refine grownBy_trans (grownBy_trans (grownBy_trans h10 (only_setCell _ _ _ _) (fun j e => .inl e)) (only_setCell _ _ _ _) (fun j e => ?_)) (only_drew _ none) (fun j e => by cases e)
      cases e; exact .inr (by omega)
  case done =>
    rintro D W hD hi hK
    obtain ⟨⟨os', c', h1, h2, h3, h4, h5, h6⟩, h7, h8, h9, h10⟩ := hi
    have hDs : w.heap.size + 4 ≤ D := by simpa using hD
    have c2 : W.cell? ⟨w.heap.size + 1, 0, none⟩ = some (.bool c') := h4.cell 0
    have f2 : W.frozen? ⟨w.heap.size + 1, 0, none⟩ = false := h4.frozen 0
    gi_wp2
    have hK' := (KeepsOthers.setCell W ⟨w.heap.size + 1, 0, none⟩ (.bool c')).same D _ hK rfl
    have h4' := ((h4.set_ 0 (.bool c')).putObj (.deferred none) hK' rfl).cell 0
    have hc5 : ((W.setCell ⟨w.heap.size + 1, 0, none⟩ (.bool c')).putObj D (.deferred none)).cell? ⟨w.heap.size + 1, 0, none⟩ = some (.bool c') := h4'
    refine ⟨by simp, .inl ⟨_, _, rfl, run_takeDeferred hK', ⟨.bool c', by simp [results, Tryd.f43, go_sem, hc5], os', c', rfl, ?_, h2, h3, ?_, ?_⟩⟩⟩
    · exact ((h1.far (by simp; omega) _).putObj (.deferred none) hK' rfl)
    · rw [lo_all (xs := os') (by omega), lo_all (xs := os) (by omega), lo_all (xs := ys) (by rw [hb.len]; omega)] at h5
      omega
    · exact grownBy_trans (grownBy_trans h10 (only_setCell _ _ _ _) (fun j e => by cases e; exact .inr (by omega))) (grownBy_putObj' _ D _) (fun j e => by cases e; exact .inr (by omega))
  case stop =>
    rintro D c W hD h _
    exact h.elim
end Nt
end Go.Proofs.YtdklchejnpaenaaDoor
