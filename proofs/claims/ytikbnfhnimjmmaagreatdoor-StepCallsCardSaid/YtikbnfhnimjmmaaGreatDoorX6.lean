/- The document's own step (layer 8): blocks beside a memory; one contract for all that is reckoned. -/
import Derived.Test.YtikbnfhnimjmmaaGreatDoorX3
import Derived.Test.YtikbnfhnimjmmaaGreatDoorX4
import Derived.Test.YtikbnfhnimjmmaaGreatDoorX5
namespace Go.Proofs.YtikbnfhnimjmmaaGreatDoor
open Go Go.RowKit Go.Shelf
namespace Sp
open Wd Nt Mm Is
set_option linter.unusedVariables false
set_option linter.unusedSimpArgs false
/-- a memory of the document's own, and blocks that were laid since -/
structure EB (w0 : World) (B E : Nat) (P : Value) (M : List Reg) (bl : List (Nat × TypeId × Array Value)) (W : World) : Prop where
  mem : RefM W B E P M
  hE : E ≤ w0.heap.size
  kp : Kp B E w0 W
  bk : ∀ p ∈ bl, w0.heap.size ≤ p.1 ∧ Bk W p.1 p.2.1 p.2.2
  nd : (bl.map (·.1)).Nodup
section
variable {w0 W X : World} {B E : Nat} {P : Value} {M : List Reg} {bl : List (Nat × TypeId × Array Value)}
theorem EB.new (h : RefM W B E P M) : EB W B E P M [] W := by
  have he : E ≤ W.heap.size := by
    obtain ⟨D, v, os, h1, h2, h3, h4, h5, h6⟩ := h.ex
    exact h5.top
  exact ⟨h, he, Kp.of (Below.refl _ _), fun p hp => (by cases hp), List.nodup_nil⟩
theorem EB.at_ (h : EB w0 B E P M bl W) (k : Nat) {g : Nat} {t : TypeId} {cs : Array Value} (hk : bl[k]? = some (g, t, cs)) : Bk W g t cs := (h.bk _ (List.mem_of_getElem? hk)).2
theorem EB.ge (h : EB w0 B E P M bl W) (k : Nat) {g : Nat} {t : TypeId} {cs : Array Value} (hk : bl[k]? = some (g, t, cs)) : w0.heap.size ≤ g := (h.bk _ (List.mem_of_getElem? hk)).1
theorem EB.tail {p : Nat × TypeId × Array Value} (h : EB w0 B E P M (p :: bl) W) : EB w0 B E P M bl W := ⟨h.mem, h.hE, h.kp, fun q hq => h.bk q (List.mem_cons_of_mem _ hq), by have := h.nd; rw [List.map_cons, List.nodup_cons] at this; exact this.2⟩
theorem EB.below (h : EB w0 B E P M bl W) (hb : Below W.heap.size W X) : EB w0 B E P M bl X :=
  ⟨h.mem.below hb, h.hE, h.kp.trans (Kp.of hb), fun p hp => ⟨(h.bk p hp).1, (h.bk p hp).2.below hb (h.bk p hp).2.lt⟩, h.nd⟩
theorem EB.drew (h : EB w0 B E P M bl W) : EB w0 B E P M bl W.drew := h.below (Below.drew (Below.refl _ _))
theorem EB.store (h : EB w0 B E P M bl W) {M' : List Reg} (hk : Kp B E W X) (hr : RefM X B E P M') : EB w0 B E P M' bl X :=
  ⟨hr, h.hE, h.kp.trans hk, fun p hp => ⟨(h.bk p hp).1, hk.bk (h.bk p hp).2 (.inr (Nat.le_trans h.hE (h.bk p hp).1))⟩, h.nd⟩
theorem EB.alloc (h : EB w0 B E P M bl W) (t : TypeId) (cs : Array Value) : EB w0 B E P M ((W.heap.size, t, cs) :: bl) (W.alloc (.cells cs t)) := by
  have h1 := h.below (bel_alloc (.cells cs t))
  refine ⟨h1.mem, h1.hE, h1.kp, fun p hp => ?_, ?_⟩
  · rcases List.mem_cons.1 hp with rfl | hp
    · exact ⟨h.kp.size, Bk.new _ _ _⟩
    · exact h1.bk p hp
  · rw [List.map_cons, List.nodup_cons]
    refine ⟨fun hm => ?_, h.nd⟩
    obtain ⟨p, hp, hq⟩ := List.mem_map.1 hm
    have := (h.bk p hp).2.lt
    omega
/-- one block of them is turned, nothing else -/
theorem EB.put (h : EB w0 B E P M bl W) (k : Nat) {g : Nat} {t : TypeId} {cs ds : Array Value} (hk : bl[k]? = some (g, t, cs)) (hw : Kp g (g + 1) W X) (hb : Bk X g t ds) : EB w0 B E P M (bl.set k (g, t, ds)) X := by
  have hg := (h.bk _ (List.mem_of_getElem? hk)).1
  have hhE := h.hE
  · refine ⟨h.mem.keep hw (.inl (Nat.le_trans hhE hg)), hhE, ?_, fun p hp => ?_, ?_⟩
    · exact ⟨hw.os.trans h.kp.os, hw.tape.trans h.kp.tape, hw.output.trans h.kp.output, Nat.le_trans h.kp.size hw.size, fun i hi ho => (hw.blk i (Nat.lt_of_lt_of_le hi h.kp.size) (.inl (Nat.lt_of_lt_of_le hi hg))).trans (h.kp.blk i hi ho)⟩
    · obtain ⟨j, hj⟩ := List.mem_iff_getElem?.1 hp
      by_cases hjk : j = k
      · subst hjk
        rw [List.getElem?_set_self (List.getElem?_eq_some_iff.1 hk).1] at hj
        cases hj
        exact ⟨hg, hb⟩
      · rw [List.getElem?_set_ne (fun e => hjk e.symm)] at hj
        have h2 := h.bk p (List.mem_of_getElem? hj)
        refine ⟨h2.1, hw.bk h2.2 ?_⟩
        have hne : p.1 ≠ g := fun e => by
          have h3 : (bl.map (·.1))[j]? = some g := by rw [List.getElem?_map, hj]; exact congrArg some e
          have h4 : (bl.map (·.1))[k]? = some g := by rw [List.getElem?_map, hk]; rfl
          exact hjk (nd_inj h.nd h3 h4)
        omega
    · have : (bl.set k (g, t, ds)).map (·.1) = bl.map (·.1) := by
        rw [List.map_set]
        exact set_same (by rw [List.getElem?_map, hk]; rfl)
      rw [this]; exact h.nd
theorem EB.cell (h : EB w0 B E P M bl W) (k : Nat) {g : Nat} {t : TypeId} {cs : Array Value} (hk : bl[k]? = some (g, t, cs)) (j : Nat) (v : Value) : EB w0 B E P M (bl.set k (g, t, cs.setIfInBounds j v)) (W.setCell ⟨g, j, none⟩ v) :=
  h.put k hk (kp_cell W g j v) ((h.at_ k hk).set_ j v)
theorem EB.row (h : EB w0 B E P M bl W) (k : Nat) {g : Nat} {t : TypeId} {cs : Array Value} (hk : bl[k]? = some (g, t, cs)) (ds : Array Value) : EB w0 B E P M (bl.set k (g, t, ds)) (W.setRow g ds) :=
  h.put k hk (kp_row W g ds) (bk_row (h.at_ k hk))
end
/-! ### what is reckoned, in one contract -/
def vSt (s : Stt) (op a b : Int) : Stt := if isMv op then s else s.setF (rkP op a b s.fl).2
def vVl (s : Stt) (op a b : Int) : Int := if isMv op then 0 else rkV op a b s.fl
theorem rvalue_c (s : Stt) (op a b : Int) (ho : 1 ≤ op ∧ op ≤ 33) (ha : W a) (hb : W b) (hsh : op = 24 ∨ op = 25 → 1 ≤ b ∧ b ≤ 63) (w : World) : Calls Tryz.prog 77 #[.agg s.vs, .int .i64 op, .int .u64 a, .int .u64 b] w fun e w' =>
    e = .returned (.tuple #[.agg (vSt s op a b).vs, .int .u64 (vVl s op a b), .bool (!isMv op)]) ∧ Below w.heap.size w w' := by
  obtain ⟨n, rfl⟩ : ∃ n : Nat, op = (n : Int) := ⟨op.toNat, by omega⟩
  have hn : n < 34 := by omega
  have h0 : 1 ≤ n := by omega
  clear ho
  have key : ∀ m : Nat, m = n → 1 ≤ m → m < 34 → True := fun _ _ _ _ => trivial
  clear key
  rcases (show n = 1 ∨ n = 2 ∨ n = 3 ∨ n = 4 ∨ n = 5 ∨ n = 6 ∨ n = 7 ∨ n = 8 ∨ n = 9 ∨ n = 10 ∨ n = 11 ∨ n = 12 ∨ n = 13 ∨ n = 14 ∨ n = 15 ∨ n = 16 ∨ n = 17 ∨ n = 18 ∨ n = 19 ∨ n = 20 ∨ n = 21 ∨ n = 22 ∨ n = 23 ∨ n = 24 ∨ n = 25 ∨ n = 26 ∨ n = 27 ∨ n = 28 ∨ n = 29 ∨ n = 30 ∨ n = 31 ∨ n = 32 ∨ n = 33 from by omega) with rfl | rfl | rfl | rfl | rfl | rfl | rfl | rfl | rfl | rfl | rfl | rfl | rfl | rfl | rfl | rfl | rfl | rfl | rfl | rfl | rfl | rfl | rfl | rfl | rfl | rfl | rfl | rfl | rfl | rfl | rfl | rfl | rfl
  · exact rval_1 s a b ha hb w
  · exact rval_2 s a b ha hb w
  · exact rval_3 s a b w
  · exact rval_4 s a b w
  · exact rval_5 s a b w
  · exact rval_6 s a b ha hb w
  · exact rval_7 s a b ha hb w
  · exact rval_8 s a b ha hb w
  · exact rval_9 s a b ha hb w
  · exact rval_10 s a b ha hb w
  · exact rval_11 s a b ha hb w
  · exact rval_12 s a b ha hb w
  · exact rval_13 s a b ha hb w
  · exact rval_14 s a b ha hb w
  · exact rval_15 s a b ha hb w
  · exact rval_16 s a b ha hb w
  · exact rval_17 s a b ha hb w
  · exact rval_18 s a b ha hb w
  · exact rval_19 s a b w
  · exact rval_20 s a b ha hb w
  · exact rval_21 s a b ha hb w
  · exact rval_22 s a b ha hb w
  · exact rval_23 s a b ha hb w
  · exact rval_24 s a b ha hb (hsh (by decide)).1 (hsh (by decide)).2 w
  · exact rval_25 s a b ha hb (hsh (by decide)).1 (hsh (by decide)).2 w
  · exact rval_26 s a b ha hb w
  · exact rval_27 s a b ha hb w
  · exact rval_28 s a b w
  · exact rval_29 s a b w
  · exact rval_30 s a b w
  · exact rval_31 s a b w
  · exact rval_32 s a b w
  · exact rval_33 s a b w
theorem rkV_eq {op a b : Int} {f : Fl} (h : op ≠ 13 ∧ op ≠ 18 ∧ op ≠ 14) : rkV op a b f = (rkP op a b f).1 := by
  unfold rkV
  rw [if_neg (by omega), if_neg (by omega)]
/-- what Do makes of a state where it reckons -/
theorem bh_rk (s : Stt) (i : Ins) (size v : Int) (h : isMv i.op = false) : bh s i size v = (({ s with pc := u64 (s.pc + u64 size) } : Stt).set i.d.toNat (rkP i.op (s.r i.d.toNat) (secd s i) s.fl).1).setF (rkP i.op (s.r i.d.toNat) (secd s i) s.fl).2 := by
  unfold bh
  rw [h]
  rfl
theorem bh_mv (s : Stt) (i : Ins) (size v : Int) (h : isMv i.op = true) : bh s i size v = mvP { s with pc := u64 (s.pc + u64 size) } i v := by
  unfold bh
  rw [h]
  rfl
theorem rk_cmp {op a b : Int} {f : Fl} (h : op = 13 ∨ op = 18 ∨ op = 14) : (rkP op a b f).1 = a := by
  rcases h with rfl | rfl | rfl <;> rfl
theorem set_id (s : Stt) (d : Nat) : s.set d (s.r d) = s := by
  unfold Stt.set
  have : (fun k => if k = d then s.r d else s.r k) = s.r := funext fun k => by
    split
    · rename_i h; rw [h]
    · rfl
  rw [this]
end Sp
end Go.Proofs.YtikbnfhnimjmmaaGreatDoor
