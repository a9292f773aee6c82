/- The document's own step (layer 8): Do. -/
import Derived.Test.YtikbnfhnimjmmaaGreatDoorX6
import Derived.Deep.Cut
import Derived.Deep.CutRange
import Derived.Deep.WholeRow
namespace Go.Proofs.YtikbnfhnimjmmaaGreatDoor
open Go Go.RowKit Go.Shelf
namespace Sp
open Wd Nt Mm Is
set_option linter.unusedVariables false
set_option linter.unusedSimpArgs false
/-- what Do answers -/
def RDoP (B E : Nat) (P : Value) (M : List Reg) (s : Stt) (i : Ins) (size : Int) (w : World) (e : Ending) (w' : World) : Prop :=
  Kp B E w w' ∧ ∃ n l M' x A k c, e = .returned (.tuple #[.agg n.vs, .slice A k c, .int .i64 x]) ∧ DoO s i size M n l M' x ∧ n.wf ∧ RefM w' B E P M' ∧ Hid (RdE w' w'.heap.size A k l) ∧ k ≤ 3
theorem RDoP.no {w w' : World} {B E : Nat} {P : Value} {M M' : List Reg} {s : Stt} {i : Ins} {size x : Int} {bl : List (Nat × TypeId × Array Value)} (hs : s.wf) (h : EB w B E P M' bl w') (hd : DoO s i size M s [] M' x) : RDoP B E P M s i size w (.returned (.tuple #[.agg s.vs, .slice none 0 0, .int .i64 x])) w' :=
  ⟨h.kp, s, [], M', x, none, 0, 0, rfl, hd, hs, h.mem, Lib.hid RdE.nil, by omega⟩
theorem EB.alloc' {w0 W : World} {B E : Nat} {P : Value} {M : List Reg} {bl : List (Nat × TypeId × Array Value)} (h : EB w0 B E P M bl W) (t : TypeId) (cs : Array Value) {g : Nat} (hg : W.heap.size = g) : EB w0 B E P M ((g, t, cs) :: bl) (W.alloc (.cells cs t)) := by
  subst hg; exact h.alloc t cs
theorem ref_size {i : Ins} {size : Int} (hc : chk i = 0) (h : size < 1 ∨ 15 < size) : refE i size = 2 := by
  unfold refE
  rw [hc, if_neg (by decide), if_pos h]
theorem ref_ok {i : Ins} {size : Int} (hc : chk i = 0) (h1 : 1 ≤ size) (h2 : size ≤ 15) : refE i size = 0 := by
  unfold refE
  rw [hc, if_neg (by decide), if_neg (by omega)]
theorem ref_chk {i : Ins} {size : Int} (hc : chk i = 2) : refE i size = 2 := by
  unfold refE
  rw [hc, if_pos (by decide)]
/-- the second operand, as the document's own has it: S, where the operation has it, else the number -/
def bOf (s : Stt) (i : Ins) : Int := if hasB (formOf i.op).str 83 then s.r i.s.toNat else u64 i.im
theorem bOf_W {s : Stt} (hs : s.wf) (i : Ins) : W (bOf s i) := by
  unfold bOf
  split
  · exact hs.r _
  · exact u64_W _
theorem bOf_s {s : Stt} {i : Ins} (h : hasB (formOf i.op).str 83 = true) : bOf s i = s.r i.s.toNat := by unfold bOf; rw [if_pos h]
theorem bOf_n {s : Stt} {i : Ins} (h : hasB (formOf i.op).str 83 = false) : bOf s i = u64 i.im := by unfold bOf; rw [if_neg (by rw [h]; decide)]
set_option maxHeartbeats 4000000 in
theorem bOf_rk {s : Stt} {i : Ins} (h1 : 1 ≤ i.op ∧ i.op ≤ 33) (h : isMv i.op = false) (a : Int) (f : Fl) : rkP i.op a (bOf s i) f = rkP i.op a (secd s i) f ∧ rkV i.op a (bOf s i) f = rkV i.op a (secd s i) f := by
  obtain ⟨op, d, sx, tx, b, x, sc, di, im⟩ := i
  obtain ⟨n, rfl⟩ : ∃ n : Nat, op = (n : Int) := ⟨op.toNat, by have := h1.1; dsimp at this; omega⟩
  have hn : n < 34 := by have := h1.2; dsimp at this; omega
  have h0 : 1 ≤ n := by have := h1.1; dsimp at this; omega
  clear h1
  rcases (show n = 1 ∨ n = 2 ∨ n = 3 ∨ n = 4 ∨ n = 5 ∨ n = 6 ∨ n = 7 ∨ n = 8 ∨ n = 9 ∨ n = 10 ∨ n = 11 ∨ n = 12 ∨ n = 13 ∨ n = 14 ∨ n = 15 ∨ n = 16 ∨ n = 17 ∨ n = 18 ∨ n = 19 ∨ n = 20 ∨ n = 21 ∨ n = 22 ∨ n = 23 ∨ n = 24 ∨ n = 25 ∨ n = 26 ∨ n = 27 ∨ n = 28 ∨ n = 29 ∨ n = 30 ∨ n = 31 ∨ n = 32 ∨ n = 33 from by omega) with rfl | rfl | rfl | rfl | rfl | rfl | rfl | rfl | rfl | rfl | rfl | rfl | rfl | rfl | rfl | rfl | rfl | rfl | rfl | rfl | rfl | rfl | rfl | rfl | rfl | rfl | rfl | rfl | rfl | rfl | rfl | rfl | rfl
  · rw [bOf_s (show hasB (formOf 1).str 83 = true from by decide +kernel)]; exact ⟨rfl, rfl⟩
  · rw [bOf_n (show hasB (formOf 2).str 83 = false from by decide +kernel)]; exact ⟨rfl, rfl⟩
  · exact absurd h (show ¬ isMv 3 = false from by decide)
  · exact absurd h (show ¬ isMv 4 = false from by decide)
  · exact absurd h (show ¬ isMv 5 = false from by decide)
  · rw [bOf_s (show hasB (formOf 6).str 83 = true from by decide +kernel)]; exact ⟨rfl, rfl⟩
  · rw [bOf_s (show hasB (formOf 7).str 83 = true from by decide +kernel)]; exact ⟨rfl, rfl⟩
  · rw [bOf_s (show hasB (formOf 8).str 83 = true from by decide +kernel)]; exact ⟨rfl, rfl⟩
  · rw [bOf_s (show hasB (formOf 9).str 83 = true from by decide +kernel)]; exact ⟨rfl, rfl⟩
  · rw [bOf_s (show hasB (formOf 10).str 83 = true from by decide +kernel)]; exact ⟨rfl, rfl⟩
  · rw [bOf_s (show hasB (formOf 11).str 83 = true from by decide +kernel)]; exact ⟨rfl, rfl⟩
  · rw [bOf_s (show hasB (formOf 12).str 83 = true from by decide +kernel)]; exact ⟨rfl, rfl⟩
  · rw [bOf_s (show hasB (formOf 13).str 83 = true from by decide +kernel)]; exact ⟨rfl, rfl⟩
  · rw [bOf_s (show hasB (formOf 14).str 83 = true from by decide +kernel)]; exact ⟨rfl, rfl⟩
  · rw [bOf_n (show hasB (formOf 15).str 83 = false from by decide +kernel)]; exact ⟨rfl, rfl⟩
  · rw [bOf_n (show hasB (formOf 16).str 83 = false from by decide +kernel)]; exact ⟨rfl, rfl⟩
  · rw [bOf_n (show hasB (formOf 17).str 83 = false from by decide +kernel)]; exact ⟨rfl, rfl⟩
  · rw [bOf_n (show hasB (formOf 18).str 83 = false from by decide +kernel)]; exact ⟨rfl, rfl⟩
  · exact absurd h (show ¬ isMv 19 = false from by decide)
  · rw [bOf_s (show hasB (formOf 20).str 83 = true from by decide +kernel)]; exact ⟨rfl, rfl⟩
  · rw [bOf_s (show hasB (formOf 21).str 83 = true from by decide +kernel)]; exact ⟨rfl, rfl⟩
  · rw [bOf_n (show hasB (formOf 22).str 83 = false from by decide +kernel)]; exact ⟨rfl, rfl⟩
  · rw [bOf_n (show hasB (formOf 23).str 83 = false from by decide +kernel)]; exact ⟨rfl, rfl⟩
  · rw [bOf_n (show hasB (formOf 24).str 83 = false from by decide +kernel)]; exact ⟨rfl, rfl⟩
  · rw [bOf_n (show hasB (formOf 25).str 83 = false from by decide +kernel)]; exact ⟨rfl, rfl⟩
  · rw [bOf_s (show hasB (formOf 26).str 83 = true from by decide +kernel)]; exact ⟨rfl, rfl⟩
  · rw [bOf_s (show hasB (formOf 27).str 83 = true from by decide +kernel)]; exact ⟨rfl, rfl⟩
  · exact absurd h (show ¬ isMv 28 = false from by decide)
  · exact absurd h (show ¬ isMv 29 = false from by decide)
  · exact absurd h (show ¬ isMv 30 = false from by decide)
  · exact absurd h (show ¬ isMv 31 = false from by decide)
  · exact absurd h (show ¬ isMv 32 = false from by decide)
  · exact absurd h (show ¬ isMv 33 = false from by decide)
theorem bOf_sh {s : Stt} {i : Ins} (hok : okI i = true) : i.op = 24 ∨ i.op = 25 → 1 ≤ bOf s i ∧ bOf s i ≤ 63 := fun h => by
  have h1 := ok_shift hok h
  have e : bOf s i = u64 i.im := by
    unfold bOf
    rw [if_neg]
    rcases h with h | h <;> rw [h] <;> decide +kernel
  rw [e]
  unfold u64
  omega
theorem RDoP.yes {w w' : World} {B E : Nat} {P : Value} {M M' : List Reg} {s n : Stt} {i : Ins} {size v : Int} {bl : List (Nat × TypeId × Array Value)} {l : List Ev} {A : Option Addr} {k c : Nat} (h : EB w B E P M' bl w') (h0 : refE i size = 0) (hx : XchO M (tch s i) (s.r i.s.toNat) v M' 0) (hn : n = bh s i size v) (hl : l = evs s i n) (hw : n.wf) (hr : RdE w' w'.heap.size A k l) (hk : k ≤ 3) :
    RDoP B E P M s i size w (.returned (.tuple #[.agg n.vs, .slice A k c, .int .i64 0])) w' :=
  ⟨h.kp, n, l, M', 0, A, k, c, rfl, .inr ⟨h0, v, hx, .inr ⟨rfl, hn, hl⟩⟩, hw, h.mem, Lib.hid hr, hk⟩
theorem RDoP.err {w w' : World} {B E : Nat} {P : Value} {M M' : List Reg} {s : Stt} {i : Ins} {size v x : Int} {bl : List (Nat × TypeId × Array Value)} (hs : s.wf) (h : EB w B E P M' bl w') (h0 : refE i size = 0) (hx : XchO M (tch s i) (s.r i.s.toNat) v M' x) (hne : x ≠ 0) :
    RDoP B E P M s i size w (.returned (.tuple #[.agg s.vs, .slice none 0 0, .int .i64 x])) w' :=
  RDoP.no hs h (.inr ⟨h0, v, hx, .inl ⟨hne, rfl, rfl⟩⟩)
theorem rd1 {w : World} {g : Nat} {a : Int} (h : Bk w g 51 #[.int .i64 1, .int .u64 a]) : RdE w w.heap.size (some ⟨g, 0, none⟩) 1 [⟨1, a⟩] :=
  ⟨rfl, fun _ => ⟨_, rfl, h.lt, fun j e hj => by
    obtain ⟨hl, rfl⟩ := List.getElem?_eq_some_iff.1 hj
    obtain rfl : j = 0 := by simpa using hl
    exact ⟨h.cell 0, h.cell 1⟩⟩⟩
theorem xch_none {M : List Reg} {x : Int} {t : Ev} (h : t = ev0) : XchO M t x 0 M 0 := by
  subst h
  exact .inr (.inr ⟨by decide, by decide, rfl, rfl, rfl⟩)
theorem mv_off {op : Int} (h : isMv op = false) : op ≠ 3 ∧ op ≠ 4 ∧ op ≠ 5 ∧ op ≠ 19 ∧ ¬ (28 ≤ op ∧ op ≤ 33) := by
  unfold isMv at h
  simp only [Bool.or_eq_false_iff, decide_eq_false_iff_not] at h
  omega
theorem tch_rk {s : Stt} {i : Ins} (h : isMv i.op = false) : tch s i = ev0 := by
  have := mv_off h
  unfold tch
  rw [if_neg (by omega), if_neg (by omega), if_neg (by omega), if_neg (by omega)]
theorem goe_no {i : Ins} {n : Stt} (h : ¬ (30 ≤ i.op ∧ i.op ≤ 33)) : goe i n = ev0 := by
  unfold goe
  have e : jmpB i = false := by
    unfold jmpB
    rw [decide_eq_false (by omega), decide_eq_false (by omega), decide_eq_false (by omega)]
    simp
  have e2 : decide (i.op = 33) = false := by rw [decide_eq_false_iff_not]; omega
  rw [e, e2]
  rfl
theorem evs_one {s n : Stt} {i : Ins} (h1 : tch s i = ev0) (h2 : goe i n = ev0) : evs s i n = [⟨1, s.pc⟩] := by
  unfold evs
  rw [h1, h2]
  have : decide ((⟨1, s.pc⟩ : Ev) ≠ ev0) = true := by rw [decide_eq_true_eq]; intro e; cases e
  simp only [List.filter, this]
  rfl
theorem evs_rk {s n : Stt} {i : Ins} (h : isMv i.op = false) : evs s i n = [⟨1, s.pc⟩] := evs_one (tch_rk h) (goe_no (by have := mv_off h; omega))
theorem rkV_W {op a b : Int} {f : Fl} (ha : W a) (hb : W b) (hsh : op = 24 ∨ op = 25 → 1 ≤ b ∧ b ≤ 63) : W (rkV op a b f) := by
  unfold rkV
  split
  · unfold sub; exact W_mod _
  · split
    · exact (and_W ha hb).1
    · exact rk_W op a b f ha hb
theorem mv_on {op : Int} (h : isMv op = true) : op = 3 ∨ op = 4 ∨ op = 5 ∨ op = 19 ∨ op = 28 ∨ op = 29 ∨ op = 30 ∨ op = 31 ∨ op = 32 ∨ op = 33 := by
  unfold isMv at h
  simp only [Bool.or_eq_true, decide_eq_true_eq] at h
  omega
theorem tch_no {s : Stt} {i : Ins} (h : ¬ (i.op = 3 ∨ i.op = 4 ∨ i.op = 28 ∨ i.op = 29 ∨ i.op = 33)) : tch s i = ev0 := by
  unfold tch
  rw [if_neg (by omega), if_neg (by omega), if_neg (by omega), if_neg (by omega)]
theorem mvP_5 {n : Stt} {i : Ins} {v : Int} (h : i.op = 5) : mvP n i v = n.set i.d.toNat (atI i n) := by
  unfold mvP
  rw [if_neg (by omega), if_neg (by omega), if_pos h]
theorem mvP_30 {n : Stt} {i : Ins} {v : Int} (h : i.op = 30) : mvP n i v = jmpS n i true := by unfold mvP; rw [if_neg (by omega), if_neg (by omega), if_neg (by omega), if_neg (by omega), if_neg (by omega), if_neg (by omega), if_pos h]
theorem mvP_31 {n : Stt} {i : Ins} {v : Int} (h : i.op = 31) : mvP n i v = jmpS n i (!n.zf) := by unfold mvP; rw [if_neg (by omega), if_neg (by omega), if_neg (by omega), if_neg (by omega), if_neg (by omega), if_neg (by omega), if_neg (by omega), if_pos h]
theorem mvP_32 {n : Stt} {i : Ins} {v : Int} (h : i.op = 32) : mvP n i v = jmpS n i n.cf := by unfold mvP; rw [if_neg (by omega), if_neg (by omega), if_neg (by omega), if_neg (by omega), if_neg (by omega), if_neg (by omega), if_neg (by omega), if_neg (by omega), if_pos h]
theorem jmp_y {n n2 : Stt} {i : Ins} {t : Bool} (h : t = true) (h2 : n2 = { n with pc := u64 (n.pc + u64 i.im) }) : n2 = jmpS n i t := by rw [h, h2]; rfl
theorem jmp_n {n : Stt} {i : Ins} {t : Bool} (h : t = false) : n = jmpS n i t := by rw [h]; rfl
theorem goe_j {i : Ins} {n : Stt} (hok : okI i = true) (h : i.op = 30 ∨ i.op = 31 ∨ i.op = 32) : goe i n = ⟨4, n.pc⟩ := by
  unfold goe
  have e : jmpB i = true := by
    unfold jmpB
    rw [hok]
    rcases h with h | h | h <;> rw [h] <;> rfl
  rw [e]
  rfl
theorem evs_jmp {s n : Stt} {i : Ins} (h1 : tch s i = ev0) (h2 : goe i n = ⟨4, n.pc⟩) : evs s i n = [⟨1, s.pc⟩, ⟨4, n.pc⟩] := by
  unfold evs
  rw [h1, h2]
  have e1 : decide ((⟨1, s.pc⟩ : Ev) ≠ ev0) = true := by rw [decide_eq_true_eq]; intro e; cases e
  have e2 : decide ((⟨4, n.pc⟩ : Ev) ≠ ev0) = true := by rw [decide_eq_true_eq]; intro e; cases e
  have e3 : decide (ev0 ≠ ev0) = false := by simp
  simp only [List.filter, e1, e2, e3]
theorem rd2 {w : World} {g : Nat} {k1 a1 k2 a2 : Int} {zs : Array Value} (h : Bk w g 51 (#[.int .i64 k1, .int .u64 a1] ++ (#[.int .i64 k2, .int .u64 a2] ++ zs))) : RdE w w.heap.size (some ⟨g, 0, none⟩) 2 [⟨k1, a1⟩, ⟨k2, a2⟩] :=
  ⟨rfl, fun _ => ⟨_, rfl, h.lt, fun j e hj => by
    obtain ⟨hl, rfl⟩ := List.getElem?_eq_some_iff.1 hj
    have hl' : j < 2 := hl
    have c0 := h.cell 0
    have c1 := h.cell 1
    have c2 := h.cell 2
    have c3 := h.cell 3
    rcases (show j = 0 ∨ j = 1 from by omega) with rfl | rfl
    · exact ⟨c0.trans (by simp [Array.getElem?_append]), c1.trans (by simp [Array.getElem?_append])⟩
    · exact ⟨c2.trans (by simp [Array.getElem?_append]), c3.trans (by simp [Array.getElem?_append])⟩⟩⟩
theorem mvP_3 {n : Stt} {i : Ins} {v : Int} (h : i.op = 3) : mvP n i v = n.set i.d.toNat v := by unfold mvP; rw [if_pos h]
theorem mvP_4 {n : Stt} {i : Ins} {v : Int} (h : i.op = 4) : mvP n i v = n := by unfold mvP; rw [if_neg (by omega), if_pos h]
theorem mvP_19 {n : Stt} {i : Ins} {v : Int} (h : i.op = 19) : mvP n i v = (n.set i.d.toNat (mulH (n.r i.t.toNat) (n.r 2))).set i.s.toNat (mulL (n.r i.t.toNat) (n.r 2)) := by unfold mvP; rw [if_neg (by omega), if_neg (by omega), if_neg (by omega), if_pos h]
theorem mvP_28 {n : Stt} {i : Ins} {v : Int} (h : i.op = 28) : mvP n i v = n.set 4 (u64 (n.r 4 - 8)) := by unfold mvP; rw [if_neg (by omega), if_neg (by omega), if_neg (by omega), if_neg (by omega), if_pos h]
theorem mvP_29 {n : Stt} {i : Ins} {v : Int} (h : i.op = 29) : mvP n i v = (n.set 4 (u64 (n.r 4 + 8))).set i.d.toNat v := by unfold mvP; rw [if_neg (by omega), if_neg (by omega), if_neg (by omega), if_neg (by omega), if_neg (by omega), if_pos h]
theorem mvP_33 {n : Stt} {i : Ins} {v : Int} (h : i.op = 33) : mvP n i v = { n.set 4 (u64 (n.r 4 + 8)) with pc := v } := by unfold mvP; rw [if_neg (by omega), if_neg (by omega), if_neg (by omega), if_neg (by omega), if_neg (by omega), if_neg (by omega), if_neg (by omega), if_neg (by omega), if_neg (by omega)]
theorem tch_3 {s : Stt} {i : Ins} (h : i.op = 3) : tch s i = ⟨2, atI i s⟩ := by unfold tch; rw [if_pos h]
theorem tch_4 {s : Stt} {i : Ins} (h : i.op = 4) : tch s i = ⟨3, atI i s⟩ := by unfold tch; rw [if_neg (by omega), if_pos h]
theorem tch_28 {s : Stt} {i : Ins} (h : i.op = 28) : tch s i = ⟨3, u64 (s.r 4 - 8)⟩ := by unfold tch; rw [if_neg (by omega), if_neg (by omega), if_pos h]
theorem tch_29 {s : Stt} {i : Ins} (h : i.op = 29 ∨ i.op = 33) : tch s i = ⟨2, s.r 4⟩ := by unfold tch; rw [if_neg (by omega), if_neg (by omega), if_neg (by omega), if_pos h]
theorem evs_mem {s n : Stt} {i : Ins} {k a : Int} (h1 : tch s i = ⟨k, a⟩) (hk : k ≠ 0) (h2 : goe i n = ev0) : evs s i n = [⟨1, s.pc⟩, ⟨k, a⟩] := by
  unfold evs
  rw [h1, h2]
  have e1 : decide ((⟨1, s.pc⟩ : Ev) ≠ ev0) = true := by rw [decide_eq_true_eq]; intro e; cases e
  have e2 : decide ((⟨k, a⟩ : Ev) ≠ ev0) = true := by rw [decide_eq_true_eq]; intro e; exact hk (congrArg Ev.k e)
  have e3 : decide (ev0 ≠ ev0) = false := by simp
  simp only [List.filter, e1, e2, e3]
theorem load_v {M : List Reg} (hM : Oks M) {p v x : Int} (h : LoadO M p v x) : W v := load_W hM (t := ⟨2, p⟩) (x := 0) (M' := M) (.inl ⟨rfl, h, rfl⟩)
theorem RefM.oks' {w : World} {B E : Nat} {p : Value} {M : List Reg} (h : RefM w B E p M) : Oks M := by
  obtain ⟨D, v, os, h1, h2, h3, h4, h5, h6⟩ := h.ex
  rw [← h6]
  intro r hr
  obtain ⟨o, ho, rfl⟩ := List.mem_map.1 hr
  exact h5.own.oks o ho
theorem goe_33 {i : Ins} {n : Stt} (h : i.op = 33) : goe i n = ⟨4, n.pc⟩ := by
  unfold goe
  rw [decide_eq_true h, Bool.or_true]
  rfl
theorem evs_ret {s n : Stt} {i : Ins} {k a : Int} (h1 : tch s i = ⟨k, a⟩) (hk : k ≠ 0) (h2 : goe i n = ⟨4, n.pc⟩) : evs s i n = [⟨1, s.pc⟩, ⟨k, a⟩, ⟨4, n.pc⟩] := by
  unfold evs
  rw [h1, h2]
  have e1 : decide ((⟨1, s.pc⟩ : Ev) ≠ ev0) = true := by rw [decide_eq_true_eq]; intro e; cases e
  have e2 : decide ((⟨k, a⟩ : Ev) ≠ ev0) = true := by rw [decide_eq_true_eq]; intro e; exact hk (congrArg Ev.k e)
  have e3 : decide ((⟨4, n.pc⟩ : Ev) ≠ ev0) = true := by rw [decide_eq_true_eq]; intro e; cases e
  simp only [List.filter, e1, e2, e3]
theorem rd3 {w : World} {g : Nat} {k1 a1 k2 a2 k3 a3 : Int} {zs : Array Value} (h : Bk w g 51 (#[.int .i64 k1, .int .u64 a1] ++ (#[.int .i64 k2, .int .u64 a2, .int .i64 k3, .int .u64 a3] ++ zs))) : RdE w w.heap.size (some ⟨g, 0, none⟩) 3 [⟨k1, a1⟩, ⟨k2, a2⟩, ⟨k3, a3⟩] :=
  ⟨rfl, fun _ => ⟨_, rfl, h.lt, fun j e hj => by
    obtain ⟨hl, rfl⟩ := List.getElem?_eq_some_iff.1 hj
    have hl' : j < 3 := hl
    have c0 := h.cell 0
    have c1 := h.cell 1
    have c2 := h.cell 2
    have c3 := h.cell 3
    have c4 := h.cell 4
    have c5 := h.cell 5
    rcases (show j = 0 ∨ j = 1 ∨ j = 2 from by omega) with rfl | rfl | rfl
    · exact ⟨c0.trans (by simp [Array.getElem?_append]), c1.trans (by simp [Array.getElem?_append])⟩
    · exact ⟨c2.trans (by simp [Array.getElem?_append]), c3.trans (by simp [Array.getElem?_append])⟩
    · exact ⟨c4.trans (by simp [Array.getElem?_append]), c5.trans (by simp [Array.getElem?_append])⟩⟩⟩
theorem str_size (op : Int) : (formOf op).str.size ≤ 1000 := by
  cases formOf op <;> decide
section
set_option maxRecDepth 100000
set_option maxHeartbeats 40000000
theorem rdo_c {w : World} {B E : Nat} {P : Value} {M : List Reg} (h : Hid (RefM w B E P M)) (s : Stt) (hs : s.wf) (i : Ins) (hi : i.wf) (size : Int) : Calls Tryz.prog 29 #[.agg s.vs, .agg i.vs, .int .i64 size, P] w (RDoP B E P M s i size w) := by
  obtain ⟨D, rfl⟩ : ∃ D, P = .pointer (some D) := by obtain ⟨D, v, os, h1, _⟩ := h.out.ex; exact ⟨_, h1⟩
  have HS := Lib.hid hs
  have HI := Lib.hid hi
  have HOKM := Lib.hid (RefM.oks' h.out)
  have KC := Lib.hid (fun W => check_r i W)
  have HC := Lib.hid (chk_01 i)
  have HE0 : Hid (EB w B E (.pointer (some D)) M [(w.heap.size + 1 + 1, 42, s0.vs), (w.heap.size + 1, 26, i.vs), (w.heap.size, 42, s.vs)] (((w.alloc (.cells s.vs 42)).alloc (.cells i.vs 26)).alloc (.cells s0.vs 42))) :=
    Lib.hid ((((EB.new h.out).alloc' 42 s.vs rfl).alloc' 26 i.vs (by simp)).alloc' 42 s0.vs (by simp))
  obtain ⟨ck, hck⟩ : ∃ c, chk i = c := ⟨_, rfl⟩
  rw [hck] at KC
  have HCK := Lib.hid hck
  clear hck hs hi h
  go_enter Tryz.func29, Tryz.ntmps29
  go_upto_region 1 with fail
  rw [s0_vs]
  generalize World.alloc _ _ = W1 at *
  go_upto_region 2 with (first | (refine wpList_load_row rfl 26 (.tmp 5) rfl (w.heap.size + 1) rfl 26 i.vs (0, 0) _ (HE0.out.at_ 1 rfl) Tryz.underlying26 rfl i9 ?_) | (go_at_call 73; refine (KC.out _).mono ?_; rintro e y1 ⟨rfl, hb⟩; have HE1 := Lib.hid (HE0.out.below hb); clear hb) | fail)
  clear HE0 KC
  rcases (show (okI i = true ∧ ck = 0) ∨ ck = 2 from by have := HC.out; rw [HCK.out] at this; exact this.imp id And.right) with ⟨hok, rfl⟩ | rfl
  · have HOK := Lib.hid hok
    clear hok HC
    by_cases q1 : size < 1
    · go_wp2_with (first | (refine wpList_load_row rfl 42 (.tmp 4) rfl w.heap.size rfl 42 s.vs (0, 0) _ (HE1.out.at_ 2 rfl) Tryz.underlying42 rfl i20 ?_) | (refine wpList_store_row rfl 42 (.tmp 8) (.tmp 41) rfl (w.heap.size + 1 + 1) s.vs rfl rfl 42 s0.vs (HE1.out.at_ 0 rfl) i20 rfl (Stt.vs_one _) ?_) | fail)
      exact ret_do rfl rfl rfl rfl rfl ((HE1.out.row 0 rfl s.vs).at_ 0 rfl) (RDoP.no HS.out (HE1.out.row 0 rfl s.vs) (.inl ⟨by rw [ref_size HCK.out (.inl q1)]; decide, rfl, rfl, rfl, (ref_size HCK.out (.inl q1)).symm⟩))
    · by_cases q2 : 15 < size
      · go_wp2_with (first | (refine wpList_load_row rfl 42 (.tmp 4) rfl w.heap.size rfl 42 s.vs (0, 0) _ (HE1.out.at_ 2 rfl) Tryz.underlying42 rfl i20 ?_) | (refine wpList_store_row rfl 42 (.tmp 8) (.tmp 41) rfl (w.heap.size + 1 + 1) s.vs rfl rfl 42 s0.vs (HE1.out.at_ 0 rfl) i20 rfl (Stt.vs_one _) ?_) | fail)
        exact ret_do rfl rfl rfl rfl rfl ((HE1.out.row 0 rfl s.vs).at_ 0 rfl) (RDoP.no HS.out (HE1.out.row 0 rfl s.vs) (.inl ⟨by rw [ref_size HCK.out (.inr q2)]; decide, rfl, rfl, rfl, (ref_size HCK.out (.inr q2)).symm⟩))
      · have HR0 := Lib.hid (ref_ok (size := size) HCK.out (by omega) (by omega))
        have HSZ : Hid (1 ≤ size ∧ size ≤ 15) := Lib.hid ⟨by omega, by omega⟩
        have q2' : ¬ (15 : Int) < size := q2
        clear HCK
        as_aux_lemma =>
          obtain ⟨d, hd, hd16⟩ : ∃ d : Nat, i.d = (d : Int) ∧ d < 16 := by have := (ok_regs HOK.out).1; exact ⟨i.d.toNat, by omega, by omega⟩
          obtain ⟨c, hc, hc16⟩ : ∃ c : Nat, i.s = (c : Int) ∧ c < 16 := by have := (ok_regs HOK.out).2.1; exact ⟨i.s.toNat, by omega, by omega⟩
          have HD := Lib.hid hd
          have HCC := Lib.hid hc
          have HD16 := Lib.hid hd16
          have HC16 := Lib.hid hc16
          have hdi : (d : Int) < 16 := by omega
          have hci : (c : Int) < 16 := by omega
          clear hd hc hd16 hc16
          go_upto_region 9 with (first | (refine wpList_load_row rfl 42 (.tmp 4) rfl w.heap.size rfl 42 s.vs (0, 0) _ (HE1.out.at_ 2 rfl) Tryz.underlying42 rfl i20 ?_) | (refine wpList_store_row rfl 42 (.tmp 12) (.tmp 43) rfl y1.heap.size s.vs rfl rfl 42 s0.vs (Bk.new y1 42 s0.vs) i20 rfl s.vs_one ?_; rw [World.setRow_alloc_new]) | fail)
          have HE2 := Lib.hid (HE1.out.alloc 42 s.vs)
          generalize y1.heap.size = gN at *
          generalize World.alloc _ _ = W2 at *
          clear HE1 q1 q2 q2'
          have c16 : W2.cell? ⟨w.heap.size, 16, none⟩ = some (.int .u64 s.pc) := (HE2.out.at_ 3 rfl).cell 16
          have n16 : W2.cell? ⟨gN, 16, none⟩ = some (.int .u64 s.pc) := (HE2.out.at_ 0 rfl).cell 16
          have f16 := (HE2.out.at_ 0 rfl).frozen 16
          go_upto_region 10 with fail
          obtain ⟨n1, hn1⟩ : ∃ n : Stt, n = { s with pc := u64 (s.pc + u64 size) } := ⟨_, rfl⟩
          have HN1 := Lib.hid hn1
          have HE3 : Hid (EB w B E (.pointer (some D)) M [(gN, 42, n1.vs), (w.heap.size + 1 + 1, 42, s0.vs), (w.heap.size + 1, 26, i.vs), (w.heap.size, 42, s.vs)] (W2.setCell ⟨gN, 16, none⟩ (.int .u64 (IntKind.u64.wrap (s.pc + IntKind.u64.wrap size))))) := Lib.hid (by
            have h := HE2.out.cell 0 rfl 16 (.int .u64 (IntKind.u64.wrap (s.pc + IntKind.u64.wrap size)))
            rw [s.vs_setPc, show IntKind.u64.wrap (s.pc + IntKind.u64.wrap size) = u64 (s.pc + u64 size) from by unfold u64; simp only [IntKind.wrap_u64]] at h
            rw [hn1, show IntKind.u64.wrap (s.pc + IntKind.u64.wrap size) = u64 (s.pc + u64 size) from by unfold u64; simp only [IntKind.wrap_u64]]
            exact h)
          generalize World.setCell _ _ _ = W3 at *
          clear hn1 c16 n16 f16 HE2
          have c16 : W3.cell? ⟨w.heap.size, 16, none⟩ = some (.int .u64 s.pc) := (HE3.out.at_ 3 rfl).cell 16
          go_upto_region 11 with (first | (go_at_call 74; refine (revent_c _ _ _).mono ?_; rintro e y2 ⟨rfl, hb⟩; have HE4 := Lib.hid (HE3.out.below hb); clear hb) | fail)
          clear HE3 c16
          have HE5 := Lib.hid (HE4.out.alloc 51 #[.int .i64 1, .int .u64 s.pc])
          generalize y2.heap.size = gL at *
          generalize World.alloc _ _ = W4 at *
          clear HE4
          have b4 : W4.cell? ⟨w.heap.size + 1, 4, none⟩ = some (.int .i64 i.b) := (HE5.out.at_ 3 rfl).cell 4
          have b5 : W4.cell? ⟨w.heap.size + 1, 5, none⟩ = some (.int .i64 i.x) := (HE5.out.at_ 3 rfl).cell 5
          have b6 : W4.cell? ⟨w.heap.size + 1, 6, none⟩ = some (.int .i64 i.sc) := (HE5.out.at_ 3 rfl).cell 6
          have b7 : W4.cell? ⟨w.heap.size + 1, 7, none⟩ = some (.int .i64 i.di) := (HE5.out.at_ 3 rfl).cell 7
          have KA := Lib.hid (fun W => raddr_c s i.b i.x i.sc i.di W)
          obtain ⟨at_, hat⟩ : ∃ a, atI i s = a := ⟨_, rfl⟩
          rw [show addr s i.b i.x i.sc i.di = at_ from hat] at KA
          have HAT := Lib.hid hat
          clear hat
          go_upto_region 12 with (first | (refine wpList_load_row rfl 42 (.tmp 4) rfl w.heap.size rfl 42 s.vs (0, 0) _ (HE5.out.at_ 4 rfl) Tryz.underlying42 rfl i20 ?_) | (go_at_call 32; refine (KA.out _).mono ?_; rintro e y3 ⟨rfl, hb⟩; have HE6 := Lib.hid (HE5.out.below hb); clear hb) | fail)
          clear HE5 b4 b5 b6 b7 KA
          have b2 : y3.cell? ⟨w.heap.size + 1, 2, none⟩ = some (.int .i64 (c : Int)) := by rw [← HCC.out]; exact (HE6.out.at_ 3 rfl).cell 2
          have sc_ : y3.cell? ⟨w.heap.size, c, none⟩ = some (.int .u64 (s.r c)) := ((HE6.out.at_ 4 rfl).cell c).trans (s.vs_r HC16.out)
          go_upto_region 13 with fail
          clear b2 sc_
          have KF := Lib.hid (fun W => form_c i.op W)
          have KH := Lib.hid (fun W => has_c (formOf i.op).str 83 W (str_size _))
          obtain ⟨sB, hsB⟩ : ∃ b, hasB (formOf i.op).str 83 = b := ⟨_, rfl⟩
          rw [hsB] at KH
          obtain ⟨bv, hbv⟩ : ∃ v, bOf s i = v := ⟨_, rfl⟩
          have HBV := Lib.hid hbv
          have HBW := Lib.hid (show W bv from hbv ▸ bOf_W HS.out i)
          have b0 : y3.cell? ⟨w.heap.size + 1, 0, none⟩ = some (.int .i64 i.op) := (HE6.out.at_ 3 rfl).cell 0
          have b8 : y3.cell? ⟨w.heap.size + 1, 8, none⟩ = some (.int .i64 i.im) := (HE6.out.at_ 3 rfl).cell 8
          have HBS : Hid (sB = true → bv = s.r c) := Lib.hid (fun hb => by rw [← hbv]; unfold bOf; rw [hsB, hb, if_pos rfl, tcI HCC.out])
          have HBN : Hid (sB = false → bv = IntKind.u64.wrap i.im) := Lib.hid (fun hb => by rw [← hbv]; unfold bOf u64; rw [hsB, hb, if_neg (by decide), IntKind.wrap_u64])
          clear hsB hbv
          go_upto_if 67 with (first | (go_at_call 76; refine (KF.out _).mono ?_; rintro e y ⟨rfl, hy⟩; obtain rfl := hy.symm) | (go_at_call 75; refine (KH.out _).mono ?_; rintro e y ⟨rfl, hy⟩; obtain rfl := hy.symm) | fail)
          clear KF KH b0
          go_cut [15] from 68 to 70 (fun v wc => v = .int .u64 bv ∧ wc = y3)
          case first =>
            cases sB
            · have e := HBN.out (by trivial)
              have e2 := HBN
              clear HBN HBS
              go_wp2_with fail
              go_meet
              exact ⟨by rw [e2.out (by trivial)], rfl⟩
            · have e2 := HBS
              clear HBN HBS
              go_wp2_with fail
              go_meet
              exact ⟨by rw [e2.out (by trivial)], rfl⟩
          case rest =>
            obtain ⟨rfl, rfl⟩ := hcut
            clear HBS HBN b8
            have HE7 := HE6
            clear HE6
            obtain ⟨T, hT⟩ : ∃ T, vSt n1 i.op (s.r d) bv = T := ⟨_, rfl⟩
            obtain ⟨V, hV⟩ : ∃ V, vVl n1 i.op (s.r d) bv = V := ⟨_, rfl⟩
            obtain ⟨IS, hIS⟩ : ∃ b, (!isMv i.op) = b := ⟨_, rfl⟩
            have KV : Hid (∀ W, Calls Tryz.prog 77 #[.agg n1.vs, .int .i64 i.op, .int .u64 (s.r d), .int .u64 bv] W fun e w' => e = .returned (.tuple #[.agg T.vs, .int .u64 V, .bool IS]) ∧ Below W.heap.size W w') := Lib.hid (fun W => by
              have h := rvalue_c n1 i.op (s.r d) bv (ok_op1 HOK.out) (HS.out.r d) HBW.out (fun h => by rw [← HBV.out]; exact bOf_sh HOK.out h) W
              rw [hT, hV, hIS] at h
              exact h)
            have HT := Lib.hid hT
            have HV := Lib.hid hV
            have HIS := Lib.hid hIS
            clear hT hV hIS
            generalize hbl : [(gL, 51, #[Value.int IntKind.i64 1, Value.int IntKind.u64 s.pc]), (gN, 42, n1.vs), (w.heap.size + 1 + 1, 42, s0.vs), (w.heap.size + 1, 26, i.vs), (w.heap.size, 42, s.vs)] = bl at HE7
            have k1 : Hid (bl[1]? = some (gN, 42, n1.vs)) := Lib.hid (by rw [← hbl]; rfl)
            have k3 : Hid (bl[3]? = some (w.heap.size + 1, 26, i.vs)) := Lib.hid (by rw [← hbl]; rfl)
            have k4 : Hid (bl[4]? = some (w.heap.size, 42, s.vs)) := Lib.hid (by rw [← hbl]; rfl)
            have HBL := Lib.hid hbl
            clear hbl
            go_upto_region 15 with fail
            go_cut [16, 17, 18] from 71 to 84 (fun tp r is wx => ∃ gT : Nat, tp = .pointer (some ⟨gT, 0, none⟩) ∧ r = .int .u64 V ∧ is = .bool IS ∧ Hid (EB w B E (.pointer (some D)) M ((gT, 42, T.vs) :: bl) wx))
            case first =>
              refine wp_region_held_drew (S := (fun w' => EB w B E (.pointer (some D)) M bl w')) (by kernel_rfl) HE7.out.drew (fun hHeld => ?_)
              have HX0 := Lib.hid HE7.out.drew
              generalize World.drew wc = X0 at *
              clear HE7
              refine wpAnyH_take (i := 0) (oi := { dst := some 72, op := Op.load 42 (Operand.tmp 12), type := 42, pos := "ref.go:120", after := #[], guard := none }) (v := (.agg n1.vs)) rfl (by kernel_rfl) (by kernel_rfl) (by kernel_rfl) (fun _ _ _ h => h) (Or.inl ⟨by rfl, ?_⟩) (by assumption) ?_
              · intro w' hSw
                exact row_yields 42 (.tmp 12) rfl _ rfl n1.vs _ (hSw.at_ 1 k1.out) Tryz.underlying42 rfl i20
              simp only [Act.put, List.setIfInBounds_toArray, List.set_cons_zero, List.set_cons_succ]
              refine wpAnyH_take (i := 1) (oi := { dst := some 73, op := Op.fieldAddr 26 (Operand.tmp 5) 0, type := 0, pos := "ref.go:120", after := #[], guard := none }) (v := (.pointer (some ⟨w.heap.size + 1, 0, none⟩))) rfl (by kernel_rfl) (by kernel_rfl) (by kernel_rfl) (fun _ _ _ h => h) (Or.inl ⟨by rfl, ?_⟩) (by assumption) ?_
              · intro w' hSw
                go_simp
              simp only [Act.put, List.setIfInBounds_toArray, List.set_cons_zero, List.set_cons_succ]
              refine wpAnyH_take (i := 2) (oi := { dst := some 74, op := Op.load 3 (Operand.tmp 73), type := 3, pos := "ref.go:120", after := #[{ on := 1, ground := Ground.data }], guard := none }) (v := (.int .i64 i.op)) rfl (by kernel_rfl) (by kernel_rfl) (by kernel_rfl) (fun _ _ _ h => h) (Or.inl ⟨by rfl, ?_⟩) (by assumption) ?_
              · intro w' hSw
                have z : w'.cell? ⟨(w.heap.size + 1), 0, none⟩ = some (.int .i64 i.op) := (hSw.at_ 3 k3.out).cell 0
                clear hSw
                go_simp
              simp only [Act.put, List.setIfInBounds_toArray, List.set_cons_zero, List.set_cons_succ]
              refine wpAnyH_take (i := 3) (oi := { dst := some 75, op := Op.fieldAddr 26 (Operand.tmp 5) 1, type := 0, pos := "ref.go:120", after := #[], guard := none }) (v := (.pointer (some ⟨w.heap.size + 1, 1, none⟩))) rfl (by kernel_rfl) (by kernel_rfl) (by kernel_rfl) (fun _ _ _ h => h) (Or.inl ⟨by rfl, ?_⟩) (by assumption) ?_
              · intro w' hSw
                go_simp
              simp only [Act.put, List.setIfInBounds_toArray, List.set_cons_zero, List.set_cons_succ]
              refine wpAnyH_take (i := 4) (oi := { dst := some 76, op := Op.load 3 (Operand.tmp 75), type := 3, pos := "ref.go:120", after := #[{ on := 3, ground := Ground.data }], guard := none }) (v := (.int .i64 (d : Int))) rfl (by kernel_rfl) (by kernel_rfl) (by kernel_rfl) (fun _ _ _ h => h) (Or.inl ⟨by rfl, ?_⟩) (by assumption) ?_
              · intro w' hSw
                have z : w'.cell? ⟨(w.heap.size + 1), 1, none⟩ = some (.int .i64 (d : Int)) := by rw [← HD.out]; exact (hSw.at_ 3 k3.out).cell 1
                clear hSw
                go_simp
              simp only [Act.put, List.setIfInBounds_toArray, List.set_cons_zero, List.set_cons_succ]
              refine wpAnyH_take (i := 5) (oi := { dst := some 77, op := Op.fieldAddr 42 (Operand.tmp 4) 0, type := 0, pos := "ref.go:120", after := #[], guard := none }) (v := (.pointer (some ⟨w.heap.size, 0, none⟩))) rfl (by kernel_rfl) (by kernel_rfl) (by kernel_rfl) (fun _ _ _ h => h) (Or.inl ⟨by rfl, ?_⟩) (by assumption) ?_
              · intro w' hSw
                go_simp
              simp only [Act.put, List.setIfInBounds_toArray, List.set_cons_zero, List.set_cons_succ]
              refine wpAnyH_take (i := 6) (oi := { dst := some 78, op := Op.indexAddr 40 (Operand.tmp 77) (Operand.tmp 76), type := 0, pos := "ref.go:120", after := #[{ on := 5, ground := Ground.data }, { on := 4, ground := Ground.data }], guard := none }) (v := (.pointer (some ⟨w.heap.size, d, none⟩))) rfl (by kernel_rfl) (by kernel_rfl) (by kernel_rfl) (fun _ _ _ h => h) (Or.inl ⟨by rfl, ?_⟩) (by assumption) ?_
              · intro w' hSw
                go_simp
              simp only [Act.put, List.setIfInBounds_toArray, List.set_cons_zero, List.set_cons_succ]
              refine wpAnyH_take (i := 7) (oi := { dst := some 79, op := Op.load 39 (Operand.tmp 78), type := 39, pos := "ref.go:120", after := #[{ on := 6, ground := Ground.data }], guard := none }) (v := (.int .u64 (s.r d))) rfl (by kernel_rfl) (by kernel_rfl) (by kernel_rfl) (fun _ _ _ h => h) (Or.inl ⟨by rfl, ?_⟩) (by assumption) ?_
              · intro w' hSw
                have z : w'.cell? ⟨w.heap.size, d, none⟩ = some (.int .u64 (s.r d)) := ((hSw.at_ 4 k4.out).cell d).trans (s.vs_r HD16.out)
                clear hSw
                go_simp
              simp only [Act.put, List.setIfInBounds_toArray, List.set_cons_zero, List.set_cons_succ]
              refine wpAnyH_take (i := 8) (oi := { dst := some 80, op := Op.move (Operand.tmp 15), type := 39, pos := "ref.go:120", after := #[], guard := none }) (v := (.int .u64 bv)) rfl (by kernel_rfl) (by kernel_rfl) (by kernel_rfl) (fun _ _ _ h => h) (Or.inl ⟨by rfl, ?_⟩) (by assumption) ?_
              · intro w' hSw
                go_simp
              simp only [Act.put, List.setIfInBounds_toArray, List.set_cons_zero, List.set_cons_succ]
              refine wpAnyH_ready (rs := [9, 14]) (by kernel_rfl) (by simp) ?_
              refine AllReadyH.cons (o := { dst := some 81, op := Op.call { callee := Callee.value (Operand.func 77), args := #[Operand.tmp 72, Operand.tmp 74, Operand.tmp 79, Operand.tmp 80], argTypes := #[42, 3, 39, 39] }, type := 123, pos := "ref.go:120", after := #[{ on := 0, ground := Ground.data }, { on := 2, ground := Ground.data }, { on := 7, ground := Ground.data }, { on := 8, ground := Ground.data }], guard := none }) rfl (fun K' hK => ?_) (AllReadyH.cons (o := { dst := some 16, op := Op.alloc 42, type := 0, pos := "ref.go:120", after := #[], guard := none }) rfl (fun K' hK => ?_) AllReadyH.nil)
              · skip
                rw [if_pos (by rfl)]
                go_simp
                go_at_call 77
                refine (KV.out _).mono ?_
                rintro e y4 ⟨rfl, hb⟩
                have HX1 := Lib.hid (HX0.out.below hb)
                clear hb
                refine hK.out _ _ (HX1.out) (fun hHeld => ?_)
                clear hK
                try simp only [Act.put, List.setIfInBounds_toArray, List.set_cons_zero, List.set_cons_succ]
                refine wpAnyH_take (i := 10) (oi := { dst := some 71, op := Op.move (Operand.tmp 81), type := 123, pos := "ref.go:120", after := #[{ on := 9, ground := Ground.data }], guard := none }) (v := (.tuple #[.agg T.vs, .int .u64 V, .bool IS])) rfl (by kernel_rfl) (by kernel_rfl) (by kernel_rfl) (fun _ _ _ h => h) (Or.inl ⟨by rfl, ?_⟩) (by assumption) ?_
                · intro w' hSw
                  go_simp
                simp only [Act.put, List.setIfInBounds_toArray, List.set_cons_zero, List.set_cons_succ]
                refine wpAnyH_take (i := 11) (oi := { dst := some 82, op := Op.extract (Operand.tmp 71) 0, type := 42, pos := "ref.go:120", after := #[{ on := 10, ground := Ground.data }], guard := none }) (v := (.agg T.vs)) rfl (by kernel_rfl) (by kernel_rfl) (by kernel_rfl) (fun _ _ _ h => h) (Or.inl ⟨by rfl, ?_⟩) (by assumption) ?_
                · intro w' hSw
                  go_simp
                simp only [Act.put, List.setIfInBounds_toArray, List.set_cons_zero, List.set_cons_succ]
                refine wpAnyH_take (i := 12) (oi := { dst := some 83, op := Op.extract (Operand.tmp 71) 1, type := 39, pos := "ref.go:120", after := #[{ on := 10, ground := Ground.data }, { on := 15, ground := Ground.gcOnly Departure.lateStores }], guard := none }) (v := (.int .u64 V)) rfl (by kernel_rfl) (by kernel_rfl) (by kernel_rfl) (fun _ _ _ h => h) (Or.inl ⟨by rfl, ?_⟩) (by assumption) ?_
                · intro w' hSw
                  go_simp
                simp only [Act.put, List.setIfInBounds_toArray, List.set_cons_zero, List.set_cons_succ]
                refine wpAnyH_take (i := 13) (oi := { dst := some 84, op := Op.extract (Operand.tmp 71) 2, type := 4, pos := "ref.go:120", after := #[{ on := 10, ground := Ground.data }, { on := 16, ground := Ground.gcOnly Departure.lateStores }], guard := none }) (v := (.bool IS)) rfl (by kernel_rfl) (by kernel_rfl) (by kernel_rfl) (fun _ _ _ h => h) (Or.inl ⟨by rfl, ?_⟩) (by assumption) ?_
                · intro w' hSw
                  go_simp
                simp only [Act.put, List.setIfInBounds_toArray, List.set_cons_zero, List.set_cons_succ]
                refine wpAnyH_ready (rs := [14]) (by kernel_rfl) (by simp) ?_
                refine AllReadyH.cons (o := { dst := some 16, op := Op.alloc 42, type := 0, pos := "ref.go:120", after := #[], guard := none }) rfl (fun K' hK => ?_) AllReadyH.nil
                rw [if_pos (by rfl)]
                go_simp
                rw [s0_vs]
                have HX2 := Lib.hid (HX1.out.alloc 42 s0.vs)
                obtain ⟨Y5, hY⟩ : ∃ Y, Y = World.alloc y4 (.cells s0.vs 42) := ⟨_, rfl⟩
                rw [← hY] at HX2 ⊢
                clear hY
                generalize y4.heap.size = gT at HX2 ⊢
                refine hK.out _ _ (HX2.out.tail) (fun hHeld => ?_)
                clear hK
                try simp only [Act.put, List.setIfInBounds_toArray, List.set_cons_zero, List.set_cons_succ]
                refine wpAnyH_ready (rs := [15]) (by kernel_rfl) (by simp) ?_
                refine AllReadyH.cons (o := { dst := none, op := Op.store 42 (Operand.tmp 16) (Operand.tmp 82), type := 0, pos := "ref.go:120", after := #[{ on := 14, ground := Ground.data }, { on := 11, ground := Ground.data }, { on := 9, ground := Ground.chain }, { on := 0, ground := Ground.phase }, { on := 1, ground := Ground.phase }, { on := 2, ground := Ground.phase }, { on := 3, ground := Ground.phase }, { on := 4, ground := Ground.phase }, { on := 5, ground := Ground.phase }, { on := 6, ground := Ground.phase }, { on := 7, ground := Ground.phase }, { on := 8, ground := Ground.phase }, { on := 9, ground := Ground.phase }, { on := 10, ground := Ground.phase }, { on := 11, ground := Ground.phase }, { on := 12, ground := Ground.textOnly Departure.lateStores }, { on := 13, ground := Ground.textOnly Departure.lateStores }, { on := 14, ground := Ground.phase }], guard := none }) rfl (fun K' hK => ?_) AllReadyH.nil
                rw [if_pos (by rfl)]
                refine wp_store_row 42 (.tmp 16) (.tmp 82) rfl gT T.vs rfl rfl 42 s0.vs (HX2.out.at_ 0 rfl) i20 rfl T.vs_one ?_
                have HZ := Lib.hid (HX2.out.row 0 rfl T.vs)
                refine hK.out _ _ (HZ.out.tail) (fun hHeld => ?_)
                clear hK
                try simp only [Act.put, List.setIfInBounds_toArray, List.set_cons_zero, List.set_cons_succ]
                refine wpAnyH_take (i := 16) (oi := { dst := some 17, op := Op.assign (Operand.tmp 83), type := 39, pos := "ref.go:120", after := #[{ on := 12, ground := Ground.data }, { on := 15, ground := Ground.chain }, { on := 0, ground := Ground.phase }, { on := 1, ground := Ground.phase }, { on := 2, ground := Ground.phase }, { on := 3, ground := Ground.phase }, { on := 4, ground := Ground.phase }, { on := 5, ground := Ground.phase }, { on := 6, ground := Ground.phase }, { on := 7, ground := Ground.phase }, { on := 8, ground := Ground.phase }, { on := 9, ground := Ground.phase }, { on := 10, ground := Ground.phase }, { on := 11, ground := Ground.phase }, { on := 12, ground := Ground.phase }, { on := 13, ground := Ground.textOnly Departure.lateStores }, { on := 14, ground := Ground.phase }, { on := 15, ground := Ground.phase }], guard := none }) (v := (.int .u64 V)) rfl (by kernel_rfl) (by kernel_rfl) (by kernel_rfl) (fun _ _ _ h => h) (Or.inl ⟨by rfl, ?_⟩) (by assumption) ?_
                · intro w' hSw
                  go_simp
                simp only [Act.put, List.setIfInBounds_toArray, List.set_cons_zero, List.set_cons_succ]
                refine wpAnyH_take (i := 17) (oi := { dst := some 18, op := Op.assign (Operand.tmp 84), type := 4, pos := "ref.go:120", after := #[{ on := 13, ground := Ground.data }, { on := 16, ground := Ground.chain }, { on := 0, ground := Ground.phase }, { on := 1, ground := Ground.phase }, { on := 2, ground := Ground.phase }, { on := 3, ground := Ground.phase }, { on := 4, ground := Ground.phase }, { on := 5, ground := Ground.phase }, { on := 6, ground := Ground.phase }, { on := 7, ground := Ground.phase }, { on := 8, ground := Ground.phase }, { on := 9, ground := Ground.phase }, { on := 10, ground := Ground.phase }, { on := 11, ground := Ground.phase }, { on := 12, ground := Ground.phase }, { on := 13, ground := Ground.phase }, { on := 14, ground := Ground.phase }, { on := 15, ground := Ground.phase }, { on := 16, ground := Ground.phase }], guard := none }) (v := (.bool IS)) rfl (by kernel_rfl) (by kernel_rfl) (by kernel_rfl) (fun _ _ _ h => h) (Or.inl ⟨by rfl, ?_⟩) (by assumption) ?_
                · intro w' hSw
                  go_simp
                simp only [Act.put, List.setIfInBounds_toArray, List.set_cons_zero, List.set_cons_succ]
                refine wpAnyH_done (by kernel_rfl) ?_ _
                go_wp2_with fail
                go_meet
                exact ⟨gT, rfl, rfl, rfl, HZ⟩
              · skip
                rw [if_pos (by rfl)]
                go_simp
                rw [s0_vs]
                have HX1 := Lib.hid (HX0.out.alloc 42 s0.vs)
                obtain ⟨Y4, hY⟩ : ∃ Y, Y = World.alloc X0 (.cells s0.vs 42) := ⟨_, rfl⟩
                rw [← hY] at HX1 ⊢
                clear hY
                generalize X0.heap.size = gT at HX1 ⊢
                refine hK.out _ _ (HX1.out.tail) (fun hHeld => ?_)
                clear hK
                try simp only [Act.put, List.setIfInBounds_toArray, List.set_cons_zero, List.set_cons_succ]
                refine wpAnyH_ready (rs := [9]) (by kernel_rfl) (by simp) ?_
                refine AllReadyH.cons (o := { dst := some 81, op := Op.call { callee := Callee.value (Operand.func 77), args := #[Operand.tmp 72, Operand.tmp 74, Operand.tmp 79, Operand.tmp 80], argTypes := #[42, 3, 39, 39] }, type := 123, pos := "ref.go:120", after := #[{ on := 0, ground := Ground.data }, { on := 2, ground := Ground.data }, { on := 7, ground := Ground.data }, { on := 8, ground := Ground.data }], guard := none }) rfl (fun K' hK => ?_) AllReadyH.nil
                rw [if_pos (by rfl)]
                go_simp
                go_at_call 77
                refine (KV.out _).mono ?_
                rintro e y5 ⟨rfl, hb⟩
                have HX2 := Lib.hid (HX1.out.below hb)
                clear hb
                refine hK.out _ _ (HX2.out.tail) (fun hHeld => ?_)
                clear hK
                try simp only [Act.put, List.setIfInBounds_toArray, List.set_cons_zero, List.set_cons_succ]
                refine wpAnyH_take (i := 10) (oi := { dst := some 71, op := Op.move (Operand.tmp 81), type := 123, pos := "ref.go:120", after := #[{ on := 9, ground := Ground.data }], guard := none }) (v := (.tuple #[.agg T.vs, .int .u64 V, .bool IS])) rfl (by kernel_rfl) (by kernel_rfl) (by kernel_rfl) (fun _ _ _ h => h) (Or.inl ⟨by rfl, ?_⟩) (by assumption) ?_
                · intro w' hSw
                  go_simp
                simp only [Act.put, List.setIfInBounds_toArray, List.set_cons_zero, List.set_cons_succ]
                refine wpAnyH_take (i := 11) (oi := { dst := some 82, op := Op.extract (Operand.tmp 71) 0, type := 42, pos := "ref.go:120", after := #[{ on := 10, ground := Ground.data }], guard := none }) (v := (.agg T.vs)) rfl (by kernel_rfl) (by kernel_rfl) (by kernel_rfl) (fun _ _ _ h => h) (Or.inl ⟨by rfl, ?_⟩) (by assumption) ?_
                · intro w' hSw
                  go_simp
                simp only [Act.put, List.setIfInBounds_toArray, List.set_cons_zero, List.set_cons_succ]
                refine wpAnyH_take (i := 12) (oi := { dst := some 83, op := Op.extract (Operand.tmp 71) 1, type := 39, pos := "ref.go:120", after := #[{ on := 10, ground := Ground.data }, { on := 15, ground := Ground.gcOnly Departure.lateStores }], guard := none }) (v := (.int .u64 V)) rfl (by kernel_rfl) (by kernel_rfl) (by kernel_rfl) (fun _ _ _ h => h) (Or.inl ⟨by rfl, ?_⟩) (by assumption) ?_
                · intro w' hSw
                  go_simp
                simp only [Act.put, List.setIfInBounds_toArray, List.set_cons_zero, List.set_cons_succ]
                refine wpAnyH_take (i := 13) (oi := { dst := some 84, op := Op.extract (Operand.tmp 71) 2, type := 4, pos := "ref.go:120", after := #[{ on := 10, ground := Ground.data }, { on := 16, ground := Ground.gcOnly Departure.lateStores }], guard := none }) (v := (.bool IS)) rfl (by kernel_rfl) (by kernel_rfl) (by kernel_rfl) (fun _ _ _ h => h) (Or.inl ⟨by rfl, ?_⟩) (by assumption) ?_
                · intro w' hSw
                  go_simp
                simp only [Act.put, List.setIfInBounds_toArray, List.set_cons_zero, List.set_cons_succ]
                refine wpAnyH_ready (rs := [15]) (by kernel_rfl) (by simp) ?_
                refine AllReadyH.cons (o := { dst := none, op := Op.store 42 (Operand.tmp 16) (Operand.tmp 82), type := 0, pos := "ref.go:120", after := #[{ on := 14, ground := Ground.data }, { on := 11, ground := Ground.data }, { on := 9, ground := Ground.chain }, { on := 0, ground := Ground.phase }, { on := 1, ground := Ground.phase }, { on := 2, ground := Ground.phase }, { on := 3, ground := Ground.phase }, { on := 4, ground := Ground.phase }, { on := 5, ground := Ground.phase }, { on := 6, ground := Ground.phase }, { on := 7, ground := Ground.phase }, { on := 8, ground := Ground.phase }, { on := 9, ground := Ground.phase }, { on := 10, ground := Ground.phase }, { on := 11, ground := Ground.phase }, { on := 12, ground := Ground.textOnly Departure.lateStores }, { on := 13, ground := Ground.textOnly Departure.lateStores }, { on := 14, ground := Ground.phase }], guard := none }) rfl (fun K' hK => ?_) AllReadyH.nil
                rw [if_pos (by rfl)]
                refine wp_store_row 42 (.tmp 16) (.tmp 82) rfl gT T.vs rfl rfl 42 s0.vs (HX2.out.at_ 0 rfl) i20 rfl T.vs_one ?_
                have HZ := Lib.hid (HX2.out.row 0 rfl T.vs)
                refine hK.out _ _ (HZ.out.tail) (fun hHeld => ?_)
                clear hK
                try simp only [Act.put, List.setIfInBounds_toArray, List.set_cons_zero, List.set_cons_succ]
                refine wpAnyH_take (i := 16) (oi := { dst := some 17, op := Op.assign (Operand.tmp 83), type := 39, pos := "ref.go:120", after := #[{ on := 12, ground := Ground.data }, { on := 15, ground := Ground.chain }, { on := 0, ground := Ground.phase }, { on := 1, ground := Ground.phase }, { on := 2, ground := Ground.phase }, { on := 3, ground := Ground.phase }, { on := 4, ground := Ground.phase }, { on := 5, ground := Ground.phase }, { on := 6, ground := Ground.phase }, { on := 7, ground := Ground.phase }, { on := 8, ground := Ground.phase }, { on := 9, ground := Ground.phase }, { on := 10, ground := Ground.phase }, { on := 11, ground := Ground.phase }, { on := 12, ground := Ground.phase }, { on := 13, ground := Ground.textOnly Departure.lateStores }, { on := 14, ground := Ground.phase }, { on := 15, ground := Ground.phase }], guard := none }) (v := (.int .u64 V)) rfl (by kernel_rfl) (by kernel_rfl) (by kernel_rfl) (fun _ _ _ h => h) (Or.inl ⟨by rfl, ?_⟩) (by assumption) ?_
                · intro w' hSw
                  go_simp
                simp only [Act.put, List.setIfInBounds_toArray, List.set_cons_zero, List.set_cons_succ]
                refine wpAnyH_take (i := 17) (oi := { dst := some 18, op := Op.assign (Operand.tmp 84), type := 4, pos := "ref.go:120", after := #[{ on := 13, ground := Ground.data }, { on := 16, ground := Ground.chain }, { on := 0, ground := Ground.phase }, { on := 1, ground := Ground.phase }, { on := 2, ground := Ground.phase }, { on := 3, ground := Ground.phase }, { on := 4, ground := Ground.phase }, { on := 5, ground := Ground.phase }, { on := 6, ground := Ground.phase }, { on := 7, ground := Ground.phase }, { on := 8, ground := Ground.phase }, { on := 9, ground := Ground.phase }, { on := 10, ground := Ground.phase }, { on := 11, ground := Ground.phase }, { on := 12, ground := Ground.phase }, { on := 13, ground := Ground.phase }, { on := 14, ground := Ground.phase }, { on := 15, ground := Ground.phase }, { on := 16, ground := Ground.phase }], guard := none }) (v := (.bool IS)) rfl (by kernel_rfl) (by kernel_rfl) (by kernel_rfl) (fun _ _ _ h => h) (Or.inl ⟨by rfl, ?_⟩) (by assumption) ?_
                · intro w' hSw
                  go_simp
                simp only [Act.put, List.setIfInBounds_toArray, List.set_cons_zero, List.set_cons_succ]
                refine wpAnyH_done (by kernel_rfl) ?_ _
                go_wp2_with fail
                go_meet
                exact ⟨gT, rfl, rfl, rfl, HZ⟩
            case rest =>
              obtain ⟨gT, rfl, rfl, rfl, HE8⟩ := hcut
              obtain rfl := HBL.out
              clear k1 k3 k4 HBL
              cases hm : isMv i.op
              · rw [hm] at HIS
                obtain rfl : IS = true := HIS.out.symm
                have HM := Lib.hid hm
                have HT2 : Hid (n1.setF (rkP i.op (s.r d) bv n1.fl).2 = T) := Lib.hid (by have h := HT.out; unfold vSt at h; rw [hm, if_neg (by decide)] at h; exact h)
                have HV2 : Hid (rkV i.op (s.r d) bv n1.fl = V) := Lib.hid (by have h := HV.out; unfold vVl at h; rw [hm, if_neg (by decide)] at h; exact h)
                clear hm HT HV HIS
                as_aux_lemma =>
                  go_upto_region 21 with (first | (refine wpList_load_row rfl 42 (.tmp 16) rfl gT rfl 42 T.vs (0, 0) _ (HE8.out.at_ 0 rfl) Tryz.underlying42 rfl i20 ?_) | (refine wpList_store_row rfl 42 (.tmp 12) (.tmp 122) rfl gN T.vs rfl rfl 42 n1.vs (HE8.out.at_ 2 rfl) i20 rfl T.vs_one ?_) | fail)
                  have HE9 : Hid (EB w B E (.pointer (some D)) M [(gT, 42, T.vs), (gL, 51, #[Value.int IntKind.i64 1, Value.int IntKind.u64 s.pc]), (gN, 42, T.vs), (w.heap.size + 1 + 1, 42, s0.vs), (w.heap.size + 1, 26, i.vs), (w.heap.size, 42, s.vs)] (World.setRow _ gN T.vs)) := Lib.hid (HE8.out.row 2 rfl T.vs)
                  generalize World.setRow _ _ _ = W9 at *
                  clear HE8
                  have b0 : W9.cell? ⟨w.heap.size + 1, 0, none⟩ = some (.int .i64 i.op) := (HE9.out.at_ 4 rfl).cell 0
                  have NB := Lib.hid (show ∀ n, (i.op = 13 ∨ i.op = 18 ∨ i.op = 14) → n = T → n = bh s i size 0 from fun n h e => by
                    rw [e, bh_rk s i size 0 HM.out, ← HT2.out, rk_cmp h, HD.out, HN1.out]
                    show _ = Stt.setF (Stt.set _ d (s.r d)) _
                    rw [show s.r d = ({ s with pc := u64 (s.pc + u64 size) } : Stt).r d from rfl, set_id, ← HBV.out, (bOf_rk (ok_op1 HOK.out) HM.out _ _).1]
                    rfl)
                  have NG := Lib.hid (show (i.op ≠ 13 ∧ i.op ≠ 18 ∧ i.op ≠ 14) → T.set d V = bh s i size 0 from fun h => by
                    rw [bh_rk s i size 0 HM.out, ← HT2.out, ← HV2.out, rkV_eq h, HD.out, HN1.out, ← HBV.out, (bOf_rk (ok_op1 HOK.out) HM.out _ _).1]
                    rfl)
                  have WT := Lib.hid (show T.wf from by rw [← HT2.out, HN1.out]; exact ⟨HS.out.r, u64_W _⟩)
                  have WV := Lib.hid (show W V from by rw [← HV2.out]; exact rkV_W (HS.out.r d) HBW.out (fun h => by rw [← HBV.out]; exact bOf_sh HOK.out h))
                  have XN := Lib.hid (xch_none (M := M) (x := s.r i.s.toNat) (tch_rk (s := s) HM.out))
                  have EVL := Lib.hid (fun n => evs_rk (s := s) (n := n) HM.out)
                  clear HT2 HV2 HBV HBW HAT HN1
                  by_cases p1 : i.op = 13 ∨ i.op = 18 ∨ i.op = 14
                  · have P1 := Lib.hid p1
                    rcases p1 with p1 | p1 | p1
                    all_goals
                      rw [p1] at b0
                      clear p1
                      go_upto_region 47 with fail
                      clear b0
                      go_wp2_with (first | (refine wpList_load_row rfl 42 (.tmp 12) rfl gN rfl 42 T.vs (0, 0) _ (HE9.out.at_ 2 rfl) Tryz.underlying42 rfl i20 ?_) | (refine wpList_store_row rfl 42 (.tmp 8) (.tmp 301) rfl (w.heap.size + 1 + 1) T.vs rfl rfl 42 s0.vs (HE9.out.at_ 3 rfl) i20 rfl (Stt.vs_one _) ?_) | fail)
                      have HF := Lib.hid (HE9.out.row 3 rfl T.vs)
                      refine ret_do rfl rfl rfl rfl rfl (HF.out.at_ 3 rfl) ?_
                      exact RDoP.yes HF.out HR0.out XN.out (NB.out T P1.out rfl) ((EVL.out _).symm) (WT.out) (rd1 (HF.out.at_ 1 rfl)) (by omega)
                  · have P1 := Lib.hid p1
                    have a1 : (i.op != 13) = true := by simp; omega
                    have a2 : (i.op != 18) = true := by simp; omega
                    have a3 : (i.op != 14) = true := by simp; omega
                    clear p1
                    have b1 : W9.cell? ⟨w.heap.size + 1, 1, none⟩ = some (.int .i64 (d : Int)) := by rw [← HD.out]; exact (HE9.out.at_ 4 rfl).cell 1
                    have cd : W9.cell? ⟨gN, d, none⟩ = some (.int .u64 (T.r d)) := ((HE9.out.at_ 2 rfl).cell d).trans (T.vs_r HD16.out)
                    have fd := (HE9.out.at_ 2 rfl).frozen d
                    go_upto_region 47 with fail
                    have HE10 : Hid (EB w B E (.pointer (some D)) M [(gT, 42, T.vs), (gL, 51, #[Value.int IntKind.i64 1, Value.int IntKind.u64 s.pc]), (gN, 42, (T.set d V).vs), (w.heap.size + 1 + 1, 42, s0.vs), (w.heap.size + 1, 26, i.vs), (w.heap.size, 42, s.vs)] (World.setCell _ ⟨gN, d, none⟩ (.int .u64 V))) := Lib.hid (by rw [← T.vs_set HD16.out]; exact HE9.out.cell 2 rfl d (.int .u64 V))
                    generalize World.setCell _ _ _ = W10 at *
                    clear HE9 b0 b1 cd fd a1 a2 a3
                    go_wp2_with (first | (refine wpList_load_row rfl 42 (.tmp 12) rfl gN rfl 42 (T.set d V).vs (0, 0) _ (HE10.out.at_ 2 rfl) Tryz.underlying42 rfl i20 ?_) | (refine wpList_store_row rfl 42 (.tmp 8) (.tmp 301) rfl (w.heap.size + 1 + 1) (T.set d V).vs rfl rfl 42 s0.vs (HE10.out.at_ 3 rfl) i20 rfl (Stt.vs_one _) ?_) | fail)
                    have HF := Lib.hid (HE10.out.row 3 rfl (T.set d V).vs)
                    refine ret_do rfl rfl rfl rfl rfl (HF.out.at_ 3 rfl) ?_
                    exact RDoP.yes HF.out HR0.out XN.out (NG.out ⟨fun e => P1.out (.inl e), fun e => P1.out (.inr (.inl e)), fun e => P1.out (.inr (.inr e))⟩) ((EVL.out _).symm) (Stt.set_wf WT.out d WV.out) (rd1 (HF.out.at_ 1 rfl)) (by omega)
              · rw [hm] at HIS
                obtain rfl : IS = false := HIS.out.symm
                have HM := Lib.hid hm
                obtain rfl : n1 = T := by have h := HT.out; unfold vSt at h; rw [hm, if_pos rfl] at h; exact h
                clear hm HT HIS KV HBV HBW
                have HV0 := HV
                clear HV
                have NW := Lib.hid (show n1.wf from by rw [HN1.out]; exact ⟨HS.out.r, u64_W _⟩)
                have OP : i.op = 3 ∨ i.op = 4 ∨ i.op = 5 ∨ i.op = 19 ∨ i.op = 28 ∨ i.op = 29 ∨ i.op = 30 ∨ i.op = 31 ∨ i.op = 32 ∨ i.op = 33 := mv_on HM.out
                rcases OP with ho | ho | ho | ho | ho | ho | ho | ho | ho | ho
                · have HO := Lib.hid ho
                  have b0 : wc.cell? ⟨w.heap.size + 1, 0, none⟩ = some (.int .i64 3) := by rw [← ho]; exact (HE8.out.at_ 4 rfl).cell 0
                  have BH := Lib.hid (show ∀ v, bh s i size v = mvP n1 i v from fun v => by rw [HN1.out]; exact bh_mv s i size v HM.out)
                  clear ho HM HV0
                  as_aux_lemma =>
                    have HAW := Lib.hid (show Wd.W at_ from by rw [← HAT.out]; exact u64_W _)
                    have TC := Lib.hid (show tch s i = ⟨2, at_⟩ from by rw [tch_3 HO.out, HAT.out])
                    go_upto_region 24 with fail
                    clear b0
                    refine wp_region_held_drew (S := (fun w' => ∃ M2, EB w B E (.pointer (some D)) M2 [(w.heap.size + 1 + 1, 42, s0.vs), (w.heap.size + 1, 26, i.vs), (w.heap.size, 42, s.vs)] w')) (by kernel_rfl) ⟨_, HE8.out.drew.tail.tail.tail⟩ (fun hHeld => ?_)
                    have HX0 := Lib.hid HE8.out.drew
                    generalize World.drew wc = X0 at *
                    clear HE8
                    refine wpAnyH_take (i := 0) (oi := { dst := some 146, op := Op.fieldAddr 26 (Operand.tmp 5) 1, type := 0, pos := "ref.go:128", after := #[], guard := none }) (v := (.pointer (some ⟨w.heap.size + 1, 1, none⟩))) rfl (by kernel_rfl) (by kernel_rfl) (by kernel_rfl) (fun _ _ _ h => h) (Or.inl ⟨by rfl, ?_⟩) (by assumption) ?_
                    · intro w' hSw
                      go_simp
                    simp only [Act.put, List.setIfInBounds_toArray, List.set_cons_zero, List.set_cons_succ]
                    refine wpAnyH_take (i := 1) (oi := { dst := some 147, op := Op.load 3 (Operand.tmp 146), type := 3, pos := "ref.go:128", after := #[{ on := 0, ground := Ground.data }], guard := none }) (v := (.int .i64 (d : Int))) rfl (by kernel_rfl) (by kernel_rfl) (by kernel_rfl) (fun _ _ _ h => h) (Or.inl ⟨by rfl, ?_⟩) (by assumption) ?_
                    · intro w' hSw
                      obtain ⟨_, hSw⟩ := hSw
                      have z : w'.cell? ⟨(w.heap.size + 1), 1, none⟩ = some (.int .i64 (d : Int)) := by rw [← HD.out]; exact (hSw.at_ 1 rfl).cell 1
                      clear hSw
                      go_simp
                    simp only [Act.put, List.setIfInBounds_toArray, List.set_cons_zero, List.set_cons_succ]
                    refine wpAnyH_take (i := 2) (oi := { dst := some 148, op := Op.move (Operand.tmp 3), type := 57, pos := "ref.go:128", after := #[], guard := none }) (v := (.pointer (some D))) rfl (by kernel_rfl) (by kernel_rfl) (by kernel_rfl) (fun _ _ _ h => h) (Or.inl ⟨by rfl, ?_⟩) (by assumption) ?_
                    · intro w' hSw
                      go_simp
                    simp only [Act.put, List.setIfInBounds_toArray, List.set_cons_zero, List.set_cons_succ]
                    refine wpAnyH_take (i := 3) (oi := { dst := some 149, op := Op.move (Operand.tmp 14), type := 39, pos := "ref.go:128", after := #[], guard := none }) (v := (.int .u64 at_)) rfl (by kernel_rfl) (by kernel_rfl) (by kernel_rfl) (fun _ _ _ h => h) (Or.inl ⟨by rfl, ?_⟩) (by assumption) ?_
                    · intro w' hSw
                      go_simp
                    simp only [Act.put, List.setIfInBounds_toArray, List.set_cons_zero, List.set_cons_succ]
                    refine wpAnyH_take (i := 8) (oi := { dst := some 153, op := Op.fieldAddr 42 (Operand.tmp 12) 0, type := 0, pos := "ref.go:128", after := #[], guard := none }) (v := (.pointer (some ⟨gN, 0, none⟩))) rfl (by kernel_rfl) (by kernel_rfl) (by kernel_rfl) (fun _ _ _ h => h) (Or.inl ⟨by rfl, ?_⟩) (by assumption) ?_
                    · intro w' hSw
                      go_simp
                    simp only [Act.put, List.setIfInBounds_toArray, List.set_cons_zero, List.set_cons_succ]
                    refine wpAnyH_ready (rs := [4]) (by kernel_rfl) (by simp) ?_
                    refine AllReadyH.cons (o := { dst := some 150, op := Op.call { callee := Callee.value (Operand.func 78), args := #[Operand.tmp 148, Operand.tmp 149], argTypes := #[57, 39] }, type := 109, pos := "ref.go:128", after := #[{ on := 2, ground := Ground.data }, { on := 3, ground := Ground.data }], guard := none }) rfl (fun K' hK => ?_) AllReadyH.nil
                    rw [if_pos (by rfl)]
                    go_simp
                    go_at_call 78
                    refine (rload_c (Lib.hid HX0.out.mem) at_ HAW.out).mono ?_
                    rintro e y4 ⟨hb, v, x, rfl, hl⟩
                    have HX1 := Lib.hid (HX0.out.below hb)
                    have HL := Lib.hid hl
                    clear hb hl HX0
                    refine hK.out _ _ (⟨_, HX1.out.tail.tail.tail⟩) (fun hHeld => ?_)
                    clear hK
                    try simp only [Act.put, List.setIfInBounds_toArray, List.set_cons_zero, List.set_cons_succ]
                    refine wpAnyH_take (i := 5) (oi := { dst := some 145, op := Op.move (Operand.tmp 150), type := 109, pos := "ref.go:128", after := #[{ on := 4, ground := Ground.data }], guard := none }) (v := (.tuple #[.int .u64 v, .int .i64 x])) rfl (by kernel_rfl) (by kernel_rfl) (by kernel_rfl) (fun _ _ _ h => h) (Or.inl ⟨by rfl, ?_⟩) (by assumption) ?_
                    · intro w' hSw
                      go_simp
                    simp only [Act.put, List.setIfInBounds_toArray, List.set_cons_zero, List.set_cons_succ]
                    refine wpAnyH_take (i := 6) (oi := { dst := some 151, op := Op.extract (Operand.tmp 145) 0, type := 39, pos := "ref.go:128", after := #[{ on := 5, ground := Ground.data }], guard := none }) (v := (.int .u64 v)) rfl (by kernel_rfl) (by kernel_rfl) (by kernel_rfl) (fun _ _ _ h => h) (Or.inl ⟨by rfl, ?_⟩) (by assumption) ?_
                    · intro w' hSw
                      go_simp
                    simp only [Act.put, List.setIfInBounds_toArray, List.set_cons_zero, List.set_cons_succ]
                    refine wpAnyH_take (i := 7) (oi := { dst := some 152, op := Op.extract (Operand.tmp 145) 1, type := 27, pos := "ref.go:128", after := #[{ on := 5, ground := Ground.data }, { on := 10, ground := Ground.gcOnly Departure.lateStores }], guard := none }) (v := (.int .i64 x)) rfl (by kernel_rfl) (by kernel_rfl) (by kernel_rfl) (fun _ _ _ h => h) (Or.inl ⟨by rfl, ?_⟩) (by assumption) ?_
                    · intro w' hSw
                      go_simp
                    simp only [Act.put, List.setIfInBounds_toArray, List.set_cons_zero, List.set_cons_succ]
                    refine wpAnyH_take (i := 9) (oi := { dst := some 154, op := Op.indexAddr 40 (Operand.tmp 153) (Operand.tmp 147), type := 0, pos := "ref.go:128", after := #[{ on := 8, ground := Ground.data }, { on := 1, ground := Ground.data }, { on := 0, ground := Ground.phase }, { on := 1, ground := Ground.phase }, { on := 2, ground := Ground.phase }, { on := 3, ground := Ground.phase }, { on := 4, ground := Ground.phase }, { on := 5, ground := Ground.phase }, { on := 6, ground := Ground.phase }, { on := 7, ground := Ground.textOnly Departure.lateStores }], guard := none }) (v := (.pointer (some ⟨gN, d, none⟩))) rfl (by kernel_rfl) (by kernel_rfl) (by kernel_rfl) (fun _ _ _ h => h) (Or.inl ⟨by rfl, ?_⟩) (by assumption) ?_
                    · intro w' hSw
                      go_simp
                    simp only [Act.put, List.setIfInBounds_toArray, List.set_cons_zero, List.set_cons_succ]
                    refine wpAnyH_ready (rs := [10]) (by kernel_rfl) (by simp) ?_
                    refine AllReadyH.cons (o := { dst := none, op := Op.store 39 (Operand.tmp 154) (Operand.tmp 151), type := 0, pos := "ref.go:128", after := #[{ on := 9, ground := Ground.data }, { on := 6, ground := Ground.data }, { on := 4, ground := Ground.chain }, { on := 0, ground := Ground.phase }, { on := 1, ground := Ground.phase }, { on := 2, ground := Ground.phase }, { on := 3, ground := Ground.phase }, { on := 4, ground := Ground.phase }, { on := 5, ground := Ground.phase }, { on := 6, ground := Ground.phase }, { on := 7, ground := Ground.textOnly Departure.lateStores }], guard := none }) rfl (fun K' hK => ?_) AllReadyH.nil
                    rw [if_pos (by rfl)]
                    have cd : y4.cell? ⟨gN, d, none⟩ = some (.int .u64 (n1.r d)) := ((HX1.out.at_ 2 rfl).cell d).trans (n1.vs_r HD16.out)
                    have fd := (HX1.out.at_ 2 rfl).frozen d
                    have HX2 := Lib.hid (HX1.out.cell 2 rfl d (.int .u64 v))
                    go_simp
                    refine hK.out _ _ (⟨_, HX2.out.tail.tail.tail⟩) (fun hHeld => ?_)
                    clear hK
                    try simp only [Act.put, List.setIfInBounds_toArray, List.set_cons_zero, List.set_cons_succ]
                    refine wpAnyH_take (i := 11) (oi := { dst := some 11, op := Op.assign (Operand.tmp 152), type := 27, pos := "ref.go:128", after := #[{ on := 7, ground := Ground.data }, { on := 10, ground := Ground.chain }, { on := 0, ground := Ground.phase }, { on := 1, ground := Ground.phase }, { on := 2, ground := Ground.phase }, { on := 3, ground := Ground.phase }, { on := 4, ground := Ground.phase }, { on := 5, ground := Ground.phase }, { on := 6, ground := Ground.phase }, { on := 7, ground := Ground.phase }, { on := 8, ground := Ground.phase }, { on := 9, ground := Ground.phase }, { on := 10, ground := Ground.phase }], guard := none }) (v := (.int .i64 x)) rfl (by kernel_rfl) (by kernel_rfl) (by kernel_rfl) (fun _ _ _ h => h) (Or.inl ⟨by rfl, ?_⟩) (by assumption) ?_
                    · intro w' hSw
                      go_simp
                    simp only [Act.put, List.setIfInBounds_toArray, List.set_cons_zero, List.set_cons_succ]
                    refine wpAnyH_done (by kernel_rfl) ?_ _
                    clear hHeld
                    have HE9 : Hid (EB w B E (.pointer (some D)) M [(gT, 42, n1.vs), (gL, 51, #[Value.int IntKind.i64 1, Value.int IntKind.u64 s.pc]), (gN, 42, (n1.set d v).vs), (w.heap.size + 1 + 1, 42, s0.vs), (w.heap.size + 1, 26, i.vs), (w.heap.size, 42, s.vs)] (World.setCell _ ⟨gN, d, none⟩ (.int .u64 v))) := Lib.hid (by rw [← n1.vs_set HD16.out]; exact HX2.out)
                    generalize World.setCell _ _ _ = W9 at *
                    clear HX1 HX2 cd fd
                    go_upto_region 47 with (first | (go_at_call 74; refine (revent_c _ _ _).mono ?_; rintro e y9 ⟨rfl, hb⟩; have HE10 := Lib.hid (HE9.out.below hb); have g0 : (World.alloc y9 (.cells #[.int .i64 2, .int .u64 at_] 51)).drew.cell? ⟨gL, 0, none⟩ = some (.int .i64 1) := (((HE10.out.at_ 1 rfl).alloc _).drew).cell 0; have g1 : (World.alloc y9 (.cells #[.int .i64 2, .int .u64 at_] 51)).drew.cell? ⟨gL, 1, none⟩ = some (.int .u64 s.pc) := (((HE10.out.at_ 1 rfl).alloc _).drew).cell 1; have e0 : (World.alloc y9 (.cells #[.int .i64 2, .int .u64 at_] 51)).drew.cell? ⟨y9.heap.size, 0, none⟩ = some (.int .i64 2) := (Bk.new y9 51 #[.int .i64 2, .int .u64 at_]).drew.cell 0; have e1 : (World.alloc y9 (.cells #[.int .i64 2, .int .u64 at_] 51)).drew.cell? ⟨y9.heap.size, 1, none⟩ = some (.int .u64 at_) := (Bk.new y9 51 #[.int .i64 2, .int .u64 at_]).drew.cell 1; clear hb) | fail)
                    generalize hW : World.drew (World.alloc _ _) = W11
                    obtain ⟨zs, hZ⟩ : ∃ zs : Array Value, W11 = World.drew (World.alloc (World.alloc y9 (.cells #[.int .i64 2, .int .u64 at_] 51)) (.cells (#[.int .i64 1, .int .u64 s.pc] ++ (#[.int .i64 2, .int .u64 at_] ++ zs)) 51)) := ⟨_, hW.symm⟩
                    have HE11 := Lib.hid (((HE10.out.alloc' 51 #[.int .i64 2, .int .u64 at_] rfl).alloc' 51 (#[.int .i64 1, .int .u64 s.pc] ++ (#[.int .i64 2, .int .u64 at_] ++ zs)) (g := y9.heap.size + 1) (by simp)).drew)
                    rw [← hZ] at HE11
                    clear hW hZ g0 g1 e0 e1 HE10
                    by_cases hx : x = 0
                    · subst hx
                      go_wp2_with (first | (refine wpList_load_row rfl 42 (.tmp 12) rfl gN rfl 42 (n1.set d v).vs (0, 0) _ (HE11.out.at_ 4 rfl) Tryz.underlying42 rfl i20 ?_) | (refine wpList_store_row rfl 42 (.tmp 8) (.tmp 301) rfl (w.heap.size + 1 + 1) (n1.set d v).vs rfl rfl 42 s0.vs (HE11.out.at_ 5 rfl) i20 rfl (Stt.vs_one _) ?_) | fail)
                      have HF := Lib.hid (HE11.out.row 5 rfl (n1.set d v).vs)
                      refine ret_do rfl rfl rfl rfl rfl (HF.out.at_ 5 rfl) ?_
                      exact RDoP.yes HF.out HR0.out (.inl ⟨by rw [TC.out], by rw [TC.out]; exact HL.out, rfl⟩) (by rw [BH.out, mvP_3 HO.out, HD.out]; rfl) ((evs_mem TC.out (by decide) (goe_no (by rw [HO.out]; decide))).symm) (Stt.set_wf NW.out d (load_v HOKM.out HL.out)) (rd2 (HF.out.at_ 0 rfl)) (by omega)
                    · have hxx : (x != 0) = true := by simpa using hx
                      have HXX := Lib.hid hx
                      clear hx
                      go_wp2_with (first | (refine wpList_load_row rfl 42 (.tmp 4) rfl w.heap.size rfl 42 s.vs (0, 0) _ (HE11.out.at_ 7 rfl) Tryz.underlying42 rfl i20 ?_) | (refine wpList_store_row rfl 42 (.tmp 8) (.tmp 299) rfl (w.heap.size + 1 + 1) s.vs rfl rfl 42 s0.vs (HE11.out.at_ 5 rfl) i20 rfl (Stt.vs_one _) ?_) | fail)
                      have HF := Lib.hid (HE11.out.row 5 rfl s.vs)
                      refine ret_do rfl rfl rfl rfl rfl (HF.out.at_ 5 rfl) ?_
                      exact RDoP.err HS.out HF.out HR0.out (.inl ⟨by rw [TC.out], by rw [TC.out]; exact HL.out, rfl⟩) HXX.out
                · have HO := Lib.hid ho
                  have b0 : wc.cell? ⟨w.heap.size + 1, 0, none⟩ = some (.int .i64 4) := by rw [← ho]; exact (HE8.out.at_ 4 rfl).cell 0
                  have BH := Lib.hid (show ∀ v, bh s i size v = mvP n1 i v from fun v => by rw [HN1.out]; exact bh_mv s i size v HM.out)
                  clear ho HM HV0
                  as_aux_lemma =>
                    have HAW := Lib.hid (show Wd.W at_ from by rw [← HAT.out]; exact u64_W _)
                    have TC := Lib.hid (show tch s i = ⟨3, at_⟩ from by rw [tch_4 HO.out, HAT.out])
                    have KS := Lib.hid (rstore_c (Lib.hid HE8.out.mem) at_ (s.r c) HAW.out (HS.out.r c))
                    have b2 : wc.cell? ⟨w.heap.size + 1, 2, none⟩ = some (.int .i64 (c : Int)) := by rw [← HCC.out]; exact (HE8.out.at_ 4 rfl).cell 2
                    have sc_ : wc.cell? ⟨w.heap.size, c, none⟩ = some (.int .u64 (s.r c)) := ((HE8.out.at_ 5 rfl).cell c).trans (s.vs_r HC16.out)
                    go_upto_region 28 with (first | (go_at_call 79; refine KS.out.mono ?_; rintro e y4 ⟨hk, M2, x, rfl, hl, hr⟩; have HE9 := Lib.hid (HE8.out.store hk hr); have HL := Lib.hid hl; clear hk hl hr) | fail)
                    clear HE8 KS b0 b2 sc_
                    go_upto_region 47 with (first | (go_at_call 74; refine (revent_c _ _ _).mono ?_; rintro e y9 ⟨rfl, hb⟩; have HE10 := Lib.hid (HE9.out.below hb); have g0 : (World.alloc y9 (.cells #[.int .i64 3, .int .u64 at_] 51)).drew.cell? ⟨gL, 0, none⟩ = some (.int .i64 1) := (((HE10.out.at_ 1 rfl).alloc _).drew).cell 0; have g1 : (World.alloc y9 (.cells #[.int .i64 3, .int .u64 at_] 51)).drew.cell? ⟨gL, 1, none⟩ = some (.int .u64 s.pc) := (((HE10.out.at_ 1 rfl).alloc _).drew).cell 1; have e0 : (World.alloc y9 (.cells #[.int .i64 3, .int .u64 at_] 51)).drew.cell? ⟨y9.heap.size, 0, none⟩ = some (.int .i64 3) := (Bk.new y9 51 #[.int .i64 3, .int .u64 at_]).drew.cell 0; have e1 : (World.alloc y9 (.cells #[.int .i64 3, .int .u64 at_] 51)).drew.cell? ⟨y9.heap.size, 1, none⟩ = some (.int .u64 at_) := (Bk.new y9 51 #[.int .i64 3, .int .u64 at_]).drew.cell 1; clear hb) | fail)
                    generalize hW : World.drew (World.alloc _ _) = W11
                    obtain ⟨zs, hZ⟩ : ∃ zs : Array Value, W11 = World.drew (World.alloc (World.alloc y9 (.cells #[.int .i64 3, .int .u64 at_] 51)) (.cells (#[.int .i64 1, .int .u64 s.pc] ++ (#[.int .i64 3, .int .u64 at_] ++ zs)) 51)) := ⟨_, hW.symm⟩
                    have HE11 := Lib.hid (((HE10.out.alloc' 51 #[.int .i64 3, .int .u64 at_] rfl).alloc' 51 (#[.int .i64 1, .int .u64 s.pc] ++ (#[.int .i64 3, .int .u64 at_] ++ zs)) (g := y9.heap.size + 1) (by simp)).drew)
                    rw [← hZ] at HE11
                    clear hW hZ g0 g1 e0 e1 HE10
                    by_cases hx : x = 0
                    · subst hx
                      go_wp2_with (first | (refine wpList_load_row rfl 42 (.tmp 12) rfl gN rfl 42 n1.vs (0, 0) _ (HE11.out.at_ 4 rfl) Tryz.underlying42 rfl i20 ?_) | (refine wpList_store_row rfl 42 (.tmp 8) (.tmp 301) rfl (w.heap.size + 1 + 1) n1.vs rfl rfl 42 s0.vs (HE11.out.at_ 5 rfl) i20 rfl (Stt.vs_one _) ?_) | fail)
                      have HF := Lib.hid (HE11.out.row 5 rfl n1.vs)
                      refine ret_do rfl rfl rfl rfl rfl (HF.out.at_ 5 rfl) ?_
                      exact RDoP.yes HF.out HR0.out (.inr (.inl ⟨by rw [TC.out], by rw [TC.out, tcI HCC.out]; exact HL.out, rfl⟩)) (by rw [BH.out, mvP_4 HO.out]) ((evs_mem TC.out (by decide) (goe_no (by rw [HO.out]; decide))).symm) (NW.out) (rd2 (HF.out.at_ 0 rfl)) (by omega)
                    · have hxx : (x != 0) = true := by simpa using hx
                      have HXX := Lib.hid hx
                      clear hx
                      go_wp2_with (first | (refine wpList_load_row rfl 42 (.tmp 4) rfl w.heap.size rfl 42 s.vs (0, 0) _ (HE11.out.at_ 7 rfl) Tryz.underlying42 rfl i20 ?_) | (refine wpList_store_row rfl 42 (.tmp 8) (.tmp 299) rfl (w.heap.size + 1 + 1) s.vs rfl rfl 42 s0.vs (HE11.out.at_ 5 rfl) i20 rfl (Stt.vs_one _) ?_) | fail)
                      have HF := Lib.hid (HE11.out.row 5 rfl s.vs)
                      refine ret_do rfl rfl rfl rfl rfl (HF.out.at_ 5 rfl) ?_
                      exact RDoP.err HS.out HF.out HR0.out (.inr (.inl ⟨by rw [TC.out], by rw [TC.out, tcI HCC.out]; exact HL.out, rfl⟩)) HXX.out
                · have HO := Lib.hid ho
                  have b0 : wc.cell? ⟨w.heap.size + 1, 0, none⟩ = some (.int .i64 5) := by rw [← ho]; exact (HE8.out.at_ 4 rfl).cell 0
                  have BH := Lib.hid (show ∀ v, bh s i size v = mvP n1 i v from fun v => by rw [HN1.out]; exact bh_mv s i size v HM.out)
                  clear ho HM HV0
                  as_aux_lemma =>
                    have b1 : wc.cell? ⟨w.heap.size + 1, 1, none⟩ = some (.int .i64 (d : Int)) := by rw [← HD.out]; exact (HE8.out.at_ 4 rfl).cell 1
                    have cd : wc.cell? ⟨gN, d, none⟩ = some (.int .u64 (n1.r d)) := ((HE8.out.at_ 2 rfl).cell d).trans (n1.vs_r HD16.out)
                    have fd := (HE8.out.at_ 2 rfl).frozen d
                    go_upto_region 47 with fail
                    have HE10 : Hid (EB w B E (.pointer (some D)) M [(gT, 42, n1.vs), (gL, 51, #[Value.int IntKind.i64 1, Value.int IntKind.u64 s.pc]), (gN, 42, (n1.set d at_).vs), (w.heap.size + 1 + 1, 42, s0.vs), (w.heap.size + 1, 26, i.vs), (w.heap.size, 42, s.vs)] (World.setCell _ ⟨gN, d, none⟩ (.int .u64 at_))) := Lib.hid (by rw [← n1.vs_set HD16.out]; exact HE8.out.cell 2 rfl d (.int .u64 at_))
                    generalize World.setCell _ _ _ = W10 at *
                    clear HE8 b0 b1 cd fd
                    go_wp2_with (first | (refine wpList_load_row rfl 42 (.tmp 12) rfl gN rfl 42 (n1.set d at_).vs (0, 0) _ (HE10.out.at_ 2 rfl) Tryz.underlying42 rfl i20 ?_) | (refine wpList_store_row rfl 42 (.tmp 8) (.tmp 301) rfl (w.heap.size + 1 + 1) (n1.set d at_).vs rfl rfl 42 s0.vs (HE10.out.at_ 3 rfl) i20 rfl (Stt.vs_one _) ?_) | fail)
                    have HF := Lib.hid (HE10.out.row 3 rfl (n1.set d at_).vs)
                    refine ret_do rfl rfl rfl rfl rfl (HF.out.at_ 3 rfl) ?_
                    exact RDoP.yes HF.out HR0.out (xch_none (tch_no (by rw [HO.out]; decide))) (by rw [BH.out, mvP_5 HO.out, HD.out, HN1.out, ← HAT.out]; rfl) ((evs_one (tch_no (by rw [HO.out]; decide)) (goe_no (by rw [HO.out]; decide))).symm) (Stt.set_wf NW.out d (by rw [← HAT.out]; exact u64_W _)) (rd1 (HF.out.at_ 1 rfl)) (by omega)
                · have HO := Lib.hid ho
                  have b0 : wc.cell? ⟨w.heap.size + 1, 0, none⟩ = some (.int .i64 19) := by rw [← ho]; exact (HE8.out.at_ 4 rfl).cell 0
                  have BH := Lib.hid (show ∀ v, bh s i size v = mvP n1 i v from fun v => by rw [HN1.out]; exact bh_mv s i size v HM.out)
                  clear ho HM HV0
                  as_aux_lemma =>
                    obtain ⟨e_, he, he16⟩ : ∃ e : Nat, i.t = (e : Int) ∧ e < 16 := by have := (ok_regs HOK.out).2.2; exact ⟨i.t.toNat, by omega, by omega⟩
                    have HEE := Lib.hid he
                    have HE16 := Lib.hid he16
                    have hei : (e_ : Int) < 16 := by omega
                    clear he he16
                    go_upto_region 32 with fail
                    clear b0
                    refine wp_region_held_drew (S := (fun w' => ∃ M2, EB w B E (.pointer (some D)) M2 [(w.heap.size + 1 + 1, 42, s0.vs), (w.heap.size + 1, 26, i.vs), (w.heap.size, 42, s.vs)] w')) (by kernel_rfl) ⟨_, HE8.out.drew.tail.tail.tail⟩ (fun hHeld => ?_)
                    have HX0 := Lib.hid HE8.out.drew
                    generalize World.drew wc = X0 at *
                    clear HE8
                    refine wpAnyH_take (i := 0) (oi := { dst := some 191, op := Op.fieldAddr 26 (Operand.tmp 5) 1, type := 0, pos := "ref.go:136", after := #[], guard := none }) (v := (.pointer (some ⟨w.heap.size + 1, 1, none⟩))) rfl (by kernel_rfl) (by kernel_rfl) (by kernel_rfl) (fun _ _ _ h => h) (Or.inl ⟨by rfl, ?_⟩) (by assumption) ?_
                    · intro w' hSw
                      go_simp
                    simp only [Act.put, List.setIfInBounds_toArray, List.set_cons_zero, List.set_cons_succ]
                    refine wpAnyH_take (i := 1) (oi := { dst := some 192, op := Op.load 3 (Operand.tmp 191), type := 3, pos := "ref.go:136", after := #[{ on := 0, ground := Ground.data }], guard := none }) (v := (.int .i64 (d : Int))) rfl (by kernel_rfl) (by kernel_rfl) (by kernel_rfl) (fun _ _ _ h => h) (Or.inl ⟨by rfl, ?_⟩) (by assumption) ?_
                    · intro w' hSw
                      obtain ⟨_, hSw⟩ := hSw
                      have z : w'.cell? ⟨(w.heap.size + 1), 1, none⟩ = some (.int .i64 (d : Int)) := by rw [← HD.out]; exact (hSw.at_ 1 rfl).cell 1
                      clear hSw
                      go_simp
                    simp only [Act.put, List.setIfInBounds_toArray, List.set_cons_zero, List.set_cons_succ]
                    refine wpAnyH_take (i := 2) (oi := { dst := some 193, op := Op.fieldAddr 26 (Operand.tmp 5) 2, type := 0, pos := "ref.go:136", after := #[{ on := 18, ground := Ground.gcOnly Departure.lateStores }], guard := none }) (v := (.pointer (some ⟨w.heap.size + 1, 2, none⟩))) rfl (by kernel_rfl) (by kernel_rfl) (by kernel_rfl) (fun _ _ _ h => h) (Or.inl ⟨by rfl, ?_⟩) (by assumption) ?_
                    · intro w' hSw
                      go_simp
                    simp only [Act.put, List.setIfInBounds_toArray, List.set_cons_zero, List.set_cons_succ]
                    refine wpAnyH_take (i := 3) (oi := { dst := some 194, op := Op.load 3 (Operand.tmp 193), type := 3, pos := "ref.go:136", after := #[{ on := 2, ground := Ground.data }, { on := 18, ground := Ground.gcOnly Departure.lateStores }], guard := none }) (v := (.int .i64 (c : Int))) rfl (by kernel_rfl) (by kernel_rfl) (by kernel_rfl) (fun _ _ _ h => h) (Or.inl ⟨by rfl, ?_⟩) (by assumption) ?_
                    · intro w' hSw
                      obtain ⟨_, hSw⟩ := hSw
                      have z : w'.cell? ⟨(w.heap.size + 1), 2, none⟩ = some (.int .i64 (c : Int)) := by rw [← HCC.out]; exact (hSw.at_ 1 rfl).cell 2
                      clear hSw
                      go_simp
                    simp only [Act.put, List.setIfInBounds_toArray, List.set_cons_zero, List.set_cons_succ]
                    refine wpAnyH_take (i := 4) (oi := { dst := some 195, op := Op.fieldAddr 26 (Operand.tmp 5) 3, type := 0, pos := "ref.go:136", after := #[], guard := none }) (v := (.pointer (some ⟨w.heap.size + 1, 3, none⟩))) rfl (by kernel_rfl) (by kernel_rfl) (by kernel_rfl) (fun _ _ _ h => h) (Or.inl ⟨by rfl, ?_⟩) (by assumption) ?_
                    · intro w' hSw
                      go_simp
                    simp only [Act.put, List.setIfInBounds_toArray, List.set_cons_zero, List.set_cons_succ]
                    refine wpAnyH_take (i := 5) (oi := { dst := some 196, op := Op.load 3 (Operand.tmp 195), type := 3, pos := "ref.go:136", after := #[{ on := 4, ground := Ground.data }], guard := none }) (v := (.int .i64 (e_ : Int))) rfl (by kernel_rfl) (by kernel_rfl) (by kernel_rfl) (fun _ _ _ h => h) (Or.inl ⟨by rfl, ?_⟩) (by assumption) ?_
                    · intro w' hSw
                      obtain ⟨_, hSw⟩ := hSw
                      have z : w'.cell? ⟨(w.heap.size + 1), 3, none⟩ = some (.int .i64 (e_ : Int)) := by rw [← HEE.out]; exact (hSw.at_ 1 rfl).cell 3
                      clear hSw
                      go_simp
                    simp only [Act.put, List.setIfInBounds_toArray, List.set_cons_zero, List.set_cons_succ]
                    refine wpAnyH_take (i := 6) (oi := { dst := some 197, op := Op.fieldAddr 42 (Operand.tmp 4) 0, type := 0, pos := "ref.go:136", after := #[], guard := none }) (v := (.pointer (some ⟨w.heap.size, 0, none⟩))) rfl (by kernel_rfl) (by kernel_rfl) (by kernel_rfl) (fun _ _ _ h => h) (Or.inl ⟨by rfl, ?_⟩) (by assumption) ?_
                    · intro w' hSw
                      go_simp
                    simp only [Act.put, List.setIfInBounds_toArray, List.set_cons_zero, List.set_cons_succ]
                    refine wpAnyH_take (i := 7) (oi := { dst := some 198, op := Op.indexAddr 40 (Operand.tmp 197) (Operand.tmp 196), type := 0, pos := "ref.go:136", after := #[{ on := 6, ground := Ground.data }, { on := 5, ground := Ground.data }], guard := none }) (v := (.pointer (some ⟨w.heap.size, e_, none⟩))) rfl (by kernel_rfl) (by kernel_rfl) (by kernel_rfl) (fun _ _ _ h => h) (Or.inl ⟨by rfl, ?_⟩) (by assumption) ?_
                    · intro w' hSw
                      go_simp
                    simp only [Act.put, List.setIfInBounds_toArray, List.set_cons_zero, List.set_cons_succ]
                    refine wpAnyH_take (i := 8) (oi := { dst := some 199, op := Op.load 39 (Operand.tmp 198), type := 39, pos := "ref.go:136", after := #[{ on := 7, ground := Ground.data }], guard := none }) (v := (.int .u64 (s.r e_))) rfl (by kernel_rfl) (by kernel_rfl) (by kernel_rfl) (fun _ _ _ h => h) (Or.inl ⟨by rfl, ?_⟩) (by assumption) ?_
                    · intro w' hSw
                      obtain ⟨_, hSw⟩ := hSw
                      have z : w'.cell? ⟨w.heap.size, e_, none⟩ = some (.int .u64 (s.r e_)) := ((hSw.at_ 2 rfl).cell e_).trans (s.vs_r HE16.out)
                      clear hSw
                      go_simp
                    simp only [Act.put, List.setIfInBounds_toArray, List.set_cons_zero, List.set_cons_succ]
                    refine wpAnyH_take (i := 9) (oi := { dst := some 200, op := Op.fieldAddr 42 (Operand.tmp 4) 0, type := 0, pos := "ref.go:136", after := #[], guard := none }) (v := (.pointer (some ⟨w.heap.size, 0, none⟩))) rfl (by kernel_rfl) (by kernel_rfl) (by kernel_rfl) (fun _ _ _ h => h) (Or.inl ⟨by rfl, ?_⟩) (by assumption) ?_
                    · intro w' hSw
                      go_simp
                    simp only [Act.put, List.setIfInBounds_toArray, List.set_cons_zero, List.set_cons_succ]
                    refine wpAnyH_take (i := 10) (oi := { dst := some 201, op := Op.indexAddr 40 (Operand.tmp 200) (Operand.const (Value.int IntKind.i64 2)), type := 0, pos := "ref.go:136", after := #[{ on := 9, ground := Ground.data }], guard := none }) (v := (.pointer (some ⟨w.heap.size, 2, none⟩))) rfl (by kernel_rfl) (by kernel_rfl) (by kernel_rfl) (fun _ _ _ h => h) (Or.inl ⟨by rfl, ?_⟩) (by assumption) ?_
                    · intro w' hSw
                      go_simp
                    simp only [Act.put, List.setIfInBounds_toArray, List.set_cons_zero, List.set_cons_succ]
                    refine wpAnyH_take (i := 11) (oi := { dst := some 202, op := Op.load 39 (Operand.tmp 201), type := 39, pos := "ref.go:136", after := #[{ on := 10, ground := Ground.data }], guard := none }) (v := (.int .u64 (s.r 2))) rfl (by kernel_rfl) (by kernel_rfl) (by kernel_rfl) (fun _ _ _ h => h) (Or.inl ⟨by rfl, ?_⟩) (by assumption) ?_
                    · intro w' hSw
                      obtain ⟨_, hSw⟩ := hSw
                      have z : w'.cell? ⟨w.heap.size, 2, none⟩ = some (.int .u64 (s.r 2)) := (hSw.at_ 2 rfl).cell 2
                      clear hSw
                      go_simp
                    simp only [Act.put, List.setIfInBounds_toArray, List.set_cons_zero, List.set_cons_succ]
                    refine wpAnyH_take (i := 16) (oi := { dst := some 206, op := Op.fieldAddr 42 (Operand.tmp 12) 0, type := 0, pos := "ref.go:136", after := #[], guard := none }) (v := (.pointer (some ⟨gN, 0, none⟩))) rfl (by kernel_rfl) (by kernel_rfl) (by kernel_rfl) (fun _ _ _ h => h) (Or.inl ⟨by rfl, ?_⟩) (by assumption) ?_
                    · intro w' hSw
                      go_simp
                    simp only [Act.put, List.setIfInBounds_toArray, List.set_cons_zero, List.set_cons_succ]
                    refine wpAnyH_take (i := 19) (oi := { dst := some 208, op := Op.fieldAddr 42 (Operand.tmp 12) 0, type := 0, pos := "ref.go:136", after := #[], guard := none }) (v := (.pointer (some ⟨gN, 0, none⟩))) rfl (by kernel_rfl) (by kernel_rfl) (by kernel_rfl) (fun _ _ _ h => h) (Or.inl ⟨by rfl, ?_⟩) (by assumption) ?_
                    · intro w' hSw
                      go_simp
                    simp only [Act.put, List.setIfInBounds_toArray, List.set_cons_zero, List.set_cons_succ]
                    refine wpAnyH_ready (rs := [12]) (by kernel_rfl) (by simp) ?_
                    refine AllReadyH.cons (o := { dst := some 203, op := Op.call { callee := Callee.value (Operand.func 80), args := #[Operand.tmp 199, Operand.tmp 202], argTypes := #[39, 39] }, type := 127, pos := "ref.go:136", after := #[{ on := 8, ground := Ground.data }, { on := 11, ground := Ground.data }], guard := none }) rfl (fun K' hK => ?_) AllReadyH.nil
                    rw [if_pos (by rfl)]
                    go_simp
                    go_at_call 80
                    refine (rmul_c (s.r e_) (s.r 2) X0 (HS.out.r e_) (HS.out.r 2)).mono ?_
                    rintro e y4 ⟨rfl, hy⟩
                    obtain rfl := hy
                    refine hK.out _ _ (⟨_, HX0.out.tail.tail.tail⟩) (fun hHeld => ?_)
                    clear hK
                    try simp only [Act.put, List.setIfInBounds_toArray, List.set_cons_zero, List.set_cons_succ]
                    refine wpAnyH_take (i := 13) (oi := { dst := some 190, op := Op.move (Operand.tmp 203), type := 127, pos := "ref.go:136", after := #[{ on := 12, ground := Ground.data }], guard := none }) (v := (.tuple #[.int .u64 (mulH (s.r e_) (s.r 2)), .int .u64 (mulL (s.r e_) (s.r 2))])) rfl (by kernel_rfl) (by kernel_rfl) (by kernel_rfl) (fun _ _ _ h => h) (Or.inl ⟨by rfl, ?_⟩) (by assumption) ?_
                    · intro w' hSw
                      go_simp
                    simp only [Act.put, List.setIfInBounds_toArray, List.set_cons_zero, List.set_cons_succ]
                    refine wpAnyH_take (i := 14) (oi := { dst := some 204, op := Op.extract (Operand.tmp 190) 0, type := 39, pos := "ref.go:136", after := #[{ on := 13, ground := Ground.data }], guard := none }) (v := (.int .u64 (mulH (s.r e_) (s.r 2)))) rfl (by kernel_rfl) (by kernel_rfl) (by kernel_rfl) (fun _ _ _ h => h) (Or.inl ⟨by rfl, ?_⟩) (by assumption) ?_
                    · intro w' hSw
                      go_simp
                    simp only [Act.put, List.setIfInBounds_toArray, List.set_cons_zero, List.set_cons_succ]
                    refine wpAnyH_take (i := 15) (oi := { dst := some 205, op := Op.extract (Operand.tmp 190) 1, type := 39, pos := "ref.go:136", after := #[{ on := 13, ground := Ground.data }, { on := 18, ground := Ground.gcOnly Departure.lateStores }], guard := none }) (v := (.int .u64 (mulL (s.r e_) (s.r 2)))) rfl (by kernel_rfl) (by kernel_rfl) (by kernel_rfl) (fun _ _ _ h => h) (Or.inl ⟨by rfl, ?_⟩) (by assumption) ?_
                    · intro w' hSw
                      go_simp
                    simp only [Act.put, List.setIfInBounds_toArray, List.set_cons_zero, List.set_cons_succ]
                    refine wpAnyH_take (i := 17) (oi := { dst := some 207, op := Op.indexAddr 40 (Operand.tmp 206) (Operand.tmp 192), type := 0, pos := "ref.go:136", after := #[{ on := 16, ground := Ground.data }, { on := 1, ground := Ground.data }, { on := 0, ground := Ground.phase }, { on := 1, ground := Ground.phase }, { on := 2, ground := Ground.textOnly Departure.lateStores }, { on := 3, ground := Ground.textOnly Departure.lateStores }, { on := 4, ground := Ground.phase }, { on := 5, ground := Ground.phase }, { on := 6, ground := Ground.phase }, { on := 7, ground := Ground.phase }, { on := 8, ground := Ground.phase }, { on := 9, ground := Ground.phase }, { on := 10, ground := Ground.phase }, { on := 11, ground := Ground.phase }, { on := 12, ground := Ground.phase }, { on := 13, ground := Ground.phase }, { on := 14, ground := Ground.phase }, { on := 15, ground := Ground.textOnly Departure.lateStores }], guard := none }) (v := (.pointer (some ⟨gN, d, none⟩))) rfl (by kernel_rfl) (by kernel_rfl) (by kernel_rfl) (fun _ _ _ h => h) (Or.inl ⟨by rfl, ?_⟩) (by assumption) ?_
                    · intro w' hSw
                      go_simp
                    simp only [Act.put, List.setIfInBounds_toArray, List.set_cons_zero, List.set_cons_succ]
                    refine wpAnyH_ready (rs := [18]) (by kernel_rfl) (by simp) ?_
                    refine AllReadyH.cons (o := { dst := none, op := Op.store 39 (Operand.tmp 207) (Operand.tmp 204), type := 0, pos := "ref.go:136", after := #[{ on := 17, ground := Ground.data }, { on := 14, ground := Ground.data }, { on := 12, ground := Ground.chain }, { on := 0, ground := Ground.phase }, { on := 1, ground := Ground.phase }, { on := 2, ground := Ground.textOnly Departure.lateStores }, { on := 3, ground := Ground.textOnly Departure.lateStores }, { on := 4, ground := Ground.phase }, { on := 5, ground := Ground.phase }, { on := 6, ground := Ground.phase }, { on := 7, ground := Ground.phase }, { on := 8, ground := Ground.phase }, { on := 9, ground := Ground.phase }, { on := 10, ground := Ground.phase }, { on := 11, ground := Ground.phase }, { on := 12, ground := Ground.phase }, { on := 13, ground := Ground.phase }, { on := 14, ground := Ground.phase }, { on := 15, ground := Ground.textOnly Departure.lateStores }], guard := none }) rfl (fun K' hK => ?_) AllReadyH.nil
                    rw [if_pos (by rfl)]
                    have cd : X0.cell? ⟨gN, d, none⟩ = some (.int .u64 (n1.r d)) := ((HX0.out.at_ 2 rfl).cell d).trans (n1.vs_r HD16.out)
                    have fd := (HX0.out.at_ 2 rfl).frozen d
                    have HX2 : Hid (EB w B E (.pointer (some D)) M [(gT, 42, n1.vs), (gL, 51, #[Value.int IntKind.i64 1, Value.int IntKind.u64 s.pc]), (gN, 42, (n1.set d (mulH (s.r e_) (s.r 2))).vs), (w.heap.size + 1 + 1, 42, s0.vs), (w.heap.size + 1, 26, i.vs), (w.heap.size, 42, s.vs)] (World.setCell X0 ⟨gN, d, none⟩ (.int .u64 (mulH (s.r e_) (s.r 2))))) := Lib.hid (by rw [← n1.vs_set HD16.out]; exact HX0.out.cell 2 rfl d (.int .u64 (mulH (s.r e_) (s.r 2))))
                    go_simp
                    generalize World.setCell _ _ _ = X2 at *
                    clear cd fd HX0
                    refine hK.out _ _ (⟨_, HX2.out.tail.tail.tail⟩) (fun hHeld => ?_)
                    clear hK
                    try simp only [Act.put, List.setIfInBounds_toArray, List.set_cons_zero, List.set_cons_succ]
                    refine wpAnyH_take (i := 20) (oi := { dst := some 209, op := Op.indexAddr 40 (Operand.tmp 208) (Operand.tmp 194), type := 0, pos := "ref.go:136", after := #[{ on := 19, ground := Ground.data }, { on := 3, ground := Ground.data }, { on := 0, ground := Ground.phase }, { on := 1, ground := Ground.phase }, { on := 2, ground := Ground.phase }, { on := 3, ground := Ground.phase }, { on := 4, ground := Ground.phase }, { on := 5, ground := Ground.phase }, { on := 6, ground := Ground.phase }, { on := 7, ground := Ground.phase }, { on := 8, ground := Ground.phase }, { on := 9, ground := Ground.phase }, { on := 10, ground := Ground.phase }, { on := 11, ground := Ground.phase }, { on := 12, ground := Ground.phase }, { on := 13, ground := Ground.phase }, { on := 14, ground := Ground.phase }, { on := 15, ground := Ground.phase }, { on := 16, ground := Ground.phase }, { on := 17, ground := Ground.phase }, { on := 18, ground := Ground.phase }], guard := none }) (v := (.pointer (some ⟨gN, c, none⟩))) rfl (by kernel_rfl) (by kernel_rfl) (by kernel_rfl) (fun _ _ _ h => h) (Or.inl ⟨by rfl, ?_⟩) (by assumption) ?_
                    · intro w' hSw
                      go_simp
                    simp only [Act.put, List.setIfInBounds_toArray, List.set_cons_zero, List.set_cons_succ]
                    obtain ⟨n2, hn2⟩ : ∃ n, n1.set d (mulH (s.r e_) (s.r 2)) = n := ⟨_, rfl⟩
                    rw [hn2] at HX2
                    have HN2 := Lib.hid hn2
                    clear hn2
                    refine wpAnyH_ready (rs := [21]) (by kernel_rfl) (by simp) ?_
                    refine AllReadyH.cons (o := { dst := none, op := Op.store 39 (Operand.tmp 209) (Operand.tmp 205), type := 0, pos := "ref.go:136", after := #[{ on := 20, ground := Ground.data }, { on := 15, ground := Ground.data }, { on := 18, ground := Ground.chain }, { on := 0, ground := Ground.phase }, { on := 1, ground := Ground.phase }, { on := 2, ground := Ground.phase }, { on := 3, ground := Ground.phase }, { on := 4, ground := Ground.phase }, { on := 5, ground := Ground.phase }, { on := 6, ground := Ground.phase }, { on := 7, ground := Ground.phase }, { on := 8, ground := Ground.phase }, { on := 9, ground := Ground.phase }, { on := 10, ground := Ground.phase }, { on := 11, ground := Ground.phase }, { on := 12, ground := Ground.phase }, { on := 13, ground := Ground.phase }, { on := 14, ground := Ground.phase }, { on := 15, ground := Ground.phase }, { on := 16, ground := Ground.phase }, { on := 17, ground := Ground.phase }, { on := 18, ground := Ground.phase }], guard := none }) rfl (fun K' hK => ?_) AllReadyH.nil
                    rw [if_pos (by rfl)]
                    have cd : X2.cell? ⟨gN, c, none⟩ = some (.int .u64 (n2.r c)) := ((HX2.out.at_ 2 rfl).cell c).trans (n2.vs_r HC16.out)
                    have fd := (HX2.out.at_ 2 rfl).frozen c
                    have HE9 : Hid (EB w B E (.pointer (some D)) M [(gT, 42, n1.vs), (gL, 51, #[Value.int IntKind.i64 1, Value.int IntKind.u64 s.pc]), (gN, 42, (n2.set c (mulL (s.r e_) (s.r 2))).vs), (w.heap.size + 1 + 1, 42, s0.vs), (w.heap.size + 1, 26, i.vs), (w.heap.size, 42, s.vs)] (World.setCell X2 ⟨gN, c, none⟩ (.int .u64 (mulL (s.r e_) (s.r 2))))) := Lib.hid (by rw [← n2.vs_set HC16.out]; exact HX2.out.cell 2 rfl c (.int .u64 (mulL (s.r e_) (s.r 2))))
                    go_simp
                    generalize World.setCell _ _ _ = X3 at *
                    clear cd fd HX2
                    refine hK.out _ _ (⟨_, HE9.out.tail.tail.tail⟩) (fun hHeld => ?_)
                    clear hK
                    try simp only [Act.put, List.setIfInBounds_toArray, List.set_cons_zero, List.set_cons_succ]
                    refine wpAnyH_done (by kernel_rfl) ?_ _
                    clear hHeld
                    go_upto_region 47 with fail
                    go_wp2_with (first | (refine wpList_load_row rfl 42 (.tmp 12) rfl gN rfl 42 (n2.set c (mulL (s.r e_) (s.r 2))).vs (0, 0) _ (HE9.out.at_ 2 rfl) Tryz.underlying42 rfl i20 ?_) | (refine wpList_store_row rfl 42 (.tmp 8) (.tmp 301) rfl (w.heap.size + 1 + 1) (n2.set c (mulL (s.r e_) (s.r 2))).vs rfl rfl 42 s0.vs (HE9.out.at_ 3 rfl) i20 rfl (Stt.vs_one _) ?_) | fail)
                    have HF := Lib.hid (HE9.out.row 3 rfl (n2.set c (mulL (s.r e_) (s.r 2))).vs)
                    refine ret_do rfl rfl rfl rfl rfl (HF.out.at_ 3 rfl) ?_
                    exact RDoP.yes HF.out HR0.out (xch_none (tch_no (by rw [HO.out]; decide))) (by rw [BH.out, mvP_19 HO.out, HD.out, HCC.out, HEE.out, ← HN2.out, HN1.out]; rfl) ((evs_one (tch_no (by rw [HO.out]; decide)) (goe_no (by rw [HO.out]; decide))).symm) (Stt.set_wf (by rw [← HN2.out]; exact Stt.set_wf NW.out d (W_mulH (HS.out.r _) (HS.out.r _))) c (W_mulL _ _)) (rd1 (HF.out.at_ 1 rfl)) (by omega)
                · have HO := Lib.hid ho
                  have b0 : wc.cell? ⟨w.heap.size + 1, 0, none⟩ = some (.int .i64 28) := by rw [← ho]; exact (HE8.out.at_ 4 rfl).cell 0
                  have BH := Lib.hid (show ∀ v, bh s i size v = mvP n1 i v from fun v => by rw [HN1.out]; exact bh_mv s i size v HM.out)
                  clear ho HM HV0
                  as_aux_lemma =>
                    obtain ⟨p, hp⟩ : ∃ p, s.r 4 = p := ⟨_, rfl⟩
                    have HP := Lib.hid hp
                    have s4 : wc.cell? ⟨w.heap.size, 4, none⟩ = some (.int .u64 p) := by rw [← hp]; exact (HE8.out.at_ 5 rfl).cell 4
                    have n4 : wc.cell? ⟨gN, 4, none⟩ = some (.int .u64 (n1.r 4)) := (HE8.out.at_ 2 rfl).cell 4
                    have f4 := (HE8.out.at_ 2 rfl).frozen 4
                    clear hp
                    go_upto_region 35 with fail
                    have HF1 : Hid (EB w B E (.pointer (some D)) M [(gT, 42, n1.vs), (gL, 51, #[Value.int IntKind.i64 1, Value.int IntKind.u64 s.pc]), (gN, 42, (n1.set 4 (IntKind.u64.wrap (p - 8))).vs), (w.heap.size + 1 + 1, 42, s0.vs), (w.heap.size + 1, 26, i.vs), (w.heap.size, 42, s.vs)] (World.setCell _ ⟨gN, 4, none⟩ (.int .u64 (IntKind.u64.wrap (p - 8))))) := Lib.hid (by have h := HE8.out.cell 2 rfl 4 (.int .u64 (IntKind.u64.wrap (p - 8))); rw [n1.vs_set (by decide)] at h; exact h)
                    generalize World.setCell _ _ _ = V1 at *
                    obtain ⟨q, hq⟩ : ∃ q, IntKind.u64.wrap (p - 8) = q := ⟨_, rfl⟩
                    rw [hq] at HF1
                    have TC := Lib.hid (show tch s i = ⟨3, q⟩ from by rw [tch_28 HO.out, HP.out, ← hq, IntKind.wrap_u64]; rfl)
                    have HQ := Lib.hid hq
                    have HQW := Lib.hid (show Wd.W q from by rw [← hq, IntKind.wrap_u64]; exact W_mod _)
                    clear hq HE8 s4 n4 f4 b0
                    refine wp_region_held_drew (S := (fun w' => ∃ M2, EB w B E (.pointer (some D)) M2 [(gT, 42, n1.vs), (gL, 51, #[Value.int IntKind.i64 1, Value.int IntKind.u64 s.pc]), (gN, 42, (n1.set 4 q).vs), (w.heap.size + 1 + 1, 42, s0.vs), (w.heap.size + 1, 26, i.vs), (w.heap.size, 42, s.vs)] w')) (by kernel_rfl) ⟨_, HF1.out.drew⟩ (fun hHeld => ?_)
                    have HX0 := Lib.hid HF1.out.drew
                    generalize World.drew V1 = X0 at *
                    clear HF1
                    refine wpAnyH_take (i := 0) (oi := { dst := some 220, op := Op.move (Operand.tmp 3), type := 57, pos := "ref.go:139", after := #[], guard := none }) (v := (.pointer (some D))) rfl (by kernel_rfl) (by kernel_rfl) (by kernel_rfl) (fun _ _ _ h => h) (Or.inl ⟨by rfl, ?_⟩) (by assumption) ?_
                    · intro w' hSw
                      go_simp
                    simp only [Act.put, List.setIfInBounds_toArray, List.set_cons_zero, List.set_cons_succ]
                    refine wpAnyH_take (i := 1) (oi := { dst := some 221, op := Op.fieldAddr 42 (Operand.tmp 12) 0, type := 0, pos := "ref.go:139", after := #[], guard := none }) (v := (.pointer (some ⟨gN, 0, none⟩))) rfl (by kernel_rfl) (by kernel_rfl) (by kernel_rfl) (fun _ _ _ h => h) (Or.inl ⟨by rfl, ?_⟩) (by assumption) ?_
                    · intro w' hSw
                      go_simp
                    simp only [Act.put, List.setIfInBounds_toArray, List.set_cons_zero, List.set_cons_succ]
                    refine wpAnyH_take (i := 2) (oi := { dst := some 222, op := Op.indexAddr 40 (Operand.tmp 221) (Operand.const (Value.int IntKind.i64 4)), type := 0, pos := "ref.go:139", after := #[{ on := 1, ground := Ground.data }], guard := none }) (v := (.pointer (some ⟨gN, 4, none⟩))) rfl (by kernel_rfl) (by kernel_rfl) (by kernel_rfl) (fun _ _ _ h => h) (Or.inl ⟨by rfl, ?_⟩) (by assumption) ?_
                    · intro w' hSw
                      go_simp
                    simp only [Act.put, List.setIfInBounds_toArray, List.set_cons_zero, List.set_cons_succ]
                    refine wpAnyH_take (i := 3) (oi := { dst := some 223, op := Op.load 39 (Operand.tmp 222), type := 39, pos := "ref.go:139", after := #[{ on := 2, ground := Ground.data }], guard := none }) (v := (.int .u64 q)) rfl (by kernel_rfl) (by kernel_rfl) (by kernel_rfl) (fun _ _ _ h => h) (Or.inl ⟨by rfl, ?_⟩) (by assumption) ?_
                    · intro w' hSw
                      obtain ⟨_, hSw⟩ := hSw
                      have z : w'.cell? ⟨gN, 4, none⟩ = some (.int .u64 q) := (hSw.at_ 2 rfl).cell 4
                      clear hSw
                      go_simp
                    simp only [Act.put, List.setIfInBounds_toArray, List.set_cons_zero, List.set_cons_succ]
                    refine wpAnyH_take (i := 4) (oi := { dst := some 224, op := Op.fieldAddr 26 (Operand.tmp 5) 2, type := 0, pos := "ref.go:139", after := #[], guard := none }) (v := (.pointer (some ⟨w.heap.size + 1, 2, none⟩))) rfl (by kernel_rfl) (by kernel_rfl) (by kernel_rfl) (fun _ _ _ h => h) (Or.inl ⟨by rfl, ?_⟩) (by assumption) ?_
                    · intro w' hSw
                      go_simp
                    simp only [Act.put, List.setIfInBounds_toArray, List.set_cons_zero, List.set_cons_succ]
                    refine wpAnyH_take (i := 5) (oi := { dst := some 225, op := Op.load 3 (Operand.tmp 224), type := 3, pos := "ref.go:139", after := #[{ on := 4, ground := Ground.data }], guard := none }) (v := (.int .i64 (c : Int))) rfl (by kernel_rfl) (by kernel_rfl) (by kernel_rfl) (fun _ _ _ h => h) (Or.inl ⟨by rfl, ?_⟩) (by assumption) ?_
                    · intro w' hSw
                      obtain ⟨_, hSw⟩ := hSw
                      have z : w'.cell? ⟨(w.heap.size + 1), 2, none⟩ = some (.int .i64 (c : Int)) := by rw [← HCC.out]; exact (hSw.at_ 4 rfl).cell 2
                      clear hSw
                      go_simp
                    simp only [Act.put, List.setIfInBounds_toArray, List.set_cons_zero, List.set_cons_succ]
                    refine wpAnyH_take (i := 6) (oi := { dst := some 226, op := Op.fieldAddr 42 (Operand.tmp 4) 0, type := 0, pos := "ref.go:139", after := #[], guard := none }) (v := (.pointer (some ⟨w.heap.size, 0, none⟩))) rfl (by kernel_rfl) (by kernel_rfl) (by kernel_rfl) (fun _ _ _ h => h) (Or.inl ⟨by rfl, ?_⟩) (by assumption) ?_
                    · intro w' hSw
                      go_simp
                    simp only [Act.put, List.setIfInBounds_toArray, List.set_cons_zero, List.set_cons_succ]
                    refine wpAnyH_take (i := 7) (oi := { dst := some 227, op := Op.indexAddr 40 (Operand.tmp 226) (Operand.tmp 225), type := 0, pos := "ref.go:139", after := #[{ on := 6, ground := Ground.data }, { on := 5, ground := Ground.data }], guard := none }) (v := (.pointer (some ⟨w.heap.size, c, none⟩))) rfl (by kernel_rfl) (by kernel_rfl) (by kernel_rfl) (fun _ _ _ h => h) (Or.inl ⟨by rfl, ?_⟩) (by assumption) ?_
                    · intro w' hSw
                      go_simp
                    simp only [Act.put, List.setIfInBounds_toArray, List.set_cons_zero, List.set_cons_succ]
                    refine wpAnyH_take (i := 8) (oi := { dst := some 228, op := Op.load 39 (Operand.tmp 227), type := 39, pos := "ref.go:139", after := #[{ on := 7, ground := Ground.data }], guard := none }) (v := (.int .u64 (s.r c))) rfl (by kernel_rfl) (by kernel_rfl) (by kernel_rfl) (fun _ _ _ h => h) (Or.inl ⟨by rfl, ?_⟩) (by assumption) ?_
                    · intro w' hSw
                      obtain ⟨_, hSw⟩ := hSw
                      have z : w'.cell? ⟨w.heap.size, c, none⟩ = some (.int .u64 (s.r c)) := ((hSw.at_ 5 rfl).cell c).trans (s.vs_r HC16.out)
                      clear hSw
                      go_simp
                    simp only [Act.put, List.setIfInBounds_toArray, List.set_cons_zero, List.set_cons_succ]
                    refine wpAnyH_ready (rs := [9]) (by kernel_rfl) (by simp) ?_
                    refine AllReadyH.cons (o := { dst := some 229, op := Op.call { callee := Callee.value (Operand.func 79), args := #[Operand.tmp 220, Operand.tmp 223, Operand.tmp 228], argTypes := #[57, 39, 39] }, type := 27, pos := "ref.go:139", after := #[{ on := 0, ground := Ground.data }, { on := 3, ground := Ground.data }, { on := 8, ground := Ground.data }], guard := none }) rfl (fun K' hK => ?_) AllReadyH.nil
                    rw [if_pos (by rfl)]
                    go_simp
                    go_at_call 79
                    refine (rstore_c (Lib.hid HX0.out.mem) q (s.r c) HQW.out (HS.out.r c)).mono ?_
                    rintro e y4 ⟨hk, M2, x, rfl, hl, hr⟩
                    have HE9 := Lib.hid (HX0.out.store hk hr)
                    have HL := Lib.hid hl
                    clear hk hl hr HX0
                    refine hK.out _ _ (⟨_, HE9.out⟩) (fun hHeld => ?_)
                    clear hK
                    try simp only [Act.put, List.setIfInBounds_toArray, List.set_cons_zero, List.set_cons_succ]
                    refine wpAnyH_take (i := 10) (oi := { dst := some 11, op := Op.assign (Operand.tmp 229), type := 27, pos := "ref.go:139", after := #[{ on := 9, ground := Ground.data }, { on := 9, ground := Ground.chain }, { on := 0, ground := Ground.phase }, { on := 1, ground := Ground.phase }, { on := 2, ground := Ground.phase }, { on := 3, ground := Ground.phase }, { on := 4, ground := Ground.phase }, { on := 5, ground := Ground.phase }, { on := 6, ground := Ground.phase }, { on := 7, ground := Ground.phase }, { on := 8, ground := Ground.phase }, { on := 9, ground := Ground.phase }], guard := none }) (v := (.int .i64 x)) rfl (by kernel_rfl) (by kernel_rfl) (by kernel_rfl) (fun _ _ _ h => h) (Or.inl ⟨by rfl, ?_⟩) (by assumption) ?_
                    · intro w' hSw
                      go_simp
                    simp only [Act.put, List.setIfInBounds_toArray, List.set_cons_zero, List.set_cons_succ]
                    refine wpAnyH_done (by kernel_rfl) ?_ _
                    clear hHeld
                    have n4 : y4.cell? ⟨gN, 4, none⟩ = some (.int .u64 q) := (HE9.out.at_ 2 rfl).cell 4
                    go_upto_region 47 with (first | (go_at_call 74; refine (revent_c _ _ _).mono ?_; rintro e y9 ⟨rfl, hb⟩; have HE10 := Lib.hid (HE9.out.below hb); have g0 : (World.alloc y9 (.cells #[.int .i64 3, .int .u64 q] 51)).drew.cell? ⟨gL, 0, none⟩ = some (.int .i64 1) := (((HE10.out.at_ 1 rfl).alloc _).drew).cell 0; have g1 : (World.alloc y9 (.cells #[.int .i64 3, .int .u64 q] 51)).drew.cell? ⟨gL, 1, none⟩ = some (.int .u64 s.pc) := (((HE10.out.at_ 1 rfl).alloc _).drew).cell 1; have e0 : (World.alloc y9 (.cells #[.int .i64 3, .int .u64 q] 51)).drew.cell? ⟨y9.heap.size, 0, none⟩ = some (.int .i64 3) := (Bk.new y9 51 #[.int .i64 3, .int .u64 q]).drew.cell 0; have e1 : (World.alloc y9 (.cells #[.int .i64 3, .int .u64 q] 51)).drew.cell? ⟨y9.heap.size, 1, none⟩ = some (.int .u64 q) := (Bk.new y9 51 #[.int .i64 3, .int .u64 q]).drew.cell 1; clear hb) | fail)
                    generalize hW : World.drew (World.alloc _ _) = W11
                    obtain ⟨zs, hZ⟩ : ∃ zs : Array Value, W11 = World.drew (World.alloc (World.alloc y9 (.cells #[.int .i64 3, .int .u64 q] 51)) (.cells (#[.int .i64 1, .int .u64 s.pc] ++ (#[.int .i64 3, .int .u64 q] ++ zs)) 51)) := ⟨_, hW.symm⟩
                    have HE11 := Lib.hid (((HE10.out.alloc' 51 #[.int .i64 3, .int .u64 q] rfl).alloc' 51 (#[.int .i64 1, .int .u64 s.pc] ++ (#[.int .i64 3, .int .u64 q] ++ zs)) (g := y9.heap.size + 1) (by simp)).drew)
                    rw [← hZ] at HE11
                    clear hW hZ g0 g1 e0 e1 HE10
                    by_cases hx : x = 0
                    · subst hx
                      go_wp2_with (first | (refine wpList_load_row rfl 42 (.tmp 12) rfl gN rfl 42 (n1.set 4 q).vs (0, 0) _ (HE11.out.at_ 4 rfl) Tryz.underlying42 rfl i20 ?_) | (refine wpList_store_row rfl 42 (.tmp 8) (.tmp 301) rfl (w.heap.size + 1 + 1) (n1.set 4 q).vs rfl rfl 42 s0.vs (HE11.out.at_ 5 rfl) i20 rfl (Stt.vs_one _) ?_) | fail)
                      have HF := Lib.hid (HE11.out.row 5 rfl (n1.set 4 q).vs)
                      refine ret_do rfl rfl rfl rfl rfl (HF.out.at_ 5 rfl) ?_
                      exact RDoP.yes HF.out HR0.out (.inr (.inl ⟨by rw [TC.out], by rw [TC.out, tcI HCC.out]; exact HL.out, rfl⟩)) (by rw [BH.out, mvP_28 HO.out, ← HQ.out, ← HP.out, HN1.out, IntKind.wrap_u64]; rfl) ((evs_mem TC.out (by decide) (goe_no (by rw [HO.out]; decide))).symm) (Stt.set_wf NW.out 4 HQW.out) (rd2 (HF.out.at_ 0 rfl)) (by omega)
                    · have hxx : (x != 0) = true := by simpa using hx
                      have HXX := Lib.hid hx
                      clear hx
                      go_wp2_with (first | (refine wpList_load_row rfl 42 (.tmp 4) rfl w.heap.size rfl 42 s.vs (0, 0) _ (HE11.out.at_ 7 rfl) Tryz.underlying42 rfl i20 ?_) | (refine wpList_store_row rfl 42 (.tmp 8) (.tmp 299) rfl (w.heap.size + 1 + 1) s.vs rfl rfl 42 s0.vs (HE11.out.at_ 5 rfl) i20 rfl (Stt.vs_one _) ?_) | fail)
                      have HF := Lib.hid (HE11.out.row 5 rfl s.vs)
                      refine ret_do rfl rfl rfl rfl rfl (HF.out.at_ 5 rfl) ?_
                      exact RDoP.err HS.out HF.out HR0.out (.inr (.inl ⟨by rw [TC.out], by rw [TC.out, tcI HCC.out]; exact HL.out, rfl⟩)) HXX.out
                · have HO := Lib.hid ho
                  have b0 : wc.cell? ⟨w.heap.size + 1, 0, none⟩ = some (.int .i64 29) := by rw [← ho]; exact (HE8.out.at_ 4 rfl).cell 0
                  have BH := Lib.hid (show ∀ v, bh s i size v = mvP n1 i v from fun v => by rw [HN1.out]; exact bh_mv s i size v HM.out)
                  clear ho HM HV0
                  as_aux_lemma =>
                    have R4 := Lib.hid (HS.out.r 4)
                    have TC := Lib.hid (show tch s i = ⟨2, s.r 4⟩ from tch_29 (.inl HO.out))
                    have KL := Lib.hid (rload_c (Lib.hid HE8.out.mem) (s.r 4) R4.out)
                    obtain ⟨p, hp⟩ : ∃ p, s.r 4 = p := ⟨_, rfl⟩
                    have HP := Lib.hid hp
                    have s4 : wc.cell? ⟨w.heap.size, 4, none⟩ = some (.int .u64 p) := by rw [← hp]; exact (HE8.out.at_ 5 rfl).cell 4
                    rw [hp] at KL TC
                    clear hp
                    go_upto_region 39 with (first | (go_at_call 78; refine KL.out.mono ?_; rintro e y4 ⟨hb, v, x, rfl, hl⟩; have HE9 := Lib.hid (HE8.out.below hb); have HL := Lib.hid hl; clear hb hl) | fail)
                    clear HE8 KL b0 s4
                    have s4 : y4.cell? ⟨w.heap.size, 4, none⟩ = some (.int .u64 p) := by rw [← HP.out]; exact (HE9.out.at_ 5 rfl).cell 4
                    have n4 : y4.cell? ⟨gN, 4, none⟩ = some (.int .u64 (n1.r 4)) := (HE9.out.at_ 2 rfl).cell 4
                    have f4 := (HE9.out.at_ 2 rfl).frozen 4
                    go_upto_region 40 with fail
                    have HF1 : Hid (EB w B E (.pointer (some D)) M [(gT, 42, n1.vs), (gL, 51, #[Value.int IntKind.i64 1, Value.int IntKind.u64 s.pc]), (gN, 42, (n1.set 4 (IntKind.u64.wrap (p + 8))).vs), (w.heap.size + 1 + 1, 42, s0.vs), (w.heap.size + 1, 26, i.vs), (w.heap.size, 42, s.vs)] (World.setCell _ ⟨gN, 4, none⟩ (.int .u64 (IntKind.u64.wrap (p + 8))))) := Lib.hid (by have h := HE9.out.cell 2 rfl 4 (.int .u64 (IntKind.u64.wrap (p + 8))); rw [n1.vs_set (by decide)] at h; exact h)
                    generalize World.setCell _ _ _ = V1 at *
                    obtain ⟨n2, hn2⟩ : ∃ n, n1.set 4 (IntKind.u64.wrap (p + 8)) = n := ⟨_, rfl⟩
                    rw [hn2] at HF1
                    have HN2 := Lib.hid hn2
                    clear hn2 HE9 s4 n4 f4
                    have b1 : V1.cell? ⟨w.heap.size + 1, 1, none⟩ = some (.int .i64 (d : Int)) := by rw [← HD.out]; exact (HF1.out.at_ 4 rfl).cell 1
                    have cd : V1.cell? ⟨gN, d, none⟩ = some (.int .u64 (n2.r d)) := ((HF1.out.at_ 2 rfl).cell d).trans (n2.vs_r HD16.out)
                    have fd := (HF1.out.at_ 2 rfl).frozen d
                    go_upto_region 42 with fail
                    have HE9 : Hid (EB w B E (.pointer (some D)) M [(gT, 42, n1.vs), (gL, 51, #[Value.int IntKind.i64 1, Value.int IntKind.u64 s.pc]), (gN, 42, (n2.set d (v)).vs), (w.heap.size + 1 + 1, 42, s0.vs), (w.heap.size + 1, 26, i.vs), (w.heap.size, 42, s.vs)] (World.setCell _ ⟨gN, d, none⟩ (.int .u64 (v)))) := Lib.hid (by have h := HF1.out.cell 2 rfl d (.int .u64 (v)); rw [n2.vs_set HD16.out] at h; exact h)
                    generalize World.setCell _ _ _ = V2 at *
                    clear HF1 b1 cd fd
                    have s4 : V2.cell? ⟨w.heap.size, 4, none⟩ = some (.int .u64 p) := by rw [← HP.out]; exact (HE9.out.at_ 5 rfl).cell 4
                    go_upto_region 47 with (first | (go_at_call 74; refine (revent_c _ _ _).mono ?_; rintro e y9 ⟨rfl, hb⟩; have HE10 := Lib.hid (HE9.out.below hb); have g0 : (World.alloc y9 (.cells #[.int .i64 2, .int .u64 p] 51)).drew.cell? ⟨gL, 0, none⟩ = some (.int .i64 1) := (((HE10.out.at_ 1 rfl).alloc _).drew).cell 0; have g1 : (World.alloc y9 (.cells #[.int .i64 2, .int .u64 p] 51)).drew.cell? ⟨gL, 1, none⟩ = some (.int .u64 s.pc) := (((HE10.out.at_ 1 rfl).alloc _).drew).cell 1; have e0 : (World.alloc y9 (.cells #[.int .i64 2, .int .u64 p] 51)).drew.cell? ⟨y9.heap.size, 0, none⟩ = some (.int .i64 2) := (Bk.new y9 51 #[.int .i64 2, .int .u64 p]).drew.cell 0; have e1 : (World.alloc y9 (.cells #[.int .i64 2, .int .u64 p] 51)).drew.cell? ⟨y9.heap.size, 1, none⟩ = some (.int .u64 p) := (Bk.new y9 51 #[.int .i64 2, .int .u64 p]).drew.cell 1; clear hb) | fail)
                    generalize hW : World.drew (World.alloc _ _) = W11
                    obtain ⟨zs, hZ⟩ : ∃ zs : Array Value, W11 = World.drew (World.alloc (World.alloc y9 (.cells #[.int .i64 2, .int .u64 p] 51)) (.cells (#[.int .i64 1, .int .u64 s.pc] ++ (#[.int .i64 2, .int .u64 p] ++ zs)) 51)) := ⟨_, hW.symm⟩
                    have HE11 := Lib.hid (((HE10.out.alloc' 51 #[.int .i64 2, .int .u64 p] rfl).alloc' 51 (#[.int .i64 1, .int .u64 s.pc] ++ (#[.int .i64 2, .int .u64 p] ++ zs)) (g := y9.heap.size + 1) (by simp)).drew)
                    rw [← hZ] at HE11
                    clear hW hZ g0 g1 e0 e1 HE10
                    by_cases hx : x = 0
                    · subst hx
                      go_wp2_with (first | (refine wpList_load_row rfl 42 (.tmp 12) rfl gN rfl 42 (n2.set d v).vs (0, 0) _ (HE11.out.at_ 4 rfl) Tryz.underlying42 rfl i20 ?_) | (refine wpList_store_row rfl 42 (.tmp 8) (.tmp 301) rfl (w.heap.size + 1 + 1) (n2.set d v).vs rfl rfl 42 s0.vs (HE11.out.at_ 5 rfl) i20 rfl (Stt.vs_one _) ?_) | fail)
                      have HF := Lib.hid (HE11.out.row 5 rfl (n2.set d v).vs)
                      refine ret_do rfl rfl rfl rfl rfl (HF.out.at_ 5 rfl) ?_
                      exact RDoP.yes HF.out HR0.out (.inl ⟨by rw [TC.out], by rw [TC.out]; exact HL.out, rfl⟩) (by rw [BH.out, mvP_29 HO.out, HD.out, ← HN2.out, HN1.out, ← HP.out, IntKind.wrap_u64]; rfl) ((evs_mem TC.out (by decide) (goe_no (by rw [HO.out]; decide))).symm) (Stt.set_wf (by rw [← HN2.out, IntKind.wrap_u64]; exact Stt.set_wf NW.out 4 (W_mod _)) d (load_v HOKM.out HL.out)) (rd2 (HF.out.at_ 0 rfl)) (by omega)
                    · have hxx : (x != 0) = true := by simpa using hx
                      have HXX := Lib.hid hx
                      clear hx
                      go_wp2_with (first | (refine wpList_load_row rfl 42 (.tmp 4) rfl w.heap.size rfl 42 s.vs (0, 0) _ (HE11.out.at_ 7 rfl) Tryz.underlying42 rfl i20 ?_) | (refine wpList_store_row rfl 42 (.tmp 8) (.tmp 299) rfl (w.heap.size + 1 + 1) s.vs rfl rfl 42 s0.vs (HE11.out.at_ 5 rfl) i20 rfl (Stt.vs_one _) ?_) | fail)
                      have HF := Lib.hid (HE11.out.row 5 rfl s.vs)
                      refine ret_do rfl rfl rfl rfl rfl (HF.out.at_ 5 rfl) ?_
                      exact RDoP.err HS.out HF.out HR0.out (.inl ⟨by rw [TC.out], by rw [TC.out]; exact HL.out, rfl⟩) HXX.out
                · have HO := Lib.hid ho
                  have b0 : wc.cell? ⟨w.heap.size + 1, 0, none⟩ = some (.int .i64 30) := by rw [← ho]; exact (HE8.out.at_ 4 rfl).cell 0
                  have BH := Lib.hid (show ∀ v, bh s i size v = mvP n1 i v from fun v => by rw [HN1.out]; exact bh_mv s i size v HM.out)
                  clear ho HM HV0
                  as_aux_lemma =>
                    have p16 : wc.cell? ⟨gN, 16, none⟩ = some (.int .u64 n1.pc) := (HE8.out.at_ 2 rfl).cell 16
                    have f16 := (HE8.out.at_ 2 rfl).frozen 16
                    have b8 : wc.cell? ⟨w.heap.size + 1, 8, none⟩ = some (.int .i64 i.im) := (HE8.out.at_ 4 rfl).cell 8
                    go_upto_region 18 with fail
                    obtain ⟨n2, hn2⟩ : ∃ n : Stt, n = { n1 with pc := u64 (n1.pc + u64 i.im) } := ⟨_, rfl⟩
                    have HN2 := Lib.hid hn2
                    have HE9 : Hid (EB w B E (.pointer (some D)) M [(gT, 42, n1.vs), (gL, 51, #[Value.int IntKind.i64 1, Value.int IntKind.u64 s.pc]), (gN, 42, n2.vs), (w.heap.size + 1 + 1, 42, s0.vs), (w.heap.size + 1, 26, i.vs), (w.heap.size, 42, s.vs)] (World.setCell _ ⟨gN, 16, none⟩ (.int .u64 (IntKind.u64.wrap (n1.pc + IntKind.u64.wrap i.im))))) := Lib.hid (by have h := HE8.out.cell 2 rfl 16 (.int .u64 (IntKind.u64.wrap (n1.pc + IntKind.u64.wrap i.im))); rw [n1.vs_setPc, show IntKind.u64.wrap (n1.pc + IntKind.u64.wrap i.im) = u64 (n1.pc + u64 i.im) from by unfold u64; simp only [IntKind.wrap_u64]] at h; rw [hn2, show IntKind.u64.wrap (n1.pc + IntKind.u64.wrap i.im) = u64 (n1.pc + u64 i.im) from by unfold u64; simp only [IntKind.wrap_u64]]; exact h)
                    generalize World.setCell _ _ _ = W9 at *
                    clear HE8 p16 f16 b8 hn2
                    have p16 : W9.cell? ⟨gN, 16, none⟩ = some (.int .u64 n2.pc) := (HE9.out.at_ 2 rfl).cell 16
                    go_upto_region 47 with (first | (go_at_call 74; refine (revent_c _ _ _).mono ?_; rintro e y9 ⟨rfl, hb⟩; have HE10 := Lib.hid (HE9.out.below hb); have g0 : (World.alloc y9 (.cells #[.int .i64 4, .int .u64 n2.pc] 51)).drew.cell? ⟨gL, 0, none⟩ = some (.int .i64 1) := (((HE10.out.at_ 1 rfl).alloc _).drew).cell 0; have g1 : (World.alloc y9 (.cells #[.int .i64 4, .int .u64 n2.pc] 51)).drew.cell? ⟨gL, 1, none⟩ = some (.int .u64 s.pc) := (((HE10.out.at_ 1 rfl).alloc _).drew).cell 1; have e0 : (World.alloc y9 (.cells #[.int .i64 4, .int .u64 n2.pc] 51)).drew.cell? ⟨y9.heap.size, 0, none⟩ = some (.int .i64 4) := (Bk.new y9 51 #[.int .i64 4, .int .u64 n2.pc]).drew.cell 0; have e1 : (World.alloc y9 (.cells #[.int .i64 4, .int .u64 n2.pc] 51)).drew.cell? ⟨y9.heap.size, 1, none⟩ = some (.int .u64 n2.pc) := (Bk.new y9 51 #[.int .i64 4, .int .u64 n2.pc]).drew.cell 1; clear hb) | fail)
                    generalize hW : World.drew (World.alloc _ _) = W11
                    obtain ⟨zs, hZ⟩ : ∃ zs : Array Value, W11 = World.drew (World.alloc (World.alloc y9 (.cells #[.int .i64 4, .int .u64 n2.pc] 51)) (.cells (#[.int .i64 1, .int .u64 s.pc] ++ (#[.int .i64 4, .int .u64 n2.pc] ++ zs)) 51)) := ⟨_, hW.symm⟩
                    have HE11 := Lib.hid (((HE10.out.alloc' 51 #[.int .i64 4, .int .u64 n2.pc] rfl).alloc' 51 (#[.int .i64 1, .int .u64 s.pc] ++ (#[.int .i64 4, .int .u64 n2.pc] ++ zs)) (g := y9.heap.size + 1) (by simp)).drew)
                    rw [← hZ] at HE11
                    clear hW hZ g0 g1 e0 e1 HE10
                    go_wp2_with (first | (refine wpList_load_row rfl 42 (.tmp 12) rfl gN rfl 42 n2.vs (0, 0) _ (HE11.out.at_ 4 rfl) Tryz.underlying42 rfl i20 ?_) | (refine wpList_store_row rfl 42 (.tmp 8) (.tmp 301) rfl (w.heap.size + 1 + 1) n2.vs rfl rfl 42 s0.vs (HE11.out.at_ 5 rfl) i20 rfl (Stt.vs_one _) ?_) | fail)
                    have HF := Lib.hid (HE11.out.row 5 rfl n2.vs)
                    refine ret_do rfl rfl rfl rfl rfl (HF.out.at_ 5 rfl) ?_
                    exact RDoP.yes HF.out HR0.out (xch_none (tch_no (by rw [HO.out]; decide))) (by rw [BH.out, mvP_30 HO.out]; exact (jmp_y (rfl) HN2.out)) ((evs_jmp (tch_no (by rw [HO.out]; decide)) (goe_j HOK.out (by rw [HO.out]; decide))).symm) (by rw [HN2.out]; exact ⟨NW.out.r, u64_W _⟩) (rd2 (HF.out.at_ 0 rfl)) (by omega)
                · have HO := Lib.hid ho
                  have b0 : wc.cell? ⟨w.heap.size + 1, 0, none⟩ = some (.int .i64 31) := by rw [← ho]; exact (HE8.out.at_ 4 rfl).cell 0
                  have BH := Lib.hid (show ∀ v, bh s i size v = mvP n1 i v from fun v => by rw [HN1.out]; exact bh_mv s i size v HM.out)
                  clear ho HM HV0
                  as_aux_lemma =>
                    have p16 : wc.cell? ⟨gN, 16, none⟩ = some (.int .u64 n1.pc) := (HE8.out.at_ 2 rfl).cell 16
                    have f16 := (HE8.out.at_ 2 rfl).frozen 16
                    have b8 : wc.cell? ⟨w.heap.size + 1, 8, none⟩ = some (.int .i64 i.im) := (HE8.out.at_ 4 rfl).cell 8
                    obtain ⟨f, hf⟩ : ∃ f, s.zf = f := ⟨_, rfl⟩
                    have cf_ : wc.cell? ⟨w.heap.size, 19, none⟩ = some (.bool f) := by rw [← hf]; exact (HE8.out.at_ 5 rfl).cell 19
                    have HFL := Lib.hid hf
                    clear hf
                    cases f
                    · skip
                      go_upto_region 18 with fail
                      obtain ⟨n2, hn2⟩ : ∃ n : Stt, n = { n1 with pc := u64 (n1.pc + u64 i.im) } := ⟨_, rfl⟩
                      have HN2 := Lib.hid hn2
                      have HE9 : Hid (EB w B E (.pointer (some D)) M [(gT, 42, n1.vs), (gL, 51, #[Value.int IntKind.i64 1, Value.int IntKind.u64 s.pc]), (gN, 42, n2.vs), (w.heap.size + 1 + 1, 42, s0.vs), (w.heap.size + 1, 26, i.vs), (w.heap.size, 42, s.vs)] (World.setCell _ ⟨gN, 16, none⟩ (.int .u64 (IntKind.u64.wrap (n1.pc + IntKind.u64.wrap i.im))))) := Lib.hid (by have h := HE8.out.cell 2 rfl 16 (.int .u64 (IntKind.u64.wrap (n1.pc + IntKind.u64.wrap i.im))); rw [n1.vs_setPc, show IntKind.u64.wrap (n1.pc + IntKind.u64.wrap i.im) = u64 (n1.pc + u64 i.im) from by unfold u64; simp only [IntKind.wrap_u64]] at h; rw [hn2, show IntKind.u64.wrap (n1.pc + IntKind.u64.wrap i.im) = u64 (n1.pc + u64 i.im) from by unfold u64; simp only [IntKind.wrap_u64]]; exact h)
                      generalize World.setCell _ _ _ = W9 at *
                      clear HE8 p16 f16 b8 hn2
                      have p16 : W9.cell? ⟨gN, 16, none⟩ = some (.int .u64 n2.pc) := (HE9.out.at_ 2 rfl).cell 16
                      go_upto_region 47 with (first | (go_at_call 74; refine (revent_c _ _ _).mono ?_; rintro e y9 ⟨rfl, hb⟩; have HE10 := Lib.hid (HE9.out.below hb); have g0 : (World.alloc y9 (.cells #[.int .i64 4, .int .u64 n2.pc] 51)).drew.cell? ⟨gL, 0, none⟩ = some (.int .i64 1) := (((HE10.out.at_ 1 rfl).alloc _).drew).cell 0; have g1 : (World.alloc y9 (.cells #[.int .i64 4, .int .u64 n2.pc] 51)).drew.cell? ⟨gL, 1, none⟩ = some (.int .u64 s.pc) := (((HE10.out.at_ 1 rfl).alloc _).drew).cell 1; have e0 : (World.alloc y9 (.cells #[.int .i64 4, .int .u64 n2.pc] 51)).drew.cell? ⟨y9.heap.size, 0, none⟩ = some (.int .i64 4) := (Bk.new y9 51 #[.int .i64 4, .int .u64 n2.pc]).drew.cell 0; have e1 : (World.alloc y9 (.cells #[.int .i64 4, .int .u64 n2.pc] 51)).drew.cell? ⟨y9.heap.size, 1, none⟩ = some (.int .u64 n2.pc) := (Bk.new y9 51 #[.int .i64 4, .int .u64 n2.pc]).drew.cell 1; clear hb) | fail)
                      generalize hW : World.drew (World.alloc _ _) = W11
                      obtain ⟨zs, hZ⟩ : ∃ zs : Array Value, W11 = World.drew (World.alloc (World.alloc y9 (.cells #[.int .i64 4, .int .u64 n2.pc] 51)) (.cells (#[.int .i64 1, .int .u64 s.pc] ++ (#[.int .i64 4, .int .u64 n2.pc] ++ zs)) 51)) := ⟨_, hW.symm⟩
                      have HE11 := Lib.hid (((HE10.out.alloc' 51 #[.int .i64 4, .int .u64 n2.pc] rfl).alloc' 51 (#[.int .i64 1, .int .u64 s.pc] ++ (#[.int .i64 4, .int .u64 n2.pc] ++ zs)) (g := y9.heap.size + 1) (by simp)).drew)
                      rw [← hZ] at HE11
                      clear hW hZ g0 g1 e0 e1 HE10
                      go_wp2_with (first | (refine wpList_load_row rfl 42 (.tmp 12) rfl gN rfl 42 n2.vs (0, 0) _ (HE11.out.at_ 4 rfl) Tryz.underlying42 rfl i20 ?_) | (refine wpList_store_row rfl 42 (.tmp 8) (.tmp 301) rfl (w.heap.size + 1 + 1) n2.vs rfl rfl 42 s0.vs (HE11.out.at_ 5 rfl) i20 rfl (Stt.vs_one _) ?_) | fail)
                      have HF := Lib.hid (HE11.out.row 5 rfl n2.vs)
                      refine ret_do rfl rfl rfl rfl rfl (HF.out.at_ 5 rfl) ?_
                      exact RDoP.yes HF.out HR0.out (xch_none (tch_no (by rw [HO.out]; decide))) (by rw [BH.out, mvP_31 HO.out]; exact (jmp_y (by rw [HN1.out]; show (!s.zf) = _; rw [HFL.out]; rfl) HN2.out)) ((evs_jmp (tch_no (by rw [HO.out]; decide)) (goe_j HOK.out (by rw [HO.out]; decide))).symm) (by rw [HN2.out]; exact ⟨NW.out.r, u64_W _⟩) (rd2 (HF.out.at_ 0 rfl)) (by omega)
                    · skip
                      go_upto_region 18 with fail
                      have HE9 := HE8
                      clear HE8
                      clear p16 f16 b8
                      have p16 : wc.cell? ⟨gN, 16, none⟩ = some (.int .u64 n1.pc) := (HE9.out.at_ 2 rfl).cell 16
                      go_upto_region 47 with (first | (go_at_call 74; refine (revent_c _ _ _).mono ?_; rintro e y9 ⟨rfl, hb⟩; have HE10 := Lib.hid (HE9.out.below hb); have g0 : (World.alloc y9 (.cells #[.int .i64 4, .int .u64 n1.pc] 51)).drew.cell? ⟨gL, 0, none⟩ = some (.int .i64 1) := (((HE10.out.at_ 1 rfl).alloc _).drew).cell 0; have g1 : (World.alloc y9 (.cells #[.int .i64 4, .int .u64 n1.pc] 51)).drew.cell? ⟨gL, 1, none⟩ = some (.int .u64 s.pc) := (((HE10.out.at_ 1 rfl).alloc _).drew).cell 1; have e0 : (World.alloc y9 (.cells #[.int .i64 4, .int .u64 n1.pc] 51)).drew.cell? ⟨y9.heap.size, 0, none⟩ = some (.int .i64 4) := (Bk.new y9 51 #[.int .i64 4, .int .u64 n1.pc]).drew.cell 0; have e1 : (World.alloc y9 (.cells #[.int .i64 4, .int .u64 n1.pc] 51)).drew.cell? ⟨y9.heap.size, 1, none⟩ = some (.int .u64 n1.pc) := (Bk.new y9 51 #[.int .i64 4, .int .u64 n1.pc]).drew.cell 1; clear hb) | fail)
                      generalize hW : World.drew (World.alloc _ _) = W11
                      obtain ⟨zs, hZ⟩ : ∃ zs : Array Value, W11 = World.drew (World.alloc (World.alloc y9 (.cells #[.int .i64 4, .int .u64 n1.pc] 51)) (.cells (#[.int .i64 1, .int .u64 s.pc] ++ (#[.int .i64 4, .int .u64 n1.pc] ++ zs)) 51)) := ⟨_, hW.symm⟩
                      have HE11 := Lib.hid (((HE10.out.alloc' 51 #[.int .i64 4, .int .u64 n1.pc] rfl).alloc' 51 (#[.int .i64 1, .int .u64 s.pc] ++ (#[.int .i64 4, .int .u64 n1.pc] ++ zs)) (g := y9.heap.size + 1) (by simp)).drew)
                      rw [← hZ] at HE11
                      clear hW hZ g0 g1 e0 e1 HE10
                      go_wp2_with (first | (refine wpList_load_row rfl 42 (.tmp 12) rfl gN rfl 42 n1.vs (0, 0) _ (HE11.out.at_ 4 rfl) Tryz.underlying42 rfl i20 ?_) | (refine wpList_store_row rfl 42 (.tmp 8) (.tmp 301) rfl (w.heap.size + 1 + 1) n1.vs rfl rfl 42 s0.vs (HE11.out.at_ 5 rfl) i20 rfl (Stt.vs_one _) ?_) | fail)
                      have HF := Lib.hid (HE11.out.row 5 rfl n1.vs)
                      refine ret_do rfl rfl rfl rfl rfl (HF.out.at_ 5 rfl) ?_
                      exact RDoP.yes HF.out HR0.out (xch_none (tch_no (by rw [HO.out]; decide))) (by rw [BH.out, mvP_31 HO.out]; exact (jmp_n (by rw [HN1.out]; show (!s.zf) = _; rw [HFL.out]; rfl))) ((evs_jmp (tch_no (by rw [HO.out]; decide)) (goe_j HOK.out (by rw [HO.out]; decide))).symm) (NW.out) (rd2 (HF.out.at_ 0 rfl)) (by omega)
                · have HO := Lib.hid ho
                  have b0 : wc.cell? ⟨w.heap.size + 1, 0, none⟩ = some (.int .i64 32) := by rw [← ho]; exact (HE8.out.at_ 4 rfl).cell 0
                  have BH := Lib.hid (show ∀ v, bh s i size v = mvP n1 i v from fun v => by rw [HN1.out]; exact bh_mv s i size v HM.out)
                  clear ho HM HV0
                  as_aux_lemma =>
                    have p16 : wc.cell? ⟨gN, 16, none⟩ = some (.int .u64 n1.pc) := (HE8.out.at_ 2 rfl).cell 16
                    have f16 := (HE8.out.at_ 2 rfl).frozen 16
                    have b8 : wc.cell? ⟨w.heap.size + 1, 8, none⟩ = some (.int .i64 i.im) := (HE8.out.at_ 4 rfl).cell 8
                    obtain ⟨f, hf⟩ : ∃ f, s.cf = f := ⟨_, rfl⟩
                    have cf_ : wc.cell? ⟨w.heap.size, 17, none⟩ = some (.bool f) := by rw [← hf]; exact (HE8.out.at_ 5 rfl).cell 17
                    have HFL := Lib.hid hf
                    clear hf
                    cases f
                    · skip
                      go_upto_region 18 with fail
                      have HE9 := HE8
                      clear HE8
                      clear p16 f16 b8
                      have p16 : wc.cell? ⟨gN, 16, none⟩ = some (.int .u64 n1.pc) := (HE9.out.at_ 2 rfl).cell 16
                      go_upto_region 47 with (first | (go_at_call 74; refine (revent_c _ _ _).mono ?_; rintro e y9 ⟨rfl, hb⟩; have HE10 := Lib.hid (HE9.out.below hb); have g0 : (World.alloc y9 (.cells #[.int .i64 4, .int .u64 n1.pc] 51)).drew.cell? ⟨gL, 0, none⟩ = some (.int .i64 1) := (((HE10.out.at_ 1 rfl).alloc _).drew).cell 0; have g1 : (World.alloc y9 (.cells #[.int .i64 4, .int .u64 n1.pc] 51)).drew.cell? ⟨gL, 1, none⟩ = some (.int .u64 s.pc) := (((HE10.out.at_ 1 rfl).alloc _).drew).cell 1; have e0 : (World.alloc y9 (.cells #[.int .i64 4, .int .u64 n1.pc] 51)).drew.cell? ⟨y9.heap.size, 0, none⟩ = some (.int .i64 4) := (Bk.new y9 51 #[.int .i64 4, .int .u64 n1.pc]).drew.cell 0; have e1 : (World.alloc y9 (.cells #[.int .i64 4, .int .u64 n1.pc] 51)).drew.cell? ⟨y9.heap.size, 1, none⟩ = some (.int .u64 n1.pc) := (Bk.new y9 51 #[.int .i64 4, .int .u64 n1.pc]).drew.cell 1; clear hb) | fail)
                      generalize hW : World.drew (World.alloc _ _) = W11
                      obtain ⟨zs, hZ⟩ : ∃ zs : Array Value, W11 = World.drew (World.alloc (World.alloc y9 (.cells #[.int .i64 4, .int .u64 n1.pc] 51)) (.cells (#[.int .i64 1, .int .u64 s.pc] ++ (#[.int .i64 4, .int .u64 n1.pc] ++ zs)) 51)) := ⟨_, hW.symm⟩
                      have HE11 := Lib.hid (((HE10.out.alloc' 51 #[.int .i64 4, .int .u64 n1.pc] rfl).alloc' 51 (#[.int .i64 1, .int .u64 s.pc] ++ (#[.int .i64 4, .int .u64 n1.pc] ++ zs)) (g := y9.heap.size + 1) (by simp)).drew)
                      rw [← hZ] at HE11
                      clear hW hZ g0 g1 e0 e1 HE10
                      go_wp2_with (first | (refine wpList_load_row rfl 42 (.tmp 12) rfl gN rfl 42 n1.vs (0, 0) _ (HE11.out.at_ 4 rfl) Tryz.underlying42 rfl i20 ?_) | (refine wpList_store_row rfl 42 (.tmp 8) (.tmp 301) rfl (w.heap.size + 1 + 1) n1.vs rfl rfl 42 s0.vs (HE11.out.at_ 5 rfl) i20 rfl (Stt.vs_one _) ?_) | fail)
                      have HF := Lib.hid (HE11.out.row 5 rfl n1.vs)
                      refine ret_do rfl rfl rfl rfl rfl (HF.out.at_ 5 rfl) ?_
                      exact RDoP.yes HF.out HR0.out (xch_none (tch_no (by rw [HO.out]; decide))) (by rw [BH.out, mvP_32 HO.out]; exact (jmp_n (by rw [HN1.out]; show s.cf = _; rw [HFL.out]))) ((evs_jmp (tch_no (by rw [HO.out]; decide)) (goe_j HOK.out (by rw [HO.out]; decide))).symm) (NW.out) (rd2 (HF.out.at_ 0 rfl)) (by omega)
                    · skip
                      go_upto_region 18 with fail
                      obtain ⟨n2, hn2⟩ : ∃ n : Stt, n = { n1 with pc := u64 (n1.pc + u64 i.im) } := ⟨_, rfl⟩
                      have HN2 := Lib.hid hn2
                      have HE9 : Hid (EB w B E (.pointer (some D)) M [(gT, 42, n1.vs), (gL, 51, #[Value.int IntKind.i64 1, Value.int IntKind.u64 s.pc]), (gN, 42, n2.vs), (w.heap.size + 1 + 1, 42, s0.vs), (w.heap.size + 1, 26, i.vs), (w.heap.size, 42, s.vs)] (World.setCell _ ⟨gN, 16, none⟩ (.int .u64 (IntKind.u64.wrap (n1.pc + IntKind.u64.wrap i.im))))) := Lib.hid (by have h := HE8.out.cell 2 rfl 16 (.int .u64 (IntKind.u64.wrap (n1.pc + IntKind.u64.wrap i.im))); rw [n1.vs_setPc, show IntKind.u64.wrap (n1.pc + IntKind.u64.wrap i.im) = u64 (n1.pc + u64 i.im) from by unfold u64; simp only [IntKind.wrap_u64]] at h; rw [hn2, show IntKind.u64.wrap (n1.pc + IntKind.u64.wrap i.im) = u64 (n1.pc + u64 i.im) from by unfold u64; simp only [IntKind.wrap_u64]]; exact h)
                      generalize World.setCell _ _ _ = W9 at *
                      clear HE8 p16 f16 b8 hn2
                      have p16 : W9.cell? ⟨gN, 16, none⟩ = some (.int .u64 n2.pc) := (HE9.out.at_ 2 rfl).cell 16
                      go_upto_region 47 with (first | (go_at_call 74; refine (revent_c _ _ _).mono ?_; rintro e y9 ⟨rfl, hb⟩; have HE10 := Lib.hid (HE9.out.below hb); have g0 : (World.alloc y9 (.cells #[.int .i64 4, .int .u64 n2.pc] 51)).drew.cell? ⟨gL, 0, none⟩ = some (.int .i64 1) := (((HE10.out.at_ 1 rfl).alloc _).drew).cell 0; have g1 : (World.alloc y9 (.cells #[.int .i64 4, .int .u64 n2.pc] 51)).drew.cell? ⟨gL, 1, none⟩ = some (.int .u64 s.pc) := (((HE10.out.at_ 1 rfl).alloc _).drew).cell 1; have e0 : (World.alloc y9 (.cells #[.int .i64 4, .int .u64 n2.pc] 51)).drew.cell? ⟨y9.heap.size, 0, none⟩ = some (.int .i64 4) := (Bk.new y9 51 #[.int .i64 4, .int .u64 n2.pc]).drew.cell 0; have e1 : (World.alloc y9 (.cells #[.int .i64 4, .int .u64 n2.pc] 51)).drew.cell? ⟨y9.heap.size, 1, none⟩ = some (.int .u64 n2.pc) := (Bk.new y9 51 #[.int .i64 4, .int .u64 n2.pc]).drew.cell 1; clear hb) | fail)
                      generalize hW : World.drew (World.alloc _ _) = W11
                      obtain ⟨zs, hZ⟩ : ∃ zs : Array Value, W11 = World.drew (World.alloc (World.alloc y9 (.cells #[.int .i64 4, .int .u64 n2.pc] 51)) (.cells (#[.int .i64 1, .int .u64 s.pc] ++ (#[.int .i64 4, .int .u64 n2.pc] ++ zs)) 51)) := ⟨_, hW.symm⟩
                      have HE11 := Lib.hid (((HE10.out.alloc' 51 #[.int .i64 4, .int .u64 n2.pc] rfl).alloc' 51 (#[.int .i64 1, .int .u64 s.pc] ++ (#[.int .i64 4, .int .u64 n2.pc] ++ zs)) (g := y9.heap.size + 1) (by simp)).drew)
                      rw [← hZ] at HE11
                      clear hW hZ g0 g1 e0 e1 HE10
                      go_wp2_with (first | (refine wpList_load_row rfl 42 (.tmp 12) rfl gN rfl 42 n2.vs (0, 0) _ (HE11.out.at_ 4 rfl) Tryz.underlying42 rfl i20 ?_) | (refine wpList_store_row rfl 42 (.tmp 8) (.tmp 301) rfl (w.heap.size + 1 + 1) n2.vs rfl rfl 42 s0.vs (HE11.out.at_ 5 rfl) i20 rfl (Stt.vs_one _) ?_) | fail)
                      have HF := Lib.hid (HE11.out.row 5 rfl n2.vs)
                      refine ret_do rfl rfl rfl rfl rfl (HF.out.at_ 5 rfl) ?_
                      exact RDoP.yes HF.out HR0.out (xch_none (tch_no (by rw [HO.out]; decide))) (by rw [BH.out, mvP_32 HO.out]; exact (jmp_y (by rw [HN1.out]; show s.cf = _; rw [HFL.out]) HN2.out)) ((evs_jmp (tch_no (by rw [HO.out]; decide)) (goe_j HOK.out (by rw [HO.out]; decide))).symm) (by rw [HN2.out]; exact ⟨NW.out.r, u64_W _⟩) (rd2 (HF.out.at_ 0 rfl)) (by omega)
                · have HO := Lib.hid ho
                  have b0 : wc.cell? ⟨w.heap.size + 1, 0, none⟩ = some (.int .i64 33) := by rw [← ho]; exact (HE8.out.at_ 4 rfl).cell 0
                  have BH := Lib.hid (show ∀ v, bh s i size v = mvP n1 i v from fun v => by rw [HN1.out]; exact bh_mv s i size v HM.out)
                  clear ho HM HV0
                  as_aux_lemma =>
                    obtain ⟨p, hp⟩ : ∃ p, s.r 4 = p := ⟨_, rfl⟩
                    have HP := Lib.hid hp
                    have HPW := Lib.hid (show Wd.W p from hp ▸ HS.out.r 4)
                    have TC := Lib.hid (show tch s i = ⟨2, p⟩ from by rw [← hp]; exact tch_29 (.inr HO.out))
                    have KL := Lib.hid (rload_c (Lib.hid HE8.out.mem) p HPW.out)
                    have s4 : wc.cell? ⟨w.heap.size, 4, none⟩ = some (.int .u64 p) := by rw [← hp]; exact (HE8.out.at_ 5 rfl).cell 4
                    have c16 : ∀ X, EB w B E (.pointer (some D)) M [(gT, 42, n1.vs), (gL, 51, #[Value.int IntKind.i64 1, Value.int IntKind.u64 s.pc]), (gN, 42, n1.vs), (w.heap.size + 1 + 1, 42, s0.vs), (w.heap.size + 1, 26, i.vs), (w.heap.size, 42, s.vs)] X → X.cell? ⟨gN, 16, none⟩ = some (.int .u64 n1.pc) := fun X h => (h.at_ 2 rfl).cell 16
                    clear hp
                    go_upto_region 45 with (first | (go_at_call 78; refine KL.out.mono ?_; rintro e y4 ⟨hb, v, x, rfl, hl⟩; have HE9 := Lib.hid (HE8.out.below hb); have HL := Lib.hid hl; have p16 := c16 _ HE9.out; have f16 := (HE9.out.at_ 2 rfl).frozen 16; clear hb hl) | fail)
                    clear HE8 KL b0 s4 c16
                    obtain ⟨n2, hn2⟩ : ∃ n : Stt, n = { n1 with pc := v } := ⟨_, rfl⟩
                    have HN2 := Lib.hid hn2
                    have HF1 : Hid (EB w B E (.pointer (some D)) M [(gT, 42, n1.vs), (gL, 51, #[Value.int IntKind.i64 1, Value.int IntKind.u64 s.pc]), (gN, 42, n2.vs), (w.heap.size + 1 + 1, 42, s0.vs), (w.heap.size + 1, 26, i.vs), (w.heap.size, 42, s.vs)] (World.setCell _ ⟨gN, 16, none⟩ (.int .u64 v))) := Lib.hid (by rw [hn2, ← n1.vs_setPc v]; exact HE9.out.cell 2 rfl 16 (.int .u64 v))
                    generalize World.setCell _ _ _ = V1 at *
                    clear HE9 p16 f16 hn2
                    have s4 : V1.cell? ⟨w.heap.size, 4, none⟩ = some (.int .u64 p) := by rw [← HP.out]; exact (HF1.out.at_ 5 rfl).cell 4
                    have n4 : V1.cell? ⟨gN, 4, none⟩ = some (.int .u64 (n2.r 4)) := (HF1.out.at_ 2 rfl).cell 4
                    have f4 := (HF1.out.at_ 2 rfl).frozen 4
                    go_upto_region 46 with fail
                    have HE9 : Hid (EB w B E (.pointer (some D)) M [(gT, 42, n1.vs), (gL, 51, #[Value.int IntKind.i64 1, Value.int IntKind.u64 s.pc]), (gN, 42, (n2.set 4 (IntKind.u64.wrap (p + 8))).vs), (w.heap.size + 1 + 1, 42, s0.vs), (w.heap.size + 1, 26, i.vs), (w.heap.size, 42, s.vs)] (World.setCell _ ⟨gN, 4, none⟩ (.int .u64 (IntKind.u64.wrap (p + 8))))) := Lib.hid (by have h := HF1.out.cell 2 rfl 4 (.int .u64 (IntKind.u64.wrap (p + 8))); rw [n2.vs_set (by decide)] at h; exact h)
                    generalize World.setCell _ _ _ = V2 at *
                    obtain ⟨n3, hn3⟩ : ∃ n, n2.set 4 (IntKind.u64.wrap (p + 8)) = n := ⟨_, rfl⟩
                    rw [hn3] at HE9
                    have HN3 := Lib.hid hn3
                    have N3P := Lib.hid (show n3.pc = v from by rw [← hn3, HN2.out]; rfl)
                    clear hn3 HF1 s4 n4 f4
                    refine wp_region_held_drew (S := (fun w' => ∃ M2, EB w B E (.pointer (some D)) M2 [(gT, 42, n1.vs), (gL, 51, #[Value.int IntKind.i64 1, Value.int IntKind.u64 s.pc]), (gN, 42, n3.vs), (w.heap.size + 1 + 1, 42, s0.vs), (w.heap.size + 1, 26, i.vs), (w.heap.size, 42, s.vs)] w')) (by kernel_rfl) ⟨_, HE9.out.drew⟩ (fun hHeld => ?_)
                    have HX0 := Lib.hid HE9.out.drew
                    generalize World.drew V2 = X0 at *
                    clear HE9
                    refine wpAnyH_take (i := 0) (oi := { dst := some 287, op := Op.move (Operand.tmp 13), type := 46, pos := "ref.go:150", after := #[], guard := none }) (v := (.slice (some ⟨gL, 0, none⟩) 1 1)) rfl (by kernel_rfl) (by kernel_rfl) (by kernel_rfl) (fun _ _ _ h => h) (Or.inl ⟨by rfl, ?_⟩) (by assumption) ?_
                    · intro w' hSw
                      go_simp
                    simp only [Act.put, List.setIfInBounds_toArray, List.set_cons_zero, List.set_cons_succ]
                    refine wpAnyH_take (i := 1) (oi := { dst := some 288, op := Op.fieldAddr 42 (Operand.tmp 4) 0, type := 0, pos := "ref.go:150", after := #[], guard := none }) (v := (.pointer (some ⟨w.heap.size, 0, none⟩))) rfl (by kernel_rfl) (by kernel_rfl) (by kernel_rfl) (fun _ _ _ h => h) (Or.inl ⟨by rfl, ?_⟩) (by assumption) ?_
                    · intro w' hSw
                      go_simp
                    simp only [Act.put, List.setIfInBounds_toArray, List.set_cons_zero, List.set_cons_succ]
                    refine wpAnyH_take (i := 2) (oi := { dst := some 289, op := Op.indexAddr 40 (Operand.tmp 288) (Operand.const (Value.int IntKind.i64 4)), type := 0, pos := "ref.go:150", after := #[{ on := 1, ground := Ground.data }], guard := none }) (v := (.pointer (some ⟨w.heap.size, 4, none⟩))) rfl (by kernel_rfl) (by kernel_rfl) (by kernel_rfl) (fun _ _ _ h => h) (Or.inl ⟨by rfl, ?_⟩) (by assumption) ?_
                    · intro w' hSw
                      go_simp
                    simp only [Act.put, List.setIfInBounds_toArray, List.set_cons_zero, List.set_cons_succ]
                    refine wpAnyH_take (i := 3) (oi := { dst := some 290, op := Op.load 39 (Operand.tmp 289), type := 39, pos := "ref.go:150", after := #[{ on := 2, ground := Ground.data }], guard := none }) (v := (.int .u64 p)) rfl (by kernel_rfl) (by kernel_rfl) (by kernel_rfl) (fun _ _ _ h => h) (Or.inl ⟨by rfl, ?_⟩) (by assumption) ?_
                    · intro w' hSw
                      obtain ⟨_, hSw⟩ := hSw
                      have z : w'.cell? ⟨w.heap.size, 4, none⟩ = some (.int .u64 p) := by rw [← HP.out]; exact (hSw.at_ 5 rfl).cell 4
                      clear hSw
                      go_simp
                    simp only [Act.put, List.setIfInBounds_toArray, List.set_cons_zero, List.set_cons_succ]
                    refine wpAnyH_take (i := 5) (oi := { dst := some 292, op := Op.fieldAddr 42 (Operand.tmp 12) 1, type := 0, pos := "ref.go:150", after := #[], guard := none }) (v := (.pointer (some ⟨gN, 16, none⟩))) rfl (by kernel_rfl) (by kernel_rfl) (by kernel_rfl) (fun _ _ _ h => h) (Or.inl ⟨by rfl, ?_⟩) (by assumption) ?_
                    · intro w' hSw
                      go_simp
                    simp only [Act.put, List.setIfInBounds_toArray, List.set_cons_zero, List.set_cons_succ]
                    refine wpAnyH_take (i := 6) (oi := { dst := some 293, op := Op.load 39 (Operand.tmp 292), type := 39, pos := "ref.go:150", after := #[{ on := 5, ground := Ground.data }], guard := none }) (v := (.int .u64 v)) rfl (by kernel_rfl) (by kernel_rfl) (by kernel_rfl) (fun _ _ _ h => h) (Or.inl ⟨by rfl, ?_⟩) (by assumption) ?_
                    · intro w' hSw
                      obtain ⟨_, hSw⟩ := hSw
                      have z : w'.cell? ⟨gN, 16, none⟩ = some (.int .u64 v) := by rw [← N3P.out]; exact (hSw.at_ 2 rfl).cell 16
                      clear hSw
                      go_simp
                    simp only [Act.put, List.setIfInBounds_toArray, List.set_cons_zero, List.set_cons_succ]
                    refine wpAnyH_ready (rs := [4]) (by kernel_rfl) (by simp) ?_
                    refine AllReadyH.cons (o := { dst := some 291, op := Op.call { callee := Callee.value (Operand.func 74), args := #[Operand.const (Value.int IntKind.i64 2), Operand.tmp 290], argTypes := #[3, 39] }, type := 51, pos := "ref.go:150", after := #[{ on := 3, ground := Ground.data }], guard := none }) rfl (fun K' hK => ?_) AllReadyH.nil
                    rw [if_pos (by rfl)]
                    go_simp
                    go_at_call 74
                    refine (revent_c _ _ _).mono ?_
                    rintro e y5 ⟨rfl, hb⟩
                    have HX1 := Lib.hid (HX0.out.below hb)
                    clear hb HX0
                    refine hK.out _ _ (⟨_, HX1.out⟩) (fun hHeld => ?_)
                    clear hK
                    try simp only [Act.put, List.setIfInBounds_toArray, List.set_cons_zero, List.set_cons_succ]
                    refine wpAnyH_ready (rs := [7]) (by kernel_rfl) (by simp) ?_
                    refine AllReadyH.cons (o := { dst := some 294, op := Op.call { callee := Callee.value (Operand.func 74), args := #[Operand.const (Value.int IntKind.i64 4), Operand.tmp 293], argTypes := #[3, 39] }, type := 51, pos := "ref.go:150", after := #[{ on := 6, ground := Ground.data }, { on := 4, ground := Ground.chain }], guard := none }) rfl (fun K' hK => ?_) AllReadyH.nil
                    rw [if_pos (by rfl)]
                    go_simp
                    go_at_call 74
                    refine (revent_c _ _ _).mono ?_
                    rintro e y6 ⟨rfl, hb⟩
                    have HX2 := Lib.hid (HX1.out.below hb)
                    clear hb HX1
                    refine hK.out _ _ (⟨_, HX2.out⟩) (fun hHeld => ?_)
                    clear hK
                    try simp only [Act.put, List.setIfInBounds_toArray, List.set_cons_zero, List.set_cons_succ]
                    refine wpAnyH_ready (rs := [8]) (by kernel_rfl) (by simp) ?_
                    refine AllReadyH.cons (o := { dst := some 295, op := Op.buildSlice 46 2 #[(0, Operand.tmp 291), (1, Operand.tmp 294)], type := 46, pos := "ref.go:150", after := #[{ on := 4, ground := Ground.data }, { on := 7, ground := Ground.data }], guard := none }) rfl (fun K' hK => ?_) AllReadyH.nil
                    rw [if_pos (by rfl)]
                    go_simp
                    have HX3 := Lib.hid (HX2.out.alloc 51 #[.int .i64 2, .int .u64 p, .int .i64 4, .int .u64 v])
                    generalize y6.heap.size = gE at *
                    generalize World.alloc _ _ = Y7 at *
                    clear HX2
                    refine hK.out _ _ (⟨_, HX3.out.tail⟩) (fun hHeld => ?_)
                    clear hK
                    try simp only [Act.put, List.setIfInBounds_toArray, List.set_cons_zero, List.set_cons_succ]
                    refine wpAnyH_ready (rs := [9]) (by kernel_rfl) (by simp) ?_
                    refine AllReadyH.cons (o := { dst := some 296, op := Op.call { callee := Callee.builtin Builtin.append, args := #[Operand.tmp 287, Operand.tmp 295], argTypes := #[46, 46] }, type := 46, pos := "ref.go:150", after := #[{ on := 0, ground := Ground.data }, { on := 8, ground := Ground.data }, { on := 7, ground := Ground.chain }], guard := none }) rfl (fun K' hK => ?_) AllReadyH.nil
                    rw [if_pos (by rfl)]
                    have g0 : Y7.cell? ⟨gL, 0, none⟩ = some (.int .i64 1) := (HX3.out.at_ 2 rfl).cell 0
                    have g1 : Y7.cell? ⟨gL, 1, none⟩ = some (.int .u64 s.pc) := (HX3.out.at_ 2 rfl).cell 1
                    have e0 : Y7.cell? ⟨gE, 0, none⟩ = some (.int .i64 2) := (HX3.out.at_ 0 rfl).cell 0
                    have e1 : Y7.cell? ⟨gE, 1, none⟩ = some (.int .u64 p) := (HX3.out.at_ 0 rfl).cell 1
                    have e2 : Y7.cell? ⟨gE, 2, none⟩ = some (.int .i64 4) := (HX3.out.at_ 0 rfl).cell 2
                    have e3 : Y7.cell? ⟨gE, 3, none⟩ = some (.int .u64 v) := (HX3.out.at_ 0 rfl).cell 3
                    go_simp
                    generalize hW : World.drew (World.alloc _ _) = Y8
                    obtain ⟨zs, hZ⟩ : ∃ zs : Array Value, Y8 = World.drew (World.alloc Y7 (.cells (#[.int .i64 1, .int .u64 s.pc] ++ (#[.int .i64 2, .int .u64 p, .int .i64 4, .int .u64 v] ++ zs)) 51)) := ⟨_, hW.symm⟩
                    have HX4 := Lib.hid ((HX3.out.alloc 51 (#[.int .i64 1, .int .u64 s.pc] ++ (#[.int .i64 2, .int .u64 p, .int .i64 4, .int .u64 v] ++ zs))).drew)
                    rw [← hZ] at HX4
                    clear hW hZ g0 g1 e0 e1 e2 e3 HX3
                    generalize Question.cut _ _ = cp
                    generalize Y7.heap.size = gA at HX4 ⊢
                    refine hK.out _ _ (⟨_, HX4.out.tail.tail⟩) (fun hHeld => ?_)
                    clear hK
                    try simp only [Act.put, List.setIfInBounds_toArray, List.set_cons_zero, List.set_cons_succ]
                    refine wpAnyH_take (i := 10) (oi := { dst := some 13, op := Op.assign (Operand.tmp 296), type := 46, pos := "ref.go:150", after := #[{ on := 9, ground := Ground.data }, { on := 9, ground := Ground.chain }, { on := 0, ground := Ground.phase }, { on := 1, ground := Ground.phase }, { on := 2, ground := Ground.phase }, { on := 3, ground := Ground.phase }, { on := 4, ground := Ground.phase }, { on := 5, ground := Ground.phase }, { on := 6, ground := Ground.phase }, { on := 7, ground := Ground.phase }, { on := 8, ground := Ground.phase }, { on := 9, ground := Ground.phase }], guard := none }) (v := (.slice (some ⟨gA, 0, none⟩) 3 cp)) rfl (by kernel_rfl) (by kernel_rfl) (by kernel_rfl) (fun _ _ _ h => h) (Or.inl ⟨by rfl, ?_⟩) (by assumption) ?_
                    · intro w' hSw
                      go_simp
                    simp only [Act.put, List.setIfInBounds_toArray, List.set_cons_zero, List.set_cons_succ]
                    refine wpAnyH_done (by kernel_rfl) ?_ _
                    clear hHeld
                    by_cases hx : x = 0
                    · subst hx
                      go_wp2_with (first | (refine wpList_load_row rfl 42 (.tmp 12) rfl gN rfl 42 n3.vs (0, 0) _ (HX4.out.at_ 4 rfl) Tryz.underlying42 rfl i20 ?_) | (refine wpList_store_row rfl 42 (.tmp 8) (.tmp 301) rfl (w.heap.size + 1 + 1) n3.vs rfl rfl 42 s0.vs (HX4.out.at_ 5 rfl) i20 rfl (Stt.vs_one _) ?_) | fail)
                      have HF := Lib.hid (HX4.out.row 5 rfl n3.vs)
                      refine ret_do rfl rfl rfl rfl rfl (HF.out.at_ 5 rfl) ?_
                      exact RDoP.yes HF.out HR0.out (.inl ⟨by rw [TC.out], by rw [TC.out]; exact HL.out, rfl⟩) (by rw [BH.out, mvP_33 HO.out, ← HN3.out, HN2.out, ← HP.out, HN1.out, IntKind.wrap_u64]; rfl) (by rw [evs_ret TC.out (by decide) (goe_33 HO.out), N3P.out]) (by rw [← HN3.out, HN2.out, IntKind.wrap_u64]; exact Stt.set_wf (s := ({ n1 with pc := v } : Stt)) ⟨NW.out.r, load_v HOKM.out HL.out⟩ 4 (W_mod _)) (rd3 (HF.out.at_ 0 rfl)) (by omega)
                    · have hxx : (x != 0) = true := by simpa using hx
                      have HXX := Lib.hid hx
                      clear hx
                      go_wp2_with (first | (refine wpList_load_row rfl 42 (.tmp 4) rfl w.heap.size rfl 42 s.vs (0, 0) _ (HX4.out.at_ 7 rfl) Tryz.underlying42 rfl i20 ?_) | (refine wpList_store_row rfl 42 (.tmp 8) (.tmp 299) rfl (w.heap.size + 1 + 1) s.vs rfl rfl 42 s0.vs (HX4.out.at_ 5 rfl) i20 rfl (Stt.vs_one _) ?_) | fail)
                      have HF := Lib.hid (HX4.out.row 5 rfl s.vs)
                      refine ret_do rfl rfl rfl rfl rfl (HF.out.at_ 5 rfl) ?_
                      exact RDoP.err HS.out HF.out HR0.out (.inl ⟨by rw [TC.out], by rw [TC.out]; exact HL.out, rfl⟩) HXX.out
  · go_wp2_with (first | (refine wpList_load_row rfl 42 (.tmp 4) rfl w.heap.size rfl 42 s.vs (0, 0) _ (HE1.out.at_ 2 rfl) Tryz.underlying42 rfl i20 ?_) | (refine wpList_store_row rfl 42 (.tmp 8) (.tmp 41) rfl (w.heap.size + 1 + 1) s.vs rfl rfl 42 s0.vs (HE1.out.at_ 0 rfl) i20 rfl (Stt.vs_one _) ?_) | fail)
    exact ret_do rfl rfl rfl rfl rfl ((HE1.out.row 0 rfl s.vs).at_ 0 rfl) (RDoP.no HS.out (HE1.out.row 0 rfl s.vs) (.inl ⟨by rw [ref_chk HCK.out]; decide, rfl, rfl, rfl, (ref_chk HCK.out).symm⟩))
end
end Sp
end Go.Proofs.YtikbnfhnimjmmaaGreatDoor
