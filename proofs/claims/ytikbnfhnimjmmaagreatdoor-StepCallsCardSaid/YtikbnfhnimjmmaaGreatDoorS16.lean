/- What the statements of step share: states that lie in blocks beside a memory; events compared; the chapter's example. | The chapter's example, as each statement of step asks it first; a stack. | States, rows of registers compared; what the sums' instructions make. -/
import Derived.Test.YtikbnfhnimjmmaaGreatDoorS14
import Derived.Deep.WholeRow
import Derived.Great.BuildSlice
import Derived.DeepKeys
namespace Go.Proofs.YtikbnfhnimjmmaaGreatDoor
open Go Go.RowKit Go.Shelf
namespace Sp
open Wd Nt Mm Is
set_option linter.unusedVariables false
set_option linter.unusedSimpArgs false
theorem nd_inj {l : List Nat} (h : l.Nodup) {i j a : Nat} (hi : l[i]? = some a) (hj : l[j]? = some a) : i = j := by
  obtain ⟨h1, h2⟩ := List.getElem?_eq_some_iff.1 hi
  obtain ⟨h3, h4⟩ := List.getElem?_eq_some_iff.1 hj
  have hp := List.pairwise_iff_getElem.1 h
  rcases Nat.lt_trichotomy i j with hlt | rfl | hlt
  · exact absurd (h2.trans h4.symm) (hp i j h1 h3 hlt)
  · rfl
  · exact absurd (h4.trans h2.symm) (hp j i h3 h1 hlt)
theorem set_same {l : List Nat} {k a : Nat} (h : l[k]? = some a) : l.set k a = l := by
  apply List.ext_getElem?
  intro j
  by_cases hj : j = k
  · subst hj; rw [List.getElem?_set_self (List.getElem?_eq_some_iff.1 h).1, h]
  · rw [List.getElem?_set_ne (fun e => hj e.symm)]
/-- a memory, and states in blocks behind it -/
structure Env (R : World → Nat → Nat → Value → List Reg → Prop) (w0 : World) (B E : Nat) (P : Value) (M : List Reg) (bl : List (Nat × Stt)) (W : World) : Prop where
  mem : R W B E P M
  tab : Tab W
  lo : w0.heap.size ≤ B
  hi : B ≤ E
  tb : 0 < B
  below : Below w0.heap.size w0 W
  bk : ∀ p ∈ bl, E ≤ p.1 ∧ Bk W p.1 42 p.2.vs
  nd : (bl.map (·.1)).Nodup
section
variable {R : World → Nat → Nat → Value → List Reg → Prop} {w0 W X : World} {B E : Nat} {P : Value} {M : List Reg} {bl : List (Nat × Stt)}
theorem Env.at_ (h : Env R w0 B E P M bl W) (k : Nat) {g : Nat} {s : Stt} (hk : bl[k]? = some (g, s)) : Bk W g 42 s.vs := (h.bk _ (List.mem_of_getElem? hk)).2
theorem Env.kp (mc : MemD R) (h : Env R w0 B E P M bl W) (hb : Below W.heap.size W X) : Env R w0 B E P M bl X :=
  ⟨(mc.below (Lib.hid h.mem) hb).out, h.tab.keep hb, h.lo, h.hi, h.tb, bel_trans h.below hb, fun p hp => ⟨(h.bk p hp).1, (h.bk p hp).2.below hb (h.bk p hp).2.lt⟩, h.nd⟩
theorem Env.store (h : Env R w0 B E P M bl W) {M' : List Reg} (hk : Kp B E W X) (hr : R X B E P M') : Env R w0 B E P M' bl X :=
  ⟨hr, Tab.kp h.tab hk h.tb, h.lo, h.hi, h.tb, h.below.trans ((hk.wide h.lo (Nat.le_refl _)).below h.below.size), fun p hp => ⟨(h.bk p hp).1, hk.bk (h.bk p hp).2 (.inr (h.bk p hp).1)⟩, h.nd⟩
theorem Env.alloc (mc : MemD R) (h : Env R w0 B E P M bl W) (n : Stt) : Env R w0 B E P M ((W.heap.size, n) :: bl) (W.alloc (.cells n.vs 42)) := by
  have h1 := h.kp mc (bel_alloc (.cells n.vs 42))
  have hE := (mc.shape h.mem).2.2.2.2.2
  refine ⟨h1.mem, h1.tab, h1.lo, h1.hi, h1.tb, h1.below, fun p hp => ?_, ?_⟩
  · rcases List.mem_cons.1 hp with rfl | hp
    · exact ⟨hE, Bk.new _ _ _⟩
    · exact h1.bk p hp
  · rw [List.map_cons, List.nodup_cons]
    refine ⟨fun hm => ?_, h.nd⟩
    obtain ⟨p, hp, hq⟩ := List.mem_map.1 hm
    have := (h.bk p hp).2.lt
    omega
/-- one block of them is turned, nothing else -/
theorem Env.put (mc : MemD R) (h : Env R w0 B E P M bl W) (k : Nat) {g : Nat} {s n : Stt} (hk : bl[k]? = some (g, s)) (hw : Kp g (g + 1) W X) (hb : Bk X g 42 n.vs) : Env R w0 B E P M (bl.set k (g, n)) X := by
  have hg := (h.bk _ (List.mem_of_getElem? hk)).1
  have hlo := h.lo
  have hhi := h.hi
  have htb := h.tb
  have hwb : Below w0.heap.size W X := ⟨hw.os, hw.tape, hw.output, hw.size, fun i hi => hw.blk i (Nat.lt_of_lt_of_le hi h.below.size) (.inl (by omega))⟩
  refine ⟨mc.keep h.mem hw (.inl hg), Tab.kp h.tab hw (by omega), h.lo, h.hi, h.tb, h.below.trans hwb, fun p hp => ?_, ?_⟩
  · obtain ⟨j, hj⟩ := List.mem_iff_getElem?.1 hp
    by_cases hjk : j = k
    · subst hjk
      rw [List.getElem?_set_self (List.getElem?_eq_some_iff.1 hk).1] at hj
      cases hj
      exact ⟨hg, hb⟩
    · rw [List.getElem?_set_ne (fun e => hjk e.symm)] at hj
      have h2 := h.bk p (List.mem_of_getElem? hj)
      refine ⟨h2.1, hw.bk h2.2 ?_⟩
      have hne : p.1 ≠ g := fun e => by
        have h3 : (bl.map (·.1))[j]? = some g := by rw [List.getElem?_map, hj]; exact congrArg some e
        have h4 : (bl.map (·.1))[k]? = some g := by rw [List.getElem?_map, hk]; rfl
        exact hjk (nd_inj h.nd h3 h4)
      omega
  · have : (bl.set k (g, n)).map (·.1) = bl.map (·.1) := by
      rw [List.map_set]
      exact set_same (by rw [List.getElem?_map, hk]; rfl)
    rw [this]; exact h.nd
theorem Env.row (mc : MemD R) (h : Env R w0 B E P M bl W) (k : Nat) {g : Nat} {s : Stt} (hk : bl[k]? = some (g, s)) (n : Stt) : Env R w0 B E P M (bl.set k (g, n)) (W.setRow g n.vs) :=
  h.put mc k hk (kp_row W g n.vs) (bk_row (h.at_ k hk))
theorem kp_cell (X : World) (g j : Nat) (v : Value) : Kp g (g + 1) X (X.setCell ⟨g, j, none⟩ v) :=
  ⟨rfl, rfl, rfl, by rw [World.size_setCell]; exact Nat.le_refl _, fun i hi ho => Below.heap_setCell X _ _ _ (by show i ≠ g; omega)⟩
theorem Env.reg (mc : MemD R) (h : Env R w0 B E P M bl W) (k : Nat) {g : Nat} {s : Stt} (hk : bl[k]? = some (g, s)) {d : Nat} (hd : d < 16) (v : Int) : Env R w0 B E P M (bl.set k (g, s.set d v)) (W.setCell ⟨g, d, none⟩ (.int .u64 v)) :=
  h.put mc k hk (kp_cell W g d _) (by rw [← s.vs_set hd v]; exact (h.at_ k hk).set_ d _)
theorem Env.drew (mc : MemD R) (h : Env R w0 B E P M bl W) : Env R w0 B E P M bl W.drew := h.kp mc (Below.drew (Below.refl _ _))
theorem Env.do_ (h : Env R w0 B E P M bl W) {M' : List Reg} (hk : Kp B E W X) (hr : R X B E P M') : Env R w0 B E P M' bl X := h.store hk hr
end
/-! ### rows of events compared -/
def nthE (es : List Ev) (k : Nat) : Ev := (es[k]?).getD ev0
theorem nthE_lt {es : List Ev} {k : Nat} (h : k < es.length) : es[k]? = some (nthE es k) := by unfold nthE; rw [List.getElem?_eq_getElem h]; rfl
theorem eq_of_nthE {xs ys : List Ev} (hl : xs.length = ys.length) (h : ∀ j, j < xs.length → nthE xs j = nthE ys j) : xs = ys := by
  apply List.ext_getElem?
  intro j
  rcases Nat.lt_or_ge j xs.length with hj | hj
  · rw [nthE_lt hj, nthE_lt (by omega), h j hj]
  · rw [List.getElem?_eq_none hj, List.getElem?_eq_none (by omega)]
theorem RdE.blk {w w' : World} {B n : Nat} {A : Option Addr} {es : List Ev} (h : RdE w B A n es) (hk : ∀ i, i < B → (∀ ad, A = some ad → ad.block = i → w'.heap[i]? = w.heap[i]?)) : RdE w' B A n es :=
  ⟨h.len, fun hn => by
    obtain ⟨ad, e, hb, hc⟩ := h.rd hn
    have hh := hk ad.block hb ad e rfl
    refine ⟨ad, e, hb, fun j v hv => ?_⟩
    have := hc j v hv
    exact ⟨(World.cell?_of_block (w := w) (a := ad.add (j * 2)) (by rw [Nt.block_add]; exact hh)).trans this.1, (World.cell?_of_block (w := w) (a := ⟨ad.block, (ad.add (j * 2)).off + 1, none⟩) hh).trans this.2⟩⟩
theorem RdE.below {w w' : World} {B n : Nat} {A : Option Addr} {es : List Ev} (h : RdE w B A n es) (hb : Below B w w') : RdE w' B A n es := h.blk (fun i hi _ _ _ => hb.block i hi)
theorem RdE.more {w : World} {B B' n : Nat} {A : Option Addr} {es : List Ev} (h : RdE w B A n es) (hb : B ≤ B') : RdE w B' A n es :=
  ⟨h.len, fun hn => by
    obtain ⟨ad, e, h1, hc⟩ := h.rd hn
    exact ⟨ad, e, by omega, hc⟩⟩
theorem RdE.at_ {w : World} {B n k : Nat} {A : Option Addr} {es : List Ev} (h : RdE w B A n es) (hk : k < n) : ∃ ad, A = some ad ∧ ad.block < B ∧ w.cell? (ad.add (k * 2)) = some (.int .i64 (nthE es k).k) ∧ w.cell? ⟨(ad.add (k * 2)).block, (ad.add (k * 2)).off + 1, none⟩ = some (.int .u64 (nthE es k).a) := by
  obtain ⟨ad, e, hb, hc⟩ := h.rd (by omega)
  obtain ⟨h1, h2⟩ := hc k _ (nthE_lt (by rw [h.len]; exact hk))
  exact ⟨ad, e, hb, h1, by rw [Nt.block_add]; exact h2⟩
set_option maxRecDepth 100000 in
set_option maxHeartbeats 2000000 in
theorem same_e (A B : Option Addr) (n c m d Ba Bb : Nat) (xs ys : List Ev) (w : World) (ha : RdE w Ba A n xs) (hb : RdE w Bb B m ys) (hn : n ≤ 1000000) (hm : m ≤ 1000000) :
    Calls Tryz.prog 23 #[.slice A n c, .slice B m d] w fun e w' => e = .returned (.bool (decide (xs = ys))) ∧ Below w.heap.size w w' := by
  by_cases hnm : n = m
  · subst hnm
    go_enter Tryz.func23, Tryz.ntmps23
    go_wp2_with fail
    go_loopw [5] (fun i wr => ∃ k q : Nat, k ≤ n ∧ i = .int .i64 k ∧ (∀ j, j < k → nthE xs j = nthE ys j) ∧ wr = w.drewN q) (fun i _ => n - (intOf i).toNat)
    case atStart => exact ⟨0, 0, Nat.zero_le _, rfl, fun j hj => absurd hj (by omega), rfl⟩
    case round =>
      obtain ⟨k, q, hk, rfl, hz, rfl⟩ := hrel
      by_cases hlt : k < n
      · obtain ⟨ad, rfl, _, hca, hca2⟩ := ha.at_ hlt
        obtain ⟨bd, rfl, _, hcb, hcb2⟩ := hb.at_ hlt
        have hki : (k : Int) < (n : Int) := by omega
        have hne := evNe (nthE xs k).k (nthE xs k).a (nthE ys k).k (nthE ys k).a
        by_cases hx : nthE xs k = nthE ys k
        · have HZ : Hid (∀ j, j < k + 1 → nthE xs j = nthE ys j) := Lib.hid (fun j hj => by
            rcases Nat.lt_succ_iff_lt_or_eq.1 hj with h | rfl
            · exact hz j h
            · exact hx)
          have hne2 : ∀ W, (binOp .neq 51 (.agg #[.int .i64 (nthE xs k).k, .int .u64 (nthE xs k).a]) (.agg #[.int .i64 (nthE ys k).k, .int .u64 (nthE ys k).a])).run Tryz.prog W = .ok (.bool false) W := fun W => by rw [hne W]; simp [hx]
          clear hx hz ha hb hne
          generalize (nthE xs k).k = p1 at *
          generalize (nthE xs k).a = p2 at *
          generalize (nthE ys k).k = p3 at *
          generalize (nthE ys k).a = p4 at *
          go_wp2_with fail
          go_quiet (fail)
          go_wp2_with fail
          go_roundw
          case rel => exact ⟨k + 1, _, by omega, by go_num, HZ.out, rfl⟩
          case measure => (simp [intOf] <;> omega)
        · have hn2 : xs ≠ ys := fun e => hx (by rw [e])
          have HN := Lib.hid hn2
          have hne2 : ∀ W, (binOp .neq 51 (.agg #[.int .i64 (nthE xs k).k, .int .u64 (nthE xs k).a]) (.agg #[.int .i64 (nthE ys k).k, .int .u64 (nthE ys k).a])).run Tryz.prog W = .ok (.bool true) W := fun W => by
            rw [hne W]
            have : ({ k := (nthE xs k).k, a := (nthE xs k).a } : Ev) ≠ ⟨(nthE ys k).k, (nthE ys k).a⟩ := hx
            simp [this]
          clear hn2 hz ha hb hx hne
          generalize (nthE xs k).k = p1 at *
          generalize (nthE xs k).a = p2 at *
          generalize (nthE ys k).k = p3 at *
          generalize (nthE ys k).a = p4 at *
          go_wp2_with fail
          go_quiet (fail)
          go_wp2_with fail
          go_ret
          exact ⟨by rw [decide_eq_false HN.out]; rfl, below_drewN (below_drewN (Below.refl _ _) _) _⟩
      · obtain rfl : k = n := by omega
        have HE := Lib.hid (eq_of_nthE (by rw [ha.len, hb.len]) (fun j hj => hz j (by rw [ha.len] at hj; exact hj)))
        clear hz ha hb
        go_wp2_with fail
        go_ret
        exact ⟨by rw [decide_eq_true HE.out]; rfl, below_drewN (Below.refl _ _) _⟩
  · have hne : xs ≠ ys := fun e => hnm (by rw [← ha.len, ← hb.len, e])
    have HN := Lib.hid hne
    clear hne ha hb
    have hmi : ¬ ((n : Int) = (m : Int)) := by omega
    have hmb : ((n : Int) == (m : Int)) = false := by rw [beq_eq_false_iff_ne]; exact hmi
    have hmn : ((n : Int) != (m : Int)) = true := by rw [bne, hmb]; rfl
    go_enter Tryz.func23, Tryz.ntmps23
    go_wp2_with fail
    go_ret
    exact ⟨by rw [decide_eq_false HN.out]; rfl, Below.refl _ _⟩
end Sp
end Go.Proofs.YtikbnfhnimjmmaaGreatDoor
namespace Go.Proofs.YtikbnfhnimjmmaaGreatDoor
open Go Go.RowKit Go.Shelf
namespace Sp
open Wd Nt Mm Is
set_option linter.unusedVariables false
set_option linter.unusedSimpArgs false
section
variable {R : World → Nat → Nat → Value → List Reg → Prop}
theorem do_plain {s n : Stt} {i : Ins} {size x : Int} {M M' : List Reg} {l : List Ev} (h : DoO s i size M n l M' x) (h0 : refE i size = 0) (ht : tch s i = ev0) : x = 0 ∧ M' = M ∧ n = bh s i size 0 ∧ l = evs s i n := by
  rcases h with ⟨a, _⟩ | ⟨_, v, hx, hr⟩
  · exact absurd h0 a
  · rw [ht] at hx
    rcases hx with ⟨a, _⟩ | ⟨a, _⟩ | ⟨_, _, hv, hM, he⟩
    · exact absurd a (by decide)
    · exact absurd a (by decide)
    · subst hv
      rcases hr with ⟨a, _⟩ | ⟨_, hn, hl⟩
      · exact absurd he a
      · exact ⟨he, hM, hn, hl⟩
def NilP (R : World → Nat → Nat → Value → List Reg → Prop) (w : World) (e : Ending) (w' : World) : Prop := ∃ D, e = .returned (.tuple #[.pointer (some D), .int .i64 0]) ∧ R w' w.heap.size w'.heap.size (.pointer (some D)) [] ∧ Below w.heap.size w w'
theorem nil_at (w : World) : AtR w none 0 [] := RdR.nil
theorem nil_good : Mm.Good [] := by
  rw [Good.iff]
  exact ⟨by decide, (fun r hr => by cases hr), List.Pairwise.nil⟩
theorem new_nil (mc : MemD R) (w : World) : Calls Tryz.prog 27 #[.slice none 0 0] w (NilP R w) := by
  refine (mc.new none 0 0 [] w (Lib.hid (nil_at w)) (by decide)).mono ?_
  rintro e y ⟨hb, x, hx, hre⟩
  have hx0 : x = 0 := good_chk nil_good hx
  subst hx0
  rcases hre with ⟨a, _⟩ | ⟨_, p, M, he, hp, hr⟩
  · exact absurd rfl a
  · obtain rfl : M = [] := List.Perm.eq_nil hp
    obtain ⟨D, rfl⟩ := (mc.shape hr).1
    exact ⟨D, he, hr, hb⟩
theorem env_new (mc : MemD R) {w y : World} {p : Value} {M : List Reg} (hT : Tab w) (hb : Below w.heap.size w y) (hr : R y w.heap.size y.heap.size p M) : Env R w w.heap.size y.heap.size p M [] y :=
  ⟨hr, hT.keep hb, Nat.le_refl _, hb.size, hT.lt, hb, (fun p hp => by cases hp), List.nodup_nil⟩
theorem Env.from {w1 w : World} {B E : Nat} {P : Value} {M : List Reg} {bl : List (Nat × Stt)} {W : World} (h : Env R w B E P M bl W) (hb : Below w1.heap.size w1 w) : Env R w1 B E P M bl W :=
  ⟨h.mem, h.tab, Nat.le_trans hb.size h.lo, h.hi, h.tb, bel_trans hb h.below, h.bk, h.nd⟩
theorem rdE_lit1 (X : World) (k a : Int) : RdE (X.alloc (.cells #[.int .i64 k, .int .u64 a] 51)) (X.alloc (.cells #[.int .i64 k, .int .u64 a] 51)).heap.size (some ⟨X.heap.size, 0, none⟩) 1 [⟨k, a⟩] :=
  ⟨rfl, fun _ => ⟨_, rfl, by simp, fun j v hv => by
    have hj : j = 0 := by
      rcases Nat.eq_zero_or_pos j with h | h
      · exact h
      · rw [List.getElem?_eq_none (by simp; omega)] at hv; cases hv
    subst hj
    obtain rfl : (⟨k, a⟩ : Ev) = v := by simpa using hv
    have hb := Bk.new X 51 #[.int .i64 k, .int .u64 a]
    exact ⟨hb.cell 0, hb.cell 1⟩⟩⟩
def sL : Stt := ⟨fun k => if k = 0 then 18446744073709551615 else 0, 0, true, false, false⟩
def iL : Ins := ⟨7, 0, 1, 0, 0, 0, 0, 0, 0⟩
theorem sL_wf : sL.wf := ⟨fun k => by unfold sL; dsimp only; split <;> exact ⟨by omega, by omega⟩, by unfold sL W; decide⟩
theorem i64_small {z : Int} (h : 0 ≤ z ∧ z ≤ 100) : I64 z := by unfold I64; omega
theorem iL_wf : iL.wf := by constructor <;> exact i64_small (by decide)
theorem live_facts : (bh sL iL 3 0).r 0 = 0 ∧ (bh sL iL 3 0).cf = true ∧ (bh sL iL 3 0).ov = false ∧ (bh sL iL 3 0).zf = true ∧ (bh sL iL 3 0).pc = 3 ∧ evs sL iL (bh sL iL 3 0) = [⟨1, 0⟩] := ⟨rfl, rfl, rfl, rfl, rfl, rfl⟩
theorem built_s (P : List (Nat × Value)) (c : Array Value) (h : Tryz.prog.built 42 P = some c) {ops : Array Oper} {rest : List Oper} {o : Oper} {a : Act} {w : World} {Q : Exit → Act → World → Prop} (parts : Array (Nat × Operand)) (d : Option Tmp) (hg : o.guard = none) (ho : o.op = .build 42 parts) (hd : o.dst = d) (hp : (parts.map fun (i, x) => (i, a.eval x)).toList = P) (K : wpList Tryz.prog ops Q rest (a.put d (.agg c)) w) : wpList Tryz.prog ops Q (o :: rest) a w :=
  wpList_buildTo hg 42 parts ho d hd c (by rw [hp]; exact h) K
def sC : Stt := ⟨fun _ => 0, 0, true, false, false⟩
theorem sC_one : (#[.int .u64 0, .int .u64 0, .int .u64 0, .int .u64 0, .int .u64 0, .int .u64 0, .int .u64 0, .int .u64 0, .int .u64 0, .int .u64 0, .int .u64 0, .int .u64 0, .int .u64 0, .int .u64 0, .int .u64 0, .int .u64 0, .int .u64 0, .bool true, .bool false, .bool false] : Array Value).all (·.oneCell') = true := sC.vs_one
theorem sC_size : s0.vs.size = (#[.int .u64 0, .int .u64 0, .int .u64 0, .int .u64 0, .int .u64 0, .int .u64 0, .int .u64 0, .int .u64 0, .int .u64 0, .int .u64 0, .int .u64 0, .int .u64 0, .int .u64 0, .int .u64 0, .int .u64 0, .int .u64 0, .int .u64 0, .bool true, .bool false, .bool false] : Array Value).size := rfl
theorem sC_built : Tryz.prog.built 42 [(2, .bool true)] = some #[.int .u64 0, .int .u64 0, .int .u64 0, .int .u64 0, .int .u64 0, .int .u64 0, .int .u64 0, .int .u64 0, .int .u64 0, .int .u64 0, .int .u64 0, .int .u64 0, .int .u64 0, .int .u64 0, .int .u64 0, .int .u64 0, .int .u64 0, .bool true, .bool false, .bool false] := by kernel_rfl
set_option maxRecDepth 100000 in
set_option maxHeartbeats 4000000 in
theorem slives_c (mc : MemD R) (w : World) (hT : Tab w) : Calls Tryz.prog 20 #[] w fun e w' => e = .returned (.bool true) ∧ Below w.heap.size w w' := by
  have KN := Lib.hid (new_nil mc w)
  have HT := Lib.hid hT
  clear hT
  go_enter Tryz.func20, Tryz.ntmps20
  go_upto_region 4 with (first | (go_at_call 27; refine KN.out.mono ?_; rintro e y ⟨D, rfl, hr, hb⟩; have HE := Lib.hid (env_new mc HT.out hb hr); clear hb hr) | (refine built_s _ _ sC_built #[(2, .const (.bool true))] (some 11) rfl rfl rfl (by kernel_rfl) ?_) | (refine wpList_store_row rfl 42 (.tmp 3) (.tmp 11) rfl y.heap.size _ rfl rfl 42 s0.vs (Bk.new y 42 s0.vs) i20 sC_size sC_one ?_; rw [World.setRow_alloc_new]) | fail)
  clear KN HT
  have HE1 := Lib.hid (HE.out.alloc mc sL)
  change Code.wp _ _ _ _ (y.alloc (.cells sL.vs 42))
  generalize y.heap.size = E at *
  generalize World.alloc _ _ = W1 at *
  clear HE
  have KD := Lib.hid (do_l mc (Lib.hid HE1.out.mem) sL sL_wf iL iL_wf 3 HE1.out.tab HE1.out.tb)
  have HP := Lib.hid (fun n l M' x h => do_plain (s := sL) (i := iL) (size := 3) (n := n) (l := l) (M := []) (M' := M') (x := x) h rfl rfl)
  have HF := Lib.hid live_facts
  generalize sL = s at *
  go_upto_region 5 with (first | (refine wpList_load_row rfl 42 (.tmp 3) rfl E rfl 42 s.vs (0, 0) _ (HE1.out.at_ 0 rfl) Tryz.underlying42 rfl i20 ?_) | (go_at_call 22; refine KD.out.mono ?_; rintro e z ⟨hk, n, l, M', x, A, k, c, rfl, hd, hn, hr, hR, hkc, hc3, hlo⟩; obtain ⟨rfl, rfl, hn', hl'⟩ := HP.out _ _ _ _ hd; have HE2 := Lib.hid (HE1.out.store hk hr); have HN := Lib.hid hn'; have HL := Lib.hid hl'; have HKC := Lib.hid hkc; have HC3 := Lib.hid hc3; clear hk hd hn hr hkc hc3 hlo hn' hl' KD HE1) | (refine wpList_store_row rfl 42 (.tmp 4) (.tmp 19) rfl z.heap.size n.vs rfl rfl 42 s0.vs (Bk.new z 42 s0.vs) i20 rfl n.vs_one ?_; rw [World.setRow_alloc_new]) | fail)
  have HR := hR
  obtain ⟨f0, f1, f2, f3, f4, f5⟩ := HF.out
  rw [← HN.out] at f0 f1 f2 f3 f4 f5
  rw [← HL.out] at f5
  have HE3 := Lib.hid (HE2.out.alloc mc n)
  have HRL := Lib.hid ((hR.out.below (bel_alloc (.cells n.vs 42))).more (Nat.le_of_lt (show z.heap.size < (z.alloc (.cells n.vs 42)).heap.size by simp)))
  have c0 : (z.alloc (.cells n.vs 42)).cell? ⟨z.heap.size, 0, none⟩ = some (.int .u64 0) := by rw [← f0]; exact (HE3.out.at_ 0 rfl).cell 0
  have c16 : (z.alloc (.cells n.vs 42)).cell? ⟨z.heap.size, 16, none⟩ = some (.int .u64 3) := by rw [← f4]; exact (HE3.out.at_ 0 rfl).cell 16
  have c17 : (z.alloc (.cells n.vs 42)).cell? ⟨z.heap.size, 17, none⟩ = some (.bool true) := by rw [← f1]; exact (HE3.out.at_ 0 rfl).cell 17
  have c18 : (z.alloc (.cells n.vs 42)).cell? ⟨z.heap.size, 18, none⟩ = some (.bool false) := by rw [← f2]; exact (HE3.out.at_ 0 rfl).cell 18
  have c19 : (z.alloc (.cells n.vs 42)).cell? ⟨z.heap.size, 19, none⟩ = some (.bool true) := by rw [← f3]; exact (HE3.out.at_ 0 rfl).cell 19
  have HF5 := Lib.hid f5
  generalize z.heap.size = g4 at *
  generalize World.alloc _ _ = V at *
  clear f0 f1 f2 f3 f4 f5 HF HN HL hR HR HE2 HP
  have KS : Hid (Calls Tryz.prog 23 #[.slice A k c, .slice (some ⟨V.heap.size, 0, none⟩) 1 1] (V.alloc (.cells #[.int .i64 1, .int .u64 0] 51)) fun e w' => e = .returned (.bool true) ∧ Below (V.alloc (.cells #[.int .i64 1, .int .u64 0] 51)).heap.size (V.alloc (.cells #[.int .i64 1, .int .u64 0] 51)) w') := Lib.hid (by
    have h := same_e A (some ⟨V.heap.size, 0, none⟩) k c 1 1 _ _ l [⟨1, 0⟩] (V.alloc (.cells #[.int .i64 1, .int .u64 0] 51)) (HRL.out.below (bel_alloc (.cells #[.int .i64 1, .int .u64 0] 51))) (rdE_lit1 V 1 0) (by have := HKC.out; have := HC3.out; omega) (by omega)
    rw [decide_eq_true HF5.out] at h
    exact h)
  have HB := Lib.hid HE3.out.below
  clear HRL HE3 HF5
  go_wp2_with (first | (go_at_call 23; refine KS.out.mono ?_; rintro e u ⟨rfl, hb⟩; have HB2 := Lib.hid (bel_tr (bel_tr HB.out (bel_alloc _)) hb); clear hb) | fail)
  go_ret
  exact ⟨rfl, HB2.out⟩
end
end Sp
end Go.Proofs.YtikbnfhnimjmmaaGreatDoor
namespace Go.Proofs.YtikbnfhnimjmmaaGreatDoor
open Go Go.RowKit Go.Shelf
namespace Sp
open Wd Nt Mm Is
set_option linter.unusedVariables false
set_option linter.unusedSimpArgs false
def Stt.rs (s : Stt) : List Value := [.int .u64 (s.r 0), .int .u64 (s.r 1), .int .u64 (s.r 2), .int .u64 (s.r 3), .int .u64 (s.r 4), .int .u64 (s.r 5), .int .u64 (s.r 6), .int .u64 (s.r 7), .int .u64 (s.r 8), .int .u64 (s.r 9), .int .u64 (s.r 10), .int .u64 (s.r 11), .int .u64 (s.r 12), .int .u64 (s.r 13), .int .u64 (s.r 14), .int .u64 (s.r 15)]
def Stt.rl (s : Stt) : List Lit := [.int .u64 (s.r 0), .int .u64 (s.r 1), .int .u64 (s.r 2), .int .u64 (s.r 3), .int .u64 (s.r 4), .int .u64 (s.r 5), .int .u64 (s.r 6), .int .u64 (s.r 7), .int .u64 (s.r 8), .int .u64 (s.r 9), .int .u64 (s.r 10), .int .u64 (s.r 11), .int .u64 (s.r 12), .int .u64 (s.r 13), .int .u64 (s.r 14), .int .u64 (s.r 15)]
theorem key_r : Tryz.prog.keyTypeAt 3 40 = true := by kernel_rfl
theorem key_s : Tryz.prog.keyTypeAt 4 42 = true := by kernel_rfl
theorem form_r (s : Stt) : (Value.agg s.rs.toArray).formed Tryz.prog 40 = true := by kernel_rfl
theorem form_s (s : Stt) : (Value.agg s.vs).formed Tryz.prog 42 = true := by kernel_rfl
theorem wfW {a : Int} (h : W a) : (Lit.int .u64 a).wf = true := by
  obtain ⟨h0, h1⟩ := h
  simp [Lit.wf, IntKind.min, IntKind.max, IntKind.signed, IntKind.bits]; omega
theorem cells_w : Tryz.prog.cellsOf 39 = 1 := by kernel_rfl
theorem cells_r : Tryz.prog.cellsOf 40 = 16 := by kernel_rfl
theorem cells_s : Tryz.prog.cellsOf 42 = 20 := by kernel_rfl
theorem cells_b : Tryz.prog.cellsOf 4 = 1 := by kernel_rfl
theorem lits_w {a : Int} (h : W a) (D : Nat) : Tryz.prog.keyLits (D + 1) 39 [.int .u64 a] = some [.int .u64 a] := by
  simp [Program.keyLits, Tryz.underlying39, wfW h]
theorem lits_b (a : Bool) (D : Nat) : Tryz.prog.keyLits (D + 1) 4 [.bool a] = some [.bool a] := by
  simp [Program.keyLits, Tryz.underlying4]
set_option maxHeartbeats 1000000 in
theorem lits_r {s : Stt} (h : s.wf) (D : Nat) : Tryz.prog.keyLits (D + 2) 40 s.rs = some s.rl := by
  have e : s.rs.length = Tryz.prog.cellsOf 40 := by rw [cells_r]; rfl
  unfold Program.keyLits
  simp only [Tryz.underlying40]
  rw [if_pos e, cells_w]
  show Option.map List.flatten (List.mapM _ [0, 1, 2, 3, 4, 5, 6, 7, 8, 9, 10, 11, 12, 13, 14, 15]) = _
  simp only [List.mapM_cons, List.mapM_nil, Stt.rs, List.drop, List.take, Nat.mul_one, lits_w (h.r _), bind, pure, Option.bind, Option.map_some]
  rfl
set_option maxHeartbeats 1000000 in
theorem lits_s {s : Stt} (h : s.wf) (D : Nat) : Tryz.prog.keyLits (D + 3) 42 s.vs.toList = some (s.rl ++ [.int .u64 s.pc, .bool s.cf, .bool s.ov, .bool s.zf]) := by
  have e : s.vs.toList.length = Tryz.prog.cellsOf 42 := by rw [cells_s]; rfl
  unfold Program.keyLits
  simp only [Tryz.underlying42]
  rw [if_pos ⟨e, by kernel_rfl⟩]
  simp only [List.mapM_cons, List.mapM_nil, cells_r, cells_w, cells_b]
  rw [show List.take 16 (List.drop 0 s.vs.toList) = s.rs from rfl, show List.take 1 (List.drop 16 s.vs.toList) = [.int .u64 s.pc] from rfl, show List.take 1 (List.drop 17 s.vs.toList) = [.bool s.cf] from rfl, show List.take 1 (List.drop 18 s.vs.toList) = [.bool s.ov] from rfl, show List.take 1 (List.drop 19 s.vs.toList) = [.bool s.zf] from rfl]
  rw [lits_r h, lits_w h.pc, lits_b, lits_b, lits_b]
  rfl
theorem rl_inj {s t : Stt} (h : s.rl = t.rl) : s.rs = t.rs := by
  simp only [Stt.rl, List.cons.injEq, Lit.int.injEq, true_and, and_true] at h
  simp only [Stt.rs, h]
theorem rs_ext {s t : Stt} (h : ∀ k, k < 16 → s.r k = t.r k) : s.rs = t.rs := by
  simp only [Stt.rs, h 0 (by omega), h 1 (by omega), h 2 (by omega), h 3 (by omega), h 4 (by omega), h 5 (by omega), h 6 (by omega), h 7 (by omega), h 8 (by omega), h 9 (by omega), h 10 (by omega), h 11 (by omega), h 12 (by omega), h 13 (by omega), h 14 (by omega), h 15 (by omega)]
theorem rs_r {s t : Stt} (h : s.rs = t.rs) : ∀ k, k < 16 → s.r k = t.r k := by
  intro k hk
  simp only [Stt.rs, List.cons.injEq, Value.int.injEq, true_and, and_true] at h
  obtain ⟨h0, h1, h2, h3, h4, h5, h6, h7, h8, h9, h10, h11, h12, h13, h14, h15⟩ := h
  rcases lt16 hk with rfl | rfl | rfl | rfl | rfl | rfl | rfl | rfl | rfl | rfl | rfl | rfl | rfl | rfl | rfl | rfl <;> assumption
/-- two rows of registers compared -/
theorem regEq {s t : Stt} (hs : s.wf) (ht : t.wf) (W : World) : ∃ r : Bool, (binOp .eql 40 (.agg s.rs.toArray) (.agg t.rs.toArray)).run Tryz.prog W = .ok (.bool r) W ∧ (r = true ↔ s.rs = t.rs) := by
  obtain ⟨r, h1, h2⟩ := run_equalIn_deep (P := Tryz.prog) 9997 3 40 key_r W 3 3 _ _ _ _ (form_r s) (form_r t) (lits_r hs 1) (lits_r ht 1)
  refine ⟨r, ?_, h2.trans ⟨rl_inj, fun e => ?_⟩⟩
  · rw [run_eql_struct, h1]; rfl
  · simp only [Stt.rs, List.cons.injEq, Value.int.injEq, true_and, and_true] at e
    simp only [Stt.rl, e]
theorem regIn {s t : Stt} (hs : s.wf) (ht : t.wf) (W : World) : ∃ r : Bool, (Op.equalIn 10000 40 (.agg s.rs.toArray) (.agg t.rs.toArray)).run Tryz.prog W = .ok r W ∧ (r = true ↔ s.rs = t.rs) := by
  obtain ⟨r, h1, h2⟩ := run_equalIn_deep (P := Tryz.prog) 9997 3 40 key_r W 3 3 _ _ _ _ (form_r s) (form_r t) (lits_r hs 1) (lits_r ht 1)
  refine ⟨r, h1, h2.trans ⟨rl_inj, fun e => ?_⟩⟩
  simp only [Stt.rs, List.cons.injEq, Value.int.injEq, true_and, and_true] at e
  simp only [Stt.rl, e]
/-- two states compared -/
theorem sttEq {s t : Stt} (hs : s.wf) (ht : t.wf) (W : World) : ∃ r : Bool, (binOp .eql 42 (.agg s.vs) (.agg t.vs)).run Tryz.prog W = .ok (.bool r) W ∧ (r = true ↔ s.vs = t.vs) := by
  obtain ⟨r, h1, h2⟩ := run_equalIn_deep (P := Tryz.prog) 9996 4 42 key_s W 4 4 _ _ _ _ (form_s s) (form_s t) (lits_s hs 1) (lits_s ht 1)
  refine ⟨r, ?_, h2.trans ⟨fun e => ?_, fun e => ?_⟩⟩
  · rw [run_eql_struct, h1]; rfl
  · simp only [Stt.rl, List.cons_append, List.nil_append, List.cons.injEq, Lit.int.injEq, Lit.bool.injEq, true_and, and_true] at e
    simp only [Stt.vs, e]
  · have := Stt.vs_inj e
    obtain ⟨hr, hp, hc, ho, hz⟩ := this
    simp only [Stt.rl, hp, hc, ho, hz, hr 0 (by omega), hr 1 (by omega), hr 2 (by omega), hr 3 (by omega), hr 4 (by omega), hr 5 (by omega), hr 6 (by omega), hr 7 (by omega), hr 8 (by omega), hr 9 (by omega), hr 10 (by omega), hr 11 (by omega), hr 12 (by omega), hr 13 (by omega), hr 14 (by omega), hr 15 (by omega)]
/-- a block's first cells are the registers -/
theorem rs_load {X : World} {g : Nat} {s : Stt} (h : Bk X g 42 s.vs) : (Instr.loadAt 40 (.pointer (some ⟨g, 0, none⟩))).run Tryz.prog X = .ok (.agg s.rs.toArray) X :=
  run_loadAt_mid X g 0 40 s.rs _ (fun j v hv => by
    have hj : j < 16 := by
      rcases Nat.lt_or_ge j 16 with h | h
      · exact h
      · rw [List.getElem?_eq_none (by show 16 ≤ j; exact h)] at hv; cases hv
    have e : s.vs[j]? = some v := by
      rw [s.vs_r hj]
      rw [← hv]
      rcases lt16 hj with rfl | rfl | rfl | rfl | rfl | rfl | rfl | rfl | rfl | rfl | rfl | rfl | rfl | rfl | rfl | rfl <;> rfl
    rw [Nat.zero_add]
    exact (h.cell j).trans e) Tryz.underlying40 rfl (by kernel_rfl)
/-- the same where a guard stands before it -/
theorem load_regs {P : Program} {ops : Array Oper} {rest : List Oper} {o : Oper} {a : Act} {w : World} {Q : Exit → Act → World → Prop} (hw : Region.wanted o (yielded ops a.tmps) = true) (ty : TypeId) (x : Operand) (ho : o.op = .load ty x) (p : Value) (hx : a.eval x = p) (v : Value)
    (hl : (Instr.loadAt ty p).run P w = .ok v w) (h : wpList P ops Q rest (a.put o.dst v) w) : wpList P ops Q (o :: rest) a w :=
  wpList_step fun K hK => by
    rw [if_pos hw]
    unfold Oper.wp execOp
    simp only [ho, hx, Sem.run_bind, hl, Sem.run_pure, Result.andThen_ok]
    exact hK _ _ h
theorem b1c (c : Bool) : b1 c = if c then 1 else 0 := by cases c <;> rfl
theorem sub_add {a b : Int} (ha : W a) (hb : W b) (c : Bool) : sub (add a b c) b c = a ∧ subO (add a b c) b c = addO a b c := by
  have h := b1_01 c
  unfold W at ha hb
  unfold sub add subO addO
  generalize b1 c = d at *
  refine ⟨by omega, ?_⟩
  rw [decide_eq_decide]; omega
def rg4 (a b c d : Int) (k : Nat) : Int := if k = 0 then a else if k = 1 then b else if k = 3 then c else if k = 6 then d else 0
def sum0 (a b c d : Int) (cr : Bool) : Stt := ⟨rg4 a b c d, 0, cr, false, false⟩
theorem sum0_wf {a b c d : Int} (ha : W a) (hb : W b) (hc : W c) (hd : W d) (cr : Bool) : (sum0 a b c d cr).wf := ⟨fun k => by
  unfold sum0 rg4
  dsimp only
  split
  · exact ha
  · split
    · exact hb
    · split
      · exact hc
      · split
        · exact hd
        · exact ⟨by decide, by decide⟩, (show W 0 from ⟨by decide, by decide⟩)⟩
def rr2 (op d s : Int) : Ins := ⟨op, d, s, 0, 0, 0, 0, 0, 0⟩
theorem rr2_wf {op d s : Int} (h : 0 ≤ op ∧ op ≤ 100) (hd : 0 ≤ d ∧ d ≤ 100) (hs : 0 ≤ s ∧ s ≤ 100) : (rr2 op d s).wf := by
  constructor <;> first | exact i64_small h | exact i64_small hd | exact i64_small hs | exact (i64_small (z := 0) (by decide) : I64 0)
theorem bh_adc (s : Stt) (d e : Nat) (z v : Int) : bh s (rr2 7 d e) z v = (({ s with pc := u64 (s.pc + u64 z) } : Stt).set d (add (s.r d) (s.r e) s.cf)).setF (flA (s.r d) (s.r e) s.cf) := rfl
theorem bh_sbb (s : Stt) (d e : Nat) (z v : Int) : bh s (rr2 9 d e) z v = (({ s with pc := u64 (s.pc + u64 z) } : Stt).set d (sub (s.r d) (s.r e) s.cf)).setF (flS (s.r d) (s.r e) s.cf) := rfl
theorem bh_adcx (s : Stt) (d e : Nat) (z v : Int) : bh s (rr2 20 d e) z v = (({ s with pc := u64 (s.pc + u64 z) } : Stt).set d (add (s.r d) (s.r e) s.cf)).setF { s.fl with c := addO (s.r d) (s.r e) s.cf } := rfl
theorem bh_adox (s : Stt) (d e : Nat) (z v : Int) : bh s (rr2 21 d e) z v = (({ s with pc := u64 (s.pc + u64 z) } : Stt).set d (add (s.r d) (s.r e) s.ov)).setF { s.fl with o := addO (s.r d) (s.r e) s.ov } := rfl
/-- limb by limb there and back -/
theorem sum_facts {a b c d : Int} (ha : W a) (hb : W b) (hc : W c) (hd : W d) (cr : Bool) (n1 n2 n3 n4 n5 n6 : Stt) (h1 : n1 = bh (sum0 a b c d cr) (rr2 7 0 3) 3 0) (h2 : n2 = bh n1 (rr2 7 1 6) 3 0)
    (h3 : n3 = bh { n2 with cf := cr } (rr2 9 0 3) 3 0) (h4 : n4 = bh n3 (rr2 9 1 6) 3 0) (h5 : n5 = bh (sum0 a b c d cr) (rr2 20 0 3) 6 0) (h6 : n6 = bh { sum0 a b c d cr with ov := cr, cf := false } (rr2 21 0 3) 6 0) :
    n4.rs = (sum0 a b c d cr).rs ∧ n4.cf = n2.cf ∧ n5.r 0 = n2.r 0 ∧ n6.r 0 = n5.r 0 ∧ n5.cf = n6.ov ∧ n6.cf = false ∧ n5.ov = (sum0 a b c d cr).ov := by
  have e0 := sub_add ha hc cr
  rw [show (rr2 7 0 3) = rr2 7 (0 : Nat) (3 : Nat) from rfl, bh_adc] at h1
  rw [show (rr2 7 1 6) = rr2 7 (1 : Nat) (6 : Nat) from rfl, bh_adc] at h2
  rw [show (rr2 9 0 3) = rr2 9 (0 : Nat) (3 : Nat) from rfl, bh_sbb] at h3
  rw [show (rr2 9 1 6) = rr2 9 (1 : Nat) (6 : Nat) from rfl, bh_sbb] at h4
  rw [show (rr2 20 0 3) = rr2 20 (0 : Nat) (3 : Nat) from rfl, bh_adcx] at h5
  rw [show (rr2 21 0 3) = rr2 21 (0 : Nat) (3 : Nat) from rfl, bh_adox] at h6
  subst h5 h6
  have r1 : n1.r 0 = add a c cr := by rw [h1]; rfl
  have r1b : ∀ k, k ≠ 0 → n1.r k = rg4 a b c d k := fun k hk => by rw [h1]; show (if k = 0 then _ else _) = _; rw [if_neg hk]; rfl
  have c1 : n1.cf = addO a c cr := by rw [h1]; rfl
  clear h1
  have e1 := sub_add hb hd n1.cf
  have r2 : n2.r 1 = add b d n1.cf := by rw [h2]; show add (n1.r 1) (n1.r 6) n1.cf = _; rw [r1b 1 (by decide), r1b 6 (by decide)]; rfl
  have r2b : ∀ k, k ≠ 1 → n2.r k = n1.r k := fun k hk => by rw [h2]; show (if k = 1 then _ else _) = _; rw [if_neg hk]
  have c2 : n2.cf = addO b d n1.cf := by rw [h2]; show addO (n1.r 1) (n1.r 6) n1.cf = _; rw [r1b 1 (by decide), r1b 6 (by decide)]; rfl
  clear h2
  have t3 : n2.r 3 = c := by rw [r2b 3 (by decide), r1b 3 (by decide)]; rfl
  have r3 : n3.r 0 = a := by rw [h3]; show sub (n2.r 0) (n2.r 3) cr = _; rw [r2b 0 (by decide), r1, t3]; exact e0.1
  have r3b : ∀ k, k ≠ 0 → n3.r k = n2.r k := fun k hk => by rw [h3]; show (if k = 0 then _ else _) = _; rw [if_neg hk]
  have c3 : n3.cf = n1.cf := by rw [h3, c1]; show subO (n2.r 0) (n2.r 3) cr = _; rw [r2b 0 (by decide), r1, t3]; exact e0.2
  clear h3
  have t6 : n3.r 6 = d := by rw [r3b 6 (by decide), r2b 6 (by decide), r1b 6 (by decide)]; rfl
  have t1 : n3.r 1 = add b d n1.cf := by rw [r3b 1 (by decide), r2]
  have r4 : n4.r 1 = b := by rw [h4]; show sub (n3.r 1) (n3.r 6) n3.cf = _; rw [t1, t6, c3]; exact e1.1
  have r4b : ∀ k, k ≠ 1 → n4.r k = n3.r k := fun k hk => by rw [h4]; show (if k = 1 then _ else _) = _; rw [if_neg hk]
  have c4 : n4.cf = n2.cf := by rw [h4, c2]; show subO (n3.r 1) (n3.r 6) n3.cf = _; rw [t1, t6, c3]; exact e1.2
  clear h4
  refine ⟨rs_ext fun k hk => ?_, c4, ?_, rfl, rfl, rfl, rfl⟩
  · by_cases k1 : k = 1
    · subst k1; rw [r4]; rfl
    · rw [r4b k k1]
      by_cases k0 : k = 0
      · subst k0; rw [r3]; rfl
      · rw [r3b k k0, r2b k k1, r1b k k0]; rfl
  · rw [r2b 0 (by decide), r1]; rfl
/-- a state that is built of its carry alone -/
def onlyC (c : Bool) : Stt := ⟨fun _ => 0, 0, c, false, false⟩
theorem onlyC_built (c : Bool) : Tryz.prog.built 42 [(2, .bool c)] = some #[.int .u64 0, .int .u64 0, .int .u64 0, .int .u64 0, .int .u64 0, .int .u64 0, .int .u64 0, .int .u64 0, .int .u64 0, .int .u64 0, .int .u64 0, .int .u64 0, .int .u64 0, .int .u64 0, .int .u64 0, .int .u64 0, .int .u64 0, .bool c, .bool false, .bool false] := by kernel_rfl
theorem onlyC_one (c : Bool) : (#[.int .u64 0, .int .u64 0, .int .u64 0, .int .u64 0, .int .u64 0, .int .u64 0, .int .u64 0, .int .u64 0, .int .u64 0, .int .u64 0, .int .u64 0, .int .u64 0, .int .u64 0, .int .u64 0, .int .u64 0, .int .u64 0, .int .u64 0, .bool c, .bool false, .bool false] : Array Value).all (·.oneCell') = true := (onlyC c).vs_one
theorem onlyC_size (c : Bool) : s0.vs.size = (#[.int .u64 0, .int .u64 0, .int .u64 0, .int .u64 0, .int .u64 0, .int .u64 0, .int .u64 0, .int .u64 0, .int .u64 0, .int .u64 0, .int .u64 0, .int .u64 0, .int .u64 0, .int .u64 0, .int .u64 0, .int .u64 0, .int .u64 0, .bool c, .bool false, .bool false] : Array Value).size := rfl
end Sp
end Go.Proofs.YtikbnfhnimjmmaaGreatDoor
