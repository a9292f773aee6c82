/- Plain: what a run's answer tells. | LightProg, and what it tells of a program. | Plain: a program's operations stand in another one, at other places, over other registers: they go alike. | Plain: a program twice over: what LimbParts asks. | Plain: a register that is not used, registers by other numbers: what LimbUnused asks. | A program of one's own in a block, operations put behind its own (for LimbParts, LimbUnused). | Rows cut; a program's registers, operations stored anew (for LimbUnused). | LimbUnused: a register that is not used, registers by other numbers: nothing is another. -/
import Derived.Test.YtfemoipbphianaaDoorMF
import Derived.Test.YtfemoipbphianaaDoorN1
import Derived.Test.YtfemoipbphianaaDoorM7
import Derived.Test.YtfemoipbphianaaDoorPB
import Derived.Test.YtfemoipbphianaaDoorSC
import Derived.Test.YtfemoipbphianaaDoorF4
import Derived.Test.YtfemoipbphianaaDoorN3
import Derived.BigQuiet
import Derived.StillTailTactics
namespace Go.Proofs.YtfemoipbphianaaDoor
open Go Go.RowKit
namespace Lb
open Wd Nt Gr
set_option linter.unusedVariables false
set_option linter.unusedSimpArgs false
theorem flt_11 (regs : Int) (bufs : List Bf) (s : Ah) (o : Op) : fltO regs bufs s o = 2 ∨ fltO regs bufs s o = 9 ∨ fltO regs bufs s o = 10 ∨ fltO regs bufs s o = 0 ∨ fltO regs bufs s o = 5 := by
  unfold fltO
  split
  · exact .inl rfl
  · split
    · exact .inr (.inl rfl)
    · split
      · exact .inr (.inr (.inl rfl))
      · split
        · exact .inr (.inr (.inr (.inl rfl)))
        · exact .inr (.inr (.inr (.inr rfl)))
theorem chkG_11 {regs : Int} {bufs : List Bf} : ∀ {ops : List Op} {s : Ah} {n : Nat}, (chkG regs bufs ops s n).2 ≠ 11
  | [], s, n => by unfold chkG; dsimp only; split <;> decide
  | o :: ops, s, n => by
    unfold chkG
    split
    · have := flt_11 regs bufs s o
      dsimp only
      omega
    · exact chkG_11
theorem chk_11 (p : Pg) : (chkP p).2 ≠ 11 := by
  unfold chkP
  split
  · unfold refP
    dsimp only
    split
    · decide
    · split <;> decide
  · exact chkG_11
structure Tells (p : Pg) (h : List (List Int)) (r : Ans) : Prop where
  e0 : r.er = 0 → r.ev.length = stepsP p ∧ r.out.length = p.bf.length ∧ ∀ (i : Nat) (b : Bf), p.bf[i]? = some b → ∃ y : List Int, r.out[i]? = some y ∧ (y.length : Int) = b.sz ∧ (b.kd = 1 → h[i]? = some y)
  e11 : r.er = 11 → r.ev.length < stepsP p
  en : r.er ≠ 0 → r.out = []
  ee : r.er ≠ 0 → r.er ≠ 11 → r.ev = []
  ev : ∀ e ∈ r.ev, GoodEv p e
  ol : ∀ y ∈ r.out, y.length ≤ 65536
theorem tells {p : Pg} (hp : p.wf) {h : List (List Int)} {r : Ans} (hr : RunP p h r) : Tells p h r := by
  unfold RunP at hr
  split at hr
  · rename_i hc
    subst hr
    exact ⟨fun e => absurd e hc, fun e => absurd e (chk_11 p), fun _ => rfl, fun _ _ => rfl, (fun e he => by cases he), (fun y hy => by cases hy)⟩
  rename_i hc
  have hc0 : (chkP p).2 = 0 := by simpa using hc
  have H := ok_of hc0
  have hst : stepsP p = evP p.op := by unfold stepsP; rw [if_pos hc0]
  split at hr
  · subst hr
    exact ⟨(fun e => by cases e), (fun e => by cases e), fun _ => rfl, fun _ _ => rfl, (fun e he => by cases he), (fun y hy => by cases hy)⟩
  rename_i h24
  split at hr
  · subst hr
    exact ⟨(fun e => by cases e), (fun e => by cases e), fun _ => rfl, fun _ _ => rfl, (fun e he => by cases he), (fun y hy => by cases hy)⟩
  rename_i hf
  have hf1 : fitP p.bf h = true := by simpa using hf
  obtain ⟨f, s, ⟨N, hrun⟩, rfl⟩ := hr
  obtain ⟨r1, r2⟩ := H.run2 (by omega) (s := st0 p h) rfl rfl hrun
  have hg := GoodS.run H hp (good_0 H hf1) hrun
  cases f
  · exact ⟨(fun e => by cases e), fun _ => by rw [hst]; exact r2 rfl, fun _ => rfl, (fun _ e => absurd rfl e), hg.ev, (fun y hy => by cases hy)⟩
  · refine ⟨fun _ => ⟨by rw [hst]; exact r1 rfl, hg.rl, hg.row⟩, (fun e => by cases e), (fun e => absurd rfl e), (fun e => absurd rfl e), hg.ev, fun y hy => ?_⟩
    obtain ⟨i, hi⟩ := List.mem_iff_getElem?.1 hy
    have hil := (List.getElem?_eq_some_iff.1 hi).1
    have hil2 : i < p.bf.length := by rw [← hg.rl]; exact hil
    obtain ⟨z, h1, h2, _⟩ := hg.row i _ (List.getElem?_eq_getElem hil2)
    have h3 : some z = some y := h1.symm.trans hi
    cases h3
    have := ((ref_zero H.ref).2.2.2.2 _ (List.getElem_mem hil2)).2.1
    omega
end Lb
end Go.Proofs.YtfemoipbphianaaDoor
namespace Go.Proofs.YtfemoipbphianaaDoor
open Go Go.RowKit Go.Sort Go.Shelf
namespace Lb
open Wd Nt Gr
set_option linter.unusedVariables false
set_option linter.unusedSimpArgs false
/-- with what it tells of the program -/
def LgP2 (p : Pg) (most : Int) (w : World) (e : Ending) (w' : World) : Prop := (∃ b, e = .returned (.bool b) ∧ (b = true → p.rg ≤ 100 ∧ p.bf.length ≤ 40 ∧ (p.op.length : Int) ≤ most)) ∧ Below w.heap.size w w'
set_option maxRecDepth 100000 in
set_option maxHeartbeats 4000000 in
theorem lightProg2_l (p : Pg) (hp : p.wf) (A X : Option Addr) (c d : Nat) (most : Int) (w : World) (hR : Rdr w w.heap.size A p.bf.length p.bf) :
    Calls Tryd.prog 23 #[pgV p A c X d, .int .i64 most] w (LgP2 p most w) := by
  unfold pgV at *
  have HB := Lib.hid (bel_al (w := w) (.cells #[.int .i64 p.rg, .slice A p.bf.length c, .slice X p.op.length d] 26))
  have HK := Lib.hid (Bk.new w 26 #[.int .i64 p.rg, .slice A p.bf.length c, .slice X p.op.length d])
  have HR := Lib.hid (hR.below HB.out)
  clear hR
  obtain ⟨W0, hW0⟩ : ∃ W0, W0 = w.alloc (.cells #[.int .i64 p.rg, .slice A p.bf.length c, .slice X p.op.length d] 26) := ⟨_, rfl⟩
  have HW0 := Lib.hid hW0
  rw [← hW0] at HB HK HR
  clear hW0
  go_enter Tryd.func23, Tryd.ntmps23
  go_wp2_with fail
  go_loopw [5, 6] (fun n i W => ∃ (k : Nat) (z : Int), k ≤ p.bf.length ∧ k ≤ 41 ∧ n = .int .i64 z ∧ i = .int .i64 (k : Int) ∧ Hid (W = W0)) (fun _ i _ => 41 - (intOf i).toNat)
  case atStart => exact ⟨0, 0, by omega, by omega, rfl, rfl, Lib.hid HW0.out.symm⟩
  case round =>
    obtain ⟨k, z, hk, hk41, rfl, rfl, HW⟩ := hrel
    have hw := HW.out
    rw [← hw] at HB HK HR
    clear hw
    obtain ⟨a0, a1, a2⟩ := c3 HK.out
    rcases Nat.lt_or_ge k p.bf.length with hlt | hge
    · have hki : (k : Int) < (p.bf.length : Int) := by omega
      have hk0 : (0 : Int) ≤ (k : Int) := by omega
      rcases Nat.lt_or_ge 40 k with h40 | h40
      · have h4 : ¬ (k : Int) ≤ 40 := by omega
        have g2 : ¬ (p.bf.length : Int) ≤ 40 := by omega
        (by_cases g1 : p.rg ≤ 100 <;> (go_wp2_with fail; go_ret; exact ⟨⟨_, rfl, fun h => by first | (cases h; done) | exact ⟨g1, by omega, g3⟩⟩, HB.out⟩))
      · have h4 : (k : Int) ≤ 40 := by omega
        obtain ⟨b, o, rfl, hblt, s0, s1, s2⟩ := bf_at HR.out (bfAt_some hlt)
        have ew : IntKind.i64.wrap ((k : Int) + 1) = ((k + 1 : Nat) : Int) := by rw [show (k : Int) + 1 = ((k + 1 : Nat) : Int) by omega]; exact IntWalk.i64_in _ (by omega)
        generalize bfAt p.bf (k : Int) = bb at *
        obtain ⟨sz, kd, sec⟩ := bb
        dsimp only at *
        by_cases h5 : 0 < sz
        · by_cases h6 : sz ≤ 65536
          · go_wp2_with fail
            go_roundw
            case rel => exact ⟨k + 1, _, by omega, by omega, rfl, by first | rfl | go_num, HW⟩
            case measure => (simp [intOf] <;> omega)
          · go_wp2_with fail
            go_roundw
            case rel => exact ⟨k + 1, _, by omega, by omega, rfl, by first | rfl | go_num, HW⟩
            case measure => (simp [intOf] <;> omega)
        · go_wp2_with fail
          go_roundw
          case rel => exact ⟨k + 1, _, by omega, by omega, rfl, by first | rfl | go_num, HW⟩
          case measure => (simp [intOf] <;> omega)
    · have hki : ¬ (k : Int) < (p.bf.length : Int) := by omega
      rcases Nat.lt_or_ge 40 p.bf.length with h40 | h40
      · have g2 : ¬ (p.bf.length : Int) ≤ 40 := by omega
        (by_cases g1 : p.rg ≤ 100 <;> (go_wp2_with fail; go_ret; exact ⟨⟨_, rfl, fun h => by first | (cases h; done) | exact ⟨g1, by omega, g3⟩⟩, HB.out⟩))
      · have g2 : (p.bf.length : Int) ≤ 40 := by omega
        (by_cases g1 : p.rg ≤ 100 <;> by_cases g3 : (p.op.length : Int) ≤ most <;> by_cases g4 : z ≤ 600 <;> (go_wp2_with fail; go_ret; exact ⟨⟨_, rfl, fun h => by first | (cases h; done) | exact ⟨g1, by omega, g3⟩⟩, HB.out⟩))
end Lb
end Go.Proofs.YtfemoipbphianaaDoor
namespace Go.Proofs.YtfemoipbphianaaDoor
open Go Go.RowKit
namespace Lb
open Wd Nt Gr
set_option linter.unusedVariables false
set_option linter.unusedSimpArgs false
/-- p's operation k stands in q at i k, its registers by other numbers; A k: the registers that are alike ahead of k; j k: where q is when p comes to k -/
structure Emb (p q : Pg) (ι j : Nat → Nat) (ρ : Int → Int) (ρn : Nat → Nat) (A : Nat → Nat → Prop) (z : Bool) : Prop where
  op : ∀ k o, p.op[k]? = some o → q.op[ι k]? = some ⟨o.k, ρ o.d, ρ o.e, ρ o.a, ρ o.b, ρ o.c, o.bf, o.im⟩
  neg : ρ (-1) = -1
  nat : ∀ i : Nat, i < 64 → ρ (i : Int) = (ρn i : Int)
  inj : ∀ i k, i < 64 → k < 64 → ρn i = ρn k → i = k
  small : ∀ k i, A k i → i < 64
  reads : ∀ k o, p.op[k]? = some o → o.k ≠ 16 → o.k ≠ 17 → (o.a = -1 ∨ A k o.a.toNat) ∧ (o.b = -1 ∨ A k o.b.toNat) ∧ (o.c = -1 ∨ A k o.c.toNat)
  next : ∀ k o, p.op[k]? = some o → o.k ≠ 17 → ∀ i, A (k + 1) i → A k i ∨ (o.d ≠ -1 ∧ i = o.d.toNat) ∨ (o.e ≠ -1 ∧ i = o.e.toNat)
  en : ∀ k o, p.op[k]? = some o → o.k = 17 → ∃ l lo, enAt (enP p.op) k = ((l : Nat) : Int) ∧ p.op[l]? = some lo ∧ lo.k = 16 ∧ enAt (enP q.op) (ι k) = ((ι l : Nat) : Int) ∧ A k lo.d.toNat ∧ (∀ i, A (k + 1) i → A k i) ∧ (∀ i, A (l + 1) i → A k i ∨ i = lo.d.toNat)
  j1 : ∀ k, k < p.op.length → j (k + 1) = ι k + 1
  gap : ∀ k, k ≤ p.op.length → ∀ t : St, t.at_ = j k → ∃ c t', (∀ K, runF q.op (enP q.op) (K + c) t = runF q.op (enP q.op) K t') ∧ t'.at_ = ι k ∧ t'.rows = t.rows ∧ (∀ i, A k i → t'.rg (ρn i) = t.rg (ρn i)) ∧ (z = true → t'.seen = t.seen)
/-- an event, as the other program has it -/
def reEv (ι : Nat → Nat) (e : Ev) : Ev := (((ι e.1.toNat : Nat) : Int), e.2)
structure EmR (p : Pg) (ι j ρn : Nat → Nat) (A : Nat → Nat → Prop) (z : Bool) (pre : List Ev) (s t : St) : Prop where
  pt : t.at_ = j s.at_
  le : s.at_ ≤ p.op.length
  rows : s.rows = t.rows
  rg : ∀ i, A s.at_ i → s.rg i = t.rg (ρn i)
  cnt : z = true → t.seen = pre ++ s.seen.map (reEv ι)
section
variable {p q : Pg} {ι j : Nat → Nat} {ρ : Int → Int} {ρn : Nat → Nat} {A : Nat → Nat → Prop} {z : Bool}
theorem Emb.hld (E : Emb p q ι j ρ ρn A z) {k : Nat} {rg rg' : Nat → Int} (h : ∀ i, A k i → rg i = rg' (ρn i)) {r : Int} (hr : Rg r) (ha : r = -1 ∨ A k r.toNat) : Lb.hld rg' (ρ r) = Lb.hld rg r := by
  by_cases e : r = -1
  · subst e
    rw [E.neg]
    unfold Lb.hld
    rw [if_pos rfl, if_pos rfl]
  · have h1 := ha.resolve_left e
    obtain ⟨n, rfl⟩ : ∃ n : Nat, r = (n : Int) := ⟨r.toNat, by unfold Rg at hr; omega⟩
    rw [Int.toNat_natCast] at h1
    rw [E.nat n (E.small _ _ h1)]
    unfold Lb.hld
    rw [if_neg (by omega), if_neg (by omega), Int.toNat_natCast, Int.toNat_natCast, h n h1]
theorem Emb.put (E : Emb p q ι j ρ ρn A z) {B : Nat → Prop} {rg rg' : Nat → Int} (hB : ∀ i, B i → i < 64) (h : ∀ i, B i → rg i = rg' (ρn i)) {r : Int} (hr : Rg r) (v : Int) : ∀ i, (B i ∨ (r ≠ -1 ∧ i = r.toNat)) → Lb.put rg r v i = Lb.put rg' (ρ r) v (ρn i) := by
  intro i hi
  by_cases e : r = -1
  · subst e
    rw [E.neg, put_none, put_none]
    rcases hi with hi | hi
    · exact h i hi
    · exact absurd rfl hi.1
  · have h6 : 0 ≤ r ∧ r < 64 := by unfold Rg at hr; omega
    obtain ⟨n, rfl⟩ : ∃ n : Nat, r = (n : Int) := ⟨r.toNat, by omega⟩
    rw [E.nat n (by omega), Int.toNat_natCast] at *
    unfold Lb.put
    rw [Int.toNat_natCast, Int.toNat_natCast]
    by_cases hin : i = n
    · subst hin
      rw [if_pos ⟨by omega, rfl⟩, if_pos ⟨by omega, rfl⟩]
    · have hb : B i := by
        rcases hi with hi | hi
        · exact hi
        · exact absurd hi.2 hin
      rw [if_neg (fun hh => hin hh.2), if_neg (fun hh => hin (E.inj i n (hB i hb) (by omega) hh.2)), h i hb]
theorem Emb.step (E : Emb p q ι j ρ ρn A z) (H : Ok p) (hp : p.wf) {pre : List Ev} {s t : St} {o : Op} (ho : p.op[s.at_]? = some o) (ht : t.at_ = ι s.at_) (hrows : s.rows = t.rows) (hrg : ∀ i, A s.at_ i → s.rg i = t.rg (ρn i)) (hc : z = true → t.seen = pre ++ s.seen.map (reEv ι)) :
    (stp p.op (enP p.op) s = none ∧ stp q.op (enP q.op) t = none) ∨ ∃ s' t', stp p.op (enP p.op) s = some s' ∧ stp q.op (enP q.op) t = some t' ∧ EmR p ι j ρn A z pre s' t' := by
  obtain ⟨k, rg, rows, seen⟩ := s
  obtain ⟨k', rg', rows', seen'⟩ := t
  dsimp only at ho ht hrows hrg hc
  subst ht hrows
  have hk := (List.getElem?_eq_some_iff.1 ho).1
  have ho' := E.op k o ho
  obtain ⟨hr, _, _, hd0, _, he0⟩ := H.rgs ho
  have hst := H.stOk hp _ _ ho
  have hcnt : ∀ (i : Nat) (v : Int), z = true → (seen' ++ [(((ι i : Nat) : Int), v)]) = pre ++ (seen ++ [((i : Int), v)]).map (reEv ι) := fun i v hz => by
    rw [List.map_append, hc hz, List.append_assoc]
    rfl
  unfold stp turnS
  dsimp only
  rw [opAt_of ho, opAt_of ho']
  dsimp only
  by_cases h16 : o.k = 16
  · rw [if_pos h16, if_pos h16]
    refine .inr ⟨_, _, rfl, rfl, (E.j1 k hk).symm, hk, rfl, fun i hi => ?_, hcnt _ _⟩
    refine E.put (B := A k) (E.small k) hrg hr.d 0 i ?_
    rcases E.next k o ho (by omega) i hi with h | h | h
    · exact .inl h
    · exact .inr h
    · exact absurd (he0 (by rw [h16]; rfl)) h.1
  rw [if_neg h16, if_neg h16]
  by_cases h17 : o.k = 17
  · rw [if_pos h17, if_pos h17]
    obtain ⟨l, lo, e1, e2, e3, e4, e5, e6, e7⟩ := E.en k o ho h17
    have hl := (List.getElem?_eq_some_iff.1 e2).1
    rw [e1, e4]
    simp only [Int.toNat_natCast]
    rw [opAt_of e2, opAt_of (E.op l lo e2)]
    dsimp only
    obtain ⟨hlr, _, _, hl0, _, _⟩ := H.rgs e2
    have hl0' := hl0 (by rw [e3]; rfl)
    have hcn : rg' (ρ lo.d).toNat = rg lo.d.toNat := by
      obtain ⟨n, hn⟩ : ∃ n : Nat, lo.d = (n : Int) := ⟨lo.d.toNat, by omega⟩
      rw [hn, Int.toNat_natCast] at e5
      rw [hn, E.nat n (E.small _ _ e5), Int.toNat_natCast, Int.toNat_natCast, hrg n e5]
    rw [hcn]
    by_cases h7 : (rg lo.d.toNat + 1) % 18446744073709551616 < lo.im
    · rw [if_pos h7, if_pos h7]
      refine .inr ⟨_, _, rfl, rfl, (E.j1 l hl).symm, hl, rfl, fun i hi => ?_, hcnt _ _⟩
      refine E.put (B := A k) (E.small k) hrg hlr.d _ i ?_
      rcases e7 i hi with h | h
      · exact .inl h
      · exact .inr ⟨by omega, h⟩
    · rw [if_neg h7, if_neg h7]
      exact .inr ⟨_, _, rfl, rfl, (E.j1 k hk).symm, hk, rfl, fun i hi => hrg i (e6 i hi), hc⟩
  rw [if_neg h17, if_neg h17]
  obtain ⟨ra, rb, rc⟩ := E.reads k o ho h16 h17
  rw [E.hld hrg hr.a ra, E.hld hrg hr.b rb, E.hld hrg hr.c rc]
  have hnx := E.next k o ho h17
  by_cases hm : mm o.k = true
  · rw [if_pos hm, if_pos hm]
    by_cases hlt : ((rowAt rows o.bf).length : Int) ≤ (o.im + Lb.hld rg o.a) % 18446744073709551616
    · rw [if_pos hlt, if_pos hlt]
      exact .inl ⟨rfl, rfl⟩
    rw [if_neg hlt, if_neg hlt]
    have hem : o.e = -1 := he0 (by
      have : o.k = 14 ∨ o.k = 15 := by unfold mm at hm; simpa using hm
      rcases this with h | h <;> (rw [h]; rfl))
    by_cases h15 : o.k = 15
    · rw [if_pos h15, if_pos h15]
      have hb0 := hst.b h15
      have hbn : rg' (ρ o.b).toNat = rg o.b.toNat := by
        have e5 := rb.resolve_left (by omega)
        obtain ⟨n, hn⟩ : ∃ n : Nat, o.b = (n : Int) := ⟨o.b.toNat, by omega⟩
        rw [hn, Int.toNat_natCast] at e5
        rw [hn, E.nat n (E.small _ _ e5), Int.toNat_natCast, Int.toNat_natCast, hrg n e5]
      rw [hbn]
      have hdm : o.d = -1 := (H.rgs ho).2.2.2.2.1 (by rw [h15]; rfl)
      refine .inr ⟨_, _, rfl, rfl, (E.j1 k hk).symm, hk, rfl, fun i hi => ?_, hcnt _ _⟩
      rcases hnx i hi with h | h | h
      · exact hrg i h
      · exact absurd hdm h.1
      · exact absurd hem h.1
    · rw [if_neg h15, if_neg h15]
      refine .inr ⟨_, _, rfl, rfl, (E.j1 k hk).symm, hk, rfl, fun i hi => ?_, hcnt _ _⟩
      refine E.put (B := A k) (E.small k) hrg hr.d _ i ?_
      rcases hnx i hi with h | h | h
      · exact .inl h
      · exact .inr h
      · exact absurd hem h.1
  · rw [if_neg hm, if_neg hm]
    refine .inr ⟨_, _, rfl, rfl, (E.j1 k hk).symm, hk, rfl, fun i hi => ?_, hcnt _ _⟩
    refine E.put (B := fun i => A k i ∨ (o.d ≠ -1 ∧ i = o.d.toNat)) (fun i hi => ?_) (fun i hi => E.put (B := A k) (E.small k) hrg hr.d _ i hi) hr.e _ i ?_
    · rcases hi with h | h
      · exact E.small k i h
      · have := hr.d
        unfold Rg at this
        omega
    · rcases hnx i hi with h | h | h
      · exact .inl (.inl h)
      · exact .inl (.inr h)
      · exact .inr h
theorem Emb.run (E : Emb p q ι j ρ ρn A z) (H : Ok p) (hp : p.wf) {pre : List Ev} {f : Bool} {s' : St} : ∀ (N : Nat) (s t : St), EmR p ι j ρn A z pre s t → runF p.op (enP p.op) N s = some (f, s') → ∃ c t', s'.rows = t'.rows ∧ (z = true → t'.seen = pre ++ s'.seen.map (reEv ι)) ∧ ((f = false ∧ ∀ K, runF q.op (enP q.op) (K + c) t = some (false, t')) ∨ (f = true ∧ t'.at_ = ι p.op.length ∧ ∀ K, runF q.op (enP q.op) (K + c) t = runF q.op (enP q.op) K t'))
  | 0, _, _, _, hr => by cases hr
  | N + 1, s, t, h, hr => by
    obtain ⟨c, t1, g1, g2, g3, g4, g5⟩ := E.gap s.at_ h.le t h.pt
    have hrows : s.rows = t1.rows := by rw [g3]; exact h.rows
    have hrg : ∀ i, A s.at_ i → s.rg i = t1.rg (ρn i) := fun i hi => by rw [g4 i hi]; exact h.rg i hi
    have hc : z = true → t1.seen = pre ++ s.seen.map (reEv ι) := fun hz => by rw [g5 hz]; exact h.cnt hz
    by_cases hlt : s.at_ < p.op.length
    · obtain ⟨o, ho⟩ : ∃ o, p.op[s.at_]? = some o := ⟨_, List.getElem?_eq_getElem hlt⟩
      have ho' := E.op _ _ ho
      rw [← g2] at ho'
      rcases E.step H hp ho g2 hrows hrg hc with ⟨e1, e2⟩ | ⟨s2, t2, e1, e2, hR⟩
      · rw [runF_flt ho e1] at hr
        cases hr
        exact ⟨1 + c, t1, hrows, hc, .inl ⟨rfl, fun K => by rw [← Nat.add_assoc, g1, runF_flt ho' e2]⟩⟩
      · rw [runF_step ho e1] at hr
        obtain ⟨c2, t', k1, k2, k3⟩ := Emb.run E H hp N s2 t2 hR hr
        refine ⟨c2 + 1 + c, t', k1, k2, ?_⟩
        have hK : ∀ K, runF q.op (enP q.op) (K + (c2 + 1 + c)) t = runF q.op (enP q.op) (K + c2) t2 := fun K => by
          rw [← Nat.add_assoc, ← Nat.add_assoc, g1, runF_step ho' e2]
        rcases k3 with ⟨k4, k5⟩ | ⟨k4, k5, k6⟩
        · exact .inl ⟨k4, fun K => by rw [hK, k5]⟩
        · exact .inr ⟨k4, k5, fun K => by rw [hK, k6]⟩
    · have he : s.at_ = p.op.length := by have := h.le; omega
      unfold runF at hr
      rw [if_neg hlt] at hr
      cases hr
      exact ⟨c, t1, hrows, hc, .inr ⟨rfl, by rw [g2, he], g1⟩⟩
/-- where the other program ends with this one -/
theorem Emb.all (E : Emb p q ι j ρ ρn A z) (hfin : ι p.op.length = q.op.length) (H : Ok p) (hp : p.wf) {pre : List Ev} {f : Bool} {s' : St} {N : Nat} {s t : St} (h : EmR p ι j ρn A z pre s t) (hr : runF p.op (enP p.op) N s = some (f, s')) : ∃ N' t', runF q.op (enP q.op) N' t = some (f, t') ∧ s'.rows = t'.rows ∧ (z = true → t'.seen = pre ++ s'.seen.map (reEv ι)) := by
  obtain ⟨c, t', k1, k2, k3⟩ := E.run H hp N s t h hr
  rcases k3 with ⟨rfl, k5⟩ | ⟨rfl, k5, k6⟩
  · exact ⟨0 + c, t', k5 0, k1, k2⟩
  · refine ⟨1 + c, t', ?_, k1, k2⟩
    rw [k6]
    unfold runF
    rw [if_neg (by rw [k5, hfin]; omega)]
end
end Lb
end Go.Proofs.YtfemoipbphianaaDoor
namespace Go.Proofs.YtfemoipbphianaaDoor
open Go Go.RowKit
namespace Lb
open Wd Nt Gr
set_option linter.unusedVariables false
set_option linter.unusedSimpArgs false
/-! ### whether a program may be, operations behind one another -/
theorem ref_ok {p q : Pg} (h : refP p = 0) (hr : q.rg ≤ 64) (hr0 : 0 ≤ q.rg) (hb : q.bf = p.bf) (hl : q.op.length ≤ 65536) : refP q = 0 := by
  unfold refP at h ⊢
  by_cases h1 : (decide (64 < p.rg) || decide (32 < p.bf.length) || decide (65536 < p.op.length) || p.bf.any longB) = true
  · rw [if_pos h1] at h; cases h
  rw [if_neg h1] at h
  by_cases h2 : (decide (p.rg < 0) || p.bf.any wrongB) = true
  · rw [if_pos h2] at h; cases h
  simp only [Bool.or_eq_true, not_or, Bool.not_eq_true, decide_eq_true_eq] at h1 h2
  rw [hb, h1.2, h2.2, decide_eq_false (by omega : ¬ 64 < q.rg), decide_eq_false (by omega : ¬ 32 < p.bf.length), decide_eq_false (by omega : ¬ 65536 < q.op.length), decide_eq_false (by omega : ¬ q.rg < 0)]
  rfl
theorem chk_app {rg : Int} {bufs : List Bf} {M : List Op} : ∀ (L : List Op) (s : Ah) (n : Nat), (∀ k o, L[k]? = some o → fltO rg bufs ((L.take k).foldl adv s) o = 0) → chkG rg bufs (L ++ M) s n = chkG rg bufs M (L.foldl adv s) (n + L.length)
  | [], s, n, _ => rfl
  | o :: L, s, n, hf => by
    have hf0 : fltO rg bufs s o = 0 := hf 0 o rfl
    show (if fltO rg bufs s o ≠ 0 then (n, fltO rg bufs s o) else chkG rg bufs (L ++ M) (adv s o) (n + 1)) = _
    rw [if_neg (by simpa using hf0), chk_app L (adv s o) (n + 1) (fun k x hx => hf (k + 1) x (by rw [List.getElem?_cons_succ]; exact hx)), List.length_cons, show n + 1 + L.length = n + (L.length + 1) by omega]
    rfl
/-- the same loops are open, more is made -/
structure Mo2 (s s' : Ah) : Prop where
  lp : s'.lp = s.lp
  md : ∀ i, s.md i = true → s'.md i = true
theorem Mo2.has {s s' : Ah} (h : Mo2 s s') {r : Int} (hr : hasR s.md r = true) : hasR s'.md r = true := by
  unfold hasR at *
  rw [Bool.or_eq_true] at *
  exact hr.imp id (h.md _)
theorem Mo2.adv {s s' : Ah} (h : Mo2 s s') (o : Op) : Mo2 (Lb.adv s o) (Lb.adv s' o) := by
  by_cases h17 : o.k = 17
  · rw [adv_17 h17, adv_17 h17, h.lp]
    refine ⟨rfl, fun i hi => ?_⟩
    change setR s'.md (s.lp.getLast?.getD (-1)) false i = true
    replace hi : setR s.md (s.lp.getLast?.getD (-1)) false i = true := hi
    unfold setR at hi ⊢
    split at hi
    · cases hi
    · rename_i hc
      rw [if_neg hc]
      exact h.md i hi
  · refine ⟨?_, fun i hi => ?_⟩
    · unfold Lb.adv
      rw [if_neg h17, if_neg h17]
      show (if o.k = 16 then s'.lp ++ [o.d] else s'.lp) = if o.k = 16 then s.lp ++ [o.d] else s.lp
      rw [h.lp]
    · rw [adv_mdR h17] at hi ⊢
      simp only [Bool.or_eq_true] at hi ⊢
      exact hi.imp id (fun h2 => h2.imp id (h.md i))
theorem chk_more {rg : Int} {bufs : List Bf} : ∀ (L : List Op) (s s' : Ah) (n : Nat), (∀ k o, L[k]? = some o → fltO rg bufs ((L.take k).foldl adv s) o = 0) → (L.foldl adv s).lp = [] → Mo2 s s' → (chkG rg bufs L s' n).2 = 0 ∨ (chkG rg bufs L s' n).2 = 9
  | [], s, s', n, _, hl, h => by
    left
    show (if s'.lp.isEmpty then (0 : Int) else 9) = 0
    rw [h.lp, show s.lp = [] from hl]
    rfl
  | o :: L, s, s', n, hf, hl, h => by
    obtain ⟨h1, h2, h3, h4, h5, h6⟩ := flt_zero (show fltO rg bufs s o = 0 from hf 0 o rfl)
    have hr := chk_more L (adv s o) (adv s' o) (n + 1) (fun k x hx => hf (k + 1) x (by rw [List.getElem?_cons_succ]; exact hx)) hl (h.adv o)
    unfold chkG
    by_cases hm : misP s' o = true
    · have e : fltO rg bufs s' o = 9 := by
        unfold fltO
        rw [if_neg (by rw [h1]; decide), if_pos hm]
      rw [e, if_pos (by decide)]
      exact .inr rfl
    · have e : fltO rg bufs s' o = 0 := by
        unfold fltO
        rw [if_neg (by rw [h1]; decide), if_neg hm, h.lp, if_neg h3, h.has h4, h.has h5, h.has h6]
        rfl
      rw [e, if_neg (by decide)]
      exact hr
/-- a program twice over -/
def tw (p : Pg) : Pg := ⟨p.rg, p.bf, p.op ++ p.op⟩
section
variable {p : Pg}
theorem tw_lo {k : Nat} (h : k < p.op.length) : (tw p).op[k]? = p.op[k]? := by
  show (p.op ++ p.op)[k]? = _
  rw [List.getElem?_append_left h]
theorem tw_hi (k : Nat) : (tw p).op[p.op.length + k]? = p.op[k]? := by
  show (p.op ++ p.op)[p.op.length + k]? = _
  rw [List.getElem?_append_right (by omega), Nat.add_sub_cancel_left]
theorem tw_len : (tw p).op.length = p.op.length + p.op.length := List.length_append
theorem tw_chk (H : Ok p) (hn : p.op.length ≤ 1000) : (chkP (tw p)).2 = 0 ∨ (chkP (tw p)).2 = 9 := by
  have hz := ref_zero H.ref
  have hr : refP (tw p) = 0 := ref_ok H.ref hz.1 hz.2.2.2.1 rfl (by rw [tw_len]; omega)
  have hfl : ∀ k o, p.op[k]? = some o → fltO p.rg p.bf ((p.op.take k).foldl adv ah0) o = 0 := H.flt
  unfold chkP
  rw [if_neg (by simpa using hr)]
  show (chkG p.rg p.bf (p.op ++ p.op) ah0 0).2 = 0 ∨ (chkG p.rg p.bf (p.op ++ p.op) ah0 0).2 = 9
  rw [chk_app p.op ah0 0 hfl]
  have hfin : (p.op.foldl adv ah0).lp = [] := by
    have := H.fin
    unfold sAt at this
    rw [List.take_length] at this
    exact this
  exact chk_more p.op ah0 _ _ hfl hfin ⟨hfin, fun i hi => by cases hi⟩
/-- bottom frames: one more than the other by e0 at most -/
def FrB (e0 : Nat) (fr fr' : List (Nat × Nat)) : Prop := ∃ r u u' x x', fr = r ++ [(u, x)] ∧ fr' = r ++ [(u', x')] ∧ x' ≤ x + e0
theorem FrB.step {e0 : Nat} {fr fr' : List (Nat × Nat)} (h : FrB e0 fr fr') (o : Op) : FrB e0 (evO fr o) (evO fr' o) := by
  obtain ⟨r, u, u', x, x', rfl, rfl, hx⟩ := h
  have hcap : ∀ c, capN (x' + c) ≤ capN (x + c) + e0 := fun c => by unfold capN; omega
  unfold evO
  by_cases h16 : o.k = 16
  · rw [if_pos h16, if_pos h16]
    exact ⟨(o.im.toNat, 1) :: r, u, u', x, x', rfl, rfl, hx⟩
  rw [if_neg h16, if_neg h16]
  by_cases h17 : o.k = 17
  · rw [if_pos h17, if_pos h17]
    match r with
    | [] => exact ⟨[], u, u', x, x', rfl, rfl, hx⟩
    | [(t, e)] => exact ⟨[], u, u', _, _, rfl, rfl, hcap _⟩
    | (t, e) :: (t2, e2) :: r => exact ⟨(t2, capN (e2 + capN (e * t))) :: r, u, u', x, x', rfl, rfl, hx⟩
  rw [if_neg h17, if_neg h17]
  match r with
  | [] => exact ⟨[], u, u', _, _, rfl, rfl, hcap 1⟩
  | (t, e) :: r => exact ⟨(t, capN (e + 1)) :: r, u, u', x, x', rfl, rfl, hx⟩
theorem FrB.fold {e0 : Nat} : ∀ (L : List Op) {fr fr' : List (Nat × Nat)}, FrB e0 fr fr' → FrB e0 (L.foldl evO fr) (L.foldl evO fr')
  | [], _, _, h => h
  | o :: L, _, _, h => FrB.fold L (h.step o)
theorem FrB.last {e0 : Nat} {fr fr' : List (Nat × Nat)} (h : FrB e0 fr fr') : (fr'.getLast?.getD (1, 0)).2 ≤ (fr.getLast?.getD (1, 0)).2 + e0 := by
  obtain ⟨r, u, u', x, x', rfl, rfl, hx⟩ := h
  rw [List.getLast?_concat, List.getLast?_concat]
  exact hx
theorem tw_evs (H : Ok p) : evP (tw p).op ≤ evP p.op + evP p.op := by
  have h1 := H.elen p.op.length (Nat.le_refl _)
  rw [H.fin] at h1
  have e : eAt p.op p.op.length = evF p.op := by unfold eAt; rw [List.take_length]
  rw [e] at h1
  have hf : evF (tw p).op = p.op.foldl evO (evF p.op) := by
    show (p.op ++ p.op).foldl evO [(1, 0)] = _
    rw [List.foldl_append]
    rfl
  match hq : evF p.op, h1 with
  | [(u, x)], _ =>
    have hev : evP p.op = x := by unfold evP; rw [hq]; rfl
    rw [hq] at hf
    have h2 : FrB x (evF p.op) (evF (tw p).op) := by
      rw [hf]
      exact FrB.fold p.op ⟨[], 1, u, 0, x, rfl, rfl, by omega⟩
    have h3 := h2.last
    unfold evP
    rw [show x = evP p.op from hev.symm] at h3
    exact h3
/-- but for its first, no operation is a loop: none or the first is open -/
theorem one_open (H : Ok p) (h0 : ∀ (k : Nat) (o : Op), p.op[k]? = some o → o.k = 16 → k = 0) : ∀ k, k ≤ p.op.length → (nAt p.op k).2 = [] ∨ (nAt p.op k).2 = [0]
  | 0, _ => .inl rfl
  | k + 1, hk => by
    obtain ⟨o, ho⟩ : ∃ o, p.op[k]? = some o := ⟨_, List.getElem?_eq_getElem (by omega)⟩
    have ih := one_open H h0 k (by omega)
    rw [nAt_succ ho]
    by_cases h16 : o.k = 16
    · obtain rfl := h0 k o ho h16
      rw [enO_16 h16]
      exact .inr rfl
    by_cases h17 : o.k = 17
    · rw [enO_17 h17]
      rcases ih with ih | ih <;> (rw [ih]; exact .inl rfl)
    · rw [enO_pl h16 h17]
      exact ih
/-- what is made where the loop begins is made as long as it is open -/
theorem in_loop (H : Ok p) (h0 : ∀ (k : Nat) (o : Op), p.op[k]? = some o → o.k = 16 → k = 0) : ∀ k, k ≤ p.op.length → (nAt p.op k).2 ≠ [] → ∀ i, (sAt p.op 1).md i = true → (sAt p.op k).md i = true
  | 0, _, h, i, hi => absurd rfl h
  | k + 1, hk, h, i, hi => by
    obtain ⟨o, ho⟩ : ∃ o, p.op[k]? = some o := ⟨_, List.getElem?_eq_getElem (by omega)⟩
    by_cases h16 : o.k = 16
    · obtain rfl := h0 k o ho h16
      exact hi
    rw [nAt_succ ho] at h
    by_cases h17 : o.k = 17
    · rw [enO_17 h17] at h
      rcases one_open H h0 k (by omega) with e | e <;> (rw [e] at h; exact absurd rfl h)
    · rw [enO_pl h16 h17] at h
      rw [sAt_succ ho, adv_mdR h17, in_loop H h0 k (by omega) h i hi, Bool.or_true, Bool.or_true]
/-- the second copy's open loops -/
theorem tw_nAt (H : Ok p) (Hq : Ok (tw p)) : ∀ k, k ≤ p.op.length → (nAt (tw p).op (p.op.length + k)).2 = (nAt p.op k).2.map fun x => p.op.length + x
  | 0, _ => by
    have e1 : nAt (tw p).op (p.op.length + 0) = nAt p.op p.op.length := by
      unfold nAt
      rw [Nat.add_zero]
      show enF ((p.op ++ p.op).take p.op.length) = _
      rw [List.take_left, List.take_length]
    have e2 := (H.nok p.op.length (Nat.le_refl _)).l2
    rw [H.fin] at e2
    rw [e1, List.eq_nil_of_length_eq_zero e2]
    rfl
  | k + 1, hk => by
    obtain ⟨o, ho⟩ : ∃ o, p.op[k]? = some o := ⟨_, List.getElem?_eq_getElem (by omega)⟩
    have ih := tw_nAt H Hq k (by omega)
    have ho' : (tw p).op[p.op.length + k]? = some o := by rw [tw_hi]; exact ho
    have l1 := (Hq.nok (p.op.length + k) (by rw [tw_len]; omega)).l1
    have l2 := (H.nok k (by omega)).l1
    rw [show p.op.length + (k + 1) = (p.op.length + k) + 1 from rfl, nAt_succ ho', nAt_succ ho]
    by_cases h16 : o.k = 16
    · rw [enO_16 h16, enO_16 h16]
      show _ ++ [_] = List.map _ (_ ++ [_])
      rw [ih, l1, l2, List.map_append]
      rfl
    by_cases h17 : o.k = 17
    · rw [enO_17 h17, enO_17 h17]
      show List.dropLast _ = List.map _ (List.dropLast _)
      rw [ih, List.map_dropLast]
    · rw [enO_pl h16 h17, enO_pl h16 h17]
      exact ih
theorem op_eta (o : Op) : (⟨o.k, o.d, o.e, o.a, o.b, o.c, o.bf, o.im⟩ : Op) = o := rfl
theorem last_map {xs : List Nat} (f : Nat → Nat) (h : xs ≠ []) : (xs.map f).getLast?.getD 0 = f (xs.getLast?.getD 0) := by
  rw [List.getLast?_map]
  rcases hq : xs.getLast? with _ | x
  · exact absurd (List.getLast?_eq_none_iff.1 hq) h
  · rfl
theorem has_md {s : Ah} {r : Int} (h : hasR s.md r = true) : r = -1 ∨ s.md r.toNat = true := by
  unfold hasR at h
  rw [Bool.or_eq_true, decide_eq_true_eq] at h
  exact h
theorem rg_nat {r : Int} (h : Rg r) : r.toNat < 64 := by unfold Rg at h; omega
/-- a loop's end -/
theorem Ok.atEnd (H : Ok p) {k : Nat} {o : Op} (ho : p.op[k]? = some o) (h17 : o.k = 17) : ∃ l lo, l ∈ (nAt p.op k).2 ∧ l = (nAt p.op k).2.getLast?.getD 0 ∧ enAt (enP p.op) k = ((l : Nat) : Int) ∧ p.op[l]? = some lo ∧ lo.k = 16 ∧ 0 ≤ lo.d ∧ (sAt p.op k).md lo.d.toNat = true := by
  have hk := (List.getElem?_eq_some_iff.1 ho).1
  have ht := H.top ho h17
  have hI := H.li k (by omega)
  obtain ⟨lo, j1, j2⟩ := hI.loops _ ht
  have hm : lo.d ∈ (sAt p.op k).lp := by
    rw [hI.lp]
    exact List.mem_map.2 ⟨_, ht, by rw [opAt_of j1]⟩
  exact ⟨_, lo, ht, rfl, H.en_of ho h17, j1, j2, (hI.made _ hm).1, (hI.made _ hm).2⟩
theorem Ok.reads (H : Ok p) {k : Nat} {o : Op} (ho : p.op[k]? = some o) : (o.a = -1 ∨ ((sAt p.op k).md o.a.toNat = true ∧ o.a.toNat < 64)) ∧ (o.b = -1 ∨ ((sAt p.op k).md o.b.toNat = true ∧ o.b.toNat < 64)) ∧ (o.c = -1 ∨ ((sAt p.op k).md o.c.toNat = true ∧ o.c.toNat < 64)) := by
  obtain ⟨_, _, _, f4, f5, f6⟩ := flt_zero (H.flt k o ho)
  have hr := (H.rgs ho).1
  exact ⟨(has_md f4).imp id (fun h => ⟨h, rg_nat hr.a⟩), (has_md f5).imp id (fun h => ⟨h, rg_nat hr.b⟩), (has_md f6).imp id (fun h => ⟨h, rg_nat hr.c⟩)⟩
theorem md_next {k : Nat} {o : Op} (ho : p.op[k]? = some o) (h17 : o.k ≠ 17) {i : Nat} (hi : (sAt p.op (k + 1)).md i = true) : (sAt p.op k).md i = true ∨ (o.d ≠ -1 ∧ i = o.d.toNat) ∨ (o.e ≠ -1 ∧ i = o.e.toNat) := by
  rw [sAt_succ ho, adv_mdR h17] at hi
  simp only [Bool.or_eq_true, decide_eq_true_eq] at hi
  rcases hi with h | h | h
  · exact .inr (.inr h)
  · exact .inr (.inl h)
  · exact .inl h
theorem md_end {k : Nat} {o : Op} (ho : p.op[k]? = some o) (h17 : o.k = 17) {i : Nat} (hi : (sAt p.op (k + 1)).md i = true) : (sAt p.op k).md i = true := by
  rw [sAt_succ ho, adv_17 h17] at hi
  replace hi : setR (sAt p.op k).md ((sAt p.op k).lp.getLast?.getD (-1)) false i = true := hi
  unfold setR at hi
  split at hi
  · cases hi
  · exact hi
/-- the second copy goes as the program does -/
theorem tw_emb (H : Ok p) (Hq : Ok (tw p)) (h0 : ∀ (k : Nat) (o : Op), p.op[k]? = some o → o.k = 16 → k = 0) : Emb p (tw p) (fun k => p.op.length + k) (fun k => p.op.length + k) id id (fun k i => (sAt p.op k).md i = true ∧ i < 64) true where
  op k o ho := by rw [tw_hi]; exact ho
  neg := rfl
  nat i _ := rfl
  inj i k _ _ h := h
  small k i h := h.2
  reads k o ho _ _ := H.reads ho
  next k o ho h17 i hi := by
    rcases md_next ho h17 hi.1 with h | h
    · exact .inl ⟨h, hi.2⟩
    · exact .inr h
  en k o ho h17 := by
    obtain ⟨l, lo, e0, e1, e2, e3, e4, e5, e6⟩ := H.atEnd ho h17
    have hk := (List.getElem?_eq_some_iff.1 ho).1
    obtain rfl := h0 l lo e3 e4
    have ho' : (tw p).op[p.op.length + k]? = some o := by rw [tw_hi]; exact ho
    have hne : (nAt p.op k).2 ≠ [] := List.ne_nil_of_mem e0
    refine ⟨0, lo, e2, e3, e4, ?_, ⟨e6, rg_nat (H.rgs e3).1.d⟩, fun i hi => ⟨md_end ho h17 hi.1, hi.2⟩, fun i hi => .inl ⟨in_loop H h0 k (by omega) hne i hi.1, hi.2⟩⟩
    rw [Hq.en_of ho' h17, tw_nAt H Hq k (by omega), last_map _ hne, ← e1]
  j1 k _ := rfl
  gap k _ t ht := ⟨0, t, fun _ => rfl, ht, rfl, fun _ _ => rfl, fun _ => rfl⟩
/-- the first copy, too -/
theorem tw_emb1 (H : Ok p) (Hq : Ok (tw p)) : Emb p (tw p) id id id id (fun k i => i < 64) true where
  op k o ho := by
    have hk := (List.getElem?_eq_some_iff.1 ho).1
    rw [show id k = k from rfl, tw_lo hk]
    exact ho
  neg := rfl
  nat i _ := rfl
  inj i k _ _ h := h
  small k i h := h
  reads k o ho _ _ := ⟨(H.reads ho).1.imp id (·.2), (H.reads ho).2.1.imp id (·.2), (H.reads ho).2.2.imp id (·.2)⟩
  next k o ho h17 i hi := .inl hi
  en k o ho h17 := by
    obtain ⟨l, lo, e0, e1, e2, e3, e4, e5, e6⟩ := H.atEnd ho h17
    have hk := (List.getElem?_eq_some_iff.1 ho).1
    have ho' : (tw p).op[k]? = some o := by rw [tw_lo hk]; exact ho
    refine ⟨l, lo, e2, e3, e4, ?_, rg_nat (H.rgs e3).1.d, fun i hi => hi, fun i hi => .inl hi⟩
    show enAt (enP (tw p).op) k = ((l : Nat) : Int)
    have e7 : nAt (tw p).op k = nAt p.op k := by
      unfold nAt
      show enF ((p.op ++ p.op).take k) = _
      rw [List.take_append_of_le_length (by omega)]
    rw [Hq.en_of ho' h17, e7, ← e1]
  j1 k _ := rfl
  gap k _ t ht := ⟨0, t, fun _ => rfl, ht, rfl, fun _ _ => rfl, fun _ => rfl⟩
/-- rows that have their buffers' sizes are taken as they are -/
theorem rows0_self : ∀ (bs : List Bf) (rs : List (List Int)), rs.length = bs.length → (∀ (i : Nat) (b : Bf), bs[i]? = some b → b.kd ≠ 3 ∧ ∃ y : List Int, rs[i]? = some y ∧ (y.length : Int) = b.sz) → fitP bs rs = true ∧ rows0 bs rs = rs
  | [], [], _, _ => ⟨rfl, rfl⟩
  | [], r :: rs, h, _ => by cases h
  | b :: bs, [], h, _ => by cases h
  | b :: bs, r :: rs, h, hb => by
    obtain ⟨h3, y, hy, hl⟩ := hb 0 b rfl
    cases hy
    obtain ⟨i1, i2⟩ := rows0_self bs rs (by simpa using h) (fun i b2 h2 => hb (i + 1) b2 (by rw [List.getElem?_cons_succ]; exact h2))
    have hfb : fitB b r = true := by
      unfold fitB
      rw [if_neg h3, decide_eq_true hl]
    refine ⟨?_, ?_⟩
    · unfold fitP
      rw [hfb, i1]
      rfl
    · unfold rows0
      rw [i2, row0_eq (by omega), List.drop_eq_nil_of_le (by rw [List.length_replicate]; omega), List.append_nil]
/-- what LimbParts asks -/
structure PartsA (p : Pg) (h : List (List Int)) (r q : Ans) : Prop where
  bad : r.er ≠ 0 → q.er = r.er ∧ q.ev = r.ev
  good : r.er = 0 → ∀ x, RunP p r.out x → q.er = x.er ∧ q.out = x.out ∧ q.ev.length = r.ev.length + x.ev.length
theorem reEv_id (seen : List Ev) (h : ∀ e ∈ seen, 0 ≤ e.1) : seen.map (reEv id) = seen := by
  have : seen.map (reEv id) = seen.map id := List.map_congr_left fun e he => by
    have := h e he
    unfold reEv
    exact Prod.ext (by show ((e.1.toNat : Nat) : Int) = e.1; omega) rfl
  rw [this, List.map_id]
theorem tw_same (H : Ok p) (hp : p.wf) (hq : (chkP (tw p)).2 = 0) (hc : (chkP p).2 = 0) (h0 : ∀ (k : Nat) (o : Op), p.op[k]? = some o → o.k = 16 → k = 0) (h3 : ∀ b ∈ p.bf, b.kd ≠ 3) (hs : evP p.op ≤ 2000) {h : List (List Int)} {r q : Ans} (hr : RunP p h r) (hr2 : RunP (tw p) h q) : PartsA p h r q := by
  have Hq := ok_of hq
  have hev := tw_evs H
  unfold RunP at hr hr2
  rw [if_neg (by simpa using hc), if_neg (by omega)] at hr
  rw [if_neg (by simpa using hq), if_neg (by omega)] at hr2
  rw [show (tw p).bf = p.bf from rfl] at hr2
  by_cases hf : fitP p.bf h = false
  · rw [if_pos hf] at hr hr2
    rw [hr, hr2]
    exact ⟨fun _ => ⟨rfl, rfl⟩, fun e => by cases e⟩
  rw [if_neg hf] at hr hr2
  obtain ⟨f, s, ⟨N, hN⟩, rfl⟩ := hr
  obtain ⟨g, t, ⟨M, hM⟩, rfl⟩ := hr2
  have hg := GoodS.run H hp (good_0 H (by simpa using hf)) hN
  have hseen : s.seen.map (reEv id) = s.seen := reEv_id _ fun e he => by
    obtain ⟨k, o, e1, _⟩ := hg.ev e he
    rw [e1]
    omega
  obtain ⟨c, t', k1, k2, k3⟩ := (tw_emb1 H Hq).run H hp (pre := []) N (st0 p h) (st0 (tw p) h) ⟨rfl, Nat.zero_le _, rfl, fun _ _ => rfl, fun _ => rfl⟩ hN
  have k2' := k2 rfl
  rw [hseen, List.nil_append] at k2'
  rcases k3 with ⟨rfl, k4⟩ | ⟨rfl, k4, k5⟩
  · have := runF_det hM (k4 0)
    cases this
    exact ⟨fun _ => ⟨rfl, k2'⟩, fun e => (by cases e)⟩
  · refine ⟨fun e => absurd rfl e, fun _ x hx => ?_⟩
    obtain ⟨f1, f2⟩ := rows0_self p.bf s.rows hg.rl (fun i b hb => by
      obtain ⟨y, y1, y2, _⟩ := hg.row i b hb
      exact ⟨h3 b (List.mem_of_getElem? hb), y, y1, y2⟩)
    unfold RunP at hx
    rw [if_neg (by simpa using hc), if_neg (by omega)] at hx
    replace hx : if fitP p.bf s.rows = false then x = ⟨[], [], 2⟩ else ∃ f s2, Runs p.op (enP p.op) (st0 p s.rows) (f, s2) ∧ x = (if f then ⟨s2.rows, s2.seen, 0⟩ else ⟨[], s2.seen, 11⟩) := hx
    rw [if_neg (by rw [f1]; decide)] at hx
    obtain ⟨f, s2, ⟨N2, hN2⟩, rfl⟩ := hx
    obtain ⟨N', t2, m1, m2, m3⟩ := (tw_emb H Hq h0).all tw_len.symm H hp (pre := s.seen) (s := st0 p s.rows) (t := t') ⟨by rw [k4]; rfl, Nat.zero_le _, by rw [← k1]; exact f2, fun i hi => (by cases hi.1), fun _ => (by rw [k2']; show s.seen = s.seen ++ []; rw [List.append_nil])⟩ hN2
    have h7 : runF (tw p).op (enP (tw p).op) (N' + c) (st0 (tw p) h) = some (f, t2) := by rw [k5, m1]
    have := runF_det hM h7
    cases this
    have hlen : t.seen.length = s.seen.length + s2.seen.length := by rw [m3 rfl, List.length_append, List.length_map]
    cases g
    · exact ⟨rfl, rfl, hlen⟩
    · exact ⟨rfl, m2.symm, hlen⟩
end
end Lb
end Go.Proofs.YtfemoipbphianaaDoor
namespace Go.Proofs.YtfemoipbphianaaDoor
open Go Go.RowKit
namespace Lb
open Wd Nt Gr
set_option linter.unusedVariables false
set_option linter.unusedSimpArgs false
/-! ### a constant made somewhere -/
def insP (p : Pg) (at_ : Nat) (n : Int) : Pg := ⟨p.rg + 2, p.bf, p.op.take at_ ++ cstO p.rg n :: p.op.drop at_⟩
theorem Rl.flt2 {rg : Int} {bufs : List Bf} {s s' : Ah} {o : Op} (h : Rl rg s s') (h0 : 0 ≤ rg) (hf : fltO rg bufs s o = 0) : fltO (rg + 2) bufs s' o = 0 := by
  have hk := (flt_zero hf).1
  have hl := opOk_lt h0 hk
  have hk' : opOk (rg + 2) bufs o = true := by
    have := opOk_more (opOk_more hk)
    rw [show rg + 1 + 1 = rg + 2 by omega] at this
    exact this
  have hm : misP s' o = misP s o := by
    unfold misP
    rw [h.lp, h.has hl.d]
  have h2 : fltO (rg + 2) bufs s' o = fltO rg bufs s o := by
    unfold fltO
    rw [hk, hk', hm, h.lp, h.has hl.a, h.has hl.b, h.has hl.c]
  rw [h2, hf]
theorem chk_ins {rg : Int} {bufs : List Bf} {M : List Op} (h0 : 0 ≤ rg) : ∀ (L : List Op) (s s' : Ah) (n : Nat), (∀ k o, L[k]? = some o → fltO rg bufs ((L.take k).foldl adv s) o = 0) → Rl rg s s' → chkG (rg + 2) bufs (L ++ M) s' n = chkG (rg + 2) bufs M (L.foldl adv s') (n + L.length) ∧ Rl rg (L.foldl adv s) (L.foldl adv s')
  | [], s, s', n, _, h => ⟨rfl, h⟩
  | o :: L, s, s', n, hf, h => by
    have hf0 := h.flt2 h0 (show fltO rg bufs s o = 0 from hf 0 o rfl)
    obtain ⟨e1, e2⟩ := chk_ins (M := M) h0 L (adv s o) (adv s' o) (n + 1) (fun k x hx => hf (k + 1) x (by rw [List.getElem?_cons_succ]; exact hx)) (h.adv o)
    refine ⟨?_, e2⟩
    show (if fltO (rg + 2) bufs s' o ≠ 0 then (n, fltO (rg + 2) bufs s' o) else chkG (rg + 2) bufs (L ++ M) (adv s' o) (n + 1)) = _
    rw [if_neg (by simpa using hf0), e1, List.length_cons, show n + 1 + L.length = n + (L.length + 1) by omega]
    rfl
section
variable {p : Pg}
theorem lp_lt (H : Ok p) {k : Nat} (hk : k ≤ p.op.length) : ∀ d ∈ (sAt p.op k).lp, 0 ≤ d ∧ d < p.rg := by
  intro d hd
  have hI := H.li k hk
  refine ⟨(hI.made d hd).1, ?_⟩
  rw [hI.lp] at hd
  obtain ⟨q, hq, rfl⟩ := List.mem_map.1 hd
  obtain ⟨lo, j1, j2⟩ := hI.loops q hq
  rw [opAt_of j1]
  exact (H.rgl (List.mem_of_getElem? j1)).d.2
theorem ins_chk (H : Ok p) {at_ : Nat} {n : Int} (ha : at_ ≤ p.op.length) (hr : p.rg ≤ 62) (hl : p.op.length ≤ 1000) (hn : 0 ≤ n ∧ n ≤ 18446744073709551615) : (chkP (insP p at_ n)).2 = 0 := by
  obtain ⟨r1, r2, r3, r4, r5⟩ := ref_zero H.ref
  have hlen : (insP p at_ n).op.length = p.op.length + 1 := by
    show (p.op.take at_ ++ cstO p.rg n :: p.op.drop at_).length = _
    rw [List.length_append, List.length_cons, List.length_take, List.length_drop]
    omega
  have h1 : refP (insP p at_ n) = 0 := ref_ok H.ref (by show p.rg + 2 ≤ 64; omega) (by show 0 ≤ p.rg + 2; omega) rfl (by omega)
  unfold chkP
  rw [if_neg (by simpa using h1)]
  show (chkG (p.rg + 2) p.bf (p.op.take at_ ++ cstO p.rg n :: p.op.drop at_) ah0 0).2 = 0
  obtain ⟨e1, e2⟩ := chk_ins (rg := p.rg) (bufs := p.bf) (M := cstO p.rg n :: p.op.drop at_) r4 (p.op.take at_) ah0 ah0 0 (fun k o ho => by
    have hk := (List.getElem?_eq_some_iff.1 ho).1
    rw [List.length_take] at hk
    rw [List.getElem?_take_of_lt (by omega)] at ho
    have := H.flt k o ho
    unfold sAt at this
    rw [List.take_take, Nat.min_eq_left (by omega)]
    exact this) ⟨rfl, fun _ _ => rfl⟩
  rw [e1]
  change Rl p.rg (sAt p.op at_) _ at e2
  generalize (p.op.take at_).foldl adv ah0 = s' at *
  have ho : opOk (p.rg + 2) p.bf (cstO p.rg n) = true := by
    unfold opOk rgOk plOk rOk cstO
    simp [hD, hE, hA, hB, hC, mm, leI, moI]
    omega
  have hlp := lp_lt H ha
  have hm : misP s' (cstO p.rg n) = false := by
    unfold misP
    rw [if_neg (by show ¬ (1 : Int) = 17; decide), if_neg (by show ¬ (1 : Int) = 16; decide), e2.lp, Bool.or_eq_false_iff]
    refine ⟨Bool.eq_false_iff.2 fun e => ?_, Bool.eq_false_iff.2 fun e => ?_⟩
    · have := hlp p.rg (List.contains_iff_mem.1 e)
      omega
    · have := hlp (-1) (List.contains_iff_mem.1 e)
      omega
  have hf : fltO (p.rg + 2) p.bf s' (cstO p.rg n) = 0 := by
    unfold fltO
    rw [ho, hm]
    simp [cstO, hasR]
  unfold chkG
  rw [if_neg (by simpa using hf)]
  have e3 : Rl p.rg (sAt p.op at_) (adv s' (cstO p.rg n)) := by
    refine ⟨e2.lp, fun i hi => ?_⟩
    rw [← e2.md i hi]
    show setR (setR s'.md p.rg true) (-1) true i = s'.md i
    unfold setR
    rw [if_neg (by simp), if_neg (by rintro ⟨_, e⟩; omega)]
  obtain ⟨e4, e5⟩ := chk_ins (rg := p.rg) (bufs := p.bf) (M := []) r4 (p.op.drop at_) (sAt p.op at_) _ (0 + (p.op.take at_).length + 1) (fun k o ho => by
    rw [List.getElem?_drop] at ho
    have := H.flt (at_ + k) o ho
    unfold sAt at this ⊢
    rw [List.take_add, List.foldl_append] at this
    exact this) e3
  rw [List.append_nil] at e4
  rw [e4]
  have hfin : (p.op.drop at_).foldl adv (sAt p.op at_) = sAt p.op p.op.length := by
    unfold sAt
    rw [← List.foldl_append, List.take_append_drop, List.take_length]
  rw [hfin] at e5
  show (if ((p.op.drop at_).foldl adv _).lp.isEmpty then (0 : Int) else 9) = 0
  rw [e5.lp, H.fin]
  rfl
/-- frames, twice as much at most -/
inductive Pw : List (Nat × Nat) → List (Nat × Nat) → Prop
  | nil : Pw [] []
  | cons {t e e' : Nat} {r r' : List (Nat × Nat)} : e' ≤ 2 * e → Pw r r' → Pw ((t, e) :: r) ((t, e') :: r')
theorem Pw.refl : ∀ (r : List (Nat × Nat)), Pw r r
  | [] => .nil
  | (t, e) :: r => .cons (by omega) (Pw.refl r)
def FrD (fr fr' : List (Nat × Nat)) : Prop := ∃ r r' u u' x x', fr = r ++ [(u, x)] ∧ fr' = r' ++ [(u', x')] ∧ x' ≤ 2 * x + 1 ∧ Pw r r'
theorem cap_2 {a b : Nat} (h : a ≤ 2 * b) : capN a ≤ 2 * capN b := by unfold capN; omega
theorem cap_21 {a b : Nat} (h : a ≤ 2 * b + 1) : capN a ≤ 2 * capN b + 1 := by unfold capN; omega
theorem FrD.step {fr fr' : List (Nat × Nat)} (h : FrD fr fr') (o : Op) : FrD (evO fr o) (evO fr' o) := by
  obtain ⟨r, r', u, u', x, x', rfl, rfl, hx, hp⟩ := h
  unfold evO
  by_cases h16 : o.k = 16
  · rw [if_pos h16, if_pos h16]
    exact ⟨(o.im.toNat, 1) :: r, (o.im.toNat, 1) :: r', u, u', x, x', rfl, rfl, hx, .cons (by omega) hp⟩
  rw [if_neg h16, if_neg h16]
  have hmul : ∀ {e e' t : Nat}, e' ≤ 2 * e → capN (e' * t) ≤ 2 * capN (e * t) := fun {e e' t} he => cap_2 (by
    have := Nat.mul_le_mul_right t he
    rw [Nat.mul_assoc] at this
    exact this)
  by_cases h17 : o.k = 17
  · rw [if_pos h17, if_pos h17]
    cases hp with
    | nil => exact ⟨[], [], u, u', x, x', rfl, rfl, hx, .nil⟩
    | @cons t e e' r r' he hp =>
      have hm := hmul (t := t) he
      cases hp with
      | nil => exact ⟨[], [], u, u', _, _, rfl, rfl, cap_21 (by omega), .nil⟩
      | @cons t2 e2 e2' r r' he2 hp => exact ⟨(t2, capN (e2 + capN (e * t))) :: r, (t2, capN (e2' + capN (e' * t))) :: r', u, u', x, x', rfl, rfl, hx, .cons (cap_2 (by omega)) hp⟩
  rw [if_neg h17, if_neg h17]
  cases hp with
  | nil => exact ⟨[], [], u, u', _, _, rfl, rfl, cap_21 (by omega), .nil⟩
  | @cons t e e' r r' he hp =>
    by_cases e0 : e = 0
    · subst e0
      obtain rfl : e' = 0 := by omega
      exact ⟨(t, capN (0 + 1)) :: r, (t, capN (0 + 1)) :: r', u, u', x, x', rfl, rfl, hx, .cons (by omega) hp⟩
    · exact ⟨(t, capN (e + 1)) :: r, (t, capN (e' + 1)) :: r', u, u', x, x', rfl, rfl, hx, .cons (cap_2 (by omega)) hp⟩
theorem FrD.fold : ∀ (L : List Op) {fr fr' : List (Nat × Nat)}, FrD fr fr' → FrD (L.foldl evO fr) (L.foldl evO fr')
  | [], _, _, h => h
  | o :: L, _, _, h => FrD.fold L (h.step o)
/-- a loop's frame has an event at least -/
def FrP (fr : List (Nat × Nat)) : Prop := ∃ r u x, fr = r ++ [(u, x)] ∧ ∀ y ∈ r, 1 ≤ y.2
theorem cap_1 {a : Nat} (h : 1 ≤ a) : 1 ≤ capN a := by unfold capN; omega
theorem FrP.step {fr : List (Nat × Nat)} (h : FrP fr) (o : Op) : FrP (evO fr o) := by
  obtain ⟨r, u, x, rfl, h1⟩ := h
  unfold evO
  by_cases h16 : o.k = 16
  · rw [if_pos h16]
    exact ⟨(o.im.toNat, 1) :: r, u, x, rfl, fun y hy => by
      rcases List.mem_cons.1 hy with rfl | hy
      · exact Nat.le_refl _
      · exact h1 y hy⟩
  rw [if_neg h16]
  by_cases h17 : o.k = 17
  · rw [if_pos h17]
    match r, h1 with
    | [], h1 => exact ⟨[], u, x, rfl, h1⟩
    | [(t, e)], h1 => exact ⟨[], u, _, rfl, fun y hy => absurd hy List.not_mem_nil⟩
    | (t, e) :: (t2, e2) :: r, h1 =>
      refine ⟨(t2, capN (e2 + capN (e * t))) :: r, u, x, rfl, fun y hy => ?_⟩
      rcases List.mem_cons.1 hy with rfl | hy
      · have : 1 ≤ e2 := h1 (t2, e2) (by simp)
        exact cap_1 (by omega)
      · exact h1 y (by simp [hy])
  rw [if_neg h17]
  match r, h1 with
  | [], h1 => exact ⟨[], u, _, rfl, h1⟩
  | (t, e) :: r, h1 =>
    refine ⟨(t, capN (e + 1)) :: r, u, x, rfl, fun y hy => ?_⟩
    rcases List.mem_cons.1 hy with rfl | hy
    · exact cap_1 (by omega)
    · exact h1 y (by simp [hy])
theorem FrP.fold : ∀ (L : List Op) {fr : List (Nat × Nat)}, FrP fr → FrP (L.foldl evO fr)
  | [], _, h => h
  | o :: L, _, h => FrP.fold L (h.step o)
theorem ins_evs {at_ : Nat} {n : Int} : evP (insP p at_ n).op ≤ 2 * evP p.op + 1 := by
  have h1 : FrP ((p.op.take at_).foldl evO [(1, 0)]) := FrP.fold _ ⟨[], 1, 0, rfl, fun y hy => absurd hy List.not_mem_nil⟩
  have e1 : evF p.op = (p.op.drop at_).foldl evO ((p.op.take at_).foldl evO [(1, 0)]) := by
    unfold evF
    rw [← List.foldl_append, List.take_append_drop]
  have e2 : evF (insP p at_ n).op = (p.op.drop at_).foldl evO (evO ((p.op.take at_).foldl evO [(1, 0)]) (cstO p.rg n)) := by
    unfold evF
    show (p.op.take at_ ++ cstO p.rg n :: p.op.drop at_).foldl evO [(1, 0)] = _
    rw [List.foldl_append]
    rfl
  obtain ⟨r, u, x, hr, h2⟩ := h1
  rw [hr] at e1 e2
  have h3 : FrD (r ++ [(u, x)]) (evO (r ++ [(u, x)]) (cstO p.rg n)) := by
    unfold evO
    rw [if_neg (by show ¬ (1 : Int) = 16; decide), if_neg (by show ¬ (1 : Int) = 17; decide)]
    match r, h2 with
    | [], _ => exact ⟨[], [], u, u, x, _, rfl, rfl, by unfold capN; omega, .nil⟩
    | (t, e) :: r, h2 =>
      have : 1 ≤ e := h2 (t, e) (by simp)
      exact ⟨(t, e) :: r, (t, capN (e + 1)) :: r, u, u, x, x, rfl, rfl, by omega, .cons (by unfold capN; omega) (Pw.refl r)⟩
  have h4 := FrD.fold (p.op.drop at_) h3
  rw [← e1, ← e2] at h4
  obtain ⟨a, a', u1, u2, x1, x2, k1, k2, k3, _⟩ := h4
  unfold evP
  rw [k1, k2, List.getLast?_concat, List.getLast?_concat]
  exact k3
def insI (at_ k : Nat) : Nat := if k < at_ then k else k + 1
def insJ (at_ k : Nat) : Nat := if k ≤ at_ then k else k + 1
theorem ins_op {at_ k : Nat} {n : Int} {o : Op} (ha : at_ ≤ p.op.length) (ho : p.op[k]? = some o) : (insP p at_ n).op[insI at_ k]? = some o := by
  have hk := (List.getElem?_eq_some_iff.1 ho).1
  show (p.op.take at_ ++ cstO p.rg n :: p.op.drop at_)[insI at_ k]? = _
  have hlt : (p.op.take at_).length = at_ := by rw [List.length_take]; omega
  unfold insI
  by_cases h : k < at_
  · rw [if_pos h, List.getElem?_append_left (by omega), List.getElem?_take_of_lt h]
    exact ho
  · rw [if_neg h, List.getElem?_append_right (by omega), hlt, show k + 1 - at_ = (k - at_) + 1 by omega, List.getElem?_cons_succ, List.getElem?_drop, show at_ + (k - at_) = k by omega]
    exact ho
theorem ins_at {at_ : Nat} {n : Int} (ha : at_ ≤ p.op.length) : (insP p at_ n).op[at_]? = some (cstO p.rg n) := by
  show (p.op.take at_ ++ cstO p.rg n :: p.op.drop at_)[at_]? = _
  have hlt : (p.op.take at_).length = at_ := by rw [List.length_take]; omega
  rw [List.getElem?_append_right (by omega), hlt, Nat.sub_self]
  rfl
theorem ins_len {at_ : Nat} {n : Int} (ha : at_ ≤ p.op.length) : (insP p at_ n).op.length = p.op.length + 1 := by
  show (p.op.take at_ ++ cstO p.rg n :: p.op.drop at_).length = _
  rw [List.length_append, List.length_cons, List.length_take, List.length_drop]
  omega
theorem ins_cst {at_ : Nat} {n : Int} (ha : at_ ≤ p.op.length) : (nAt (insP p at_ n).op (at_ + 1)).2 = (nAt (insP p at_ n).op at_).2 := by
  rw [nAt_succ (ins_at ha), enO_pl (by show (1 : Int) ≠ 16; decide) (by show (1 : Int) ≠ 17; decide)]
theorem ins_nAt (H : Ok p) {at_ : Nat} {n : Int} (ha : at_ ≤ p.op.length) (Hq : Ok (insP p at_ n)) : ∀ k, k ≤ p.op.length → (nAt (insP p at_ n).op (insI at_ k)).2 = (nAt p.op k).2.map (insI at_)
  | 0, _ => by
    unfold insI
    by_cases h : 0 < at_
    · rw [if_pos h]; rfl
    · obtain rfl : at_ = 0 := by omega
      rw [if_neg h, ins_cst ha]
      rfl
  | k + 1, hk => by
    obtain ⟨o, ho⟩ : ∃ o, p.op[k]? = some o := ⟨_, List.getElem?_eq_getElem (by omega)⟩
    have ih := ins_nAt H ha Hq k (by omega)
    have ho' := ins_op (n := n) ha ho
    have hkl := (List.getElem?_eq_some_iff.1 ho').1
    have l1 := (Hq.nok (insI at_ k) (by omega)).l1
    have l2 := (H.nok k (by omega)).l1
    have hst : (nAt (insP p at_ n).op (insI at_ k + 1)).2 = (nAt p.op (k + 1)).2.map (insI at_) := by
      rw [nAt_succ ho', nAt_succ ho]
      by_cases h16 : o.k = 16
      · rw [enO_16 h16, enO_16 h16]
        show _ ++ [_] = List.map _ (_ ++ [_])
        rw [ih, l1, l2, List.map_append]
        rfl
      by_cases h17 : o.k = 17
      · rw [enO_17 h17, enO_17 h17]
        show List.dropLast _ = List.map _ (List.dropLast _)
        rw [ih, List.map_dropLast]
      · rw [enO_pl h16 h17, enO_pl h16 h17]
        exact ih
    by_cases hc : k + 1 = at_
    · have e1 : insI at_ k = k := by unfold insI; rw [if_pos (by omega)]
      have e2 : insI at_ (k + 1) = at_ + 1 := by unfold insI; rw [if_neg (by omega), hc]
      rw [e1, hc] at hst
      rw [e2, ins_cst ha, hst, hc]
    · have e1 : insI at_ (k + 1) = insI at_ k + 1 := by unfold insI; split <;> split <;> omega
      rw [e1]
      exact hst
theorem ins_emb (H : Ok p) {at_ : Nat} {n : Int} (ha : at_ ≤ p.op.length) (hr : p.rg ≤ 62) (Hq : Ok (insP p at_ n)) : Emb p (insP p at_ n) (insI at_) (insJ at_) id id (fun k i => (i : Int) < p.rg) false where
  op k o ho := ins_op ha ho
  neg := rfl
  nat i _ := rfl
  inj i k _ _ h := h
  small k i h := by omega
  reads k o ho _ _ := by
    have hl := H.rgl (List.mem_of_getElem? ho)
    have ha := hl.a
    have hb := hl.b
    have hc := hl.c
    refine ⟨?_, ?_, ?_⟩
    · by_cases e : o.a = -1
      · exact .inl e
      · exact .inr (by omega)
    · by_cases e : o.b = -1
      · exact .inl e
      · exact .inr (by omega)
    · by_cases e : o.c = -1
      · exact .inl e
      · exact .inr (by omega)
  next k o ho h17 i hi := .inl hi
  en k o ho h17 := by
    obtain ⟨l, lo, e0, e1, e2, e3, e4, e5, e6⟩ := H.atEnd ho h17
    have hk := (List.getElem?_eq_some_iff.1 ho).1
    have hld := (H.rgl (List.mem_of_getElem? e3)).d
    have hne : (nAt p.op k).2 ≠ [] := List.ne_nil_of_mem e0
    refine ⟨l, lo, e2, e3, e4, ?_, by omega, fun i hi => hi, fun i hi => .inl hi⟩
    rw [Hq.en_of (ins_op ha ho) h17, ins_nAt H ha Hq k (by omega), last_map _ hne, ← e1]
  j1 k _ := by unfold insJ insI; split <;> split <;> omega
  gap k hk t ht := by
    by_cases hka : k = at_
    · subst hka
      have ht' : t.at_ = k := by rw [ht]; unfold insJ; rw [if_pos (Nat.le_refl _)]
      have hop : (insP p k n).op[t.at_]? = some (cstO p.rg n) := by rw [ht']; exact ins_at ha
      have hst := const_at (ends := enP (insP p k n).op) hop rfl rfl
      refine ⟨1, _, fun K => runF_step hop hst K, ?_, rfl, fun i hi => ?_, fun e => by cases e⟩
      · show t.at_ + 1 = insI k k
        unfold insI
        rw [if_neg (by omega), ht']
      · exact put_off (.inr (by show p.rg.toNat ≠ i; omega))
    · refine ⟨0, t, fun _ => rfl, ?_, rfl, fun _ _ => rfl, fun _ => rfl⟩
      rw [ht]
      unfold insJ insI
      split <;> split <;> omega
/-- two programs that go alike from the beginning are answered alike -/
theorem emb_same {q : Pg} {ι j : Nat → Nat} {ρ : Int → Int} {ρn : Nat → Nat} {A : Nat → Nat → Prop} {z : Bool} (E : Emb p q ι j ρ ρn A false) (H : Ok p) (hp : p.wf) (hc : (chkP p).2 = 0) (hq : (chkP q).2 = 0) (hb : q.bf = p.bf) (hj : j 0 = 0) (hfin : ι p.op.length = q.op.length) (h1 : evP p.op ≤ 5000) (h2 : evP q.op ≤ 11000) {h : List (List Int)} {r x : Ans} (hr : RunP p h r) (hx : RunP q h x) : r.er = x.er ∧ r.out = x.out := by
  unfold RunP at hr hx
  rw [if_neg (by simpa using hc), if_neg (by omega)] at hr
  rw [if_neg (by simpa using hq), if_neg (by omega), hb] at hx
  by_cases hf : fitP p.bf h = false
  · rw [if_pos hf] at hr hx
    rw [hr, hx]
    exact ⟨rfl, rfl⟩
  rw [if_neg hf] at hr hx
  obtain ⟨f, s, ⟨N, hN⟩, rfl⟩ := hr
  obtain ⟨g, t, ⟨M, hM⟩, rfl⟩ := hx
  obtain ⟨N', t2, k1, k2, _⟩ := E.all hfin H hp (pre := []) (s := st0 p h) (t := st0 q h) ⟨hj.symm, Nat.zero_le _, by show rows0 p.bf h = rows0 q.bf h; rw [hb], fun _ _ => rfl, fun e => by cases e⟩ hN
  have := runF_det hM k1
  cases this
  cases f
  · exact ⟨rfl, rfl⟩
  · exact ⟨rfl, k2⟩
/-! ### registers by other numbers -/
def ot (R r : Int) : Int := if r < 0 then -1 else R - r
def reO (R : Int) (o : Op) : Op := ⟨o.k, ot R o.d, ot R o.e, ot R o.a, ot R o.b, ot R o.c, o.bf, o.im⟩
def renP (p : Pg) : Pg := ⟨p.rg + 1, p.bf, p.op.map (reO p.rg)⟩
theorem ot_rOk {b : Bool} {r R : Int} (h : rOk b r R = true) : rOk b (ot R r) (R + 1) = true := by
  unfold rOk ot at *
  cases b
  · rw [if_neg (by decide), decide_eq_true_eq] at *
    rw [if_pos (by omega)]
  · rw [if_pos rfl, Bool.and_eq_true, decide_eq_true_eq, decide_eq_true_eq] at *
    rw [if_neg (by omega)]
    omega
theorem ot_inj {R x y : Int} (hx : -1 ≤ x ∧ x < R) (hy : -1 ≤ y ∧ y < R) (h : ot R x = ot R y) : x = y := by
  unfold ot at h
  split at h <;> split at h <;> omega
theorem ot_m1 {R x : Int} (hx : -1 ≤ x ∧ x < R) : (ot R x = -1) ↔ x = -1 := by
  unfold ot
  split <;> omega
theorem ot_opOk {R : Int} {bufs : List Bf} {o : Op} (h0 : 0 ≤ R) (h : opOk R bufs o = true) : opOk (R + 1) bufs (reO R o) = true := by
  have hl := opOk_lt h0 h
  unfold opOk rgOk plOk at *
  show (decide (1 ≤ o.k) && decide (o.k ≤ 17) && _) = true
  simp only [Bool.and_eq_true] at h
  obtain ⟨⟨k1, k2⟩, ⟨⟨⟨q, ⟨⟨⟨⟨hd, he⟩, ha⟩, hb⟩, hc⟩⟩, hp⟩, hle⟩, hmo⟩ := h
  have e1 : decide (ot R o.d = ot R o.e) = decide (o.d = o.e) := by
    by_cases e : o.d = o.e
    · rw [e, decide_eq_true rfl, decide_eq_true rfl]
    · rw [decide_eq_false e, decide_eq_false (fun hh => e (ot_inj hl.d hl.e hh))]
  have e2 : decide (ot R o.a = -1) = decide (o.a = -1) := by
    by_cases e : o.a = -1
    · rw [decide_eq_true e, decide_eq_true ((ot_m1 hl.a).2 e)]
    · rw [decide_eq_false e, decide_eq_false (fun hh => e ((ot_m1 hl.a).1 hh))]
  show (decide (1 ≤ o.k) && decide (o.k ≤ 17) && ((!(hE o.k && decide (ot R o.d = ot R o.e)) && (rOk (hD o.k) (ot R o.d) (R + 1) && rOk (hE o.k) (ot R o.e) (R + 1) && ((mm o.k && decide (ot R o.a = -1)) || rOk (hA o.k || mm o.k) (ot R o.a) (R + 1)) && rOk (hB o.k) (ot R o.b) (R + 1) && rOk (hC o.k) (ot R o.c) (R + 1))) && (if mm o.k then decide (0 ≤ o.bf) && decide (o.bf < bufs.length) && !(decide (o.k = 15) && decide ((bfAt bufs o.bf).kd = 1)) && (!decide (ot R o.a = -1) || decide (o.im < (bfAt bufs o.bf).sz)) else decide (o.bf = 0)) && decide (leI o.k ≤ o.im) && decide (o.im ≤ moI o.k))) = true
  rw [e1, e2]
  simp only [Bool.and_eq_true]
  refine ⟨⟨k1, k2⟩, ⟨⟨⟨q, ⟨⟨⟨⟨ot_rOk hd, ot_rOk he⟩, ?_⟩, ot_rOk hb⟩, ot_rOk hc⟩⟩, hp⟩, hle⟩, hmo⟩
  rw [Bool.or_eq_true] at ha ⊢
  exact ha.imp id ot_rOk
/-- what stands ahead, by other numbers -/
structure RlO (R : Int) (s s' : Ah) : Prop where
  lp : s'.lp = s.lp.map (ot R)
  lt : ∀ d ∈ s.lp, 0 ≤ d ∧ d < R
  md : ∀ i : Nat, (i : Int) < R → s'.md (R - i).toNat = s.md i
theorem RlO.has {R r : Int} {s s' : Ah} (h : RlO R s s') (hr : -1 ≤ r ∧ r < R) : hasR s'.md (ot R r) = hasR s.md r := by
  unfold hasR
  by_cases e : r = -1
  · rw [decide_eq_true e, decide_eq_true ((ot_m1 hr).2 e)]; rfl
  · rw [decide_eq_false e, decide_eq_false (fun hh => e ((ot_m1 hr).1 hh)), Bool.false_or, Bool.false_or, ← h.md r.toNat (by omega)]
    unfold ot
    rw [if_neg (by omega), show R - ((r.toNat : Nat) : Int) = R - r by omega]
theorem ot_setR {R r : Int} {m m' : Nat → Bool} {v : Bool} (h : ∀ i : Nat, (i : Int) < R → m' (R - i).toNat = m i) (hr : -1 ≤ r ∧ r < R) : ∀ i : Nat, (i : Int) < R → setR m' (ot R r) v (R - i).toNat = setR m r v i := by
  intro i hi
  unfold setR
  by_cases e : r = -1
  · rw [if_neg (fun hh => hh.1 ((ot_m1 hr).2 e)), if_neg (fun hh => hh.1 e), h i hi]
  · have e2 : ot R r = R - r := by unfold ot; rw [if_neg (by omega)]
    rw [e2]
    by_cases e3 : i = r.toNat
    · rw [if_pos ⟨by omega, by omega⟩, if_pos ⟨e, e3⟩]
    · rw [if_neg (fun hh => by omega), if_neg (fun hh => e3 hh.2), h i hi]
theorem RlO.flt {R : Int} {bufs : List Bf} {s s' : Ah} {o : Op} (h : RlO R s s') (h0 : 0 ≤ R) (hf : fltO R bufs s o = 0) : fltO (R + 1) bufs s' (reO R o) = 0 := by
  obtain ⟨h1, h2, h3, h4, h5, h6⟩ := flt_zero hf
  have hl := opOk_lt h0 h1
  have hcon : ∀ r, -1 ≤ r ∧ r < R → s.lp.contains r = false → (s.lp.map (ot R)).contains (ot R r) = false := fun r hr hc => by
    rw [Bool.eq_false_iff]
    intro hh
    obtain ⟨d, hd, he⟩ := List.mem_map.1 (List.contains_iff_mem.1 hh)
    have hd2 := h.lt d hd
    have := ot_inj ⟨by omega, hd2.2⟩ hr he
    subst this
    rw [List.contains_iff_mem.2 hd] at hc
    cases hc
  have hm : misP s' (reO R o) = false := by
    unfold misP at h2 ⊢
    show (if o.k = 17 then s'.lp.isEmpty else if o.k = 16 then hasR s'.md (ot R o.d) else s'.lp.contains (ot R o.d) || s'.lp.contains (ot R o.e)) = false
    rw [h.lp, h.has hl.d]
    split
    · rename_i h17
      rw [if_pos h17] at h2
      rw [List.isEmpty_map]
      exact h2
    · rename_i h17
      rw [if_neg h17] at h2
      split
      · rename_i h16
        rw [if_pos h16] at h2
        exact h2
      · rename_i h16
        rw [if_neg h16, Bool.or_eq_false_iff] at h2
        rw [hcon _ hl.d h2.1, hcon _ hl.e h2.2]
        rfl
  unfold fltO
  rw [if_neg (by rw [ot_opOk h0 h1]; decide), if_neg (by rw [hm]; decide)]
  show (if o.k = 16 ∧ s'.lp.length = 8 then (10 : Int) else if hasR s'.md (ot R o.a) && hasR s'.md (ot R o.b) && hasR s'.md (ot R o.c) then 0 else 5) = 0
  rw [h.lp, List.length_map, if_neg h3, h.has hl.a, h.has hl.b, h.has hl.c, h4, h5, h6]
  rfl
theorem RlO.adv {R : Int} {bufs : List Bf} {s s' : Ah} {o : Op} (h : RlO R s s') (h0 : 0 ≤ R) (hf : fltO R bufs s o = 0) : RlO R (Lb.adv s o) (Lb.adv s' (reO R o)) := by
  obtain ⟨h1, h2, _⟩ := flt_zero hf
  have hl := opOk_lt h0 h1
  by_cases h17 : o.k = 17
  · rw [adv_17 h17, adv_17 (show (reO R o).k = 17 from h17), h.lp]
    have hne := mis_17 h2 h17
    obtain ⟨xs, y, hx⟩ : ∃ xs y, s.lp = xs ++ [y] := ⟨_, _, (List.dropLast_concat_getLast hne).symm⟩
    have hy := h.lt y (by rw [hx]; simp)
    refine ⟨by show List.dropLast _ = List.map _ (List.dropLast _); rw [List.map_dropLast], fun d hd => h.lt d (List.dropLast_subset _ hd), ?_⟩
    show ∀ i : Nat, (i : Int) < R → setR s'.md ((s.lp.map (ot R)).getLast?.getD (-1)) false (R - i).toNat = setR s.md (s.lp.getLast?.getD (-1)) false i
    rw [hx, List.map_append, List.map_singleton, List.getLast?_concat, List.getLast?_concat]
    exact ot_setR h.md ⟨by omega, hy.2⟩
  · unfold Lb.adv
    rw [if_neg h17, if_neg (show ¬ (reO R o).k = 17 from h17)]
    refine ⟨?_, fun d hd => ?_, ot_setR (ot_setR h.md hl.d) hl.e⟩
    · show (if o.k = 16 then s'.lp ++ [ot R o.d] else s'.lp) = List.map (ot R) (if o.k = 16 then s.lp ++ [o.d] else s.lp)
      rw [h.lp]
      split
      · rw [List.map_append]; rfl
      · rfl
    · replace hd : d ∈ (if o.k = 16 then s.lp ++ [o.d] else s.lp) := hd
      split at hd
      · rename_i h16
        rcases List.mem_append.1 hd with hd | hd
        · exact h.lt d hd
        · obtain rfl := List.mem_singleton.1 hd
          have h9 := (mis_16 h2 h16).1
          have := hl.d
          omega
      · exact h.lt d hd
theorem chk_ren {R : Int} {bufs : List Bf} (h0 : 0 ≤ R) : ∀ (L : List Op) (s s' : Ah) (n m : Nat), RlO R s s' → (chkG R bufs L s n).2 = 0 → (chkG (R + 1) bufs (L.map (reO R)) s' m).2 = 0
  | [], s, s', n, m, h, hc => by
    show (if s'.lp.isEmpty then (0 : Int) else 9) = 0
    replace hc : (if s.lp.isEmpty then (0 : Int) else 9) = 0 := hc
    rw [h.lp, List.isEmpty_map]
    exact hc
  | o :: L, s, s', n, m, h, hc => by
    rw [List.map_cons]
    unfold chkG at hc ⊢
    by_cases hf : fltO R bufs s o = 0
    · rw [if_neg (by simpa using hf)] at hc
      rw [if_neg (by simpa using h.flt h0 hf)]
      exact chk_ren h0 L _ _ _ _ (h.adv h0 hf) hc
    · rw [if_pos hf] at hc
      exact absurd hc hf
theorem ren_chk (H : Ok p) (hc : (chkP p).2 = 0) (hr : p.rg ≤ 62) : (chkP (renP p)).2 = 0 := by
  obtain ⟨r1, r2, r3, r4, r5⟩ := ref_zero H.ref
  have h1 : refP (renP p) = 0 := ref_ok H.ref (by show p.rg + 1 ≤ 64; omega) (by show 0 ≤ p.rg + 1; omega) rfl (by show (p.op.map _).length ≤ _; rw [List.length_map]; exact r3)
  unfold chkP at hc ⊢
  rw [if_neg (by simpa using H.ref)] at hc
  rw [if_neg (by simpa using h1)]
  exact chk_ren r4 p.op ah0 ah0 0 0 ⟨rfl, fun d hd => absurd hd List.not_mem_nil, fun _ _ => rfl⟩ hc
theorem ren_en : enP (renP p).op = enP p.op := by
  unfold enP enF
  show ((p.op.map (reO p.rg)).foldl enO ([], [])).1 = _
  rw [List.foldl_map]
  rfl
theorem ren_ev : evP (renP p).op = evP p.op := by
  unfold evP evF
  show (((p.op.map (reO p.rg)).foldl evO [(1, 0)]).getLast?.getD (1, 0)).2 = _
  rw [List.foldl_map]
  rfl
def rnN (R : Int) (i : Nat) : Nat := if (i : Int) < R then (R - i).toNat else if (i : Int) = R then 0 else i
def rnI (R r : Int) : Int := if r < 0 then -1 else ((rnN R r.toNat : Nat) : Int)
theorem rnI_ot {R r : Int} (h : -1 ≤ r ∧ r < R) : rnI R r = ot R r := by
  unfold rnI ot rnN
  by_cases e : r < 0
  · rw [if_pos e, if_pos e]
  · rw [if_neg e, if_neg e, if_pos (by omega)]
    omega
theorem ren_emb (H : Ok p) (hr : p.rg ≤ 62) : Emb p (renP p) id id (rnI p.rg) (rnN p.rg) (fun k i => (i : Int) < p.rg) false where
  op k o ho := by
    have hl := H.rgl (List.mem_of_getElem? ho)
    show (p.op.map (reO p.rg))[k]? = _
    rw [List.getElem?_map, ho, rnI_ot hl.d, rnI_ot hl.e, rnI_ot hl.a, rnI_ot hl.b, rnI_ot hl.c]
    rfl
  neg := rfl
  nat i hi := by
    unfold rnI
    rw [if_neg (by omega), Int.toNat_natCast]
  inj i k hi hk h := by
    have h0 := (ref_zero H.ref).2.2.2.1
    unfold rnN at h
    split at h <;> split at h <;> (try split at h) <;> (try split at h) <;> omega
  small k i h := by omega
  reads k o ho _ _ := by
    have hl := H.rgl (List.mem_of_getElem? ho)
    have ha := hl.a
    have hb := hl.b
    have hc := hl.c
    refine ⟨?_, ?_, ?_⟩
    · by_cases e : o.a = -1
      · exact .inl e
      · exact .inr (by omega)
    · by_cases e : o.b = -1
      · exact .inl e
      · exact .inr (by omega)
    · by_cases e : o.c = -1
      · exact .inl e
      · exact .inr (by omega)
  next k o ho h17 i hi := .inl hi
  en k o ho h17 := by
    obtain ⟨l, lo, e0, e1, e2, e3, e4, e5, e6⟩ := H.atEnd ho h17
    have hld := (H.rgl (List.mem_of_getElem? e3)).d
    exact ⟨l, lo, e2, e3, e4, by rw [ren_en]; exact e2, by omega, fun i hi => hi, fun i hi => .inl hi⟩
  j1 k _ := rfl
  gap k _ t ht := ⟨0, t, fun _ => rfl, ht, rfl, fun _ _ => rfl, fun _ => rfl⟩
/-- what LimbUnused asks -/
theorem ins_same (hp : p.wf) (hc : (chkP p).2 = 0) {at_ : Nat} {n : Int} (ha : at_ ≤ p.op.length) (hr : p.rg ≤ 62) (hl : p.op.length ≤ 1000) (hn : 0 ≤ n ∧ n ≤ 18446744073709551615) (hs : evP p.op ≤ 5000) {h : List (List Int)} {r x : Ans} (h1 : RunP p h r) (h2 : RunP (insP p at_ n) h x) : r.er = x.er ∧ r.out = x.out := by
  have H := ok_of hc
  have hq := ins_chk H (n := n) ha hr hl hn
  have he := ins_evs (p := p) (at_ := at_) (n := n)
  refine emb_same (z := false) (ins_emb H ha hr (ok_of hq)) H hp hc hq rfl ?_ ?_ hs (by omega) h1 h2
  · unfold insJ
    rw [if_pos (Nat.zero_le _)]
  · unfold insI
    rw [if_neg (by omega), ins_len ha]
theorem ren_same (hp : p.wf) (hc : (chkP p).2 = 0) (hr : p.rg ≤ 62) (hs : evP p.op ≤ 5000) {h : List (List Int)} {r x : Ans} (h1 : RunP p h r) (h2 : RunP (renP p) h x) : r.er = x.er ∧ r.out = x.out := by
  have H := ok_of hc
  exact emb_same (z := false) (ren_emb H hr) H hp hc (ren_chk H hc hr) rfl rfl (by show p.op.length = (p.op.map _).length; rw [List.length_map]) hs (by rw [ren_ev]; omega) h1 h2
end
end Lb
end Go.Proofs.YtfemoipbphianaaDoor
namespace Go.Proofs.YtfemoipbphianaaDoor
open Go Go.RowKit Go.Sort Go.Shelf
namespace Lb
open Wd Nt Gr
set_option linter.unusedVariables false
set_option linter.unusedSimpArgs false
/-- the program handed in in its box; one's own in block g -/
structure OpB (w W : World) (bx : Array Value) (g : Nat) (rg : Int) (bs : List Bf) (os : List Op) (gA c : Nat) (X : Option Addr) (d : Nat) : Prop where
  k : Bk W g 26 #[.int .i64 rg, .slice (some ⟨gA, 0, none⟩) bs.length c, .slice X os.length d]
  bs : Rws 29 w.heap.size (.slice (some ⟨gA, 0, none⟩) bs.length c) bs W
  os : Rws 33 w.heap.size (.slice X os.length d) os W
  b : Below w.heap.size w W
  hg : w.heap.size < g
  box : Bk W w.heap.size 26 bx
section
variable {w W W' : World} {bx : Array Value} {g : Nat} {rg : Int} {bs : List Bf} {os xs : List Op} {gA c : Nat} {X : Option Addr} {d : Nat}
theorem OpB.below (h : OpB w W bx g rg bs os gA c X d) (hb : Below W.heap.size W W') : OpB w W' bx g rg bs os gA c X d :=
  ⟨h.k.below hb h.k.lt, own_below h.bs hb, own_below h.os hb, bel_tr h.b hb, h.hg, h.box.below hb h.box.lt⟩
theorem OpB.cells (h : OpB w W bx g rg bs os gA c X d) : W.cell? ⟨g, 0, none⟩ = some (.int .i64 rg) ∧ W.cell? ⟨g, 1, none⟩ = some (.slice (some ⟨gA, 0, none⟩) bs.length c) ∧ W.cell? ⟨g, 2, none⟩ = some (.slice X os.length d) := c3 h.k
theorem OpB.rd (h : OpB w W bx g rg bs os gA c X d) : Rdr W W.heap.size (some ⟨gA, 0, none⟩) bs.length bs ∧ Rdr W W.heap.size X os.length os := ⟨(rws_rd h.bs).2.1, (rws_rd h.os).2.1⟩
/-- a row put behind, and stored -/
theorem OpB.app (h : OpB w W bx g rg bs os gA c X d) {Y : Option Addr} {m q B' : Nat} (hY : Rdr W B' Y m xs) (hm : m ≤ 100000) (hos : os.length ≤ 100000) :
    ∃ X6 c6 U', (Builtin.append_ #[24, 24] 24 #[.slice X os.length d, .slice Y m q]).run Tryd.prog W = .ok (.slice X6 (os ++ xs).length c6) U' ∧ (U'.cell? ⟨g, 2, none⟩ = some (.slice X os.length d) ∧ U'.frozen? ⟨g, 2, none⟩ = false ∧ g < U'.heap.size) ∧ OpB w (U'.setCell ⟨g, 2, none⟩ (.slice X6 (os ++ xs).length c6)) bx g rg bs (os ++ xs) gA c X6 c6 := by
  obtain ⟨i, hi, hz, q2, q3⟩ := info_parts info_lop
  obtain ⟨v9, w9, hap, h9, hgr9, hor⟩ := app_run (c := q) 24 33 24 i _ 64 Tryd.underlying24 hi hz q2 q3 rfl (by omega) h.os hY hm hos h.b.size
  obtain ⟨A9, c9, rfl, hc9⟩ := rws_form h9
  obtain ⟨ca, ha⟩ := ownBlk h.bs
  have hk9 := own_other h.os h.k (show (33 : TypeId) ≠ 26 by decide) hgr9
  have hbs9 : Rws 29 w.heap.size (.slice (some ⟨gA, 0, none⟩) bs.length c) bs w9 := by
    refine h.bs.kept hgr9 (.inr ?_)
    rcases h.os.2 with ⟨e1, _⟩ | ⟨g', cap, cur, e1, _, hg', _⟩
    · rw [show (Value.slice X os.length d).ownBlock = none from by rw [e1]; rfl]
      simp [Value.ownBlock]
    · rw [show (Value.slice X os.length d).ownBlock = some g' from by rw [e1]; rfl]
      simp only [Value.ownBlock]
      intro e
      exact bk_ne ha hg' (by decide) (by simpa using e)
  have hb9 : Below w.heap.size w w9 := own_grown h.os hgr9 h.b (Nat.le_refl _) h.b.size
  exact ⟨A9, c9, w9, hap, ⟨hk9.cell 2, hk9.frozen 2, hk9.lt⟩, hk9.set_ 2 _, own_far hbs9 hk9 (show (29 : TypeId) ≠ 26 by decide), own_far h9 hk9 (show (33 : TypeId) ≠ 26 by decide), hb9.setCell (p := ⟨g, 2, none⟩) (Nat.le_of_lt h.hg) _, h.hg, (own_other h.os h.box (show (33 : TypeId) ≠ 26 by decide) hgr9).far (p := ⟨g, 2, none⟩) (Nat.ne_of_lt h.hg) _⟩
end
end Lb
end Go.Proofs.YtfemoipbphianaaDoor
namespace Go.Proofs.YtfemoipbphianaaDoor
open Go Go.RowKit Go.Sort Go.Shelf
namespace Lb
open Wd Nt Gr
set_option linter.unusedVariables false
set_option linter.unusedSimpArgs false
/-- a whole operation stored anew -/
theorem own_put8E {w : World} {B gl n c j : Nat} {e : TypeId} {xs : List Op} {x y : Op} (h : Rws e B (.slice (some ⟨gl, 0, none⟩) n c) xs w) (hn : n = xs.length) (hx : xs[j]? = some x) :
    Rws e B (.slice (some ⟨gl, 0, none⟩) n c) (xs.set j y) ((((((((w.setCell ⟨gl, j * 8, none⟩ (.int .i64 y.k)).setCell ⟨gl, j * 8 + 1, none⟩ (.int .i64 y.d)).setCell ⟨gl, j * 8 + 2, none⟩ (.int .i64 y.e)).setCell ⟨gl, j * 8 + 3, none⟩ (.int .i64 y.a)).setCell ⟨gl, j * 8 + 4, none⟩ (.int .i64 y.b)).setCell ⟨gl, j * 8 + 5, none⟩ (.int .i64 y.c)).setCell ⟨gl, j * 8 + 6, none⟩ (.int .i64 y.bf)).setCell ⟨gl, j * 8 + 7, none⟩ (.int .u64 y.im)) := by
  have hl := (List.getElem?_eq_some_iff.1 hx).1
  have st : ∀ (d : Nat) (a b : Op) (v : Value) (w : World), d < 8 → (Op.vs a).set d v = Op.vs b → Rws e B (.slice (some ⟨gl, 0, none⟩) n c) (xs.set j a) w → Rws e B (.slice (some ⟨gl, 0, none⟩) n c) (xs.set j b) (w.setCell ⟨gl, j * 8 + d, none⟩ v) := fun d a b v w hd hv h0 => by
    have h1 := own_put (d := d) (y := b) (u := v) h0 (by rw [List.length_set]; exact hn) (List.getElem?_set_self hl) hd hv
    rw [List.set_set] at h1
    exact h1
  have h0 : Rws e B (.slice (some ⟨gl, 0, none⟩) n c) (xs.set j x) w := by
    have e1 : xs.set j x = xs := by
      apply List.ext_getElem?
      intro i
      rw [List.getElem?_set]
      split
      · rename_i hi
        subst hi
        rw [hx]
      · rfl
    rw [e1]
    exact h
  have k0 := st 0 x ⟨y.k, x.d, x.e, x.a, x.b, x.c, x.bf, x.im⟩ (.int .i64 y.k) w (by decide) rfl h0
  have k1 := st 1 ⟨y.k, x.d, x.e, x.a, x.b, x.c, x.bf, x.im⟩ ⟨y.k, y.d, x.e, x.a, x.b, x.c, x.bf, x.im⟩ (.int .i64 y.d) _ (by decide) rfl k0
  have k2 := st 2 ⟨y.k, y.d, x.e, x.a, x.b, x.c, x.bf, x.im⟩ ⟨y.k, y.d, y.e, x.a, x.b, x.c, x.bf, x.im⟩ (.int .i64 y.e) _ (by decide) rfl k1
  have k3 := st 3 ⟨y.k, y.d, y.e, x.a, x.b, x.c, x.bf, x.im⟩ ⟨y.k, y.d, y.e, y.a, x.b, x.c, x.bf, x.im⟩ (.int .i64 y.a) _ (by decide) rfl k2
  have k4 := st 4 ⟨y.k, y.d, y.e, y.a, x.b, x.c, x.bf, x.im⟩ ⟨y.k, y.d, y.e, y.a, y.b, x.c, x.bf, x.im⟩ (.int .i64 y.b) _ (by decide) rfl k3
  have k5 := st 5 ⟨y.k, y.d, y.e, y.a, y.b, x.c, x.bf, x.im⟩ ⟨y.k, y.d, y.e, y.a, y.b, y.c, x.bf, x.im⟩ (.int .i64 y.c) _ (by decide) rfl k4
  have k6 := st 6 ⟨y.k, y.d, y.e, y.a, y.b, y.c, x.bf, x.im⟩ ⟨y.k, y.d, y.e, y.a, y.b, y.c, y.bf, x.im⟩ (.int .i64 y.bf) _ (by decide) rfl k5
  exact st 7 ⟨y.k, y.d, y.e, y.a, y.b, y.c, y.bf, x.im⟩ y (.int .u64 y.im) _ (by decide) rfl k6

theorem rdr_takeE {T : Type} [Sh T] {w : World} {B n : Nat} {A : Option Addr} {xs : List T} (h : Rdr w B A n xs) (m : Nat) (hm : m ≤ n) : Rdr w B A m (xs.take m) := by
  refine ⟨by rw [List.length_take, h.len]; omega, fun h0 => ?_⟩
  obtain ⟨b, o, e, hb, hc⟩ := h.rd (by omega)
  refine ⟨b, o, e, hb, fun j x hj d v hv => hc j x ?_ d v hv⟩
  have hjm : j < m := by
    have := (List.getElem?_eq_some_iff.1 hj).1
    rw [List.length_take] at this
    omega
  rw [List.getElem?_take_of_lt hjm] at hj
  exact hj
theorem rdr_dropE {w : World} {B n d : Nat} {A : Option Addr} {xs : List Op} (h : Rdr w B A n xs) (m : Nat) (hm : m ≤ n) (hd : n ≤ d) : Rdr w B (if d = m then A else A.map fun x => x.add (m * 8)) (n - m) (xs.drop m) := by
  refine ⟨by rw [List.length_drop, h.len], fun h0 => ?_⟩
  obtain ⟨b, o, e, hb, hc⟩ := h.rd (by omega)
  refine ⟨b, o + m * 8, ?_, hb, fun j x hj d v hv => ?_⟩
  · rw [if_neg (by omega), e]
    simp [Addr.add]
  · rw [List.getElem?_drop] at hj
    have := hc (m + j) x hj d v hv
    rw [show o + m * 8 + j * Sh.k Op + d = o + (m + j) * Sh.k Op + d by show o + m * 8 + j * 8 + d = o + (m + j) * 8 + d; omega]
    exact this
section
variable {w W W' : World} {bx : Array Value} {g : Nat} {rg : Int} {bs : List Bf} {os xs : List Op} {gA c : Nat} {X : Option Addr} {d : Nat}
theorem OpB.setRg (h : OpB w W bx g rg bs os gA c X d) (r : Int) : OpB w (W.setCell ⟨g, 0, none⟩ (.int .i64 r)) bx g r bs os gA c X d :=
  ⟨h.k.set_ 0 _, own_far h.bs h.k (show (29 : TypeId) ≠ 26 by decide), own_far h.os h.k (show (33 : TypeId) ≠ 26 by decide), h.b.setCell (p := ⟨g, 0, none⟩) (Nat.le_of_lt h.hg) _, h.hg, h.box.far (p := ⟨g, 0, none⟩) (Nat.ne_of_lt h.hg) _⟩
/-- a program of one's own and how it lies over w -/
structure PgE (w W : World) (g : Nat) (rg : Int) (bs : List Bf) (os : List Op) (gA c gX d : Nat) : Prop where
  p : PgB w W g rg bs os gA c gX d
  b : Below w.heap.size w W
  hg : w.heap.size ≤ g
theorem PgE.below {gX : Nat} (h : PgE w W g rg bs os gA c gX d) (hb : Below W.heap.size W W') : PgE w W' g rg bs os gA c gX d := ⟨h.p.below hb, bel_tr h.b hb, h.hg⟩
theorem PgE.setRg {gX : Nat} (h : PgE w W g rg bs os gA c gX d) (r : Int) : PgE w (W.setCell ⟨g, 0, none⟩ (.int .i64 r)) g r bs os gA c gX d :=
  ⟨⟨h.p.k.set_ 0 _, own_far h.p.bs h.p.k (show (29 : TypeId) ≠ 26 by decide), own_far h.p.os h.p.k (show (33 : TypeId) ≠ 26 by decide)⟩, h.b.setCell (p := ⟨g, 0, none⟩) h.hg _, h.hg⟩
theorem PgE.cells {gX : Nat} (h : PgE w W g rg bs os gA c gX d) : W.cell? ⟨g, 0, none⟩ = some (.int .i64 rg) ∧ W.cell? ⟨g, 1, none⟩ = some (.slice (some ⟨gA, 0, none⟩) bs.length c) ∧ W.cell? ⟨g, 2, none⟩ = some (.slice (some ⟨gX, 0, none⟩) os.length d) := c3 h.p.k
/-- a whole operation stored -/
theorem PgE.put {gX j : Nat} {x : Op} (h : PgE w W g rg bs os gA c gX d) (hx : os[j]? = some x) (y : Op) :
    PgE w ((((((((W.setCell ⟨gX, j * 8, none⟩ (.int .i64 y.k)).setCell ⟨gX, j * 8 + 1, none⟩ (.int .i64 y.d)).setCell ⟨gX, j * 8 + 2, none⟩ (.int .i64 y.e)).setCell ⟨gX, j * 8 + 3, none⟩ (.int .i64 y.a)).setCell ⟨gX, j * 8 + 4, none⟩ (.int .i64 y.b)).setCell ⟨gX, j * 8 + 5, none⟩ (.int .i64 y.c)).setCell ⟨gX, j * 8 + 6, none⟩ (.int .i64 y.bf)).setCell ⟨gX, j * 8 + 7, none⟩ (.int .u64 y.im)) g rg bs (os.set j y) gA c gX d := by
  have hne := h.p.ne
  have hlo : w.heap.size ≤ gX := by
    rcases h.p.os.2 with ⟨e1, _⟩ | ⟨g', cap, cur, e1, h2, hg', _⟩
    · cases e1
    · cases e1
      exact h2
  have hb : ∀ {U : World} (i : Nat) (v : Value), (Bk U g 26 #[.int .i64 rg, .slice (some ⟨gA, 0, none⟩) bs.length c, .slice (some ⟨gX, 0, none⟩) os.length d] ∧ Rws 29 w.heap.size (.slice (some ⟨gA, 0, none⟩) bs.length c) bs U ∧ Below w.heap.size w U) → (Bk (U.setCell ⟨gX, i, none⟩ v) g 26 #[.int .i64 rg, .slice (some ⟨gA, 0, none⟩) bs.length c, .slice (some ⟨gX, 0, none⟩) os.length d] ∧ Rws 29 w.heap.size (.slice (some ⟨gA, 0, none⟩) bs.length c) bs (U.setCell ⟨gX, i, none⟩ v) ∧ Below w.heap.size w (U.setCell ⟨gX, i, none⟩ v)) := fun i v h0 =>
    ⟨h0.1.far (p := ⟨gX, i, none⟩) hne.2.1 v, h0.2.1.kept (row := some gX) (only_setCell _ _ _ _) (.inr (by simp [Value.ownBlock]; exact hne.2.2)), h0.2.2.setCell (p := ⟨gX, i, none⟩) hlo v⟩
  have h8 := hb (j * 8 + 7) (.int .u64 y.im) (hb (j * 8 + 6) (.int .i64 y.bf) (hb (j * 8 + 5) (.int .i64 y.c) (hb (j * 8 + 4) (.int .i64 y.b) (hb (j * 8 + 3) (.int .i64 y.a) (hb (j * 8 + 2) (.int .i64 y.e) (hb (j * 8 + 1) (.int .i64 y.d) (hb (j * 8) (.int .i64 y.k) ⟨h.p.k, h.p.bs, h.b⟩)))))))
  refine ⟨⟨?_, h8.2.1, ?_⟩, h8.2.2, h.hg⟩
  · rw [List.length_set]
    exact h8.1
  · rw [List.length_set]
    exact own_put8E h.p.os rfl hx
end
set_option maxRecDepth 100000 in
theorem other_l (r R : Int) (hr : I64 r) (hR : 0 ≤ R ∧ R ≤ 64) (w : World) : Calls Tryd.prog 35 #[.int .i64 r, .int .i64 R] w fun e w' => e = .returned (.int .i64 (ot R r)) ∧ w' = w := by
  unfold ot
  by_cases h : r < 0
  · rw [if_pos h]
    go_enter Tryd.func35, Tryd.ntmps35
    go_wp2_with fail
    go_ret
    exact ⟨rfl, rfl⟩
  · rw [if_neg h]
    have ew : IntKind.i64.wrap (R - r) = R - r := IntWalk.i64_in _ (by unfold I64 at hr; omega)
    go_enter Tryd.func35, Tryd.ntmps35
    go_wp2_with fail
    go_ret
    exact ⟨rfl, rfl⟩
/-- an append's run, as a thing that is not unfolded -/
structure AppRunE (P : Program) (t ty : TypeId) (v sx : Value) (w : World) (v' : Value) (w' : World) : Prop where
  r : (Builtin.append_ #[t, t] ty #[v, sx]).run P w = .ok v' w'
/-- append, by its run, as a step of a region that draws -/
theorem step_app_atE {P : Program} {w : World} {t : TypeId} {v sx v' : Value} {w' : World} {ops : Array Oper} {o : Oper} {a : Act} {K : Act → World → Prop} {Q : Exit → Act → World → Prop} {E : Prop} {s x : Operand} (hrun : AppRunE P t o.type v sx w v' w')
    (hg : o.guard = none) (hop : o.op = Op.call { callee := Callee.builtin Builtin.append, args := #[s, x], argTypes := #[t, t] })
    (hs : a.eval s = v) (hx : a.eval x = sx) (hK : K (a.put o.dst v') w') :
    if Region.wanted o (yielded ops a.tmps) = true then Oper.wp P o a w K Q else E := step_append_eq hg s x t hop v sx hs hx v' w' hrun.r hK
end Lb
end Go.Proofs.YtfemoipbphianaaDoor
namespace Go.Proofs.YtfemoipbphianaaDoor
open Go Go.RowKit Go.Sort Go.Shelf
namespace limbUnused
open Wd Nt Gr Lb
set_option linter.unusedVariables false
set_option linter.unusedSimpArgs false
set_option maxRecDepth 100000 in
set_option maxHeartbeats 16000000 in
theorem walk_ (w : World) (hT : TabF w) (p : Pg) (A X : Option Addr) (c d : Nat) (Y : Option Addr) (mr q : Nat) (hs : List Hr) (z u : Int) (hp : p.wf) (hR : Rdr w w.heap.size A p.bf.length p.bf) (hX : Rdr w w.heap.size X p.op.length p.op)
    (hpc : p.bf.length ≤ c ∧ c ≤ 9223372036854775807) (hpd : p.op.length ≤ d ∧ d ≤ 9223372036854775807) (hH : HrW w w.heap.size Y mr hs) (hmq : mr ≤ q) (hq : q ≤ 9223372036854775807) (hz : I64 z) (hu : W u) :
    Calls Tryd.prog 6 #[pgV p A c X d, .slice Y mr q, .int .i64 z, .int .u64 u] w fun e w' => e = .returned (.bool true) ∧ Below w.heap.size w w' := by
  have HL := Lib.hid (fun (W : World) (hb : Below w.heap.size w W) => lives_l W (hT.keep hb))
  have HTK := Lib.hid (fun (W : World) (hb : Below w.heap.size w W) => hT.keep hb)
  have HRR := Lib.hid (fun (W : World) (hb : Below w.heap.size w W) => (hR.below hb).more hb.size)
  have HXX := Lib.hid (fun (W : World) (hb : Below w.heap.size w W) => (hX.below hb).more hb.size)
  have HHH := Lib.hid (fun (W : World) (hb : Below w.heap.size w W) => (hH.below hb).more hb.size)
  have HCA := Lib.hid (fun (W : World) (hb : Below w.heap.size w W) => check_l p hp A X c d W (hT.keep hb) ((hR.below hb).more hb.size) ((hX.below hb).more hb.size))
  have HLP := Lib.hid (fun (W : World) (hb : Below w.heap.size w W) => lightProg2_l p hp A X c d 60 W ((hR.below hb).more hb.size))
  have HLR := Lib.hid (fun (W : World) (hb : Below w.heap.size w W) => lightRows_l Y mr q hs W ((hH.below hb).more hb.size))
  have HST := Lib.hid (fun (W : World) (hb : Below w.heap.size w W) => steps_l p hp A X c d W (hT.keep hb) ((hR.below hb).more hb.size) ((hX.below hb).more hb.size))
  have HOP := Lib.hid (fun (h1 : p.bf.length ≤ 100000) (h2 : p.op.length ≤ 100000) (W : World) (hb : Below w.heap.size w W) => ownProg_l p A X c d W ((hR.below hb).more hb.size) ((hX.below hb).more hb.size) h1 h2)
  have HRA := Lib.hid (fun (h : mr ≤ 1000000) (W : World) (hb : Below w.heap.size w W) => run_l p hp A X Y c d mr q hs W (hT.keep hb) ((hR.below hb).more hb.size) ((hX.below hb).more hb.size) ((hH.below hb).more hb.size) h)
  have HTA := Lib.hid (fun (h : List (List Int)) (r : Ans) (hr : RunP p h r) => tells hp hr)
  have HPW := Lib.hid hp
  have HPK := Lib.hid (fun (m : Int) (hm : I64 m) W => Kit.pick_c z m W hz.lit hm.lit)
  have HSO := Lib.hid (fun W => lop_l 1 p.rg (-1) (-1) (-1) (-1) u W)
  have HUW := Lib.hid hu
  have HSV : Hid (∀ s : Nat, stepsP p = s → (chkP p).2 = 0 → evP p.op = s) := Lib.hid (fun s h h0 => by unfold stepsP at h; rw [if_pos h0] at h; exact h)
  have hpl := hX.len
  have hbl := hR.len
  clear hT hR hX hH hp hu
  have HB0 := Lib.hid (bel_al (w := w) (.cells #[.int .i64 p.rg, .slice A p.bf.length c, .slice X p.op.length d] 26))
  have HK0 := Lib.hid (Bk.new w 26 #[.int .i64 p.rg, .slice A p.bf.length c, .slice X p.op.length d])
  obtain ⟨ck, hck⟩ : ∃ ck, chkP p = ck := ⟨_, rfl⟩
  have HE := Lib.hid hck
  rw [hck] at HCA
  clear hck
  obtain ⟨k1, k2⟩ := ck
  dsimp only at HCA
  unfold OwnP at HOP
  unfold pgV at *
  go_enter Tryd.func6, Tryd.ntmps6
  go_wp2_with fail
  go_at_call 9
  refine (HL.out _ HB0.out).mono ?_
  rintro e w1 ⟨rfl, hb⟩
  have HB1 := Lib.hid (bel_tr HB0.out hb)
  have HK1 := Lib.hid (HK0.out.below hb HK0.out.lt)
  clear hb HL HB0 HK0
  obtain ⟨a0, a1, a2⟩ := c3 HK1.out
  go_wp2_with fail
  go_at_call 25
  refine (HCA.out _ HB1.out).mono ?_
  rintro e w2 ⟨rfl, hb⟩
  have HB2 := Lib.hid (bel_tr HB1.out hb)
  have HK2 := Lib.hid (HK1.out.below hb HK1.out.lt)
  clear hb HCA HB1 HK1 a0 a1 a2
  obtain ⟨a0, a1, a2⟩ := c3 HK2.out
  go_wp2_with fail
  go_at_call 23
  refine (HLP.out _ HB2.out).mono ?_
  rintro e w3 ⟨⟨b1, rfl, hb1⟩, hb⟩
  have HB3 := Lib.hid (bel_tr HB2.out hb)
  have HK3 := Lib.hid (HK2.out.below hb HK2.out.lt)
  clear hb HLP HB2 HK2 a0 a1 a2
  cases b1
  · go_wp2_with fail
    go_ret
    exact ⟨rfl, HB3.out⟩
  obtain ⟨l1, l2, l3⟩ := hb1 rfl
  have l3' : p.op.length ≤ 60 := by omega
  clear l1 l3 hb1
  obtain ⟨a0, a1, a2⟩ := c3 HK3.out
  go_wp2_with fail
  go_at_call 24
  refine (HLR.out _ HB3.out).mono ?_
  rintro e w3b ⟨⟨t2, rfl, ht2⟩, rfl⟩
  cases t2
  · go_wp2_with fail
    go_ret
    exact ⟨rfl, HB3.out⟩
  obtain ⟨hm40, hm6⟩ := ht2 rfl
  have HM6 := Lib.hid hm6
  clear ht2 hm6 HLR
  by_cases h0 : k2 = 0
  case neg =>
    have hne : (k2 != 0) = true := by simpa using h0
    clear h0
    go_wp2_with fail
    go_ret
    exact ⟨rfl, HB3.out⟩
  subst h0
  obtain ⟨st, hst⟩ : ∃ s, stepsP p = s := ⟨_, rfl⟩
  have HEV := Lib.hid (HSV.out st hst (by rw [HE.out]))
  rw [hst] at HST
  clear hst HSV
  go_wp2_with fail
  go_at_call 18
  refine (HST.out _ HB3.out).mono ?_
  rintro e w4 ⟨rfl, hb⟩
  have HB4 := Lib.hid (bel_tr HB3.out hb)
  have HK4 := Lib.hid (HK3.out.below hb HK3.out.lt)
  clear hb HST HB3 HK3 a0 a1 a2
  obtain ⟨a0, a1, a2⟩ := c3 HK4.out
  by_cases hs2 : (5000 : Int) < (st : Int)
  · go_wp2_with fail
    go_ret
    exact ⟨rfl, HB4.out⟩
  by_cases hr2 : (62 : Int) < p.rg
  · go_wp2_with fail
    go_ret
    exact ⟨rfl, HB4.out⟩
  have hr0 := (ref_zero (ok_of (p := p) (by rw [HE.out])).ref).2.2.2.1
  have eN : IntKind.i64.wrap ((p.op.length : Int) + 1) = (p.op.length : Int) + 1 := IntWalk.i64_in _ (by omega)
  have HPK2 := Lib.hid (fun W => HPK.out ((p.op.length : Int) + 1) ⟨by omega, by omega⟩ W)
  obtain ⟨pk, hpk⟩ : ∃ pk, Kit.pick z ((p.op.length : Int) + 1) = pk := ⟨_, rfl⟩
  obtain ⟨hp0, hp8⟩ := Kit.pick_lt (n := z) (m := (p.op.length : Int) + 1) (by omega)
  rw [hpk] at HPK2 hp0 hp8
  obtain ⟨at_, rfl⟩ : ∃ n : Nat, pk = (n : Int) := ⟨pk.toNat, by omega⟩
  have hat : at_ ≤ p.op.length := by omega
  clear hpk HPK hp0 hp8 hz
  have HOP4 := Lib.hid (HOP.out (by omega) (by omega))
  clear HOP
  have HOK : Hid (Ok p) := Lib.hid (ok_of (by rw [HE.out]))
  go_wp2_with fail
  go_at_call 34
  refine (HPK2.out _).mono ?_
  rintro e w4b ⟨rfl, rfl⟩
  go_wp2_with fail
  go_at_call 30
  refine (HOP4.out _ HB4.out).mono ?_
  rintro e w5 ⟨hb5, gA, cA, gX, cX, rfl, hA5, hX5⟩
  go_upto_region 8 with fail
  have HB5 := Lib.hid (bel_tr HB4.out hb5)
  obtain ⟨W6, hW6⟩ : ∃ W, W = w5.alloc (.cells #[.int .i64 p.rg, .slice (some ⟨gA, 0, none⟩) p.bf.length cA, .slice (some ⟨gX, 0, none⟩) p.op.length cX] 26) := ⟨_, rfl⟩
  have HO6 : Hid (OpB w W6 #[.int .i64 p.rg, .slice A p.bf.length c, .slice X p.op.length d] w5.heap.size p.rg p.bf p.op gA cA (some ⟨gX, 0, none⟩) cX) := Lib.hid (by
    have hlt := HK4.out.lt
    have hs5 := hb5.size
    rw [hW6]
    exact ⟨Bk.new _ _ _, own_below (own_mono (B' := w.heap.size) hA5 HB4.out.size) (bel_al _), own_below (own_mono (B' := w.heap.size) hX5 HB4.out.size) (bel_al _), bel_al' HB5.out _, by omega, (HK4.out.below hb5 HK4.out.lt).alloc _⟩)
  rw [← hW6]
  obtain ⟨g, hg⟩ : ∃ g, w5.heap.size = g := ⟨_, rfl⟩
  rw [hg] at HO6 ⊢
  clear hW6 hg hb5 hA5 hX5 HB5 HK4 a0 a1 a2
  obtain ⟨a0, a1, a2⟩ := c3 HO6.out.box
  have hgl := HO6.out.k.lt
  have hwl := HO6.out.box.lt
  obtain ⟨n9, hn9⟩ : ∃ n9, p.op.length + 1 = n9 := ⟨_, rfl⟩
  have hlt : (p.op.take at_).length = at_ := by rw [List.length_take]; omega
  unfold Op.vs at HSO
  dsimp only at HSO
  simp only [List.toArray] at HSO
  have HOW : Hid (Calls Tryd.prog 14 #[.slice X at_ d] W6.drew fun e w' => Below W6.heap.size W6 w' ∧ ∃ g7 c7, e = .returned (.slice (some ⟨g7, 0, none⟩) at_ c7) ∧ Rws 33 w.heap.size (.slice (some ⟨g7, 0, none⟩) at_ c7) (p.op.take at_) w') := Lib.hid (by
    have hd : Below W6.heap.size W6 W6.drew := (Below.refl _ _).drew
    have h1 := rdr_takeE (HXX.out W6.drew (bel_tr HO6.out.b hd)) at_ hat
    refine (ownO_c X at_ d (p.op.take at_) W6.drew h1 (by omega)).mono ?_
    rintro e w' ⟨hb', g7, c7, rfl, hr⟩
    rw [hlt] at hr ⊢
    exact ⟨bel_tr hd hb', g7, c7, rfl, own_mono hr (bel_tr HO6.out.b hd).size⟩)
  have KEY : Hid (∀ (w7 : World) (g7 c7 : Nat), Below W6.heap.size W6 w7 → Rws 33 w.heap.size (.slice (some ⟨g7, 0, none⟩) at_ c7) (p.op.take at_) w7 → ∀ w8, Below w7.heap.size w7 w8 →
      ∃ A9 c9 w9 A10 c10 w10, (Builtin.append_ #[24, 24] 24 #[.slice (some ⟨g7, 0, none⟩) at_ c7, .slice (some ⟨w8.heap.size, 0, none⟩) 1 1]).run Tryd.prog (w8.alloc (.cells #[.int .i64 1, .int .i64 p.rg, .int .i64 (-1), .int .i64 (-1), .int .i64 (-1), .int .i64 (-1), .int .i64 0, .int .u64 u] 33)) = .ok (.slice A9 (at_ + 1) c9) w9 ∧
        (Builtin.append_ #[24, 24] 24 #[.slice A9 (at_ + 1) c9, .slice (if d = at_ then X else X.map fun x => x.add (at_ * 8)) (p.op.length - at_) (d - at_)]).run Tryd.prog w9 = .ok (.slice A10 n9 c10) w10 ∧
        (w8.cell? ⟨w.heap.size, 0, none⟩ = some (.int .i64 p.rg) ∧ w8.cell? ⟨w.heap.size, 2, none⟩ = some (.slice X p.op.length d) ∧ w.heap.size < w8.heap.size) ∧ (w9.cell? ⟨w.heap.size, 2, none⟩ = some (.slice X p.op.length d)) ∧
        (w10.cell? ⟨g, 2, none⟩ = some (.slice (some ⟨gX, 0, none⟩) p.op.length cX) ∧ w10.frozen? ⟨g, 2, none⟩ = false ∧ g < w10.heap.size) ∧
        OpB w (w10.setCell ⟨g, 2, none⟩ (.slice A10 n9 c10)) #[.int .i64 p.rg, .slice A p.bf.length c, .slice X p.op.length d] g p.rg p.bf (insP p at_ u).op gA cA A10 c10) := Lib.hid (fun w7 g7 c7 hb7 hr7 w8 hb8 => by
    obtain ⟨i, hi, hz, q2, q3⟩ := info_parts info_lop
    have hb68 := bel_tr hb7 hb8
    have hO8 := HO6.out.below hb68
    have hlit : Bk (w8.alloc (.cells #[.int .i64 1, .int .i64 p.rg, .int .i64 (-1), .int .i64 (-1), .int .i64 (-1), .int .i64 (-1), .int .i64 0, .int .u64 u] 33)) w8.heap.size 33 (row [cstO p.rg u]).toArray := Bk.new _ _ _
    have hrd := bk_rdr (B := w8.heap.size + 1) hlit (by omega)
    have hO8' := hO8.below (bel_al (.cells #[.int .i64 1, .int .i64 p.rg, .int .i64 (-1), .int .i64 (-1), .int .i64 (-1), .int .i64 (-1), .int .i64 0, .int .u64 u] 33))
    have hr8 : Rws 33 w.heap.size (.slice (some ⟨g7, 0, none⟩) at_ c7) (p.op.take at_) (w8.alloc (.cells #[.int .i64 1, .int .i64 p.rg, .int .i64 (-1), .int .i64 (-1), .int .i64 (-1), .int .i64 (-1), .int .i64 0, .int .u64 u] 33)) := own_below (own_below hr7 hb8) (bel_al _)
    obtain ⟨v9, w9, hap, h9, hgr9, _⟩ := app_run (c := 1) 24 33 24 i _ 64 Tryd.underlying24 hi hz q2 q3 rfl (by omega) hr8 hrd (by simp) (by omega) hO8'.b.size
    obtain ⟨A9, c9, rfl, hc9⟩ := rws_form h9
    have hl9 : (p.op.take at_ ++ [cstO p.rg u]).length = at_ + 1 := by rw [List.length_append, hlt]; rfl
    have hbx9 := own_other hr8 hO8'.box (show (33 : TypeId) ≠ 26 by decide) hgr9
    have hk9 := own_other hr8 hO8'.k (show (33 : TypeId) ≠ 26 by decide) hgr9
    have hbs9 := own_own hO8'.bs hr8 (show (29 : TypeId) ≠ 33 by decide) hgr9
    have hb9 : Below w.heap.size w w9 := own_grown hr8 hgr9 hO8'.b (Nat.le_refl _) hO8'.b.size
    obtain ⟨v10, w10, hap2, h10, hgr10, _⟩ := app_run (c := d - at_) 24 33 24 i _ 64 Tryd.underlying24 hi hz q2 q3 rfl (by omega) h9 (rdr_dropE (HXX.out w9 hb9) at_ hat hpd.1) (by omega) (by omega) hb9.size
    obtain ⟨A10, c10, rfl, hc10⟩ := rws_form h10
    have hl10 : (p.op.take at_ ++ [cstO p.rg u] ++ p.op.drop at_).length = n9 := by rw [List.length_append, hl9, List.length_drop]; omega
    have hbx10 := own_other h9 hbx9 (show (33 : TypeId) ≠ 26 by decide) hgr10
    have hk10 := own_other h9 hk9 (show (33 : TypeId) ≠ 26 by decide) hgr10
    have hbs10 := own_own hbs9 h9 (show (29 : TypeId) ≠ 33 by decide) hgr10
    have hb10 : Below w.heap.size w w10 := own_grown h9 hgr10 hb9 (Nat.le_refl _) hb9.size
    have hins : (insP p at_ u).op = p.op.take at_ ++ [cstO p.rg u] ++ p.op.drop at_ := by
      show p.op.take at_ ++ cstO p.rg u :: p.op.drop at_ = _
      rw [List.append_assoc]
      rfl
    rw [hl9] at hap hap2
    rw [hl10] at hap2
    refine ⟨A9, c9, w9, A10, c10, w10, hap, hap2, ⟨hO8.box.cell 0, hO8.box.cell 2, hO8.box.lt⟩, hbx9.cell 2, ⟨hk10.cell 2, hk10.frozen 2, hk10.lt⟩, ?_⟩
    rw [hins]
    refine ⟨?_, own_far hbs10 hk10 (show (29 : TypeId) ≠ 26 by decide), own_far h10 hk10 (show (33 : TypeId) ≠ 26 by decide), hb10.setCell (p := ⟨g, 2, none⟩) (Nat.le_of_lt HO6.out.hg) _, HO6.out.hg, hbx10.far (p := ⟨g, 2, none⟩) (Nat.ne_of_lt HO6.out.hg) _⟩
    rw [hl10]
    exact hk10.set_ 2 _)
  have HX6 := Lib.hid (fun (W : World) (hb : Below W6.heap.size W6 W) => c3 (HO6.out.below hb).box)
  go_wp2_with fail
  go_cut [] from 61 to 77 (fun W => ∃ X9 c9, Hid (OpB w W #[.int .i64 p.rg, .slice A p.bf.length c, .slice X p.op.length d] g p.rg p.bf (insP p at_ u).op gA cA X9 c9))
  case first =>
    have hat' : (at_ : Int) ≤ (p.op.length : Int) := by omega
    have hatd : (at_ : Int) ≤ (d : Int) := by omega
    have hat0 : (0 : Int) ≤ (at_ : Int) := by omega
    generalize p.op.length = no at *
    go_region_law (first
      | (refine step_app_atE (by first | exact hap | exact hap2) rfl rfl rfl rfl ?_)
      | ((try go_simp); go_at_call 14; refine HOW.out.mono ?_; rintro e w7 ⟨hb67, g7, c7, rfl, hr7⟩; obtain ⟨y0, y1, y2⟩ := HX6.out w7 hb67)
      | ((try go_simp); go_at_call 12; refine (HSO.out _).mono ?_; rintro e w8 ⟨rfl, h8⟩; obtain ⟨A9, c9, w9, A10, c10, w10, hap, hap2, ⟨k0, k2, k7⟩, k3, ⟨k4, k5, k6⟩, hof⟩ := KEY.out w7 g7 c7 hb67 hr7 w8 (by rw [h8]; exact bel_al _); have HOF := Lib.hid hof; replace hap := AppRunE.mk hap; replace hap2 := AppRunE.mk hap2; clear h8 hof)
      | fail)
    all_goals (
      by_cases hd : d = at_
      · subst hd
        go_wp2_with fail
        go_meet
        case rel => exact ⟨A10, c10, HOF⟩
      · go_wp2_with fail
        go_meet
        case rel => exact ⟨A10, c10, HOF⟩)
  case rest =>
    obtain ⟨X9, c9, HQ⟩ := hcut
    have hn64 : 0 ≤ u ∧ u ≤ 18446744073709551615 := HUW.out
    have H5 : Hid (evP p.op ≤ 5000) := Lib.hid (by rw [HEV.out]; omega)
    have HIS := Lib.hid (fun (h : List (List Int)) (r x : Ans) (h1 : RunP p h r) (h2 : RunP (insP p at_ u) h x) => ins_same HPW.out (by rw [HE.out]) hat (by omega) (by omega) hn64 H5.out h1 h2)
    have HRS := Lib.hid (fun (h : List (List Int)) (r x : Ans) (h1 : RunP p h r) (h2 : RunP (renP p) h x) => ren_same HPW.out (by rw [HE.out]) (by omega) H5.out h1 h2)
    have HLI : Hid ((insP p at_ u).op.length = n9) := Lib.hid (by rw [ins_len hat]; exact hn9)
    have WI : (insP p at_ u).wf := ⟨show I64 (p.rg + 2) by unfold I64; omega, HPW.out.bf, fun o ho => by
      rcases List.mem_append.1 (show o ∈ p.op.take at_ ++ cstO p.rg u :: p.op.drop at_ from ho) with ho | ho
      · exact HPW.out.op o (List.mem_of_mem_take ho)
      · rcases List.mem_cons.1 ho with rfl | ho
        · have n1 : I64 (-1) := by unfold I64; decide
          exact ⟨show I64 1 by unfold I64; decide, show I64 p.rg by unfold I64; omega, n1, n1, n1, n1, show I64 0 by unfold I64; decide, HUW.out⟩
        · exact HPW.out.op o (List.mem_of_mem_drop ho)⟩
    have WR : (renP p).wf := ⟨show I64 (p.rg + 1) by unfold I64; omega, HPW.out.bf, fun o ho => by
      obtain ⟨o', ho', rfl⟩ := List.mem_map.1 (show o ∈ p.op.map (reO p.rg) from ho)
      have hw := HPW.out.op o' ho'
      have hl := HOK.out.rgl ho'
      have ho : ∀ r, -1 ≤ r ∧ r < p.rg → I64 (ot p.rg r) := fun r hr => by unfold ot I64; split <;> omega
      exact ⟨hw.k, ho _ hl.d, ho _ hl.e, ho _ hl.a, ho _ hl.b, ho _ hl.c, hw.bf, hw.im⟩⟩
    have HWI := Lib.hid WI
    have HWR := Lib.hid WR
    have HTB := Lib.hid (fun (h : List (List Int)) (r : Ans) (hr : RunP (insP p at_ u) h r) => tells HWI.out hr)
    have HTC := Lib.hid (fun (h : List (List Int)) (r : Ans) (hr : RunP (renP p) h r) => tells HWR.out hr)
    have er2 : IntKind.i64.wrap (p.rg + 2) = p.rg + 2 := IntWalk.i64_in _ (by omega)
    have er1 : IntKind.i64.wrap (p.rg + 1) = p.rg + 1 := IntWalk.i64_in _ (by omega)
    clear KEY HOW HX6 HSO a0 a1 a2 HO6 hlt hn9 WI WR hgl hwl hpd eN HPK2 HEV HUW
    obtain ⟨q0, q1, q2⟩ := HQ.out.cells
    obtain ⟨a0, a1, a2⟩ := c3 HQ.out.box
    have f0 := HQ.out.k.frozen 0
    have hgl := HQ.out.k.lt
    go_upto_region 10 with fail
    obtain ⟨W9, hW9⟩ : ∃ W, W = wc.setCell ⟨g, 0, none⟩ (.int .i64 (p.rg + 2)) := ⟨_, rfl⟩
    have HQ9 : Hid (OpB w W9 #[.int .i64 p.rg, .slice A p.bf.length c, .slice X p.op.length d] g (p.rg + 2) p.bf (insP p at_ u).op gA cA X9 c9) := Lib.hid (by rw [hW9]; exact HQ.out.setRg _)
    rw [← hW9]
    clear hW9 q0 q1 q2 a0 a1 a2 f0 hgl HQ
    obtain ⟨a0, a1, a2⟩ := c3 HQ9.out.box
    have HOP9 := Lib.hid (HOP4.out W9 HQ9.out.b)
    clear HOP4
    go_wp2_with fail
    go_at_call 30
    refine HOP9.out.mono ?_
    rintro e w10 ⟨hb10, hA, dA, hX, dX, rfl, hA10, hX10⟩
    go_upto_region 11 with fail
    obtain ⟨W11, hW11⟩ : ∃ W, W = w10.alloc (.cells #[.int .i64 p.rg, .slice (some ⟨hA, 0, none⟩) p.bf.length dA, .slice (some ⟨hX, 0, none⟩) p.op.length dX] 26) := ⟨_, rfl⟩
    have HR11 : Hid (PgE W9 W11 w10.heap.size p.rg p.bf p.op hA dA hX dX) := Lib.hid (by
      rw [hW11]
      exact ⟨⟨Bk.new _ _ _, own_below hA10 (bel_al _), own_below hX10 (bel_al _)⟩, bel_al' hb10 _, hb10.size⟩)
    rw [← hW11]
    obtain ⟨g3, hg3⟩ : ∃ g, w10.heap.size = g := ⟨_, rfl⟩
    rw [hg3] at HR11 ⊢
    clear hW11 hg3 hb10 hA10 hX10 a0 a1 a2 HOP9
    obtain ⟨a0, a1, a2⟩ := c3 (HQ9.out.below HR11.out.b).box
    obtain ⟨r0, r1, r2⟩ := HR11.out.cells
    have f0 := HR11.out.p.k.frozen 0
    have hgl := HR11.out.p.k.lt
    go_upto_region 12 with fail
    obtain ⟨W12, hW12⟩ : ∃ W, W = W11.setCell ⟨g3, 0, none⟩ (.int .i64 (p.rg + 1)) := ⟨_, rfl⟩
    have HR12 : Hid (PgE W9 W12 g3 (p.rg + 1) p.bf p.op hA dA hX dX) := Lib.hid (by rw [hW12]; exact HR11.out.setRg _)
    rw [← hW12]
    clear hW12 a0 a1 a2 r0 r1 r2 f0 hgl HR11
    have HOT := Lib.hid (fun (r : Int) (hr : I64 r) (W : World) => other_l r p.rg hr ⟨by omega, by omega⟩ W)
    have HBX := Lib.hid (fun (W : World) (hb : Below W9.heap.size W9 W) => c3 (HQ9.out.below hb).box)
    obtain ⟨no, hno⟩ : ∃ n, p.op.length = n := ⟨_, rfl⟩
    have HNO := Lib.hid hno
    rw [hno] at HRA HBX HQ9 hat l3' ⊢
    clear hno
    go_wp2_with fail
    go_loopw [13] (fun i W => ∃ k : Nat, k ≤ no ∧ i = .int .i64 (k : Int) ∧ Hid (PgE W9 W g3 (p.rg + 1) p.bf ((p.op.take k).map (reO p.rg) ++ p.op.drop k) hA dA hX dX)) (fun i _ => no - (intOf i).toNat)
    case atStart => exact ⟨0, Nat.zero_le _, rfl, HR12⟩
    case round =>
      obtain ⟨k, hk, rfl, HK⟩ := hrel
      clear HR12
      have hlen := HNO.out
      have hln : ((p.op.take k).map (reO p.rg) ++ p.op.drop k).length = no := by rw [List.length_append, List.length_map, List.length_take, List.length_drop]; omega
      obtain ⟨r0, r1, r2⟩ := HK.out.cells
      rw [hln] at r2
      rcases Nat.lt_or_ge k no with hlt | hge
      · have hkl : k < p.op.length := by omega
        have hki : (k : Int) < (no : Int) := by omega
        have hk0 : (0 : Int) ≤ (k : Int) := by omega
        have ew : IntKind.i64.wrap ((k : Int) + 1) = ((k + 1 : Nat) : Int) := by rw [show (k : Int) + 1 = ((k + 1 : Nat) : Int) by omega]; exact IntWalk.i64_in _ (by omega)
        obtain ⟨o, ho⟩ : ∃ o, p.op[k]? = some o := ⟨_, List.getElem?_eq_getElem hkl⟩
        have hos : ((p.op.take k).map (reO p.rg) ++ p.op.drop k)[k]? = some o := by
          rw [List.getElem?_append_right (by rw [List.length_map, List.length_take]; omega), List.length_map, List.length_take, List.getElem?_drop, show k + (k - min k p.op.length) = k by omega]
          exact ho
        have hset : ((p.op.take k).map (reO p.rg) ++ p.op.drop k).set k (reO p.rg o) = (p.op.take (k + 1)).map (reO p.rg) ++ p.op.drop (k + 1) := by
          have hdr : p.op.drop k = o :: p.op.drop (k + 1) := by
            rw [List.drop_eq_getElem_cons hkl]
            congr 1
            rw [List.getElem?_eq_getElem hkl] at ho
            exact Option.some.inj ho
          rw [hdr, List.set_append_right _ _ (by rw [List.length_map, List.length_take]; omega), List.length_map, List.length_take, show k - min k p.op.length = 0 by omega, List.set_cons_zero, List.take_add_one, ho]
          simp
        have how := HPW.out.op o (List.mem_of_getElem? ho)
        obtain ⟨xb, xo, e1, hxb, x0, x1, x2, x3, x4, x5, x6, x7⟩ := op_at HK.out.p.rd.2 hos
        cases e1
        rw [Nat.zero_add] at x0 x1 x2 x3 x4 x5 x6 x7
        obtain ⟨W14, hW14⟩ : ∃ W, W = wr.alloc (.cells #[.int .i64 o.k, .int .i64 o.d, .int .i64 o.e, .int .i64 o.a, .int .i64 o.b, .int .i64 o.c, .int .i64 o.bf, .int .u64 o.im] 33) := ⟨_, rfl⟩
        have HK14 : Hid (PgE W9 W14 g3 (p.rg + 1) p.bf ((p.op.take k).map (reO p.rg) ++ p.op.drop k) hA dA hX dX) := Lib.hid (by rw [hW14]; exact HK.out.below (bel_al _))
        have HO14 : Hid (Bk W14 wr.heap.size 33 #[.int .i64 o.k, .int .i64 o.d, .int .i64 o.e, .int .i64 o.a, .int .i64 o.b, .int .i64 o.c, .int .i64 o.bf, .int .u64 o.im]) := Lib.hid (by rw [hW14]; exact Bk.new _ _ _)
        have HP14 : Hid (PgE W9 ((((((((W14.setCell ⟨hX, k * 8, none⟩ (.int .i64 o.k)).setCell ⟨hX, k * 8 + 1, none⟩ (.int .i64 (ot p.rg o.d))).setCell ⟨hX, k * 8 + 2, none⟩ (.int .i64 (ot p.rg o.e))).setCell ⟨hX, k * 8 + 3, none⟩ (.int .i64 (ot p.rg o.a))).setCell ⟨hX, k * 8 + 4, none⟩ (.int .i64 (ot p.rg o.b))).setCell ⟨hX, k * 8 + 5, none⟩ (.int .i64 (ot p.rg o.c))).setCell ⟨hX, k * 8 + 6, none⟩ (.int .i64 o.bf)).setCell ⟨hX, k * 8 + 7, none⟩ (.int .u64 o.im)).drew g3 (p.rg + 1) p.bf ((p.op.take (k + 1)).map (reO p.rg) ++ p.op.drop (k + 1)) hA dA hX dX) := Lib.hid (by
          have h := (HK14.out.put hos (reO p.rg o)).below ((Below.refl _ _).drew)
          rw [hset] at h
          exact h)
        have hwk := how.k
        have hwd := how.d
        have hwe := how.e
        have hwa := how.a
        have hwb := how.b
        have hwc := how.c
        have hX14 := op_at HK14.out.p.rd.2 hos
        have hF14 : ∀ i, W14.frozen? ⟨hX, i, none⟩ = false := fun i => by
          have h := HK14.out.p.os
          unfold Rws at h
          exact World.ownsRow.frozenAt h i
        clear ho hos hset how hln hkl hlen
        obtain ⟨ok, od, oe, oa, ob, oc, obf, oim⟩ := o
        dsimp only at *
        go_upto_region 16 with fail
        rw [← hW14]
        obtain ⟨g14, hg14⟩ : ∃ g, wr.heap.size = g := ⟨_, rfl⟩
        rw [hg14] at HO14 ⊢
        clear hW14 hg14 x0 x1 x2 x3 x4 x5 x6 x7 r0 r1 r2 hxb
        obtain ⟨xb, xo, e1, hxb, x0, x1, x2, x3, x4, x5, x6, x7⟩ := hX14
        cases e1
        rw [Nat.zero_add] at x0 x1 x2 x3 x4 x5 x6 x7
        obtain ⟨a0, a1, a2⟩ := HBX.out W14 HK14.out.b
        obtain ⟨r0, r1, r2⟩ := HK14.out.cells
        have hln : ((p.op.take k).map (reO p.rg) ++ p.op.drop k).length = no := by have := HNO.out; rw [List.length_append, List.length_map, List.length_take, List.length_drop]; omega
        rw [hln] at r2
        have y0 : W14.drew.cell? ⟨g14, 0, none⟩ = some (.int .i64 ok) := HO14.out.cell 0
        have y1 : W14.drew.cell? ⟨g14, 1, none⟩ = some (.int .i64 od) := HO14.out.cell 1
        have y2 : W14.drew.cell? ⟨g14, 2, none⟩ = some (.int .i64 oe) := HO14.out.cell 2
        have y3 : W14.drew.cell? ⟨g14, 3, none⟩ = some (.int .i64 oa) := HO14.out.cell 3
        have y4 : W14.drew.cell? ⟨g14, 4, none⟩ = some (.int .i64 ob) := HO14.out.cell 4
        have y5 : W14.drew.cell? ⟨g14, 5, none⟩ = some (.int .i64 oc) := HO14.out.cell 5
        have y6 : W14.drew.cell? ⟨g14, 6, none⟩ = some (.int .i64 obf) := HO14.out.cell 6
        have y7 : W14.drew.cell? ⟨g14, 7, none⟩ = some (.int .u64 oim) := HO14.out.cell 7
        have z0 : W14.drew.frozen? ⟨hX, k * 8, none⟩ = false := hF14 (k * 8)
        have z1 : W14.drew.frozen? ⟨hX, k * 8 + 1, none⟩ = false := hF14 (k * 8 + 1)
        have z2 : W14.drew.frozen? ⟨hX, k * 8 + 2, none⟩ = false := hF14 (k * 8 + 2)
        have z3 : W14.drew.frozen? ⟨hX, k * 8 + 3, none⟩ = false := hF14 (k * 8 + 3)
        have z4 : W14.drew.frozen? ⟨hX, k * 8 + 4, none⟩ = false := hF14 (k * 8 + 4)
        have z5 : W14.drew.frozen? ⟨hX, k * 8 + 5, none⟩ = false := hF14 (k * 8 + 5)
        have z6 : W14.drew.frozen? ⟨hX, k * 8 + 6, none⟩ = false := hF14 (k * 8 + 6)
        have z7 : W14.drew.frozen? ⟨hX, k * 8 + 7, none⟩ = false := hF14 (k * 8 + 7)
        have v0 : W14.drew.cell? ⟨hX, k * 8, none⟩ = some (.int .i64 ok) := x0
        have v1 : W14.drew.cell? ⟨hX, k * 8 + 1, none⟩ = some (.int .i64 od) := x1
        have v2 : W14.drew.cell? ⟨hX, k * 8 + 2, none⟩ = some (.int .i64 oe) := x2
        have v3 : W14.drew.cell? ⟨hX, k * 8 + 3, none⟩ = some (.int .i64 oa) := x3
        have v4 : W14.drew.cell? ⟨hX, k * 8 + 4, none⟩ = some (.int .i64 ob) := x4
        have v5 : W14.drew.cell? ⟨hX, k * 8 + 5, none⟩ = some (.int .i64 oc) := x5
        have v6 : W14.drew.cell? ⟨hX, k * 8 + 6, none⟩ = some (.int .i64 obf) := x6
        have v7 : W14.drew.cell? ⟨hX, k * 8 + 7, none⟩ = some (.int .u64 oim) := x7
        have b0 : W14.drew.cell? ⟨w.heap.size, 0, none⟩ = some (.int .i64 p.rg) := a0
        have b2 : W14.drew.cell? ⟨g3, 2, none⟩ = some (.slice (some ⟨hX, 0, none⟩) no dX) := r2
        have K1 := HOT.out od hwd W14.drew
        have K2 := HOT.out oe hwe W14.drew
        have K3 := HOT.out oa hwa W14.drew
        have K4 := HOT.out ob hwb W14.drew
        have K5 := HOT.out oc hwc W14.drew
        have zz0 : W14.frozen? ⟨hX, k * 8, none⟩ = false := hF14 (k * 8)
        have zz1 : W14.frozen? ⟨hX, k * 8 + 1, none⟩ = false := hF14 (k * 8 + 1)
        have zz2 : W14.frozen? ⟨hX, k * 8 + 2, none⟩ = false := hF14 (k * 8 + 2)
        have zz3 : W14.frozen? ⟨hX, k * 8 + 3, none⟩ = false := hF14 (k * 8 + 3)
        have zz4 : W14.frozen? ⟨hX, k * 8 + 4, none⟩ = false := hF14 (k * 8 + 4)
        have zz5 : W14.frozen? ⟨hX, k * 8 + 5, none⟩ = false := hF14 (k * 8 + 5)
        have zz6 : W14.frozen? ⟨hX, k * 8 + 6, none⟩ = false := hF14 (k * 8 + 6)
        have zz7 : W14.frozen? ⟨hX, k * 8 + 7, none⟩ = false := hF14 (k * 8 + 7)
        clear hF14 hln a0 a1 a2 r0 r1 r2
        go_wp2_with fail
        refine wp_region_still_tail 36 (by kernel_rfl) (by kernel_rfl) ?_
        simp only [List.take_succ_cons, List.take_zero, List.drop_succ_cons, List.drop_zero]
        iterate 9 still_step
        still_call K1
        iterate 4 still_step
        still_call K2
        iterate 4 still_step
        still_call K3
        iterate 4 still_step
        still_call K4
        iterate 4 still_step
        still_call K5
        iterate 6 still_step
        refine wpStill_nil ?_
        clear K1 K2 K3 K4 K5
        go_wp2_with fail
        go_roundw
        case rel => exact ⟨k + 1, by omega, by first | rfl | go_num, HP14⟩
        case measure => (simp [intOf] <;> omega)
      · have hkL : k = no := by omega
        have HR : Hid (PgE W9 wr g3 (p.rg + 1) p.bf (p.op.map (reO p.rg)) hA dA hX dX) := Lib.hid (by
          have h := HK.out
          rw [hkL, ← HNO.out, List.take_length, List.drop_length, List.append_nil] at h
          exact h)
        have hno : no ≤ 1000000 := by omega
        have HRB := Lib.hid (fun (h : mr ≤ 1000000) (W : World) (hb : Below wr.heap.size wr W) => run_l (insP p at_ u) HWI.out (some ⟨gA, 0, none⟩) X9 Y cA c9 mr q hs W (HTK.out W (bel_tr HQ9.out.b (bel_tr HR.out.b hb))) (HQ9.out.below (bel_tr HR.out.b hb)).rd.1 (HQ9.out.below (bel_tr HR.out.b hb)).rd.2 (HHH.out W (bel_tr HQ9.out.b (bel_tr HR.out.b hb))) h)
        have HRC := Lib.hid (fun (h : mr ≤ 1000000) (W : World) (hb : Below wr.heap.size wr W) => run_l (renP p) HWR.out (some ⟨hA, 0, none⟩) (some ⟨hX, 0, none⟩) Y dA dX mr q hs W (HTK.out W (bel_tr HQ9.out.b (bel_tr HR.out.b hb))) (HR.out.below hb).p.rd.1 (HR.out.below hb).p.rd.2 (HHH.out W (bel_tr HQ9.out.b (bel_tr HR.out.b hb))) h)
        have HBR := Lib.hid (show Below w.heap.size w wr from bel_tr HQ9.out.b HR.out.b)
        have HCC := Lib.hid (fun (W : World) (hb : Below wr.heap.size wr W) => And.intro (c3 (HQ9.out.below (bel_tr HR.out.b hb)).box) (And.intro (HQ9.out.below (bel_tr HR.out.b hb)).cells (HR.out.below hb).cells))
        unfold pgV at HRB HRC
        rw [show (insP p at_ u).rg = p.rg + 2 from rfl, show (insP p at_ u).bf = p.bf from rfl, HLI.out] at HRB
        rw [show (renP p).rg = p.rg + 1 from rfl, show (renP p).bf = p.bf from rfl, show (renP p).op.length = no from (List.length_map _).trans HNO.out] at HRC
        rw [HLI.out, List.length_map, HNO.out] at HCC
        clear hk hge HK hln hlen r0 r1 r2 HQ9 HR HOT HBX HLI HRR HXX
        rw [hkL]
        clear hkL
        generalize p.bf.length = nb at *
        obtain ⟨⟨a0, a1, a2⟩, ⟨q0, q1, q2⟩, r0, r1, r2⟩ := HCC.out wr (Below.refl _ _)
        go_wp2_with fail
        go_at_call 16
        refine (HRA.out (by omega) _ HBR.out).mono ?_
        rintro e w20 ⟨⟨vo, vl, r, rfl, hrp, hro, hrv⟩, hb20⟩
        have HB20 := Lib.hid hb20
        have ht := HTA.out _ r hrp
        obtain ⟨Ao, co, ho, rfl, hoh, hoy, hoc⟩ := hro.hr (fun y hy => by have := ht.ol y hy; omega)
        obtain ⟨Av, cv, rfl, hcv⟩ := rws_form hrv
        have HO1 := Lib.hid hoh
        have HT1 := Lib.hid ht
        have HP1 := Lib.hid hrp
        have HY1 := Lib.hid hoy
        obtain ⟨n1, hn1⟩ : ∃ n, r.out.length = n := ⟨_, rfl⟩
        obtain ⟨e1, he1⟩ : ∃ n, r.ev.length = n := ⟨_, rfl⟩
        obtain ⟨f1, hf1⟩ : ∃ n, r.er = n := ⟨_, rfl⟩
        have HN1 := Lib.hid (And.intro hn1 hf1)
        rw [hn1] at HO1
        rw [hn1, he1, hf1]
        clear hn1 he1 hf1 hb20 hrp hro hrv ht hoh hoy hoc hcv HRA a0 a1 a2 q0 q1 q2 r0 r1 r2
        obtain ⟨⟨a0, a1, a2⟩, ⟨q0, q1, q2⟩, r0, r1, r2⟩ := HCC.out w20 HB20.out
        go_wp2_with fail
        go_at_call 16
        refine (HRB.out (by omega) _ HB20.out).mono ?_
        rintro e w21 ⟨⟨vo2, vl2, rr2, rfl, hrp2, hro2, hrv2⟩, hb21⟩
        have HB21 := Lib.hid (bel_tr HB20.out hb21)
        have ht2 := HTB.out _ rr2 hrp2
        obtain ⟨Ao2, co2, ho2, rfl, hoh2, hoy2, hoc2⟩ := hro2.hr (fun y hy => by have := ht2.ol y hy; omega)
        obtain ⟨Av2, cv2, rfl, hcv2⟩ := rws_form hrv2
        have HO2 := Lib.hid hoh2
        have HT2 := Lib.hid ht2
        have HY2 := Lib.hid hoy2
        have HI := Lib.hid (HIS.out _ r rr2 HP1.out hrp2)
        have HO1' := Lib.hid ((HO1.out.below hb21).more hb21.size)
        obtain ⟨e2, he2⟩ : ∃ n, rr2.ev.length = n := ⟨_, rfl⟩
        have hn2 : rr2.out.length = n1 := by rw [← HI.out.2]; exact HN1.out.1
        have hf2 : rr2.er = f1 := by rw [← HI.out.1]; exact HN1.out.2
        rw [hn2] at HO2
        rw [hn2, he2, hf2]
        clear hn2 he2 hf2 hb21 hrp2 hro2 hrv2 ht2 hoh2 hoy2 hoc2 hcv2 HRB HO1 HTB a0 a1 a2 q0 q1 q2 r0 r1 r2
        obtain ⟨⟨a0, a1, a2⟩, ⟨q0, q1, q2⟩, r0, r1, r2⟩ := HCC.out w21 HB21.out
        go_wp2_with fail
        go_at_call 16
        refine (HRC.out (by omega) _ HB21.out).mono ?_
        rintro e w22 ⟨⟨vo3, vl3, rr3, rfl, hrp3, hro3, hrv3⟩, hb22⟩
        have HB22 := Lib.hid (bel_tr HB21.out hb22)
        have ht3 := HTC.out _ rr3 hrp3
        obtain ⟨Ao3, co3, ho3, rfl, hoh3, hoy3, hoc3⟩ := hro3.hr (fun y hy => by have := ht3.ol y hy; omega)
        obtain ⟨Av3, cv3, rfl, hcv3⟩ := rws_form hrv3
        have HI3 := HRS.out _ r rr3 HP1.out hrp3
        have HO1'' := Lib.hid ((HO1'.out.below hb22).more hb22.size)
        have HO2'' := Lib.hid ((HO2.out.below hb22).more hb22.size)
        have HO3 := Lib.hid hoh3
        obtain ⟨e3, he3⟩ : ∃ n, rr3.ev.length = n := ⟨_, rfl⟩
        have hn3 : rr3.out.length = n1 := by rw [← HI3.2]; exact HN1.out.1
        have hf3 : rr3.er = f1 := by rw [← HI3.1]; exact HN1.out.2
        rw [hn3] at HO3
        rw [hn3, he3, hf3]
        have hol : n1 ≤ 1000000 := by
          rw [← HN1.out.1]
          by_cases e0 : r.er = 0
          · rw [(HT1.out.e0 e0).2.1]
            have h3 := (ref_zero HOK.out.ref).2.1
            omega
          · rw [HT1.out.en e0]; simp
        have hx1 : ∀ x ∈ ho, x.n ≤ 1000000 := fun x hx => by
          have h1 := HT1.out.ol x.ys (by rw [← HY1.out]; exact List.mem_map.2 ⟨x, hx, rfl⟩)
          have h2 := (HO1''.out.each x hx).1.len
          omega
        have KR1 := Lib.hid (rows_u Ao Ao2 n1 co n1 co2 _ _ ho ho2 w22 HO1''.out HO2''.out hol hol hx1 (fun x hx => by
          have h1 := HT2.out.ol x.ys (by rw [← HY2.out]; exact List.mem_map.2 ⟨x, hx, rfl⟩)
          have h2 := (HO2''.out.each x hx).1.len
          omega))
        have KR2 := Lib.hid (fun nn => rows_u Ao Ao3 n1 co n1 co3 _ _ ho ho3 (w22.drewN nn) ((HO1''.out.below (below_drewN (Below.refl _ _) nn))) ((HO3.out.below (below_drewN (Below.refl _ _) nn))) hol hol hx1 (fun x hx => by
          have h1 := ht3.ol x.ys (by rw [← hoy3]; exact List.mem_map.2 ⟨x, hx, rfl⟩)
          have h2 := (HO3.out.each x hx).1.len
          omega))
        rw [HY1.out, HY2.out, HI.out.2, decide_eq_true rfl] at KR1
        rw [HY1.out, hoy3, HI3.2, decide_eq_true rfl] at KR2
        have g1 : (f1 == f1) = true := by simp
        clear hn3 he3 hf3 hb22 hrp3 hro3 hrv3 ht3 hoh3 hoy3 hoc3 hcv3 HRC HO1' HO2 HTC hx1 hol HI3 a0 a1 a2 q0 q1 q2 r0 r1 r2 HCC HN1 HT1 HT2 HI HP1 HO1'' HO2'' HO3 HIS HRS
        go_wp2_with fail
        go_at_call 17
        refine KR1.out.mono ?_
        rintro e w23 ⟨rfl, q23, rfl⟩
        go_wp2_with fail
        go_at_call 17
        refine (KR2.out q23).mono ?_
        rintro e w24 ⟨rfl, q24, rfl⟩
        go_wp2_with fail
        go_ret
        exact ⟨rfl, by first | exact below_drewN (bel_tr HBR.out HB22.out) _ | exact below_drewN (below_drewN (bel_tr HBR.out HB22.out) _) _⟩
end limbUnused
end Go.Proofs.YtfemoipbphianaaDoor
