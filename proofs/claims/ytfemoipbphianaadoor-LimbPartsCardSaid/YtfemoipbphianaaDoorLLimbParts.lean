/- Plain: what a run's answer tells. | LightProg, and what it tells of a program. | Plain: a program's operations stand in another one, at other places, over other registers: they go alike. | Plain: a program twice over: what LimbParts asks. | A program of one's own in a block, operations put behind its own (for LimbParts, LimbUnused). | LimbParts: a program twice over does what it does, run again over what it made. -/
import Derived.Test.YtfemoipbphianaaDoorMF
import Derived.Test.YtfemoipbphianaaDoorN1
import Derived.Test.YtfemoipbphianaaDoorM7
import Derived.Test.YtfemoipbphianaaDoorPB
import Derived.Test.YtfemoipbphianaaDoorF4
import Derived.Test.YtfemoipbphianaaDoorN3
import Derived.BigQuiet
namespace Go.Proofs.YtfemoipbphianaaDoor
open Go Go.RowKit
namespace Lb
open Wd Nt Gr
set_option linter.unusedVariables false
set_option linter.unusedSimpArgs false
theorem flt_11 (regs : Int) (bufs : List Bf) (s : Ah) (o : Op) : fltO regs bufs s o = 2 ∨ fltO regs bufs s o = 9 ∨ fltO regs bufs s o = 10 ∨ fltO regs bufs s o = 0 ∨ fltO regs bufs s o = 5 := by
  unfold fltO
  split
  · exact .inl rfl
  · split
    · exact .inr (.inl rfl)
    · split
      · exact .inr (.inr (.inl rfl))
      · split
        · exact .inr (.inr (.inr (.inl rfl)))
        · exact .inr (.inr (.inr (.inr rfl)))
theorem chkG_11 {regs : Int} {bufs : List Bf} : ∀ {ops : List Op} {s : Ah} {n : Nat}, (chkG regs bufs ops s n).2 ≠ 11
  | [], s, n => by unfold chkG; dsimp only; split <;> decide
  | o :: ops, s, n => by
    unfold chkG
    split
    · have := flt_11 regs bufs s o
      dsimp only
      omega
    · exact chkG_11
theorem chk_11 (p : Pg) : (chkP p).2 ≠ 11 := by
  unfold chkP
  split
  · unfold refP
    dsimp only
    split
    · decide
    · split <;> decide
  · exact chkG_11
structure Tells (p : Pg) (h : List (List Int)) (r : Ans) : Prop where
  e0 : r.er = 0 → r.ev.length = stepsP p ∧ r.out.length = p.bf.length ∧ ∀ (i : Nat) (b : Bf), p.bf[i]? = some b → ∃ y : List Int, r.out[i]? = some y ∧ (y.length : Int) = b.sz ∧ (b.kd = 1 → h[i]? = some y)
  e11 : r.er = 11 → r.ev.length < stepsP p
  en : r.er ≠ 0 → r.out = []
  ee : r.er ≠ 0 → r.er ≠ 11 → r.ev = []
  ev : ∀ e ∈ r.ev, GoodEv p e
  ol : ∀ y ∈ r.out, y.length ≤ 65536
theorem tells {p : Pg} (hp : p.wf) {h : List (List Int)} {r : Ans} (hr : RunP p h r) : Tells p h r := by
  unfold RunP at hr
  split at hr
  · rename_i hc
    subst hr
    exact ⟨fun e => absurd e hc, fun e => absurd e (chk_11 p), fun _ => rfl, fun _ _ => rfl, (fun e he => by cases he), (fun y hy => by cases hy)⟩
  rename_i hc
  have hc0 : (chkP p).2 = 0 := by simpa using hc
  have H := ok_of hc0
  have hst : stepsP p = evP p.op := by unfold stepsP; rw [if_pos hc0]
  split at hr
  · subst hr
    exact ⟨(fun e => by cases e), (fun e => by cases e), fun _ => rfl, fun _ _ => rfl, (fun e he => by cases he), (fun y hy => by cases hy)⟩
  rename_i h24
  split at hr
  · subst hr
    exact ⟨(fun e => by cases e), (fun e => by cases e), fun _ => rfl, fun _ _ => rfl, (fun e he => by cases he), (fun y hy => by cases hy)⟩
  rename_i hf
  have hf1 : fitP p.bf h = true := by simpa using hf
  obtain ⟨f, s, ⟨N, hrun⟩, rfl⟩ := hr
  obtain ⟨r1, r2⟩ := H.run2 (by omega) (s := st0 p h) rfl rfl hrun
  have hg := GoodS.run H hp (good_0 H hf1) hrun
  cases f
  · exact ⟨(fun e => by cases e), fun _ => by rw [hst]; exact r2 rfl, fun _ => rfl, (fun _ e => absurd rfl e), hg.ev, (fun y hy => by cases hy)⟩
  · refine ⟨fun _ => ⟨by rw [hst]; exact r1 rfl, hg.rl, hg.row⟩, (fun e => by cases e), (fun e => absurd rfl e), (fun e => absurd rfl e), hg.ev, fun y hy => ?_⟩
    obtain ⟨i, hi⟩ := List.mem_iff_getElem?.1 hy
    have hil := (List.getElem?_eq_some_iff.1 hi).1
    have hil2 : i < p.bf.length := by rw [← hg.rl]; exact hil
    obtain ⟨z, h1, h2, _⟩ := hg.row i _ (List.getElem?_eq_getElem hil2)
    have h3 : some z = some y := h1.symm.trans hi
    cases h3
    have := ((ref_zero H.ref).2.2.2.2 _ (List.getElem_mem hil2)).2.1
    omega
end Lb
end Go.Proofs.YtfemoipbphianaaDoor
namespace Go.Proofs.YtfemoipbphianaaDoor
open Go Go.RowKit Go.Sort Go.Shelf
namespace Lb
open Wd Nt Gr
set_option linter.unusedVariables false
set_option linter.unusedSimpArgs false
/-- with what it tells of the program -/
def LgP2 (p : Pg) (most : Int) (w : World) (e : Ending) (w' : World) : Prop := (∃ b, e = .returned (.bool b) ∧ (b = true → p.rg ≤ 100 ∧ p.bf.length ≤ 40 ∧ (p.op.length : Int) ≤ most)) ∧ Below w.heap.size w w'
set_option maxRecDepth 100000 in
set_option maxHeartbeats 4000000 in
theorem lightProg2_l (p : Pg) (hp : p.wf) (A X : Option Addr) (c d : Nat) (most : Int) (w : World) (hR : Rdr w w.heap.size A p.bf.length p.bf) :
    Calls Tryd.prog 23 #[pgV p A c X d, .int .i64 most] w (LgP2 p most w) := by
  unfold pgV at *
  have HB := Lib.hid (bel_al (w := w) (.cells #[.int .i64 p.rg, .slice A p.bf.length c, .slice X p.op.length d] 26))
  have HK := Lib.hid (Bk.new w 26 #[.int .i64 p.rg, .slice A p.bf.length c, .slice X p.op.length d])
  have HR := Lib.hid (hR.below HB.out)
  clear hR
  obtain ⟨W0, hW0⟩ : ∃ W0, W0 = w.alloc (.cells #[.int .i64 p.rg, .slice A p.bf.length c, .slice X p.op.length d] 26) := ⟨_, rfl⟩
  have HW0 := Lib.hid hW0
  rw [← hW0] at HB HK HR
  clear hW0
  go_enter Tryd.func23, Tryd.ntmps23
  go_wp2_with fail
  go_loopw [5, 6] (fun n i W => ∃ (k : Nat) (z : Int), k ≤ p.bf.length ∧ k ≤ 41 ∧ n = .int .i64 z ∧ i = .int .i64 (k : Int) ∧ Hid (W = W0)) (fun _ i _ => 41 - (intOf i).toNat)
  case atStart => exact ⟨0, 0, by omega, by omega, rfl, rfl, Lib.hid HW0.out.symm⟩
  case round =>
    obtain ⟨k, z, hk, hk41, rfl, rfl, HW⟩ := hrel
    have hw := HW.out
    rw [← hw] at HB HK HR
    clear hw
    obtain ⟨a0, a1, a2⟩ := c3 HK.out
    rcases Nat.lt_or_ge k p.bf.length with hlt | hge
    · have hki : (k : Int) < (p.bf.length : Int) := by omega
      have hk0 : (0 : Int) ≤ (k : Int) := by omega
      rcases Nat.lt_or_ge 40 k with h40 | h40
      · have h4 : ¬ (k : Int) ≤ 40 := by omega
        have g2 : ¬ (p.bf.length : Int) ≤ 40 := by omega
        (by_cases g1 : p.rg ≤ 100 <;> (go_wp2_with fail; go_ret; exact ⟨⟨_, rfl, fun h => by first | (cases h; done) | exact ⟨g1, by omega, g3⟩⟩, HB.out⟩))
      · have h4 : (k : Int) ≤ 40 := by omega
        obtain ⟨b, o, rfl, hblt, s0, s1, s2⟩ := bf_at HR.out (bfAt_some hlt)
        have ew : IntKind.i64.wrap ((k : Int) + 1) = ((k + 1 : Nat) : Int) := by rw [show (k : Int) + 1 = ((k + 1 : Nat) : Int) by omega]; exact IntWalk.i64_in _ (by omega)
        generalize bfAt p.bf (k : Int) = bb at *
        obtain ⟨sz, kd, sec⟩ := bb
        dsimp only at *
        by_cases h5 : 0 < sz
        · by_cases h6 : sz ≤ 65536
          · go_wp2_with fail
            go_roundw
            case rel => exact ⟨k + 1, _, by omega, by omega, rfl, by first | rfl | go_num, HW⟩
            case measure => (simp [intOf] <;> omega)
          · go_wp2_with fail
            go_roundw
            case rel => exact ⟨k + 1, _, by omega, by omega, rfl, by first | rfl | go_num, HW⟩
            case measure => (simp [intOf] <;> omega)
        · go_wp2_with fail
          go_roundw
          case rel => exact ⟨k + 1, _, by omega, by omega, rfl, by first | rfl | go_num, HW⟩
          case measure => (simp [intOf] <;> omega)
    · have hki : ¬ (k : Int) < (p.bf.length : Int) := by omega
      rcases Nat.lt_or_ge 40 p.bf.length with h40 | h40
      · have g2 : ¬ (p.bf.length : Int) ≤ 40 := by omega
        (by_cases g1 : p.rg ≤ 100 <;> (go_wp2_with fail; go_ret; exact ⟨⟨_, rfl, fun h => by first | (cases h; done) | exact ⟨g1, by omega, g3⟩⟩, HB.out⟩))
      · have g2 : (p.bf.length : Int) ≤ 40 := by omega
        (by_cases g1 : p.rg ≤ 100 <;> by_cases g3 : (p.op.length : Int) ≤ most <;> by_cases g4 : z ≤ 600 <;> (go_wp2_with fail; go_ret; exact ⟨⟨_, rfl, fun h => by first | (cases h; done) | exact ⟨g1, by omega, g3⟩⟩, HB.out⟩))
end Lb
end Go.Proofs.YtfemoipbphianaaDoor
namespace Go.Proofs.YtfemoipbphianaaDoor
open Go Go.RowKit
namespace Lb
open Wd Nt Gr
set_option linter.unusedVariables false
set_option linter.unusedSimpArgs false
/-- p's operation k stands in q at i k, its registers by other numbers; A k: the registers that are alike ahead of k; j k: where q is when p comes to k -/
structure Emb (p q : Pg) (ι j : Nat → Nat) (ρ : Int → Int) (ρn : Nat → Nat) (A : Nat → Nat → Prop) (z : Bool) : Prop where
  op : ∀ k o, p.op[k]? = some o → q.op[ι k]? = some ⟨o.k, ρ o.d, ρ o.e, ρ o.a, ρ o.b, ρ o.c, o.bf, o.im⟩
  neg : ρ (-1) = -1
  nat : ∀ i : Nat, i < 64 → ρ (i : Int) = (ρn i : Int)
  inj : ∀ i k, i < 64 → k < 64 → ρn i = ρn k → i = k
  small : ∀ k i, A k i → i < 64
  reads : ∀ k o, p.op[k]? = some o → o.k ≠ 16 → o.k ≠ 17 → (o.a = -1 ∨ A k o.a.toNat) ∧ (o.b = -1 ∨ A k o.b.toNat) ∧ (o.c = -1 ∨ A k o.c.toNat)
  next : ∀ k o, p.op[k]? = some o → o.k ≠ 17 → ∀ i, A (k + 1) i → A k i ∨ (o.d ≠ -1 ∧ i = o.d.toNat) ∨ (o.e ≠ -1 ∧ i = o.e.toNat)
  en : ∀ k o, p.op[k]? = some o → o.k = 17 → ∃ l lo, enAt (enP p.op) k = ((l : Nat) : Int) ∧ p.op[l]? = some lo ∧ lo.k = 16 ∧ enAt (enP q.op) (ι k) = ((ι l : Nat) : Int) ∧ A k lo.d.toNat ∧ (∀ i, A (k + 1) i → A k i) ∧ (∀ i, A (l + 1) i → A k i ∨ i = lo.d.toNat)
  j1 : ∀ k, k < p.op.length → j (k + 1) = ι k + 1
  gap : ∀ k, k ≤ p.op.length → ∀ t : St, t.at_ = j k → ∃ c t', (∀ K, runF q.op (enP q.op) (K + c) t = runF q.op (enP q.op) K t') ∧ t'.at_ = ι k ∧ t'.rows = t.rows ∧ (∀ i, A k i → t'.rg (ρn i) = t.rg (ρn i)) ∧ (z = true → t'.seen = t.seen)
/-- an event, as the other program has it -/
def reEv (ι : Nat → Nat) (e : Ev) : Ev := (((ι e.1.toNat : Nat) : Int), e.2)
structure EmR (p : Pg) (ι j ρn : Nat → Nat) (A : Nat → Nat → Prop) (z : Bool) (pre : List Ev) (s t : St) : Prop where
  pt : t.at_ = j s.at_
  le : s.at_ ≤ p.op.length
  rows : s.rows = t.rows
  rg : ∀ i, A s.at_ i → s.rg i = t.rg (ρn i)
  cnt : z = true → t.seen = pre ++ s.seen.map (reEv ι)
section
variable {p q : Pg} {ι j : Nat → Nat} {ρ : Int → Int} {ρn : Nat → Nat} {A : Nat → Nat → Prop} {z : Bool}
theorem Emb.hld (E : Emb p q ι j ρ ρn A z) {k : Nat} {rg rg' : Nat → Int} (h : ∀ i, A k i → rg i = rg' (ρn i)) {r : Int} (hr : Rg r) (ha : r = -1 ∨ A k r.toNat) : Lb.hld rg' (ρ r) = Lb.hld rg r := by
  by_cases e : r = -1
  · subst e
    rw [E.neg]
    unfold Lb.hld
    rw [if_pos rfl, if_pos rfl]
  · have h1 := ha.resolve_left e
    obtain ⟨n, rfl⟩ : ∃ n : Nat, r = (n : Int) := ⟨r.toNat, by unfold Rg at hr; omega⟩
    rw [Int.toNat_natCast] at h1
    rw [E.nat n (E.small _ _ h1)]
    unfold Lb.hld
    rw [if_neg (by omega), if_neg (by omega), Int.toNat_natCast, Int.toNat_natCast, h n h1]
theorem Emb.put (E : Emb p q ι j ρ ρn A z) {B : Nat → Prop} {rg rg' : Nat → Int} (hB : ∀ i, B i → i < 64) (h : ∀ i, B i → rg i = rg' (ρn i)) {r : Int} (hr : Rg r) (v : Int) : ∀ i, (B i ∨ (r ≠ -1 ∧ i = r.toNat)) → Lb.put rg r v i = Lb.put rg' (ρ r) v (ρn i) := by
  intro i hi
  by_cases e : r = -1
  · subst e
    rw [E.neg, put_none, put_none]
    rcases hi with hi | hi
    · exact h i hi
    · exact absurd rfl hi.1
  · have h6 : 0 ≤ r ∧ r < 64 := by unfold Rg at hr; omega
    obtain ⟨n, rfl⟩ : ∃ n : Nat, r = (n : Int) := ⟨r.toNat, by omega⟩
    rw [E.nat n (by omega), Int.toNat_natCast] at *
    unfold Lb.put
    rw [Int.toNat_natCast, Int.toNat_natCast]
    by_cases hin : i = n
    · subst hin
      rw [if_pos ⟨by omega, rfl⟩, if_pos ⟨by omega, rfl⟩]
    · have hb : B i := by
        rcases hi with hi | hi
        · exact hi
        · exact absurd hi.2 hin
      rw [if_neg (fun hh => hin hh.2), if_neg (fun hh => hin (E.inj i n (hB i hb) (by omega) hh.2)), h i hb]
theorem Emb.step (E : Emb p q ι j ρ ρn A z) (H : Ok p) (hp : p.wf) {pre : List Ev} {s t : St} {o : Op} (ho : p.op[s.at_]? = some o) (ht : t.at_ = ι s.at_) (hrows : s.rows = t.rows) (hrg : ∀ i, A s.at_ i → s.rg i = t.rg (ρn i)) (hc : z = true → t.seen = pre ++ s.seen.map (reEv ι)) :
    (stp p.op (enP p.op) s = none ∧ stp q.op (enP q.op) t = none) ∨ ∃ s' t', stp p.op (enP p.op) s = some s' ∧ stp q.op (enP q.op) t = some t' ∧ EmR p ι j ρn A z pre s' t' := by
  obtain ⟨k, rg, rows, seen⟩ := s
  obtain ⟨k', rg', rows', seen'⟩ := t
  dsimp only at ho ht hrows hrg hc
  subst ht hrows
  have hk := (List.getElem?_eq_some_iff.1 ho).1
  have ho' := E.op k o ho
  obtain ⟨hr, _, _, hd0, _, he0⟩ := H.rgs ho
  have hst := H.stOk hp _ _ ho
  have hcnt : ∀ (i : Nat) (v : Int), z = true → (seen' ++ [(((ι i : Nat) : Int), v)]) = pre ++ (seen ++ [((i : Int), v)]).map (reEv ι) := fun i v hz => by
    rw [List.map_append, hc hz, List.append_assoc]
    rfl
  unfold stp turnS
  dsimp only
  rw [opAt_of ho, opAt_of ho']
  dsimp only
  by_cases h16 : o.k = 16
  · rw [if_pos h16, if_pos h16]
    refine .inr ⟨_, _, rfl, rfl, (E.j1 k hk).symm, hk, rfl, fun i hi => ?_, hcnt _ _⟩
    refine E.put (B := A k) (E.small k) hrg hr.d 0 i ?_
    rcases E.next k o ho (by omega) i hi with h | h | h
    · exact .inl h
    · exact .inr h
    · exact absurd (he0 (by rw [h16]; rfl)) h.1
  rw [if_neg h16, if_neg h16]
  by_cases h17 : o.k = 17
  · rw [if_pos h17, if_pos h17]
    obtain ⟨l, lo, e1, e2, e3, e4, e5, e6, e7⟩ := E.en k o ho h17
    have hl := (List.getElem?_eq_some_iff.1 e2).1
    rw [e1, e4]
    simp only [Int.toNat_natCast]
    rw [opAt_of e2, opAt_of (E.op l lo e2)]
    dsimp only
    obtain ⟨hlr, _, _, hl0, _, _⟩ := H.rgs e2
    have hl0' := hl0 (by rw [e3]; rfl)
    have hcn : rg' (ρ lo.d).toNat = rg lo.d.toNat := by
      obtain ⟨n, hn⟩ : ∃ n : Nat, lo.d = (n : Int) := ⟨lo.d.toNat, by omega⟩
      rw [hn, Int.toNat_natCast] at e5
      rw [hn, E.nat n (E.small _ _ e5), Int.toNat_natCast, Int.toNat_natCast, hrg n e5]
    rw [hcn]
    by_cases h7 : (rg lo.d.toNat + 1) % 18446744073709551616 < lo.im
    · rw [if_pos h7, if_pos h7]
      refine .inr ⟨_, _, rfl, rfl, (E.j1 l hl).symm, hl, rfl, fun i hi => ?_, hcnt _ _⟩
      refine E.put (B := A k) (E.small k) hrg hlr.d _ i ?_
      rcases e7 i hi with h | h
      · exact .inl h
      · exact .inr ⟨by omega, h⟩
    · rw [if_neg h7, if_neg h7]
      exact .inr ⟨_, _, rfl, rfl, (E.j1 k hk).symm, hk, rfl, fun i hi => hrg i (e6 i hi), hc⟩
  rw [if_neg h17, if_neg h17]
  obtain ⟨ra, rb, rc⟩ := E.reads k o ho h16 h17
  rw [E.hld hrg hr.a ra, E.hld hrg hr.b rb, E.hld hrg hr.c rc]
  have hnx := E.next k o ho h17
  by_cases hm : mm o.k = true
  · rw [if_pos hm, if_pos hm]
    by_cases hlt : ((rowAt rows o.bf).length : Int) ≤ (o.im + Lb.hld rg o.a) % 18446744073709551616
    · rw [if_pos hlt, if_pos hlt]
      exact .inl ⟨rfl, rfl⟩
    rw [if_neg hlt, if_neg hlt]
    have hem : o.e = -1 := he0 (by
      have : o.k = 14 ∨ o.k = 15 := by unfold mm at hm; simpa using hm
      rcases this with h | h <;> (rw [h]; rfl))
    by_cases h15 : o.k = 15
    · rw [if_pos h15, if_pos h15]
      have hb0 := hst.b h15
      have hbn : rg' (ρ o.b).toNat = rg o.b.toNat := by
        have e5 := rb.resolve_left (by omega)
        obtain ⟨n, hn⟩ : ∃ n : Nat, o.b = (n : Int) := ⟨o.b.toNat, by omega⟩
        rw [hn, Int.toNat_natCast] at e5
        rw [hn, E.nat n (E.small _ _ e5), Int.toNat_natCast, Int.toNat_natCast, hrg n e5]
      rw [hbn]
      have hdm : o.d = -1 := (H.rgs ho).2.2.2.2.1 (by rw [h15]; rfl)
      refine .inr ⟨_, _, rfl, rfl, (E.j1 k hk).symm, hk, rfl, fun i hi => ?_, hcnt _ _⟩
      rcases hnx i hi with h | h | h
      · exact hrg i h
      · exact absurd hdm h.1
      · exact absurd hem h.1
    · rw [if_neg h15, if_neg h15]
      refine .inr ⟨_, _, rfl, rfl, (E.j1 k hk).symm, hk, rfl, fun i hi => ?_, hcnt _ _⟩
      refine E.put (B := A k) (E.small k) hrg hr.d _ i ?_
      rcases hnx i hi with h | h | h
      · exact .inl h
      · exact .inr h
      · exact absurd hem h.1
  · rw [if_neg hm, if_neg hm]
    refine .inr ⟨_, _, rfl, rfl, (E.j1 k hk).symm, hk, rfl, fun i hi => ?_, hcnt _ _⟩
    refine E.put (B := fun i => A k i ∨ (o.d ≠ -1 ∧ i = o.d.toNat)) (fun i hi => ?_) (fun i hi => E.put (B := A k) (E.small k) hrg hr.d _ i hi) hr.e _ i ?_
    · rcases hi with h | h
      · exact E.small k i h
      · have := hr.d
        unfold Rg at this
        omega
    · rcases hnx i hi with h | h | h
      · exact .inl (.inl h)
      · exact .inl (.inr h)
      · exact .inr h
theorem Emb.run (E : Emb p q ι j ρ ρn A z) (H : Ok p) (hp : p.wf) {pre : List Ev} {f : Bool} {s' : St} : ∀ (N : Nat) (s t : St), EmR p ι j ρn A z pre s t → runF p.op (enP p.op) N s = some (f, s') → ∃ c t', s'.rows = t'.rows ∧ (z = true → t'.seen = pre ++ s'.seen.map (reEv ι)) ∧ ((f = false ∧ ∀ K, runF q.op (enP q.op) (K + c) t = some (false, t')) ∨ (f = true ∧ t'.at_ = ι p.op.length ∧ ∀ K, runF q.op (enP q.op) (K + c) t = runF q.op (enP q.op) K t'))
  | 0, _, _, _, hr => by cases hr
  | N + 1, s, t, h, hr => by
    obtain ⟨c, t1, g1, g2, g3, g4, g5⟩ := E.gap s.at_ h.le t h.pt
    have hrows : s.rows = t1.rows := by rw [g3]; exact h.rows
    have hrg : ∀ i, A s.at_ i → s.rg i = t1.rg (ρn i) := fun i hi => by rw [g4 i hi]; exact h.rg i hi
    have hc : z = true → t1.seen = pre ++ s.seen.map (reEv ι) := fun hz => by rw [g5 hz]; exact h.cnt hz
    by_cases hlt : s.at_ < p.op.length
    · obtain ⟨o, ho⟩ : ∃ o, p.op[s.at_]? = some o := ⟨_, List.getElem?_eq_getElem hlt⟩
      have ho' := E.op _ _ ho
      rw [← g2] at ho'
      rcases E.step H hp ho g2 hrows hrg hc with ⟨e1, e2⟩ | ⟨s2, t2, e1, e2, hR⟩
      · rw [runF_flt ho e1] at hr
        cases hr
        exact ⟨1 + c, t1, hrows, hc, .inl ⟨rfl, fun K => by rw [← Nat.add_assoc, g1, runF_flt ho' e2]⟩⟩
      · rw [runF_step ho e1] at hr
        obtain ⟨c2, t', k1, k2, k3⟩ := Emb.run E H hp N s2 t2 hR hr
        refine ⟨c2 + 1 + c, t', k1, k2, ?_⟩
        have hK : ∀ K, runF q.op (enP q.op) (K + (c2 + 1 + c)) t = runF q.op (enP q.op) (K + c2) t2 := fun K => by
          rw [← Nat.add_assoc, ← Nat.add_assoc, g1, runF_step ho' e2]
        rcases k3 with ⟨k4, k5⟩ | ⟨k4, k5, k6⟩
        · exact .inl ⟨k4, fun K => by rw [hK, k5]⟩
        · exact .inr ⟨k4, k5, fun K => by rw [hK, k6]⟩
    · have he : s.at_ = p.op.length := by have := h.le; omega
      unfold runF at hr
      rw [if_neg hlt] at hr
      cases hr
      exact ⟨c, t1, hrows, hc, .inr ⟨rfl, by rw [g2, he], g1⟩⟩
/-- where the other program ends with this one -/
theorem Emb.all (E : Emb p q ι j ρ ρn A z) (hfin : ι p.op.length = q.op.length) (H : Ok p) (hp : p.wf) {pre : List Ev} {f : Bool} {s' : St} {N : Nat} {s t : St} (h : EmR p ι j ρn A z pre s t) (hr : runF p.op (enP p.op) N s = some (f, s')) : ∃ N' t', runF q.op (enP q.op) N' t = some (f, t') ∧ s'.rows = t'.rows ∧ (z = true → t'.seen = pre ++ s'.seen.map (reEv ι)) := by
  obtain ⟨c, t', k1, k2, k3⟩ := E.run H hp N s t h hr
  rcases k3 with ⟨rfl, k5⟩ | ⟨rfl, k5, k6⟩
  · exact ⟨0 + c, t', k5 0, k1, k2⟩
  · refine ⟨1 + c, t', ?_, k1, k2⟩
    rw [k6]
    unfold runF
    rw [if_neg (by rw [k5, hfin]; omega)]
end
end Lb
end Go.Proofs.YtfemoipbphianaaDoor
namespace Go.Proofs.YtfemoipbphianaaDoor
open Go Go.RowKit
namespace Lb
open Wd Nt Gr
set_option linter.unusedVariables false
set_option linter.unusedSimpArgs false
/-! ### whether a program may be, operations behind one another -/
theorem ref_ok {p q : Pg} (h : refP p = 0) (hr : q.rg ≤ 64) (hr0 : 0 ≤ q.rg) (hb : q.bf = p.bf) (hl : q.op.length ≤ 65536) : refP q = 0 := by
  unfold refP at h ⊢
  by_cases h1 : (decide (64 < p.rg) || decide (32 < p.bf.length) || decide (65536 < p.op.length) || p.bf.any longB) = true
  · rw [if_pos h1] at h; cases h
  rw [if_neg h1] at h
  by_cases h2 : (decide (p.rg < 0) || p.bf.any wrongB) = true
  · rw [if_pos h2] at h; cases h
  simp only [Bool.or_eq_true, not_or, Bool.not_eq_true, decide_eq_true_eq] at h1 h2
  rw [hb, h1.2, h2.2, decide_eq_false (by omega : ¬ 64 < q.rg), decide_eq_false (by omega : ¬ 32 < p.bf.length), decide_eq_false (by omega : ¬ 65536 < q.op.length), decide_eq_false (by omega : ¬ q.rg < 0)]
  rfl
theorem chk_app {rg : Int} {bufs : List Bf} {M : List Op} : ∀ (L : List Op) (s : Ah) (n : Nat), (∀ k o, L[k]? = some o → fltO rg bufs ((L.take k).foldl adv s) o = 0) → chkG rg bufs (L ++ M) s n = chkG rg bufs M (L.foldl adv s) (n + L.length)
  | [], s, n, _ => rfl
  | o :: L, s, n, hf => by
    have hf0 : fltO rg bufs s o = 0 := hf 0 o rfl
    show (if fltO rg bufs s o ≠ 0 then (n, fltO rg bufs s o) else chkG rg bufs (L ++ M) (adv s o) (n + 1)) = _
    rw [if_neg (by simpa using hf0), chk_app L (adv s o) (n + 1) (fun k x hx => hf (k + 1) x (by rw [List.getElem?_cons_succ]; exact hx)), List.length_cons, show n + 1 + L.length = n + (L.length + 1) by omega]
    rfl
/-- the same loops are open, more is made -/
structure Mo2 (s s' : Ah) : Prop where
  lp : s'.lp = s.lp
  md : ∀ i, s.md i = true → s'.md i = true
theorem Mo2.has {s s' : Ah} (h : Mo2 s s') {r : Int} (hr : hasR s.md r = true) : hasR s'.md r = true := by
  unfold hasR at *
  rw [Bool.or_eq_true] at *
  exact hr.imp id (h.md _)
theorem Mo2.adv {s s' : Ah} (h : Mo2 s s') (o : Op) : Mo2 (Lb.adv s o) (Lb.adv s' o) := by
  by_cases h17 : o.k = 17
  · rw [adv_17 h17, adv_17 h17, h.lp]
    refine ⟨rfl, fun i hi => ?_⟩
    change setR s'.md (s.lp.getLast?.getD (-1)) false i = true
    replace hi : setR s.md (s.lp.getLast?.getD (-1)) false i = true := hi
    unfold setR at hi ⊢
    split at hi
    · cases hi
    · rename_i hc
      rw [if_neg hc]
      exact h.md i hi
  · refine ⟨?_, fun i hi => ?_⟩
    · unfold Lb.adv
      rw [if_neg h17, if_neg h17]
      show (if o.k = 16 then s'.lp ++ [o.d] else s'.lp) = if o.k = 16 then s.lp ++ [o.d] else s.lp
      rw [h.lp]
    · rw [adv_mdR h17] at hi ⊢
      simp only [Bool.or_eq_true] at hi ⊢
      exact hi.imp id (fun h2 => h2.imp id (h.md i))
theorem chk_more {rg : Int} {bufs : List Bf} : ∀ (L : List Op) (s s' : Ah) (n : Nat), (∀ k o, L[k]? = some o → fltO rg bufs ((L.take k).foldl adv s) o = 0) → (L.foldl adv s).lp = [] → Mo2 s s' → (chkG rg bufs L s' n).2 = 0 ∨ (chkG rg bufs L s' n).2 = 9
  | [], s, s', n, _, hl, h => by
    left
    show (if s'.lp.isEmpty then (0 : Int) else 9) = 0
    rw [h.lp, show s.lp = [] from hl]
    rfl
  | o :: L, s, s', n, hf, hl, h => by
    obtain ⟨h1, h2, h3, h4, h5, h6⟩ := flt_zero (show fltO rg bufs s o = 0 from hf 0 o rfl)
    have hr := chk_more L (adv s o) (adv s' o) (n + 1) (fun k x hx => hf (k + 1) x (by rw [List.getElem?_cons_succ]; exact hx)) hl (h.adv o)
    unfold chkG
    by_cases hm : misP s' o = true
    · have e : fltO rg bufs s' o = 9 := by
        unfold fltO
        rw [if_neg (by rw [h1]; decide), if_pos hm]
      rw [e, if_pos (by decide)]
      exact .inr rfl
    · have e : fltO rg bufs s' o = 0 := by
        unfold fltO
        rw [if_neg (by rw [h1]; decide), if_neg hm, h.lp, if_neg h3, h.has h4, h.has h5, h.has h6]
        rfl
      rw [e, if_neg (by decide)]
      exact hr
/-- a program twice over -/
def tw (p : Pg) : Pg := ⟨p.rg, p.bf, p.op ++ p.op⟩
section
variable {p : Pg}
theorem tw_lo {k : Nat} (h : k < p.op.length) : (tw p).op[k]? = p.op[k]? := by
  show (p.op ++ p.op)[k]? = _
  rw [List.getElem?_append_left h]
theorem tw_hi (k : Nat) : (tw p).op[p.op.length + k]? = p.op[k]? := by
  show (p.op ++ p.op)[p.op.length + k]? = _
  rw [List.getElem?_append_right (by omega), Nat.add_sub_cancel_left]
theorem tw_len : (tw p).op.length = p.op.length + p.op.length := List.length_append
theorem tw_chk (H : Ok p) (hn : p.op.length ≤ 1000) : (chkP (tw p)).2 = 0 ∨ (chkP (tw p)).2 = 9 := by
  have hz := ref_zero H.ref
  have hr : refP (tw p) = 0 := ref_ok H.ref hz.1 hz.2.2.2.1 rfl (by rw [tw_len]; omega)
  have hfl : ∀ k o, p.op[k]? = some o → fltO p.rg p.bf ((p.op.take k).foldl adv ah0) o = 0 := H.flt
  unfold chkP
  rw [if_neg (by simpa using hr)]
  show (chkG p.rg p.bf (p.op ++ p.op) ah0 0).2 = 0 ∨ (chkG p.rg p.bf (p.op ++ p.op) ah0 0).2 = 9
  rw [chk_app p.op ah0 0 hfl]
  have hfin : (p.op.foldl adv ah0).lp = [] := by
    have := H.fin
    unfold sAt at this
    rw [List.take_length] at this
    exact this
  exact chk_more p.op ah0 _ _ hfl hfin ⟨hfin, fun i hi => by cases hi⟩
/-- bottom frames: one more than the other by e0 at most -/
def FrB (e0 : Nat) (fr fr' : List (Nat × Nat)) : Prop := ∃ r u u' x x', fr = r ++ [(u, x)] ∧ fr' = r ++ [(u', x')] ∧ x' ≤ x + e0
theorem FrB.step {e0 : Nat} {fr fr' : List (Nat × Nat)} (h : FrB e0 fr fr') (o : Op) : FrB e0 (evO fr o) (evO fr' o) := by
  obtain ⟨r, u, u', x, x', rfl, rfl, hx⟩ := h
  have hcap : ∀ c, capN (x' + c) ≤ capN (x + c) + e0 := fun c => by unfold capN; omega
  unfold evO
  by_cases h16 : o.k = 16
  · rw [if_pos h16, if_pos h16]
    exact ⟨(o.im.toNat, 1) :: r, u, u', x, x', rfl, rfl, hx⟩
  rw [if_neg h16, if_neg h16]
  by_cases h17 : o.k = 17
  · rw [if_pos h17, if_pos h17]
    match r with
    | [] => exact ⟨[], u, u', x, x', rfl, rfl, hx⟩
    | [(t, e)] => exact ⟨[], u, u', _, _, rfl, rfl, hcap _⟩
    | (t, e) :: (t2, e2) :: r => exact ⟨(t2, capN (e2 + capN (e * t))) :: r, u, u', x, x', rfl, rfl, hx⟩
  rw [if_neg h17, if_neg h17]
  match r with
  | [] => exact ⟨[], u, u', _, _, rfl, rfl, hcap 1⟩
  | (t, e) :: r => exact ⟨(t, capN (e + 1)) :: r, u, u', x, x', rfl, rfl, hx⟩
theorem FrB.fold {e0 : Nat} : ∀ (L : List Op) {fr fr' : List (Nat × Nat)}, FrB e0 fr fr' → FrB e0 (L.foldl evO fr) (L.foldl evO fr')
  | [], _, _, h => h
  | o :: L, _, _, h => FrB.fold L (h.step o)
theorem FrB.last {e0 : Nat} {fr fr' : List (Nat × Nat)} (h : FrB e0 fr fr') : (fr'.getLast?.getD (1, 0)).2 ≤ (fr.getLast?.getD (1, 0)).2 + e0 := by
  obtain ⟨r, u, u', x, x', rfl, rfl, hx⟩ := h
  rw [List.getLast?_concat, List.getLast?_concat]
  exact hx
theorem tw_evs (H : Ok p) : evP (tw p).op ≤ evP p.op + evP p.op := by
  have h1 := H.elen p.op.length (Nat.le_refl _)
  rw [H.fin] at h1
  have e : eAt p.op p.op.length = evF p.op := by unfold eAt; rw [List.take_length]
  rw [e] at h1
  have hf : evF (tw p).op = p.op.foldl evO (evF p.op) := by
    show (p.op ++ p.op).foldl evO [(1, 0)] = _
    rw [List.foldl_append]
    rfl
  match hq : evF p.op, h1 with
  | [(u, x)], _ =>
    have hev : evP p.op = x := by unfold evP; rw [hq]; rfl
    rw [hq] at hf
    have h2 : FrB x (evF p.op) (evF (tw p).op) := by
      rw [hf]
      exact FrB.fold p.op ⟨[], 1, u, 0, x, rfl, rfl, by omega⟩
    have h3 := h2.last
    unfold evP
    rw [show x = evP p.op from hev.symm] at h3
    exact h3
/-- but for its first, no operation is a loop: none or the first is open -/
theorem one_open (H : Ok p) (h0 : ∀ (k : Nat) (o : Op), p.op[k]? = some o → o.k = 16 → k = 0) : ∀ k, k ≤ p.op.length → (nAt p.op k).2 = [] ∨ (nAt p.op k).2 = [0]
  | 0, _ => .inl rfl
  | k + 1, hk => by
    obtain ⟨o, ho⟩ : ∃ o, p.op[k]? = some o := ⟨_, List.getElem?_eq_getElem (by omega)⟩
    have ih := one_open H h0 k (by omega)
    rw [nAt_succ ho]
    by_cases h16 : o.k = 16
    · obtain rfl := h0 k o ho h16
      rw [enO_16 h16]
      exact .inr rfl
    by_cases h17 : o.k = 17
    · rw [enO_17 h17]
      rcases ih with ih | ih <;> (rw [ih]; exact .inl rfl)
    · rw [enO_pl h16 h17]
      exact ih
/-- what is made where the loop begins is made as long as it is open -/
theorem in_loop (H : Ok p) (h0 : ∀ (k : Nat) (o : Op), p.op[k]? = some o → o.k = 16 → k = 0) : ∀ k, k ≤ p.op.length → (nAt p.op k).2 ≠ [] → ∀ i, (sAt p.op 1).md i = true → (sAt p.op k).md i = true
  | 0, _, h, i, hi => absurd rfl h
  | k + 1, hk, h, i, hi => by
    obtain ⟨o, ho⟩ : ∃ o, p.op[k]? = some o := ⟨_, List.getElem?_eq_getElem (by omega)⟩
    by_cases h16 : o.k = 16
    · obtain rfl := h0 k o ho h16
      exact hi
    rw [nAt_succ ho] at h
    by_cases h17 : o.k = 17
    · rw [enO_17 h17] at h
      rcases one_open H h0 k (by omega) with e | e <;> (rw [e] at h; exact absurd rfl h)
    · rw [enO_pl h16 h17] at h
      rw [sAt_succ ho, adv_mdR h17, in_loop H h0 k (by omega) h i hi, Bool.or_true, Bool.or_true]
/-- the second copy's open loops -/
theorem tw_nAt (H : Ok p) (Hq : Ok (tw p)) : ∀ k, k ≤ p.op.length → (nAt (tw p).op (p.op.length + k)).2 = (nAt p.op k).2.map fun x => p.op.length + x
  | 0, _ => by
    have e1 : nAt (tw p).op (p.op.length + 0) = nAt p.op p.op.length := by
      unfold nAt
      rw [Nat.add_zero]
      show enF ((p.op ++ p.op).take p.op.length) = _
      rw [List.take_left, List.take_length]
    have e2 := (H.nok p.op.length (Nat.le_refl _)).l2
    rw [H.fin] at e2
    rw [e1, List.eq_nil_of_length_eq_zero e2]
    rfl
  | k + 1, hk => by
    obtain ⟨o, ho⟩ : ∃ o, p.op[k]? = some o := ⟨_, List.getElem?_eq_getElem (by omega)⟩
    have ih := tw_nAt H Hq k (by omega)
    have ho' : (tw p).op[p.op.length + k]? = some o := by rw [tw_hi]; exact ho
    have l1 := (Hq.nok (p.op.length + k) (by rw [tw_len]; omega)).l1
    have l2 := (H.nok k (by omega)).l1
    rw [show p.op.length + (k + 1) = (p.op.length + k) + 1 from rfl, nAt_succ ho', nAt_succ ho]
    by_cases h16 : o.k = 16
    · rw [enO_16 h16, enO_16 h16]
      show _ ++ [_] = List.map _ (_ ++ [_])
      rw [ih, l1, l2, List.map_append]
      rfl
    by_cases h17 : o.k = 17
    · rw [enO_17 h17, enO_17 h17]
      show List.dropLast _ = List.map _ (List.dropLast _)
      rw [ih, List.map_dropLast]
    · rw [enO_pl h16 h17, enO_pl h16 h17]
      exact ih
theorem op_eta (o : Op) : (⟨o.k, o.d, o.e, o.a, o.b, o.c, o.bf, o.im⟩ : Op) = o := rfl
theorem last_map {xs : List Nat} (f : Nat → Nat) (h : xs ≠ []) : (xs.map f).getLast?.getD 0 = f (xs.getLast?.getD 0) := by
  rw [List.getLast?_map]
  rcases hq : xs.getLast? with _ | x
  · exact absurd (List.getLast?_eq_none_iff.1 hq) h
  · rfl
theorem has_md {s : Ah} {r : Int} (h : hasR s.md r = true) : r = -1 ∨ s.md r.toNat = true := by
  unfold hasR at h
  rw [Bool.or_eq_true, decide_eq_true_eq] at h
  exact h
theorem rg_nat {r : Int} (h : Rg r) : r.toNat < 64 := by unfold Rg at h; omega
/-- a loop's end -/
theorem Ok.atEnd (H : Ok p) {k : Nat} {o : Op} (ho : p.op[k]? = some o) (h17 : o.k = 17) : ∃ l lo, l ∈ (nAt p.op k).2 ∧ l = (nAt p.op k).2.getLast?.getD 0 ∧ enAt (enP p.op) k = ((l : Nat) : Int) ∧ p.op[l]? = some lo ∧ lo.k = 16 ∧ 0 ≤ lo.d ∧ (sAt p.op k).md lo.d.toNat = true := by
  have hk := (List.getElem?_eq_some_iff.1 ho).1
  have ht := H.top ho h17
  have hI := H.li k (by omega)
  obtain ⟨lo, j1, j2⟩ := hI.loops _ ht
  have hm : lo.d ∈ (sAt p.op k).lp := by
    rw [hI.lp]
    exact List.mem_map.2 ⟨_, ht, by rw [opAt_of j1]⟩
  exact ⟨_, lo, ht, rfl, H.en_of ho h17, j1, j2, (hI.made _ hm).1, (hI.made _ hm).2⟩
theorem Ok.reads (H : Ok p) {k : Nat} {o : Op} (ho : p.op[k]? = some o) : (o.a = -1 ∨ ((sAt p.op k).md o.a.toNat = true ∧ o.a.toNat < 64)) ∧ (o.b = -1 ∨ ((sAt p.op k).md o.b.toNat = true ∧ o.b.toNat < 64)) ∧ (o.c = -1 ∨ ((sAt p.op k).md o.c.toNat = true ∧ o.c.toNat < 64)) := by
  obtain ⟨_, _, _, f4, f5, f6⟩ := flt_zero (H.flt k o ho)
  have hr := (H.rgs ho).1
  exact ⟨(has_md f4).imp id (fun h => ⟨h, rg_nat hr.a⟩), (has_md f5).imp id (fun h => ⟨h, rg_nat hr.b⟩), (has_md f6).imp id (fun h => ⟨h, rg_nat hr.c⟩)⟩
theorem md_next {k : Nat} {o : Op} (ho : p.op[k]? = some o) (h17 : o.k ≠ 17) {i : Nat} (hi : (sAt p.op (k + 1)).md i = true) : (sAt p.op k).md i = true ∨ (o.d ≠ -1 ∧ i = o.d.toNat) ∨ (o.e ≠ -1 ∧ i = o.e.toNat) := by
  rw [sAt_succ ho, adv_mdR h17] at hi
  simp only [Bool.or_eq_true, decide_eq_true_eq] at hi
  rcases hi with h | h | h
  · exact .inr (.inr h)
  · exact .inr (.inl h)
  · exact .inl h
theorem md_end {k : Nat} {o : Op} (ho : p.op[k]? = some o) (h17 : o.k = 17) {i : Nat} (hi : (sAt p.op (k + 1)).md i = true) : (sAt p.op k).md i = true := by
  rw [sAt_succ ho, adv_17 h17] at hi
  replace hi : setR (sAt p.op k).md ((sAt p.op k).lp.getLast?.getD (-1)) false i = true := hi
  unfold setR at hi
  split at hi
  · cases hi
  · exact hi
/-- the second copy goes as the program does -/
theorem tw_emb (H : Ok p) (Hq : Ok (tw p)) (h0 : ∀ (k : Nat) (o : Op), p.op[k]? = some o → o.k = 16 → k = 0) : Emb p (tw p) (fun k => p.op.length + k) (fun k => p.op.length + k) id id (fun k i => (sAt p.op k).md i = true ∧ i < 64) true where
  op k o ho := by rw [tw_hi]; exact ho
  neg := rfl
  nat i _ := rfl
  inj i k _ _ h := h
  small k i h := h.2
  reads k o ho _ _ := H.reads ho
  next k o ho h17 i hi := by
    rcases md_next ho h17 hi.1 with h | h
    · exact .inl ⟨h, hi.2⟩
    · exact .inr h
  en k o ho h17 := by
    obtain ⟨l, lo, e0, e1, e2, e3, e4, e5, e6⟩ := H.atEnd ho h17
    have hk := (List.getElem?_eq_some_iff.1 ho).1
    obtain rfl := h0 l lo e3 e4
    have ho' : (tw p).op[p.op.length + k]? = some o := by rw [tw_hi]; exact ho
    have hne : (nAt p.op k).2 ≠ [] := List.ne_nil_of_mem e0
    refine ⟨0, lo, e2, e3, e4, ?_, ⟨e6, rg_nat (H.rgs e3).1.d⟩, fun i hi => ⟨md_end ho h17 hi.1, hi.2⟩, fun i hi => .inl ⟨in_loop H h0 k (by omega) hne i hi.1, hi.2⟩⟩
    rw [Hq.en_of ho' h17, tw_nAt H Hq k (by omega), last_map _ hne, ← e1]
  j1 k _ := rfl
  gap k _ t ht := ⟨0, t, fun _ => rfl, ht, rfl, fun _ _ => rfl, fun _ => rfl⟩
/-- the first copy, too -/
theorem tw_emb1 (H : Ok p) (Hq : Ok (tw p)) : Emb p (tw p) id id id id (fun k i => i < 64) true where
  op k o ho := by
    have hk := (List.getElem?_eq_some_iff.1 ho).1
    rw [show id k = k from rfl, tw_lo hk]
    exact ho
  neg := rfl
  nat i _ := rfl
  inj i k _ _ h := h
  small k i h := h
  reads k o ho _ _ := ⟨(H.reads ho).1.imp id (·.2), (H.reads ho).2.1.imp id (·.2), (H.reads ho).2.2.imp id (·.2)⟩
  next k o ho h17 i hi := .inl hi
  en k o ho h17 := by
    obtain ⟨l, lo, e0, e1, e2, e3, e4, e5, e6⟩ := H.atEnd ho h17
    have hk := (List.getElem?_eq_some_iff.1 ho).1
    have ho' : (tw p).op[k]? = some o := by rw [tw_lo hk]; exact ho
    refine ⟨l, lo, e2, e3, e4, ?_, rg_nat (H.rgs e3).1.d, fun i hi => hi, fun i hi => .inl hi⟩
    show enAt (enP (tw p).op) k = ((l : Nat) : Int)
    have e7 : nAt (tw p).op k = nAt p.op k := by
      unfold nAt
      show enF ((p.op ++ p.op).take k) = _
      rw [List.take_append_of_le_length (by omega)]
    rw [Hq.en_of ho' h17, e7, ← e1]
  j1 k _ := rfl
  gap k _ t ht := ⟨0, t, fun _ => rfl, ht, rfl, fun _ _ => rfl, fun _ => rfl⟩
/-- rows that have their buffers' sizes are taken as they are -/
theorem rows0_self : ∀ (bs : List Bf) (rs : List (List Int)), rs.length = bs.length → (∀ (i : Nat) (b : Bf), bs[i]? = some b → b.kd ≠ 3 ∧ ∃ y : List Int, rs[i]? = some y ∧ (y.length : Int) = b.sz) → fitP bs rs = true ∧ rows0 bs rs = rs
  | [], [], _, _ => ⟨rfl, rfl⟩
  | [], r :: rs, h, _ => by cases h
  | b :: bs, [], h, _ => by cases h
  | b :: bs, r :: rs, h, hb => by
    obtain ⟨h3, y, hy, hl⟩ := hb 0 b rfl
    cases hy
    obtain ⟨i1, i2⟩ := rows0_self bs rs (by simpa using h) (fun i b2 h2 => hb (i + 1) b2 (by rw [List.getElem?_cons_succ]; exact h2))
    have hfb : fitB b r = true := by
      unfold fitB
      rw [if_neg h3, decide_eq_true hl]
    refine ⟨?_, ?_⟩
    · unfold fitP
      rw [hfb, i1]
      rfl
    · unfold rows0
      rw [i2, row0_eq (by omega), List.drop_eq_nil_of_le (by rw [List.length_replicate]; omega), List.append_nil]
/-- what LimbParts asks -/
structure PartsA (p : Pg) (h : List (List Int)) (r q : Ans) : Prop where
  bad : r.er ≠ 0 → q.er = r.er ∧ q.ev = r.ev
  good : r.er = 0 → ∀ x, RunP p r.out x → q.er = x.er ∧ q.out = x.out ∧ q.ev.length = r.ev.length + x.ev.length
theorem reEv_id (seen : List Ev) (h : ∀ e ∈ seen, 0 ≤ e.1) : seen.map (reEv id) = seen := by
  have : seen.map (reEv id) = seen.map id := List.map_congr_left fun e he => by
    have := h e he
    unfold reEv
    exact Prod.ext (by show ((e.1.toNat : Nat) : Int) = e.1; omega) rfl
  rw [this, List.map_id]
theorem tw_same (H : Ok p) (hp : p.wf) (hq : (chkP (tw p)).2 = 0) (hc : (chkP p).2 = 0) (h0 : ∀ (k : Nat) (o : Op), p.op[k]? = some o → o.k = 16 → k = 0) (h3 : ∀ b ∈ p.bf, b.kd ≠ 3) (hs : evP p.op ≤ 2000) {h : List (List Int)} {r q : Ans} (hr : RunP p h r) (hr2 : RunP (tw p) h q) : PartsA p h r q := by
  have Hq := ok_of hq
  have hev := tw_evs H
  unfold RunP at hr hr2
  rw [if_neg (by simpa using hc), if_neg (by omega)] at hr
  rw [if_neg (by simpa using hq), if_neg (by omega)] at hr2
  rw [show (tw p).bf = p.bf from rfl] at hr2
  by_cases hf : fitP p.bf h = false
  · rw [if_pos hf] at hr hr2
    rw [hr, hr2]
    exact ⟨fun _ => ⟨rfl, rfl⟩, fun e => by cases e⟩
  rw [if_neg hf] at hr hr2
  obtain ⟨f, s, ⟨N, hN⟩, rfl⟩ := hr
  obtain ⟨g, t, ⟨M, hM⟩, rfl⟩ := hr2
  have hg := GoodS.run H hp (good_0 H (by simpa using hf)) hN
  have hseen : s.seen.map (reEv id) = s.seen := reEv_id _ fun e he => by
    obtain ⟨k, o, e1, _⟩ := hg.ev e he
    rw [e1]
    omega
  obtain ⟨c, t', k1, k2, k3⟩ := (tw_emb1 H Hq).run H hp (pre := []) N (st0 p h) (st0 (tw p) h) ⟨rfl, Nat.zero_le _, rfl, fun _ _ => rfl, fun _ => rfl⟩ hN
  have k2' := k2 rfl
  rw [hseen, List.nil_append] at k2'
  rcases k3 with ⟨rfl, k4⟩ | ⟨rfl, k4, k5⟩
  · have := runF_det hM (k4 0)
    cases this
    exact ⟨fun _ => ⟨rfl, k2'⟩, fun e => (by cases e)⟩
  · refine ⟨fun e => absurd rfl e, fun _ x hx => ?_⟩
    obtain ⟨f1, f2⟩ := rows0_self p.bf s.rows hg.rl (fun i b hb => by
      obtain ⟨y, y1, y2, _⟩ := hg.row i b hb
      exact ⟨h3 b (List.mem_of_getElem? hb), y, y1, y2⟩)
    unfold RunP at hx
    rw [if_neg (by simpa using hc), if_neg (by omega)] at hx
    replace hx : if fitP p.bf s.rows = false then x = ⟨[], [], 2⟩ else ∃ f s2, Runs p.op (enP p.op) (st0 p s.rows) (f, s2) ∧ x = (if f then ⟨s2.rows, s2.seen, 0⟩ else ⟨[], s2.seen, 11⟩) := hx
    rw [if_neg (by rw [f1]; decide)] at hx
    obtain ⟨f, s2, ⟨N2, hN2⟩, rfl⟩ := hx
    obtain ⟨N', t2, m1, m2, m3⟩ := (tw_emb H Hq h0).all tw_len.symm H hp (pre := s.seen) (s := st0 p s.rows) (t := t') ⟨by rw [k4]; rfl, Nat.zero_le _, by rw [← k1]; exact f2, fun i hi => (by cases hi.1), fun _ => (by rw [k2']; show s.seen = s.seen ++ []; rw [List.append_nil])⟩ hN2
    have h7 : runF (tw p).op (enP (tw p).op) (N' + c) (st0 (tw p) h) = some (f, t2) := by rw [k5, m1]
    have := runF_det hM h7
    cases this
    have hlen : t.seen.length = s.seen.length + s2.seen.length := by rw [m3 rfl, List.length_append, List.length_map]
    cases g
    · exact ⟨rfl, rfl, hlen⟩
    · exact ⟨rfl, m2.symm, hlen⟩
end
end Lb
end Go.Proofs.YtfemoipbphianaaDoor
namespace Go.Proofs.YtfemoipbphianaaDoor
open Go Go.RowKit Go.Sort Go.Shelf
namespace Lb
open Wd Nt Gr
set_option linter.unusedVariables false
set_option linter.unusedSimpArgs false
/-- the program handed in in its box; one's own in block g -/
structure OpB (w W : World) (bx : Array Value) (g : Nat) (rg : Int) (bs : List Bf) (os : List Op) (gA c : Nat) (X : Option Addr) (d : Nat) : Prop where
  k : Bk W g 26 #[.int .i64 rg, .slice (some ⟨gA, 0, none⟩) bs.length c, .slice X os.length d]
  bs : Rws 29 w.heap.size (.slice (some ⟨gA, 0, none⟩) bs.length c) bs W
  os : Rws 33 w.heap.size (.slice X os.length d) os W
  b : Below w.heap.size w W
  hg : w.heap.size < g
  box : Bk W w.heap.size 26 bx
section
variable {w W W' : World} {bx : Array Value} {g : Nat} {rg : Int} {bs : List Bf} {os xs : List Op} {gA c : Nat} {X : Option Addr} {d : Nat}
theorem OpB.below (h : OpB w W bx g rg bs os gA c X d) (hb : Below W.heap.size W W') : OpB w W' bx g rg bs os gA c X d :=
  ⟨h.k.below hb h.k.lt, own_below h.bs hb, own_below h.os hb, bel_tr h.b hb, h.hg, h.box.below hb h.box.lt⟩
theorem OpB.cells (h : OpB w W bx g rg bs os gA c X d) : W.cell? ⟨g, 0, none⟩ = some (.int .i64 rg) ∧ W.cell? ⟨g, 1, none⟩ = some (.slice (some ⟨gA, 0, none⟩) bs.length c) ∧ W.cell? ⟨g, 2, none⟩ = some (.slice X os.length d) := c3 h.k
theorem OpB.rd (h : OpB w W bx g rg bs os gA c X d) : Rdr W W.heap.size (some ⟨gA, 0, none⟩) bs.length bs ∧ Rdr W W.heap.size X os.length os := ⟨(rws_rd h.bs).2.1, (rws_rd h.os).2.1⟩
/-- a row put behind, and stored -/
theorem OpB.app (h : OpB w W bx g rg bs os gA c X d) {Y : Option Addr} {m q B' : Nat} (hY : Rdr W B' Y m xs) (hm : m ≤ 100000) (hos : os.length ≤ 100000) :
    ∃ X6 c6 U', (Builtin.append_ #[24, 24] 24 #[.slice X os.length d, .slice Y m q]).run Tryd.prog W = .ok (.slice X6 (os ++ xs).length c6) U' ∧ (U'.cell? ⟨g, 2, none⟩ = some (.slice X os.length d) ∧ U'.frozen? ⟨g, 2, none⟩ = false ∧ g < U'.heap.size) ∧ OpB w (U'.setCell ⟨g, 2, none⟩ (.slice X6 (os ++ xs).length c6)) bx g rg bs (os ++ xs) gA c X6 c6 := by
  obtain ⟨i, hi, hz, q2, q3⟩ := info_parts info_lop
  obtain ⟨v9, w9, hap, h9, hgr9, hor⟩ := app_run (c := q) 24 33 24 i _ 64 Tryd.underlying24 hi hz q2 q3 rfl (by omega) h.os hY hm hos h.b.size
  obtain ⟨A9, c9, rfl, hc9⟩ := rws_form h9
  obtain ⟨ca, ha⟩ := ownBlk h.bs
  have hk9 := own_other h.os h.k (show (33 : TypeId) ≠ 26 by decide) hgr9
  have hbs9 : Rws 29 w.heap.size (.slice (some ⟨gA, 0, none⟩) bs.length c) bs w9 := by
    refine h.bs.kept hgr9 (.inr ?_)
    rcases h.os.2 with ⟨e1, _⟩ | ⟨g', cap, cur, e1, _, hg', _⟩
    · rw [show (Value.slice X os.length d).ownBlock = none from by rw [e1]; rfl]
      simp [Value.ownBlock]
    · rw [show (Value.slice X os.length d).ownBlock = some g' from by rw [e1]; rfl]
      simp only [Value.ownBlock]
      intro e
      exact bk_ne ha hg' (by decide) (by simpa using e)
  have hb9 : Below w.heap.size w w9 := own_grown h.os hgr9 h.b (Nat.le_refl _) h.b.size
  exact ⟨A9, c9, w9, hap, ⟨hk9.cell 2, hk9.frozen 2, hk9.lt⟩, hk9.set_ 2 _, own_far hbs9 hk9 (show (29 : TypeId) ≠ 26 by decide), own_far h9 hk9 (show (33 : TypeId) ≠ 26 by decide), hb9.setCell (p := ⟨g, 2, none⟩) (Nat.le_of_lt h.hg) _, h.hg, (own_other h.os h.box (show (33 : TypeId) ≠ 26 by decide) hgr9).far (p := ⟨g, 2, none⟩) (Nat.ne_of_lt h.hg) _⟩
end
end Lb
end Go.Proofs.YtfemoipbphianaaDoor
namespace Go.Proofs.YtfemoipbphianaaDoor
open Go Go.RowKit Go.Sort Go.Shelf
namespace limbParts
open Wd Nt Gr Lb
set_option linter.unusedVariables false
set_option linter.unusedSimpArgs false
set_option maxRecDepth 100000 in
set_option maxHeartbeats 16000000 in
theorem walk_ (w : World) (hT : TabF w) (p : Pg) (A X : Option Addr) (c d : Nat) (Y : Option Addr) (mr q : Nat) (hs : List Hr) (hp : p.wf) (hR : Rdr w w.heap.size A p.bf.length p.bf) (hX : Rdr w w.heap.size X p.op.length p.op)
    (hpc : p.bf.length ≤ c ∧ c ≤ 9223372036854775807) (hpd : p.op.length ≤ d ∧ d ≤ 9223372036854775807) (hH : HrW w w.heap.size Y mr hs) (hmq : mr ≤ q) (hq : q ≤ 9223372036854775807) :
    Calls Tryd.prog 7 #[pgV p A c X d, .slice Y mr q] w fun e w' => e = .returned (.bool true) ∧ Below w.heap.size w w' := by
  have HL := Lib.hid (fun (W : World) (hb : Below w.heap.size w W) => lives_l W (hT.keep hb))
  have HTK := Lib.hid (fun (W : World) (hb : Below w.heap.size w W) => hT.keep hb)
  have HRR := Lib.hid (fun (W : World) (hb : Below w.heap.size w W) => (hR.below hb).more hb.size)
  have HXX := Lib.hid (fun (W : World) (hb : Below w.heap.size w W) => (hX.below hb).more hb.size)
  have HHH := Lib.hid (fun (W : World) (hb : Below w.heap.size w W) => (hH.below hb).more hb.size)
  have HCA := Lib.hid (fun (W : World) (hb : Below w.heap.size w W) => check_l p hp A X c d W (hT.keep hb) ((hR.below hb).more hb.size) ((hX.below hb).more hb.size))
  have HLP := Lib.hid (fun (W : World) (hb : Below w.heap.size w W) => lightProg2_l p hp A X c d 30 W ((hR.below hb).more hb.size))
  have HLR := Lib.hid (fun (W : World) (hb : Below w.heap.size w W) => lightRows_l Y mr q hs W ((hH.below hb).more hb.size))
  have HST := Lib.hid (fun (W : World) (hb : Below w.heap.size w W) => steps_l p hp A X c d W (hT.keep hb) ((hR.below hb).more hb.size) ((hX.below hb).more hb.size))
  have HOP := Lib.hid (fun (h1 : p.bf.length ≤ 100000) (h2 : p.op.length ≤ 100000) (W : World) (hb : Below w.heap.size w W) => ownProg_l p A X c d W ((hR.below hb).more hb.size) ((hX.below hb).more hb.size) h1 h2)
  have HRA := Lib.hid (fun (h : mr ≤ 1000000) (W : World) (hb : Below w.heap.size w W) => run_l p hp A X Y c d mr q hs W (hT.keep hb) ((hR.below hb).more hb.size) ((hX.below hb).more hb.size) ((hH.below hb).more hb.size) h)
  have HRZ := Lib.hid (fun (Z : Option Addr) (mz qz : Nat) (gs : List Hr) (h : mz ≤ 1000000) (W : World) (hb : Below w.heap.size w W) (hG : HrW W W.heap.size Z mz gs) => run_l p hp A X Z c d mz qz gs W (hT.keep hb) ((hR.below hb).more hb.size) ((hX.below hb).more hb.size) hG h)
  have HTA := Lib.hid (fun (h : List (List Int)) (r : Ans) (hr : RunP p h r) => tells hp hr)
  have HPW := Lib.hid hp
  have HSV : Hid (∀ s : Nat, stepsP p = s → (chkP p).2 = 0 → evP p.op = s) := Lib.hid (fun s h h0 => by unfold stepsP at h; rw [if_pos h0] at h; exact h)
  have hpl := hX.len
  have hbl := hR.len
  clear hT hR hX hH hp
  have HB0 := Lib.hid (bel_al (w := w) (.cells #[.int .i64 p.rg, .slice A p.bf.length c, .slice X p.op.length d] 26))
  have HK0 := Lib.hid (Bk.new w 26 #[.int .i64 p.rg, .slice A p.bf.length c, .slice X p.op.length d])
  obtain ⟨ck, hck⟩ : ∃ ck, chkP p = ck := ⟨_, rfl⟩
  have HE := Lib.hid hck
  rw [hck] at HCA
  clear hck
  obtain ⟨k1, k2⟩ := ck
  dsimp only at HCA
  unfold OwnP at HOP
  unfold pgV at *
  go_enter Tryd.func7, Tryd.ntmps7
  go_wp2_with fail
  go_at_call 9
  refine (HL.out _ HB0.out).mono ?_
  rintro e w1 ⟨rfl, hb⟩
  have HB1 := Lib.hid (bel_tr HB0.out hb)
  have HK1 := Lib.hid (HK0.out.below hb HK0.out.lt)
  clear hb HL HB0 HK0
  obtain ⟨a0, a1, a2⟩ := c3 HK1.out
  go_wp2_with fail
  go_at_call 25
  refine (HCA.out _ HB1.out).mono ?_
  rintro e w2 ⟨rfl, hb⟩
  have HB2 := Lib.hid (bel_tr HB1.out hb)
  have HK2 := Lib.hid (HK1.out.below hb HK1.out.lt)
  clear hb HCA HB1 HK1 a0 a1 a2
  obtain ⟨a0, a1, a2⟩ := c3 HK2.out
  go_wp2_with fail
  go_at_call 23
  refine (HLP.out _ HB2.out).mono ?_
  rintro e w3 ⟨⟨b1, rfl, hb1⟩, hb⟩
  have HB3 := Lib.hid (bel_tr HB2.out hb)
  have HK3 := Lib.hid (HK2.out.below hb HK2.out.lt)
  clear hb HLP HB2 HK2 a0 a1 a2
  cases b1
  · go_wp2_with fail
    go_ret
    exact ⟨rfl, HB3.out⟩
  obtain ⟨l1, l2, l3⟩ := hb1 rfl
  have l3' : p.op.length ≤ 30 := by omega
  clear l1 l3 hb1
  obtain ⟨a0, a1, a2⟩ := c3 HK3.out
  go_wp2_with fail
  go_at_call 24
  refine (HLR.out _ HB3.out).mono ?_
  rintro e w3b ⟨⟨t2, rfl, ht2⟩, rfl⟩
  cases t2
  · go_wp2_with fail
    go_ret
    exact ⟨rfl, HB3.out⟩
  obtain ⟨hm40, hm6⟩ := ht2 rfl
  have HM6 := Lib.hid hm6
  clear ht2 hm6 HLR
  by_cases h0 : k2 = 0
  case neg =>
    have hne : (k2 != 0) = true := by simpa using h0
    clear h0
    go_wp2_with fail
    go_ret
    exact ⟨rfl, HB3.out⟩
  subst h0
  obtain ⟨st, hst⟩ : ∃ s, stepsP p = s := ⟨_, rfl⟩
  have HEV := Lib.hid (HSV.out st hst (by rw [HE.out]))
  rw [hst] at HST
  clear hst HSV
  go_wp2_with fail
  go_at_call 18
  refine (HST.out _ HB3.out).mono ?_
  rintro e w4 ⟨rfl, hb⟩
  have HB4 := Lib.hid (bel_tr HB3.out hb)
  have HK4 := Lib.hid (HK3.out.below hb HK3.out.lt)
  clear hb HST HB3 HK3 a0 a1 a2
  obtain ⟨a0, a1, a2⟩ := c3 HK4.out
  by_cases hs2 : (2000 : Int) < (st : Int)
  · go_wp2_with fail
    go_ret
    exact ⟨rfl, HB4.out⟩
  go_wp2_with fail
  go_loopw [7] (fun i W => ∃ k : Nat, k ≤ p.bf.length ∧ i = .int .i64 (k : Int) ∧ Hid (W = w4) ∧ Hid (∀ j b, j < k → p.bf[j]? = some b → b.kd ≠ 3)) (fun i _ => p.bf.length - (intOf i).toNat)
  case atStart => exact ⟨0, Nat.zero_le _, rfl, Lib.hid rfl, Lib.hid (fun j o hj => absurd hj (by omega))⟩
  case round =>
    obtain ⟨k, hk, rfl, HW, HPL⟩ := hrel
    rw [HW.out]
    clear HW
    rcases Nat.lt_or_ge k p.bf.length with hlt | hge
    · have hki : (k : Int) < (p.bf.length : Int) := by omega
      have hk0 : (0 : Int) ≤ (k : Int) := by omega
      have ew : IntKind.i64.wrap ((k : Int) + 1) = ((k + 1 : Nat) : Int) := by rw [show (k : Int) + 1 = ((k + 1 : Nat) : Int) by omega]; exact IntWalk.i64_in _ (by omega)
      obtain ⟨b, ho⟩ : ∃ b, p.bf[k]? = some b := ⟨_, List.getElem?_eq_getElem hlt⟩
      obtain ⟨bb, bo, rfl, hbb, s0, s1, s2⟩ := bf_at (HRR.out _ HB4.out) ho
      by_cases h16 : b.kd = 3
      · have g16 : (b.kd == 3) = true := by rw [beq_iff_eq]; exact h16
        clear ho h16
        obtain ⟨bsz, bkd, bsec⟩ := b
        dsimp only at *
        go_wp2_with fail
        go_ret
        exact ⟨rfl, HB4.out⟩
      have g16 : (b.kd == 3) = false := by rw [beq_eq_false_iff_ne]; exact h16
      have HP2 : Hid (∀ j b, j < k + 1 → p.bf[j]? = some b → b.kd ≠ 3) := Lib.hid (fun j o2 hj h2 => by
        rcases Nat.lt_or_ge j k with h | h
        · exact HPL.out j o2 h h2
        · obtain rfl : j = k := by omega
          rw [ho] at h2
          cases h2
          exact h16)
      clear ho h16 HPL
      obtain ⟨bsz, bkd, bsec⟩ := b
      dsimp only at *
      go_wp2_with fail
      go_roundw
      case rel => exact ⟨k + 1, by omega, by first | rfl | go_num, by first | exact Lib.hid rfl | exact Lib.hid trivial, HP2⟩
      case measure => (simp [intOf] <;> omega)
    · have hkL : k = p.bf.length := by omega
      rw [hkL] at HPL ⊢
      have HNT : Hid (∀ b ∈ p.bf, b.kd ≠ 3) := Lib.hid (fun o ho => by
        obtain ⟨j, hj⟩ := List.mem_iff_getElem?.1 ho
        exact HPL.out j o (List.getElem?_eq_some_iff.1 hj).1 hj)
      clear hk hge hkL HPL
      go_wp2_with fail
      go_loopw [8] (fun i W => ∃ k : Nat, k ≤ p.op.length ∧ i = .int .i64 (k : Int) ∧ Hid (W = w4) ∧ Hid (∀ (j : Nat) (o : Lb.Op), j < k → p.op[j]? = some o → o.k = 16 → j = 0)) (fun i _ => p.op.length - (intOf i).toNat)
      case atStart => exact ⟨0, Nat.zero_le _, rfl, Lib.hid rfl, Lib.hid (fun j o hj => absurd hj (by omega))⟩
      case round =>
        obtain ⟨k, hk, rfl, HW, HPL⟩ := hrel
        rw [HW.out]
        clear HW
        rcases Nat.lt_or_ge k p.op.length with hlt | hge
        · have hki : (k : Int) < (p.op.length : Int) := by omega
          have hk0 : (0 : Int) ≤ (k : Int) := by omega
          have ew : IntKind.i64.wrap ((k : Int) + 1) = ((k + 1 : Nat) : Int) := by rw [show (k : Int) + 1 = ((k + 1 : Nat) : Int) by omega]; exact IntWalk.i64_in _ (by omega)
          obtain ⟨o, ho⟩ : ∃ o, p.op[k]? = some o := ⟨_, List.getElem?_eq_getElem hlt⟩
          obtain ⟨xb, xo, rfl, _, x0, _, _, _, _, _, _, _⟩ := op_at (HXX.out _ HB4.out) ho
          by_cases h16 : o.k = 16 ∧ 0 < k
          · obtain ⟨h16, hkp⟩ := h16
            have g16 : (o.k == 16) = true := by rw [beq_iff_eq]; exact h16
            have g17 : (0 : Int) < (k : Int) := by omega
            clear ho h16
            obtain ⟨ok, od, oe, oa, ob, oc, obf, oim⟩ := o
            dsimp only at *
            go_wp2_with fail
            go_ret
            exact ⟨rfl, HB4.out⟩
          have HP2 : Hid (∀ (j : Nat) (o : Lb.Op), j < k + 1 → p.op[j]? = some o → o.k = 16 → j = 0) := Lib.hid (fun j o2 hj h2 h3 => by
            rcases Nat.lt_or_ge j k with h | h
            · exact HPL.out j o2 h h2 h3
            · obtain rfl : j = k := by omega
              rw [ho] at h2
              cases h2
              omega)
          by_cases h17 : o.k = 16
          · have g16 : (o.k == 16) = true := by rw [beq_iff_eq]; exact h17
            have g17 : ¬ (0 : Int) < (k : Int) := by omega
            clear ho h16 h17 HPL
            obtain ⟨ok, od, oe, oa, ob, oc, obf, oim⟩ := o
            dsimp only at *
            go_wp2_with fail
            go_roundw
            case rel => exact ⟨k + 1, by omega, by first | rfl | go_num, by first | exact Lib.hid rfl | exact Lib.hid trivial, HP2⟩
            case measure => (simp [intOf] <;> omega)
          · have g16 : (o.k == 16) = false := by rw [beq_eq_false_iff_ne]; exact h17
            clear ho h16 h17 HPL
            obtain ⟨ok, od, oe, oa, ob, oc, obf, oim⟩ := o
            dsimp only at *
            go_wp2_with fail
            go_roundw
            case rel => exact ⟨k + 1, by omega, by first | rfl | go_num, by first | exact Lib.hid rfl | exact Lib.hid trivial, HP2⟩
            case measure => (simp [intOf] <;> omega)
        · have hkL : k = p.op.length := by omega
          rw [hkL] at HPL ⊢
          have HLO : Hid (∀ (j : Nat) (o : Lb.Op), p.op[j]? = some o → o.k = 16 → j = 0) := Lib.hid (fun j o ho h => HPL.out j o (List.getElem?_eq_some_iff.1 ho).1 ho h)
          clear hk hge hkL HPL
          have HOP4 := Lib.hid (HOP.out (by omega) (by omega) w4 HB4.out)
          clear HOP
          go_wp2_with fail
          go_at_call 30
          refine HOP4.out.mono ?_
          rintro e w5 ⟨hb5, gA, cA, gX, cX, rfl, hA5, hX5⟩
          go_upto_region 17 with fail
          have HB5 := Lib.hid (bel_tr HB4.out hb5)
          obtain ⟨W6, hW6⟩ : ∃ W, W = w5.alloc (.cells #[.int .i64 p.rg, .slice (some ⟨gA, 0, none⟩) p.bf.length cA, .slice (some ⟨gX, 0, none⟩) p.op.length cX] 26) := ⟨_, rfl⟩
          have HO6 : Hid (OpB w W6 #[.int .i64 p.rg, .slice A p.bf.length c, .slice X p.op.length d] w5.heap.size p.rg p.bf p.op gA cA (some ⟨gX, 0, none⟩) cX) := Lib.hid (by
            have hlt := HK4.out.lt
            have hs5 := hb5.size
            rw [hW6]
            exact ⟨Bk.new _ _ _, own_below (own_mono (B' := w.heap.size) hA5 HB4.out.size) (bel_al _), own_below (own_mono (B' := w.heap.size) hX5 HB4.out.size) (bel_al _), bel_al' HB5.out _, by omega, (HK4.out.below hb5 HK4.out.lt).alloc _⟩)
          rw [← hW6]
          obtain ⟨g, hg⟩ : ∃ g, w5.heap.size = g := ⟨_, rfl⟩
          rw [hg] at HO6 ⊢
          clear hW6 hg hb5 hA5 hX5 HB5 HK4 a0 a1 a2 HOP4
          obtain ⟨X7, c7, w7, hap, ⟨z0, z1, z2⟩, hO7⟩ := HO6.out.app (q := d) (HXX.out W6 HO6.out.b) (by omega) (by omega)
          obtain ⟨q0, q1, q2⟩ := HO6.out.cells
          obtain ⟨a0, a1, a2⟩ := c3 HO6.out.box
          obtain ⟨NL, hNL⟩ : ∃ k, (p.op ++ p.op).length = k := ⟨_, rfl⟩
          rw [hNL] at hap hO7
          have HO7 := Lib.hid hO7
          have HNL := Lib.hid hNL
          clear hO7 hNL HO6
          generalize p.op.length = no at *
          go_upto_region 18 with (at_builtin; refine wpList_append_eq rfl (.tmp 80) (.tmp 82) 24 rfl _ _ rfl rfl _ _ hap ?_)
          obtain ⟨W8, hW8⟩ : ∃ W, W = w7.setCell ⟨g, 2, none⟩ (.slice X7 NL c7) := ⟨_, rfl⟩
          rw [← hW8] at HO7
          rw [← hW8]
          clear hW8 hap z0 z1 z2 q0 q1 q2 a0 a1 a2
          have WQ : (tw p).wf := ⟨HPW.out.rg, HPW.out.bf, fun o ho => (List.mem_append.1 ho).elim (HPW.out.op o) (HPW.out.op o)⟩
          have HCQ := Lib.hid (check_l (tw p) WQ (some ⟨gA, 0, none⟩) X7 cA c7 W8 (HTK.out _ HO7.out.b) HO7.out.rd.1 HO7.out.rd.2)
          have HRB := Lib.hid (fun (h : mr ≤ 1000000) (W : World) (hb : Below W8.heap.size W8 W) => run_l (tw p) WQ (some ⟨gA, 0, none⟩) X7 Y cA c7 mr q hs W (HTK.out W (bel_tr HO7.out.b hb)) (HO7.out.below hb).rd.1 (HO7.out.below hb).rd.2 (HHH.out W (bel_tr HO7.out.b hb)) h)
          have HTB := Lib.hid (fun (r : Ans) (hr : RunP (tw p) (hrYs hs) r) => tells WQ hr)
          have HCC := Lib.hid (fun (W : World) (hb : Below W8.heap.size W8 W) => And.intro (HO7.out.below hb).cells (c3 (HO7.out.below hb).box))
          have HB8 := Lib.hid HO7.out.b
          have H2 : Hid (evP p.op ≤ 2000) := Lib.hid (by rw [HEV.out]; omega)
          have HOK : Hid (Ok p) := Lib.hid (ok_of (by rw [HE.out]))
          have H29 := Lib.hid (tw_chk HOK.out (by have := HXX.out _ HB8.out; have := this.len; omega))
          have HPA := Lib.hid (fun (h : (chkP (tw p)).2 = 0) (r x : Ans) (h1 : RunP p (hrYs hs) r) (h2 : RunP (tw p) (hrYs hs) x) => tw_same HOK.out HPW.out h (by rw [HE.out]) HLO.out HNT.out H2.out h1 h2)
          have HS2 : Hid (stepsP p ≤ 2000) := Lib.hid (by unfold stepsP; rw [if_pos (by rw [HE.out])]; exact H2.out)
          have HSQ : Hid (stepsP (tw p) ≤ 4000) := Lib.hid (by
            have h1 := tw_evs HOK.out
            have h2 := H2.out
            unfold stepsP
            split <;> omega)
          unfold pgV at HCQ HRB
          rw [show (tw p).rg = p.rg from rfl, show (tw p).bf = p.bf from rfl, show (tw p).op.length = NL from HNL.out] at HCQ HRB
          rw [HNL.out] at HCC
          obtain ⟨cq, hcq⟩ : ∃ cq, chkP (tw p) = cq := ⟨_, rfl⟩
          have HEQ := Lib.hid hcq
          rw [hcq] at HCQ H29 HPA
          clear hcq HO7 HNL HNT HLO WQ HEV HE
          obtain ⟨m1, m2⟩ := cq
          dsimp only at HCQ H29 HPA
          generalize p.bf.length = nb at *
          obtain ⟨⟨q0, q1, q2⟩, a0, a1, a2⟩ := HCC.out W8 (Below.refl _ _)
          go_wp2_with fail
          go_at_call 25
          refine HCQ.out.mono ?_
          rintro e w9 ⟨rfl, hb9⟩
          have HB9 := Lib.hid hb9
          clear hb9 HCQ q0 q1 q2 a0 a1 a2
          rcases H29.out with rfl | rfl
          case inr =>
            go_wp2_with fail
            go_ret
            exact ⟨rfl, bel_tr HB8.out HB9.out⟩
          obtain ⟨⟨q0, q1, q2⟩, a0, a1, a2⟩ := HCC.out w9 HB9.out
          go_wp2_with fail
          go_at_call 16
          refine (HRA.out (by omega) _ (bel_tr HB8.out HB9.out)).mono ?_
          rintro e w10 ⟨⟨vo, vl, r, rfl, hrp, hro, hrv⟩, hb10⟩
          have HB10 := Lib.hid (bel_tr HB9.out hb10)
          have ht := HTA.out _ r hrp
          obtain ⟨Ao, co, ho, rfl, hoh, hoy, hoc⟩ := hro.hr (fun y hy => by have := ht.ol y hy; omega)
          obtain ⟨Av, cv, rfl, hcv⟩ := rws_form hrv
          have HV1 := Lib.hid (rws_rd hrv).2.1
          have HO1 := Lib.hid hoh
          have HT1 := Lib.hid ht
          have HP1 := Lib.hid hrp
          have HY1 := Lib.hid hoy
          clear hb10 hrp hro hrv ht hoh hoy hoc hcv HRA q0 q1 q2 a0 a1 a2
          obtain ⟨⟨q0, q1, q2⟩, a0, a1, a2⟩ := HCC.out w10 HB10.out
          obtain ⟨n1, hn1⟩ : ∃ n, r.out.length = n := ⟨_, rfl⟩
          obtain ⟨e1, he1⟩ : ∃ n, r.ev.length = n := ⟨_, rfl⟩
          obtain ⟨f1, hf1⟩ : ∃ n, r.er = n := ⟨_, rfl⟩
          have HN1 := Lib.hid (And.intro hn1 (And.intro he1 hf1))
          rw [hn1] at HO1
          rw [he1] at HV1
          rw [hn1, he1, hf1]
          clear hn1 he1 hf1
          go_wp2_with fail
          go_at_call 16
          refine (HRB.out (by omega) _ HB10.out).mono ?_
          rintro e w11 ⟨⟨vo2, vl2, r2, rfl, hrp2, hro2, hrv2⟩, hb11⟩
          have HB11 := Lib.hid (bel_tr HB10.out hb11)
          have ht2 := HTB.out r2 hrp2
          obtain ⟨Ao2, co2, ho2, rfl, hoh2, hoy2, hoc2⟩ := hro2.hr (fun y hy => by have := ht2.ol y hy; omega)
          obtain ⟨Av2, cv2, rfl, hcv2⟩ := rws_form hrv2
          have HV2 := Lib.hid (rws_rd hrv2).2.1
          have HO2 := Lib.hid hoh2
          have HT2 := Lib.hid ht2
          have HY2 := Lib.hid hoy2
          have HQ := Lib.hid (HPA.out (by first | exact rfl | trivial) r r2 HP1.out hrp2)
          have HV1' := Lib.hid ((HV1.out.below hb11).more hb11.size)
          have HO1' := Lib.hid ((HO1.out.below hb11).more hb11.size)
          clear hb11 hrp2 hro2 hrv2 ht2 hoh2 hoy2 hoc2 hcv2 HRB HPA HV1 HO1 HTB q0 q1 q2 a0 a1 a2
          obtain ⟨⟨q0, q1, q2⟩, a0, a1, a2⟩ := HCC.out w11 HB11.out
          obtain ⟨n2, hn2⟩ : ∃ n, r2.out.length = n := ⟨_, rfl⟩
          obtain ⟨e2, he2⟩ : ∃ n, r2.ev.length = n := ⟨_, rfl⟩
          obtain ⟨f2, hf2⟩ : ∃ n, r2.er = n := ⟨_, rfl⟩
          have HN2 := Lib.hid (And.intro hn2 (And.intro he2 hf2))
          rw [hn2] at HO2
          rw [he2] at HV2
          rw [hn2, he2, hf2]
          clear hn2 he2 hf2
          by_cases h0 : f1 = 0
          case neg =>
            have hb := HQ.out.bad (by rw [HN1.out.2.2]; exact h0)
            have hff : f2 = f1 := by rw [← HN2.out.2.2, ← HN1.out.2.2]; exact hb.1
            have hee : e2 = e1 := by rw [← HN2.out.2.1, ← HN1.out.2.1, hb.2]
            subst hff hee
            have hle : e2 ≤ 1000000 := by
              rw [← HN1.out.2.1]
              have h3 := HS2.out
              by_cases e11 : r.er = 11
              · have := HT1.out.e11 e11; omega
              · rw [HT1.out.ee (by rw [HN1.out.2.2]; exact h0) e11]; simp
            have KS := Lib.hid (same_ev Av Av2 e2 cv e2 cv2 _ _ r.ev r2.ev w11 HV1'.out HV2.out hle hle)
            rw [hb.2, decide_eq_true rfl] at KS
            have hne : (f2 != 0) = true := by simpa using h0
            have g1 : (f2 == f2) = true := by simp
            clear hb hle h0
            go_wp2_with fail
            go_at_call 33
            refine KS.out.mono ?_
            rintro e w12 ⟨rfl, q12, rfl⟩
            go_wp2_with fail
            go_ret
            exact ⟨rfl, below_drewN (bel_tr HB8.out HB11.out) _⟩
          subst h0
          have HRZ2 := Lib.hid (HRZ.out Ao n1 co ho (by
            have h1 := HO1'.out.rd.len
            have h2 := (HT1.out.e0 HN1.out.2.2).2.1
            rw [HN1.out.1] at h2
            have h3 := (ref_zero HOK.out.ref).2.1
            omega) w11 (bel_tr HB8.out HB11.out) HO1'.out)
          clear HRZ
          go_wp2_with fail
          go_at_call 16
          refine HRZ2.out.mono ?_
          rintro e w12 ⟨⟨vo3, vl3, r3, rfl, hrp3, hro3, hrv3⟩, hb12⟩
          have HB12 := Lib.hid (bel_tr HB11.out hb12)
          have ht3 := HTA.out _ r3 hrp3
          rw [HY1.out] at hrp3
          obtain ⟨g1, g2, g3⟩ := HQ.out.good HN1.out.2.2 r3 hrp3
          obtain ⟨Ao3, co3, ho3, rfl, hoh3, hoy3, hoc3⟩ := hro3.hr (fun y hy => by have := ht3.ol y hy; omega)
          obtain ⟨Av3, cv3, rfl, hcv3⟩ := rws_form hrv3
          have HO2' := Lib.hid ((HO2.out.below hb12).more hb12.size)
          have hol : ∀ (x : Ans) (m : Nat), x.out = r3.out → x.out.length = m → m ≤ 1000000 := fun x m e1 e2 => by
            rw [← e2, e1]
            by_cases e0 : r3.er = 0
            · rw [(ht3.e0 e0).2.1]
              have h3 := (ref_zero HOK.out.ref).2.1
              omega
            · rw [ht3.en e0]; simp
          have hn3 : r3.out.length = n2 := by rw [← g2]; exact HN2.out.1
          rw [hn3] at hoh3
          have KR := Lib.hid (rows_u Ao2 Ao3 n2 co2 n2 co3 _ _ ho2 ho3 w12 HO2'.out hoh3 (hol r2 n2 g2 HN2.out.1) (hol r2 n2 g2 HN2.out.1) (fun x hx => by
            have h1 := HT2.out.ol x.ys (by rw [← HY2.out]; exact List.mem_map.2 ⟨x, hx, rfl⟩)
            have h2 := (HO2'.out.each x hx).1.len
            omega) (fun x hx => by
            have h1 := ht3.ol x.ys (by rw [← hoy3]; exact List.mem_map.2 ⟨x, hx, rfl⟩)
            have h2 := (hoh3.each x hx).1.len
            omega))
          rw [HY2.out, hoy3, g2, decide_eq_true rfl] at KR
          obtain ⟨e3, he3⟩ : ∃ n, r3.ev.length = n := ⟨_, rfl⟩
          have hsum : e2 = e1 + e3 := by rw [← HN2.out.2.1, ← HN1.out.2.1, ← he3]; exact g3
          have hle : e1 ≤ 2000 ∧ e3 ≤ 2000 := by
            have h3 := HS2.out
            refine ⟨?_, ?_⟩
            · rw [← HN1.out.2.1, (HT1.out.e0 HN1.out.2.2).1]; exact h3
            · rw [← he3]
              by_cases e0 : r3.er = 0
              · rw [(ht3.e0 e0).1]; exact h3
              · by_cases e11 : r3.er = 11
                · have := ht3.e11 e11; omega
                · rw [ht3.ee e0 e11]; simp
          rw [hn3, he3, ← g1, HN2.out.2.2]
          have b1 : (f2 == f2) = true := by simp
          have b2 : IntKind.i64.wrap ((e1 : Int) + (e3 : Int)) = (e1 : Int) + (e3 : Int) := IntWalk.i64_in _ (by omega)
          have b3 : ((e2 : Int) == (e1 : Int) + (e3 : Int)) = true := by rw [beq_iff_eq]; omega
          clear hb12 ht3 hrp3 hro3 hrv3 hoh3 hoy3 hoc3 hcv3 hol hn3 he3 hsum hle g1 g2 g3 HRZ2 q0 q1 q2 a0 a1 a2 HCC HN1 HN2 HT1 HT2 HQ HP1
          go_wp2_with fail
          go_at_call 17
          refine KR.out.mono ?_
          rintro e w13 ⟨rfl, q13, rfl⟩
          go_wp2_with fail
          go_ret
          exact ⟨rfl, below_drewN (bel_tr HB8.out HB12.out) _⟩
end limbParts
end Go.Proofs.YtfemoipbphianaaDoor
