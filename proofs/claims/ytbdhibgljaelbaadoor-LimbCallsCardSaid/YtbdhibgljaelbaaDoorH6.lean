/- Plain: how the document's own reckoning of events (a sum, sums and times of open loops) goes with frames. | Two rows of ints of one's own, each appended to in one region, in whatever order (for the document's own Steps). | The document's own reckoning of steps: the walk. | The document's own Ends: the walk. -/
import Derived.Test.YtbdhibgljaelbaaDoorS2
import Derived.Test.YtbdhibgljaelbaaDoorR5
import Derived.Test.YtbdhibgljaelbaaDoorM5
import Derived.Lib.MinMax
import Derived.BigQuiet
namespace Go.Proofs.YtbdhibgljaelbaaDoor
open Go Go.RowKit
namespace Lb
open Wd Nt Gr
set_option linter.unusedVariables false
set_option linter.unusedSimpArgs false
/-- the innermost's events so far; those of the loops around, outermost first; how often each open loop goes, outermost first -/
def sumE (fr : List (Nat × Nat)) : Nat := (fr.head?.getD (1, 0)).2
def sumsE (fr : List (Nat × Nat)) : List Nat := ((fr.drop 1).map (·.2)).reverse
def timesE (fr : List (Nat × Nat)) : List Nat := ((fr.map (·.1)).dropLast).reverse
theorem sums_len (fr : List (Nat × Nat)) : (sumsE fr).length = fr.length - 1 := by
  unfold sumsE
  rw [List.length_reverse, List.length_map, List.length_drop]
theorem times_len (fr : List (Nat × Nat)) : (timesE fr).length = fr.length - 1 := by
  unfold timesE
  rw [List.length_reverse, List.length_dropLast, List.length_map]
theorem sums_open (t x u e : Nat) (r : List (Nat × Nat)) : sumsE ((t, x) :: (u, e) :: r) = sumsE ((u, e) :: r) ++ [e] := by
  unfold sumsE
  simp
theorem sums_top (t x u y : Nat) (r : List (Nat × Nat)) : sumsE ((t, x) :: r) = sumsE ((u, y) :: r) := rfl
theorem times_open (t x u e : Nat) (r : List (Nat × Nat)) : timesE ((t, x) :: (u, e) :: r) = timesE ((u, e) :: r) ++ [t] := by
  unfold timesE
  simp
theorem times_top (t x y : Nat) (r : List (Nat × Nat)) : timesE ((t, x) :: r) = timesE ((t, y) :: r) := rfl
theorem mulC_eq {t : Nat} (ht : 0 < t) (s : Nat) : (if 1125899906842624 / t < s then 1125899906842624 else s * t) = capN (s * t) := by
  unfold capN
  split
  · rename_i h
    have := (Nat.div_lt_iff_lt_mul ht).1 h
    omega
  · rename_i h
    have h2 : ¬ 1125899906842624 < s * t := fun hh => h ((Nat.div_lt_iff_lt_mul ht).2 hh)
    omega
theorem cap_le (n : Nat) : capN n ≤ 1125899906842624 := by unfold capN; omega
theorem min_cap (n : Nat) : min 1125899906842624 n = capN n := by unfold capN; exact Nat.min_comm _ _
/-- a loop begins -/
theorem evE_16 {u e : Nat} {r : List (Nat × Nat)} {o : Op} (h : o.k = 16) :
    sumE (evO ((u, e) :: r) o) = 1 ∧ sumsE (evO ((u, e) :: r) o) = sumsE ((u, e) :: r) ++ [e] ∧ timesE (evO ((u, e) :: r) o) = timesE ((u, e) :: r) ++ [o.im.toNat] := by
  have he : evO ((u, e) :: r) o = (o.im.toNat, 1) :: (u, e) :: r := by unfold evO; rw [if_pos h]
  rw [he]
  exact ⟨rfl, sums_open _ _ _ _ _, times_open _ _ _ _ _⟩
/-- a loop ends -/
theorem evE_17 {t e u f : Nat} {r : List (Nat × Nat)} {o : Op} (h : o.k = 17) (ht : 0 < t) :
    sumE (evO ((t, e) :: (u, f) :: r) o) = min 1125899906842624 ((if 1125899906842624 / t < e then 1125899906842624 else e * t) + f) ∧
    sumsE ((t, e) :: (u, f) :: r) = sumsE (evO ((t, e) :: (u, f) :: r) o) ++ [f] ∧
    timesE ((t, e) :: (u, f) :: r) = timesE (evO ((t, e) :: (u, f) :: r) o) ++ [t] := by
  have he : evO ((t, e) :: (u, f) :: r) o = (u, capN (f + capN (e * t))) :: r := by unfold evO; rw [if_neg (by omega), if_pos h]
  rw [he, mulC_eq ht, min_cap, Nat.add_comm _ f]
  exact ⟨rfl, sums_open _ _ _ _ _, times_open _ _ _ _ _⟩
/-- any other -/
theorem evE_pl {u e : Nat} {r : List (Nat × Nat)} {o : Op} (h : o.k ≠ 16) (h' : o.k ≠ 17) :
    sumE (evO ((u, e) :: r) o) = min 1125899906842624 (e + 1) ∧ sumsE (evO ((u, e) :: r) o) = sumsE ((u, e) :: r) ∧ timesE (evO ((u, e) :: r) o) = timesE ((u, e) :: r) := by
  have he : evO ((u, e) :: r) o = (u, capN (e + 1)) :: r := by unfold evO; rw [if_neg h, if_neg h']
  rw [he, min_cap]
  exact ⟨rfl, rfl, rfl⟩
end Lb
end Go.Proofs.YtbdhibgljaelbaaDoor
namespace Go.Proofs.YtbdhibgljaelbaaDoor
open Go Go.RowKit Go.Sort Go.Shelf
namespace Lb
open Wd Nt Gr
set_option linter.unusedVariables false
set_option linter.unusedSimpArgs false
structure Two2 (w U : World) (v : Value) (xs : List Nat) (v' : Value) (ys : List Nat) : Prop where
  a : Rws 3 w.heap.size v (ints xs) U
  b : Rws 3 w.heap.size v' (ints ys) U
  ne : ∀ g, v.ownBlock = some g → v'.ownBlock ≠ some g
  l : Below w.heap.size w U
theorem own_lt {w : World} {B s n : Nat} {e : TypeId} {v : Value} {zs : List Value} {g : Nat} (h : w.ownsRow B e s v n zs) (hg : v.ownBlock = some g) : g < w.heap.size := by
  rcases h.2 with ⟨e1, _⟩ | ⟨g', cap, cur, e1, h2, h3, _⟩
  · rw [e1] at hg; cases hg
  · rw [e1] at hg
    cases hg
    exact (Array.getElem?_eq_some_iff.1 h3).1
section
variable {w U U' : World} {v v' : Value} {xs ys : List Nat}
theorem Two2.below (h : Two2 w U v xs v' ys) (hb : Below U.heap.size U U') : Two2 w U' v xs v' ys := ⟨own_below h.a hb, own_below h.b hb, h.ne, bel_tr h.l hb⟩
theorem Two2.swap (h : Two2 w U v xs v' ys) : Two2 w U v' ys v xs := ⟨h.b, h.a, fun g e e' => h.ne g e' e, h.l⟩
theorem Two2.push (h : Two2 w U v xs v' ys) {g2 x : Nat} (hs : Bk U g2 3 #[.int .i64 (x : Int)]) (hk : xs.length ≤ 100000) :
    ∃ A c U', (Builtin.append_ #[49, 49] 49 #[v, .slice (some ⟨g2, 0, none⟩) 1 1]).run Tryd.prog U = .ok (.slice A (xs.length + 1) c) U' ∧ Two2 w U' (.slice A (xs.length + 1) c) (xs ++ [x]) v' ys ∧ U.grownBy U' v.ownBlock := by
  obtain ⟨i, hi, hz, h2, h3⟩ := info_parts info_int
  have hl := ints_len xs
  obtain ⟨A, c, U', h4, h5, h6, h7⟩ := app_one (z := ((x : Nat) : Int)) 49 49 i _ 8 Tryd.underlying49 hi hz h2 h3 rfl h.a hs (by rw [hl]; omega) (by rw [hl]; simp only [maxLen]; omega) h.l.size
  rw [hl] at h4 h5 h7
  refine ⟨A, c, U', h4, ⟨by rw [ints_app]; exact h5, h.b.kept h6 ?_, fun g e e' => ?_, own_grown h.a h6 h.l (Nat.le_refl _) h.l.size⟩, h6⟩
  · rcases hv : v'.ownBlock with _ | g
    · exact .inl rfl
    · exact .inr (fun e => h.ne g e.symm hv)
  · rcases h7 with h7 | h7
    · exact h.ne g (by rw [← h7]; exact e) e'
    · rw [h7] at e
      cases e
      have := own_lt h.b e'
      omega
theorem bk_grown {g k : Nat} {t : TypeId} {cs : Array Value} (h : Bk U k t cs) (hg : U.grownBy U' (some g)) (hne : k ≠ g) : Bk U' k t cs := by
  unfold Bk at *
  rw [hg.block k (Array.getElem?_eq_some_iff.1 h).1 (fun e => hne (Option.some.inj e))]
  exact h
theorem bk_grownN {k : Nat} {t : TypeId} {cs : Array Value} (h : Bk U k t cs) (hg : U.grownBy U' none) : Bk U' k t cs := by
  unfold Bk at *
  rw [hg.block k (Array.getElem?_eq_some_iff.1 h).1 (by simp)]
  exact h
/-- both appends, whichever literal is laid first -/
structure App2 (w U : World) (v : Value) (n : Nat) (v' : Value) (m : Nat) (x y : Nat) (xs ys : List Nat) (s1 s2 : Nat) : Prop where
  ex : ∃ A c W1, (Builtin.append_ #[49, 49] 49 #[v, .slice (some ⟨s1, 0, none⟩) 1 1]).run Tryd.prog U = .ok (.slice A (n + 1) c) W1 ∧ Below w.heap.size w W1 ∧ ∃ A' c' W2, (Builtin.append_ #[49, 49] 49 #[v', .slice (some ⟨s2, 0, none⟩) 1 1]).run Tryd.prog W1 = .ok (.slice A' (m + 1) c') W2 ∧ Two2 w W2 (.slice A (n + 1) c) (xs ++ [x]) (.slice A' (m + 1) c') (ys ++ [y])
theorem Two2.app2 (h : Two2 w U v xs v' ys) {s1 s2 x y : Nat} (h1 : Bk U s1 3 #[.int .i64 (x : Int)]) (h2 : Bk U s2 3 #[.int .i64 (y : Int)]) (hne : ∀ g, v.ownBlock = some g → s2 ≠ g) (hx : xs.length ≤ 100000) (hy : ys.length ≤ 100000) : App2 w U v xs.length v' ys.length x y xs ys s1 s2 := by
  obtain ⟨A, c, W1, k1, k2, k3⟩ := h.push h1 hx
  have h2' : Bk W1 s2 3 #[.int .i64 (y : Int)] := by
    rcases hv : v.ownBlock with _ | g
    · rw [hv] at k3
      exact bk_grownN h2 k3
    · rw [hv] at k3
      exact bk_grown h2 k3 (hne g hv)
  obtain ⟨A', c', W2, l1, l2, l3⟩ := k2.swap.push h2' hy
  exact ⟨⟨A, c, W1, k1, k2.l, A', c', W2, l1, l2.swap⟩⟩
/-- the first one alone, then a literal, then the other -/
structure App1 (w U : World) (v : Value) (n : Nat) (v' : Value) (m : Nat) (x y : Nat) (xs ys : List Nat) (s1 : Nat) : Prop where
  ex : ∃ A c W1, (Builtin.append_ #[49, 49] 49 #[v, .slice (some ⟨s1, 0, none⟩) 1 1]).run Tryd.prog U = .ok (.slice A (n + 1) c) W1 ∧ Below w.heap.size w W1 ∧ ∃ A' c' W2, (Builtin.append_ #[49, 49] 49 #[v', .slice (some ⟨W1.heap.size, 0, none⟩) 1 1]).run Tryd.prog (W1.alloc (.cells #[.int .i64 (y : Int)] 3)) = .ok (.slice A' (m + 1) c') W2 ∧ Two2 w W2 (.slice A (n + 1) c) (xs ++ [x]) (.slice A' (m + 1) c') (ys ++ [y])
theorem Two2.app1 (h : Two2 w U v xs v' ys) {s1 x y : Nat} (h1 : Bk U s1 3 #[.int .i64 (x : Int)]) (hx : xs.length ≤ 100000) (hy : ys.length ≤ 100000) : App1 w U v xs.length v' ys.length x y xs ys s1 := by
  obtain ⟨A, c, W1, k1, k2, k3⟩ := h.push h1 hx
  obtain ⟨A', c', W2, l1, l2, l3⟩ := (k2.below (bel_al (.cells #[.int .i64 (y : Int)] 3))).swap.push (g2 := W1.heap.size) (x := y) (Bk.new _ _ _) hy
  exact ⟨⟨A, c, W1, k1, k2.l, A', c', W2, l1, l2.swap⟩⟩
/-- the three orders -/
theorem Two2.all (h : Two2 w U v xs v' ys) (x y : Nat) (hx : xs.length ≤ 100000) (hy : ys.length ≤ 100000) :
    App1 w (U.alloc (.cells #[.int .i64 (x : Int)] 3)) v xs.length v' ys.length x y xs ys U.heap.size ∧
    App2 w ((U.alloc (.cells #[.int .i64 (x : Int)] 3)).alloc (.cells #[.int .i64 (y : Int)] 3)) v xs.length v' ys.length x y xs ys U.heap.size (U.heap.size + 1) ∧
    App2 w ((U.alloc (.cells #[.int .i64 (y : Int)] 3)).alloc (.cells #[.int .i64 (x : Int)] 3)) v xs.length v' ys.length x y xs ys (U.heap.size + 1) U.heap.size := by
  have hlt : ∀ g, v.ownBlock = some g → g < U.heap.size := fun g e => own_lt h.a e
  have hT1 := h.below (bel_al (.cells #[.int .i64 (x : Int)] 3))
  have hT2 := h.below (bel_al (.cells #[.int .i64 (y : Int)] 3))
  refine ⟨hT1.app1 (Bk.new _ _ _) hx hy, (hT1.below (bel_al _)).app2 ((Bk.new U _ _).alloc _) (Bk.new' (by rw [World.size_alloc])) (fun g e => by have := hlt g e; omega) hx hy, (hT2.below (bel_al _)).app2 (Bk.new' (by rw [World.size_alloc])) ((Bk.new U _ _).alloc _) (fun g e => by have := hlt g e; omega) hx hy⟩
/-- the last of a row of one's own, and the row without it -/
theorem int_last {B t : Nat} {ts : List Nat} (h : Rws 3 B v (ints (ts ++ [t])) U) : ∃ g c, v = .slice (some ⟨g, 0, none⟩) (ts.length + 1) c ∧ ts.length + 1 ≤ c ∧ g < U.heap.size ∧ U.cell? ⟨g, ts.length, none⟩ = some (.int .i64 (t : Int)) ∧ Rws 3 B (.slice (some ⟨g, 0, none⟩) ts.length c) (ints ts) U := by
  have hl : (ints (ts ++ [t])).length = ts.length + 1 := by rw [ints_len, List.length_append]; rfl
  obtain ⟨A, c, rfl, hc⟩ := rws_form h
  rw [hl] at hc
  obtain ⟨g, rfl, h1, h2, h3, h4⟩ := own_blk h (by rw [hl]; omega)
  have hx : (ints (ts ++ [t]))[ts.length]? = some (t : Int) := by
    rw [ints_app, List.getElem?_append_right (by rw [ints_len]; exact Nat.le_refl _), ints_len, Nat.sub_self]
    rfl
  obtain ⟨b, o, e1, _, k0⟩ := int_at (rws_rd h).2.1 hx
  cases e1
  rw [Nat.zero_add] at k0
  have hi := own_init (m := ts.length) h hl
  have e2 : (ints (ts ++ [t])).dropLast = ints ts := by rw [ints_app, show ints [t] = [(t : Int)] from rfl, List.dropLast_concat]
  rw [e2] at hi
  exact ⟨g, c, by rw [hl], by omega, h2, k0, hi⟩
end
/-- an append's run, as a thing that is not unfolded -/
structure AppRun (P : Program) (t ty : TypeId) (v sx : Value) (w : World) (v' : Value) (w' : World) : Prop where
  r : (Builtin.append_ #[t, t] ty #[v, sx]).run P w = .ok v' w'
/-- append, by its run, as a step of a region that draws -/
theorem step_app_at {P : Program} {w : World} {t : TypeId} {v sx v' : Value} {w' : World} {ops : Array Oper} {o : Oper} {a : Act} {K : Act → World → Prop} {Q : Exit → Act → World → Prop} {E : Prop} {s x : Operand} (hrun : AppRun P t o.type v sx w v' w')
    (hg : o.guard = none) (hop : o.op = Op.call { callee := Callee.builtin Builtin.append, args := #[s, x], argTypes := #[t, t] })
    (hs : a.eval s = v) (hx : a.eval x = sx) (hK : K (a.put o.dst v') w') :
    if Region.wanted o (yielded ops a.tmps) = true then Oper.wp P o a w K Q else E := step_append_eq hg s x t hop v sx hs hx v' w' hrun.r hK
end Lb
end Go.Proofs.YtbdhibgljaelbaaDoor
namespace Go.Proofs.YtbdhibgljaelbaaDoor
open Go Go.RowKit Go.Sort Go.Shelf
namespace Lb
open Wd Nt Gr
set_option linter.unusedVariables false
set_option linter.unusedSimpArgs false
theorem Ok.frames {p : Pg} (H : Ok p) {k : Nat} (hk : k ≤ p.op.length) : ∃ u e r, eAt p.op k = (u, e) :: r ∧ e ≤ 1125899906842624 ∧ r.length = (sAt p.op k).lp.length := by
  have h1 := H.elen k hk
  have h2 := H.frOk k hk
  match hq : eAt p.op k with
  | [] => rw [hq] at h1; simp at h1
  | (u, e) :: r =>
    rw [hq] at h1 h2
    exact ⟨u, e, r, rfl, (h2 (u, e) (by simp)).2, by simpa using h1⟩
theorem Ok.frame1 {p : Pg} (H : Ok p) {k : Nat} (hk : k ≤ p.op.length) {u e : Nat} {r : List (Nat × Nat)} (h : eAt p.op k = (u, e) :: r) : u ≤ 1048576 := (H.frOk k hk (u, e) (by rw [h]; simp)).1
theorem Ok.sumEnd {p : Pg} (H : Ok p) : sumE (eAt p.op p.op.length) = evP p.op := by
  obtain ⟨u, e, r, hq, _, hl⟩ := H.frames (Nat.le_refl _)
  rw [H.fin] at hl
  obtain rfl : r = [] := List.eq_nil_of_length_eq_zero hl
  have e1 : eAt p.op p.op.length = evF p.op := by unfold eAt; rw [List.take_length]
  unfold evP
  rw [← e1, hq]
  rfl
/-- loops go round at least once -/
theorem Ok.timesPos {p : Pg} (H : Ok p) : ∀ k, k ≤ p.op.length → ∀ x ∈ (eAt p.op k).dropLast, 1 ≤ x.1
  | 0, _, x, hx => by cases hx
  | k + 1, hk, x, hx => by
    obtain ⟨o, ho⟩ : ∃ o, p.op[k]? = some o := ⟨_, List.getElem?_eq_getElem (by omega)⟩
    have ih := Ok.timesPos H k (by omega)
    obtain ⟨u, e, r, hq, _, hl⟩ := H.frames (show k ≤ p.op.length by omega)
    rw [eAt_succ ho, hq] at hx
    rw [hq] at ih
    by_cases h16 : o.k = 16
    · have he : evO ((u, e) :: r) o = (o.im.toNat, 1) :: (u, e) :: r := by unfold evO; rw [if_pos h16]
      rw [he, List.dropLast_cons_of_ne_nil (by simp)] at hx
      rcases List.mem_cons.1 hx with rfl | hx
      · have := H.imm ho h16
        show 1 ≤ o.im.toNat
        omega
      · exact ih x hx
    by_cases h17 : o.k = 17
    · match r, hx, ih with
      | [], hx, ih =>
        have he : evO [(u, e)] o = [(u, e)] := by unfold evO; rw [if_neg h16, if_pos h17]
        rw [he] at hx
        exact ih x hx
      | (u2, e2) :: r, hx, ih =>
        have he : evO ((u, e) :: (u2, e2) :: r) o = (u2, capN (e2 + capN (e * u))) :: r := by unfold evO; rw [if_neg h16, if_pos h17]
        rw [he] at hx
        match r, hx, ih with
        | [], hx, ih => cases hx
        | y :: r, hx, ih =>
          rw [List.dropLast_cons_of_ne_nil (by simp)] at hx
          rcases List.mem_cons.1 hx with rfl | hx
          · exact ih (u2, e2) (by simp [List.dropLast])
          · exact ih x (by simp only [List.dropLast, List.mem_cons] at hx ⊢; exact .inr (.inr hx))
    · have he : evO ((u, e) :: r) o = (u, capN (e + 1)) :: r := by unfold evO; rw [if_neg h16, if_neg h17]
      rw [he] at hx
      match r, hx, ih with
      | [], hx, ih => cases hx
      | y :: r, hx, ih =>
        rw [List.dropLast_cons_of_ne_nil (by simp)] at hx
        rcases List.mem_cons.1 hx with rfl | hx
        · exact ih (u, e) (by simp [List.dropLast])
        · exact ih x (by simp only [List.dropLast, List.mem_cons] at hx ⊢; exact .inr hx)
set_option maxRecDepth 100000 in
set_option maxHeartbeats 8000000 in
theorem steps_r (p : Pg) (hp : p.wf) (A X : Option Addr) (c d : Nat) (w : World) (hR : Rdr w w.heap.size A p.bf.length p.bf) (hX : Rdr w w.heap.size X p.op.length p.op) :
    Calls Tryd.prog 24 #[pgV p A c X d] w fun e w' => e = .returned (.int .i64 ((stepsP p : Nat) : Int)) ∧ Below w.heap.size w w' := by
  have HC := Lib.hid (fun (W : World) (hb : Below w.heap.size w W) => check_r p hp A X c d W ((hR.below hb).more hb.size) ((hX.below hb).more hb.size))
  have HXX := Lib.hid (fun (W : World) (hb : Below w.heap.size w W) => (hX.below hb).more hb.size)
  have HS : Hid (stepsP p = if (chkP p).2 = 0 then evP p.op else 0) := Lib.hid rfl
  have HOK := Lib.hid (fun (h : (chkP p).2 = 0) => ok_of h)
  generalize stepsP p = st at *
  unfold pgV at *
  clear hR hX
  have HB0 := Lib.hid (bel_al (w := w) (.cells #[.int .i64 p.rg, .slice A p.bf.length c, .slice X p.op.length d] 26))
  have HK0 := Lib.hid (Bk.new w 26 #[.int .i64 p.rg, .slice A p.bf.length c, .slice X p.op.length d])
  obtain ⟨ck, hck⟩ : ∃ ck, chkP p = ck := ⟨_, rfl⟩
  rw [hck] at HC HS HOK
  clear hck
  obtain ⟨k1, k2⟩ := ck
  dsimp only at HC HS HOK
  go_enter Tryd.func24, Tryd.ntmps24
  go_wp2_with fail
  go_at_call 23
  refine (HC.out _ HB0.out).mono ?_
  rintro e w2 ⟨rfl, hb⟩
  have HB2 := Lib.hid (bel_tr HB0.out hb)
  have HK2 := Lib.hid (HK0.out.below hb HK0.out.lt)
  clear hb HC HB0 HK0
  by_cases h0 : k2 = 0
  case neg =>
    rw [if_neg h0] at HS
    have hne : (k2 != 0) = true := by simpa using h0
    clear h0
    go_wp2_with fail
    go_ret
    exact ⟨by rw [HS.out]; rfl, HB2.out⟩
  subst h0
  rw [if_pos rfl] at HS
  have HO := Lib.hid (HOK.out (by first | exact rfl | trivial))
  clear HOK
  have HFC := Lib.hid (fun (W : World) (hb : Below w2.heap.size w2 W) => c3 (HK2.out.below hb HK2.out.lt))
  have HXC := Lib.hid (fun (W : World) (hb : Below w2.heap.size w2 W) => HXX.out W (bel_tr HB2.out hb))
  have hno : p.op.length ≤ 65536 := (ref_zero HO.out.ref).2.2.1
  obtain ⟨no, hon⟩ : ∃ n, p.op.length = n := ⟨_, rfl⟩
  have HNO := Lib.hid hon
  rw [hon] at HFC HXC hno ⊢
  clear hon
  go_wp2_with fail
  go_loopw [5, 6, 7, 8] (fun v5 v6 v7 i W => ∃ k : Nat, k ≤ no ∧ i = .int .i64 (k : Int) ∧ Hid (v6 = .int .i64 ((sumE (eAt p.op k) : Nat) : Int)) ∧ Hid (Two2 w2 W v5 (sumsE (eAt p.op k)) v7 (timesE (eAt p.op k)))) (fun _ _ _ i _ => no - (intOf i).toNat)
  case atStart => exact ⟨0, Nat.zero_le _, rfl, Lib.hid rfl, Lib.hid ⟨World.ownsRow_nil _ _ _ _, World.ownsRow_nil _ _ _ _, (fun g e => by cases e), Below.refl _ _⟩⟩
  case round =>
    obtain ⟨k, hk, rfl, HV6, HT⟩ := hrel
    rw [HV6.out]
    clear HV6
    obtain ⟨b0, b1, b2⟩ := HFC.out _ HT.out.l
    rcases Nat.lt_or_ge k no with hlt | hge
    · have hki : (k : Int) < (no : Int) := by omega
      have hk0 : (0 : Int) ≤ (k : Int) := by omega
      have ew : IntKind.i64.wrap ((k : Int) + 1) = ((k + 1 : Nat) : Int) := by rw [show (k : Int) + 1 = ((k + 1 : Nat) : Int) by omega]; exact IntWalk.i64_in _ (by omega)
      have hkl : k < p.op.length := by rw [HNO.out]; exact hlt
      obtain ⟨o, ho⟩ : ∃ o, p.op[k]? = some o := ⟨_, List.getElem?_eq_getElem hkl⟩
      obtain ⟨u, e, r, hq, he, hl⟩ := HO.out.frames (show k ≤ p.op.length by omega)
      have HSU := Lib.hid (eAt_succ ho)
      rw [hq] at HSU
      have HIM := Lib.hid (fun h => HO.out.imm ho h)
      have HLP := Lib.hid (fun h17 => HO.out.lpne ho h17)
      have HD8 := Lib.hid (HO.out.dep8 k (by omega))
      have HU1 := Lib.hid (HO.out.frame1 (by omega) hq)
      have HTP := Lib.hid (HO.out.timesPos k (by omega))
      rw [hq] at HT HTP ⊢
      have HLL := Lib.hid hl
      have HF2 : Hid (∀ x ∈ r, x.2 ≤ 1125899906842624) := Lib.hid (fun x hx => (HO.out.frOk k (by omega) x (by rw [hq]; exact List.mem_cons_of_mem _ hx)).2)
      have HSL := Lib.hid (sums_len ((u, e) :: r))
      have HTL := Lib.hid (times_len ((u, e) :: r))
      obtain ⟨xb, xo, rfl, hxb, x0, _, _, _, _, _, _, x7⟩ := op_at (HXC.out _ HT.out.l) ho
      have HX7 := Lib.hid (fun (W : World) (hb : Below w2.heap.size w2 W) => by
        obtain ⟨xb', xo', e1, _, _, _, _, _, _, _, _, x7⟩ := op_at (HXC.out W hb) ho
        cases e1
        exact x7)
      rw [show sumE ((u, e) :: r) = e from rfl]
      clear ho hq hl hkl
      have hlen8 : r.length ≤ 8 := by have := HLL.out; have := HD8.out; omega
      by_cases h16 : o.k = 16
      · obtain ⟨i1, i2⟩ := HIM.out h16
        obtain ⟨t, htt⟩ : ∃ t : Nat, o.im = (t : Int) := ⟨o.im.toNat, by omega⟩
        obtain ⟨q1, q2, q3⟩ := evE_16 (u := u) (e := e) (r := r) h16
        rw [← HSU.out, show o.im.toNat = t by omega] at q3
        rw [← HSU.out] at q1 q2
        rw [htt] at x7 HX7 i1 i2
        rw [h16] at x0
        have ewt : IntKind.i64.wrap (t : Int) = (t : Int) := IntWalk.i64_in _ (by omega)
        have Q1 := Lib.hid q1
        have HTD : Two2 w2 wr.drew u5 (sumsE ((u, e) :: r)) u7 (timesE ((u, e) :: r)) := HT.out.below (Below.refl _ _).drew
        obtain ⟨kA0, kB0, kC0⟩ := HTD.all e t (by have := HSL.out; rw [this]; simp; omega) (by have := HTL.out; rw [this]; simp; omega)
        rw [HSL.out, HTL.out] at kA0 kB0 kC0
        rw [show ((u, e) :: r).length - 1 = r.length from rfl] at kA0 kB0 kC0
        have kA : App1 w2 (wr.alloc (.cells #[.int .i64 (e : Int)] 3)).drew u5 r.length u7 r.length e t (sumsE ((u, e) :: r)) (timesE ((u, e) :: r)) wr.heap.size := kA0
        have kB : App2 w2 ((wr.alloc (.cells #[.int .i64 (e : Int)] 3)).alloc (.cells #[.int .i64 (t : Int)] 3)).drew u5 r.length u7 r.length e t (sumsE ((u, e) :: r)) (timesE ((u, e) :: r)) wr.heap.size (wr.heap.size + 1) := kB0
        have kC : App2 w2 ((wr.alloc (.cells #[.int .i64 (t : Int)] 3)).alloc (.cells #[.int .i64 (e : Int)] 3)).drew u5 r.length u7 r.length e t (sumsE ((u, e) :: r)) (timesE ((u, e) :: r)) (wr.heap.size + 1) wr.heap.size := kC0
        clear kA0 kB0 kC0
        obtain ⟨A5, c5, hv5, hc5⟩ := rws_form HT.out.a
        obtain ⟨A7, c7, hv7, hc7⟩ := rws_form HT.out.b
        rw [ints_len, HSL.out, show ((u, e) :: r).length - 1 = r.length from rfl] at hv5 hc5
        rw [ints_len, HTL.out, show ((u, e) :: r).length - 1 = r.length from rfl] at hv7 hc7
        subst hv5 hv7
        obtain ⟨An, cn, W1, hA1, bA, An', cn', W1', hA2, tA⟩ := kA.ex
        obtain ⟨Bn, dn, W2, hB1, bB, Bn', dn', W2', hB2, tB⟩ := kB.ex
        obtain ⟨Cn, en, W3, hC1, bC, Cn', en', W3', hC2, tC⟩ := kC.ex
        obtain ⟨g0, g1, g2⟩ := HFC.out W1 bA
        have g7 := HX7.out W1 bA
        have TA : Hid (Two2 w2 W1' (.slice An (r.length + 1) cn) (sumsE (eAt p.op (k + 1))) (.slice An' (r.length + 1) cn') (timesE (eAt p.op (k + 1)))) := Lib.hid (by rw [q2, q3]; exact tA)
        have TB : Hid (Two2 w2 W2' (.slice Bn (r.length + 1) dn) (sumsE (eAt p.op (k + 1))) (.slice Bn' (r.length + 1) dn') (timesE (eAt p.op (k + 1)))) := Lib.hid (by rw [q2, q3]; exact tB)
        have TC : Hid (Two2 w2 W3' (.slice Cn (r.length + 1) en) (sumsE (eAt p.op (k + 1))) (.slice Cn' (r.length + 1) en') (timesE (eAt p.op (k + 1)))) := Lib.hid (by rw [q2, q3]; exact tC)
        clear tA tB tC kA kB kC HTD q1 q2 q3 htt h16 HSL HTL HT HXC HXX HFC HX7 HIM HLP HTP HSU
        replace hA1 := AppRun.mk hA1
        replace hA2 := AppRun.mk hA2
        replace hB1 := AppRun.mk hB1
        replace hB2 := AppRun.mk hB2
        replace hC1 := AppRun.mk hC1
        replace hC2 := AppRun.mk hC2
        generalize r.length = rl at *
        have hbw : w.heap.size < wr.heap.size := World.block_lt_of_cell? wr _ b0
        go_wp2_with fail
        go_region_law (first
          | (refine step_app_at (by first | exact hA1 | exact hA2 | exact hB1 | exact hB2 | exact hC1 | exact hC2) rfl rfl rfl rfl ?_)
          | fail)
        all_goals (
          go_wp2_with fail
          go_roundw
          case rel =>
            refine ⟨k + 1, by omega, by first | rfl | go_num, Lib.hid (by rw [Q1.out]; rfl), ?_⟩
            first
              | with_reducible exact TA
              | with_reducible exact TB
              | with_reducible exact TC
          case measure => (simp [intOf] <;> omega))
      have n16 : (o.k == 16) = false := by rw [beq_eq_false_iff_ne]; exact h16
      by_cases h17 : o.k = 17
      · have g17 : (o.k == 17) = true := by rw [beq_iff_eq]; exact h17
        have hne : 0 < r.length := by
          have h1 := List.length_pos_iff.2 (HLP.out h17)
          have h2 := HLL.out
          omega
        obtain ⟨x, r2, rfl⟩ : ∃ x r2, r = x :: r2 := by
          match r, hne with
          | x :: r2, _ => exact ⟨x, r2, rfl⟩
        obtain ⟨t, f⟩ := x
        have hu := HTP.out (u, e) (by simp [List.dropLast])
        dsimp only at hu
        have hu2 := HU1.out
        obtain ⟨q1, q2, q3⟩ := evE_17 (t := u) (e := e) (u := t) (f := f) (r := r2) h17 hu
        rw [← HSU.out] at q1 q2 q3
        have hf : f ≤ 1125899906842624 := HF2.out (t, f) (by simp)
        have hT := HT.out
        have ha := hT.a
        have hb := hT.b
        rw [q2] at ha
        rw [q3] at hb
        obtain ⟨g5, c5, rfl, hc5, hg5, k5, i5⟩ := int_last ha
        obtain ⟨g7, c7, rfl, hc7, hg7, k7, i7⟩ := int_last hb
        have hl5 : (sumsE (eAt p.op (k + 1))).length = r2.length := by
          have h1 := HSL.out
          rw [q2, List.length_append] at h1
          simp at h1
          omega
        have hl7 : (timesE (eAt p.op (k + 1))).length = r2.length := by
          have h1 := HTL.out
          rw [q3, List.length_append] at h1
          simp at h1
          omega
        rw [hl5] at k5 i5 hc5
        rw [hl7] at k7 i7 hc7
        have TN : Hid (∀ n, Two2 w2 (wr.drewN n) (.slice (some ⟨g5, 0, none⟩) r2.length c5) (sumsE (eAt p.op (k + 1))) (.slice (some ⟨g7, 0, none⟩) r2.length c7) (timesE (eAt p.op (k + 1)))) := Lib.hid (fun n => ⟨own_below i5 (below_drewN (Below.refl _ _) n), own_below i7 (below_drewN (Below.refl _ _) n), hT.ne, below_drewN hT.l n⟩)
        have Q1 := Lib.hid q1
        rw [hl5, hl7]
        have h8 : r2.length ≤ 8 := by simp at hlen8; omega
        clear q1 q2 q3 ha hb hT i5 i7 hl5 hl7 h16 h17 HSL HTL HT HXC HXX HFC HX7 HIM HLP HTP HSU HF2 hlen8 hne
        generalize o.k = ok at *
        generalize r2.length = rl at *
        have e1 : IntKind.i64.wrap ((rl : Int) + 1 - 1) = (rl : Int) := by rw [show (rl : Int) + 1 - 1 = (rl : Int) by omega]; exact IntWalk.i64_in _ (by omega)
        have e2 : (0 : Int) ≤ (rl : Int) := by omega
        have e3 : (rl : Int) < (rl : Int) + 1 := by omega
        have e5 : (rl : Int) ≤ (c5 : Int) := by omega
        have e7 : (rl : Int) ≤ (c7 : Int) := by omega
        have hu0 : (u : Int) ≠ 0 := by omega
        have hdv : ((1125899906842624 / u : Nat) : Int) = 1125899906842624 / (u : Int) := by rw [Int.natCast_ediv]; rfl
        by_cases hgt : 1125899906842624 / u < e
        · have hgi : (1125899906842624 : Int) / (u : Int) < (e : Int) := by rw [← hdv]; omega
          have w2' : IntKind.i64.wrap (1125899906842624 + (f : Int)) = 1125899906842624 + (f : Int) := IntWalk.i64_in _ (by omega)
          have Q2 : Hid (min (1125899906842624 : Int) (1125899906842624 + (f : Int)) = ((sumE (eAt p.op (k + 1)) : Nat) : Int)) := Lib.hid (by rw [Q1.out, if_pos hgt]; omega)
          clear hdv hgt Q1
          go_wp2_with fail
          rw [Q2.out]
          go_region_law (fail)
          all_goals (
            go_wp2_with fail
            go_roundw
            case rel => exact ⟨k + 1, by omega, by first | rfl | go_num, Lib.hid (by first | rfl | trivial), by first | exact Lib.hid (TN.out 1) | exact Lib.hid (TN.out 0)⟩
            case measure => (simp [intOf] <;> omega))
        · have hgi : ¬ (1125899906842624 : Int) / (u : Int) < (e : Int) := by rw [← hdv]; omega
          have hle : e * u ≤ 1125899906842624 := (Nat.le_div_iff_mul_le (by omega)).1 (by omega)
          obtain ⟨N, hN⟩ : ∃ N, e * u = N := ⟨_, rfl⟩
          rw [hN] at hle
          have w1' : IntKind.i64.wrap ((e : Int) * (u : Int)) = (N : Int) := by
            rw [← hN, Int.natCast_mul]
            refine IntWalk.i64_in _ ?_
            rw [← Int.natCast_mul, hN]
            omega
          have w2' : IntKind.i64.wrap ((N : Int) + (f : Int)) = (N : Int) + (f : Int) := IntWalk.i64_in _ (by omega)
          have Q2 : Hid (min (1125899906842624 : Int) ((N : Int) + (f : Int)) = ((sumE (eAt p.op (k + 1)) : Nat) : Int)) := Lib.hid (by rw [Q1.out, if_neg hgt, hN]; omega)
          clear hdv hgt Q1 hN
          go_wp2_with fail
          rw [Q2.out]
          go_region_law (fail)
          all_goals (
            go_wp2_with fail
            go_roundw
            case rel => exact ⟨k + 1, by omega, by first | rfl | go_num, Lib.hid (by first | rfl | trivial), by first | exact Lib.hid (TN.out 1) | exact Lib.hid (TN.out 0)⟩
            case measure => (simp [intOf] <;> omega))
      have n17 : (o.k == 17) = false := by rw [beq_eq_false_iff_ne]; exact h17
      obtain ⟨q1, q2, q3⟩ := evE_pl (u := u) (e := e) (r := r) h16 h17
      rw [← HSU.out] at q1 q2 q3
      have Q1 := Lib.hid q1
      have HT2 : Hid (Two2 w2 wr u5 (sumsE (eAt p.op (k + 1))) u7 (timesE (eAt p.op (k + 1)))) := Lib.hid (by rw [q2, q3]; exact HT.out)
      have ee : IntKind.i64.wrap ((e : Int) + 1) = (e : Int) + 1 := IntWalk.i64_in _ (by omega)
      clear q1 q2 q3 h16 h17 HSL HTL HT HXC HXX HFC HX7 HIM HLP HTP HSU
      generalize o.k = ok at *
      go_wp2_with fail
      go_roundw
      case rel =>
        refine ⟨k + 1, by omega, by first | rfl | go_num, Lib.hid ?_, HT2⟩
        rw [Q1.out]
        congr 1
        omega
      case measure => (simp [intOf] <;> omega)
    · obtain rfl : k = no := by omega
      have HE : Hid (sumE (eAt p.op k) = st) := Lib.hid (by rw [HS.out, ← HO.out.sumEnd, HNO.out])
      rw [HE.out]
      go_wp2_with fail
      go_ret
      exact ⟨rfl, bel_tr HB2.out HT.out.l⟩
end Lb
end Go.Proofs.YtbdhibgljaelbaaDoor
namespace Go.Proofs.YtbdhibgljaelbaaDoor
open Go Go.RowKit Go.Sort Go.Shelf
namespace Lb
open Wd Nt Gr
set_option linter.unusedVariables false
set_option linter.unusedSimpArgs false
set_option maxRecDepth 100000 in
set_option maxHeartbeats 8000000 in
theorem ends_r (p : Pg) (hp : p.wf) (A X : Option Addr) (c d : Nat) (w : World) (hR : Rdr w w.heap.size A p.bf.length p.bf) (hX : Rdr w w.heap.size X p.op.length p.op) :
    Calls Tryd.prog 25 #[pgV p A c X d] w fun e w' => (∃ v, e = .returned v ∧ Rws 3 w.heap.size v (endsP p) w') ∧ Below w.heap.size w w' := by
  have HC := Lib.hid (fun (W : World) (hb : Below w.heap.size w W) => check_r p hp A X c d W ((hR.below hb).more hb.size) ((hX.below hb).more hb.size))
  have HXX := Lib.hid (fun (W : World) (hb : Below w.heap.size w W) => (hX.below hb).more hb.size)
  have HS : Hid (endsP p = if (chkP p).2 = 0 then enP p.op else []) := Lib.hid rfl
  have HOK := Lib.hid (fun (h : (chkP p).2 = 0) => ok_of h)
  generalize endsP p = st at *
  unfold pgV at *
  clear hR hX
  have HB0 := Lib.hid (bel_al (w := w) (.cells #[.int .i64 p.rg, .slice A p.bf.length c, .slice X p.op.length d] 26))
  have HK0 := Lib.hid (Bk.new w 26 #[.int .i64 p.rg, .slice A p.bf.length c, .slice X p.op.length d])
  obtain ⟨ck, hck⟩ : ∃ ck, chkP p = ck := ⟨_, rfl⟩
  rw [hck] at HC HS HOK
  clear hck
  obtain ⟨k1, k2⟩ := ck
  dsimp only at HC HS HOK
  go_enter Tryd.func25, Tryd.ntmps25
  go_wp2_with fail
  go_at_call 23
  refine (HC.out _ HB0.out).mono ?_
  rintro e w2 ⟨rfl, hb⟩
  have HB2 := Lib.hid (bel_tr HB0.out hb)
  have HK2 := Lib.hid (HK0.out.below hb HK0.out.lt)
  clear hb HC HB0 HK0
  by_cases h0 : k2 = 0
  case neg =>
    rw [if_neg h0] at HS
    have hne : (k2 != 0) = true := by simpa using h0
    clear h0
    go_wp2_with fail
    go_ret
    exact ⟨⟨_, rfl, by rw [HS.out]; exact World.ownsRow_nil _ _ _ _⟩, HB2.out⟩
  subst h0
  rw [if_pos rfl] at HS
  have HP := Lib.hid (HOK.out (by first | exact rfl | trivial))
  clear HOK
  have HFC := Lib.hid (fun (W : World) (hb : Below w2.heap.size w2 W) => c3 (HK2.out.below hb HK2.out.lt))
  have HXC := Lib.hid (fun (W : World) (hb : Below w2.heap.size w2 W) => HXX.out W (bel_tr HB2.out hb))
  have hn6 : p.op.length ≤ 65536 := (ref_zero HP.out.ref).2.2.1
  obtain ⟨n, hn⟩ : ∃ n, p.op.length = n := ⟨_, rfl⟩
  have HN := Lib.hid hn
  obtain ⟨a0, a1, a2⟩ := HFC.out w2 (Below.refl _ _)
  rw [hn] at HFC HXC hn6 a2 ⊢
  have hn4 : (n : Int) ≤ 65536 := by omega
  have hmk := fun W => make_int n (by omega) W
  have HR0 : Hid (Rws 3 w2.heap.size (.slice (some ⟨w2.heap.size, 0, none⟩) n n) (nRow p 0) (w2.alloc (.cells (row (List.replicate n (0 : Int))).toArray 3))) := Lib.hid (by
    have h := int_made w2 (B := w2.heap.size) n (by omega) (Nat.le_refl _)
    unfold nRow
    rw [hn]
    exact h)
  have HB3 := Lib.hid (bel_al (w := w2) (.cells (row (List.replicate n (0 : Int))).toArray 3))
  have HLT0 : Hid (w2.heap.size < (w2.alloc (.cells (row (List.replicate n (0 : Int))).toArray 3)).heap.size) := Lib.hid (by rw [World.size_alloc]; exact Nat.lt_succ_self _)
  obtain ⟨zs, hzs⟩ : ∃ zs, (row (List.replicate n (0 : Int))).toArray = zs := ⟨_, rfl⟩
  simp only [hzs] at hmk
  rw [hzs] at HR0 HB3 HLT0
  clear hzs hn
  go_wp2_with fail
  go_loopw [6, 7] (fun v i W => ∃ (k : Nat), k ≤ n ∧ i = .int .i64 (k : Int) ∧ Hid (Rws 3 w2.heap.size (.slice (some ⟨w2.heap.size, 0, none⟩) n n) (nRow p k) W) ∧ Hid (OpW W w2.heap.size w2.heap.size v (nAt p.op k).2) ∧ Hid (Below w2.heap.size w2 W) ∧ Hid (w2.heap.size < W.heap.size)) (fun _ i _ => n - (intOf i).toNat)
  case atStart => exact ⟨0, Nat.zero_le _, rfl, HR0, Lib.hid ⟨World.ownsRow_nil _ _ _ _, fun g e => by cases e⟩, HB3, HLT0⟩
  case round =>
    obtain ⟨k, hk, rfl, HR, HO, HB, HLT⟩ := hrel
    clear HR0 HB3 HLT0 hmk a0 a1 a2
    obtain ⟨a0, a1, a2⟩ := HFC.out _ HB.out
    rcases Nat.lt_or_ge k n with hlt | hge
    · have hki : (k : Int) < (n : Int) := by omega
      have hk0 : (0 : Int) ≤ (k : Int) := by omega
      have ew : IntKind.i64.wrap ((k : Int) + 1) = ((k + 1 : Nat) : Int) := by rw [show (k : Int) + 1 = ((k + 1 : Nat) : Int) by omega]; exact IntWalk.i64_in _ (by omega)
      have hkl : k < p.op.length := by rw [HN.out]; exact hlt
      obtain ⟨oo, hoo⟩ : ∃ o, p.op[k]? = some o := ⟨_, List.getElem?_eq_getElem hkl⟩
      have HS1 := Lib.hid (nAt_succ hoo)
      have HLP := Lib.hid (fun h => HP.out.lpne hoo h)
      have HNK := Lib.hid (HP.out.nok k (Nat.le_of_lt hkl))
      have HD8 := Lib.hid (HP.out.dep8 k (Nat.le_of_lt hkl))
      have HRP := Lib.hid (fun h17 => nRow_pl HNK.out hoo h17)
      have HR17 := Lib.hid (fun q h17 h1 h2 => nRow_17 (q := q) HNK.out hoo h17 h1 h2)
      have HO16 := Lib.hid (fun (h : oo.k = 16) => (show (nAt p.op (k + 1)).2 = (nAt p.op k).2 ++ [k] by rw [HS1.out, enO_16 h, HNK.out.l1]))
      have HO17 := Lib.hid (fun (h : oo.k = 17) => (show (nAt p.op (k + 1)).2 = (nAt p.op k).2.dropLast by rw [HS1.out, enO_17 h]))
      have HOPL := Lib.hid (fun (h : oo.k ≠ 16) (h' : oo.k ≠ 17) => (show (nAt p.op (k + 1)).2 = (nAt p.op k).2 by rw [HS1.out, enO_pl h h']))
      have hgl := HLT.out
      have hz := (rws_rd HR.out).1
      have hfk : wr.frozen? ⟨w2.heap.size, k, none⟩ = false := by
        have h := HR.out
        rw [hz] at h
        exact World.ownsRow.frozenAt h _
      have hck : wr.cell? ⟨w2.heap.size, k, none⟩ = some (.int .i64 0) := by
        obtain ⟨b, o, e1, _, k0⟩ := int_at (rws_rd HR.out).2.1 (nRow_at HNK.out hkl)
        cases e1
        rw [Nat.zero_add] at k0
        exact k0
      have HRA : Hid (Rws 3 w2.heap.size (.slice (some ⟨w2.heap.size, 0, none⟩) n n) ((nRow p k).set k (-1)) (wr.setCell ⟨w2.heap.size, k, none⟩ (.int .i64 (-1)))) := Lib.hid (own_putI (j := k) (y := (-1 : Int)) HR.out hz (nRow_at HNK.out hkl))
      have HOA := Lib.hid (HO.out.far (i := k) (u := .int .i64 (-1)))
      have HBA := Lib.hid (HB.out.setCell (p := ⟨w2.heap.size, k, none⟩) (Nat.le_refl _) (.int .i64 (-1)))
      have HSA : Hid (w2.heap.size < (wr.setCell ⟨w2.heap.size, k, none⟩ (.int .i64 (-1))).heap.size) := Lib.hid (by rw [show (wr.setCell ⟨w2.heap.size, k, none⟩ (.int .i64 (-1))).heap.size = wr.heap.size from size_set _ _ _]; exact hgl)
      obtain ⟨WA, hWA⟩ : ∃ W, W = wr.setCell ⟨w2.heap.size, k, none⟩ (.int .i64 (-1)) := ⟨_, rfl⟩
      have HZN := Lib.hid (nRow_len HNK.out (Nat.le_of_lt hkl))
      have HLQ := Lib.hid (fun h => HNK.out.lt _ (getLast_mem h))
      have HL2 := Lib.hid HNK.out.l2
      have HNE : Hid (oo.k = 17 → (nAt p.op k).2 ≠ []) := Lib.hid (fun h e => by
        have h1 := List.length_pos_iff.2 (HLP.out h)
        have h2 := HL2.out
        rw [e] at h2
        simp at h2
        omega)
      clear HLP HNK hz HR
      go_upto_region 10 with fail
      rw [← hWA]
      rw [← hWA] at HRA HOA HBA HSA
      clear hWA hfk hck hgl a0 a1 a2
      obtain ⟨a0, a1, a2⟩ := HFC.out _ HBA.out
      obtain ⟨bx, ox, rfl, hbx, o0, _⟩ := op_at (HXC.out _ HBA.out) hoo
      clear hoo HS1
      have hgl := HSA.out
      generalize oo.k = ok at *
      by_cases h16 : ok = 16
      · subst h16
        have HE2 := Lib.hid (HO16.out (by first | exact rfl | trivial))
        have HE1 := Lib.hid (HRP.out (by decide))
        obtain ⟨A9, c9, w5, hap, hown5, hgr5⟩ := OpW.push (W := WA.alloc (.cells #[.int .i64 (k : Int)] 3)) (g2 := WA.heap.size) (x := k) (HOA.out.below (bel_al _)) (Bk.new _ _ _) (by have := HL2.out; have := HD8.out; omega) (by rw [World.size_alloc]; omega) (by rw [World.size_alloc]; omega)
        have HB5 : Hid (Below w2.heap.size w2 w5) := Lib.hid (own_grown (HOA.out.below (bel_al (.cells #[.int .i64 (k : Int)] 3))).own hgr5 (bel_al' HBA.out _) (Nat.le_refl _) (by rw [World.size_alloc]; omega))
        have HR5 : Hid (Rws 3 w2.heap.size (.slice (some ⟨w2.heap.size, 0, none⟩) n n) ((nRow p k).set k (-1)) w5) := Lib.hid ((own_below HRA.out (bel_al (.cells #[.int .i64 (k : Int)] 3))).kept hgr5 (.inr (fun e => HO.out.ne w2.heap.size e.symm rfl)))
        have HO5 := Lib.hid hown5
        have HS5 : Hid (w2.heap.size < w5.heap.size) := Lib.hid (by have h1 := hgr5.size; rw [World.size_alloc] at h1; omega)
        obtain ⟨An, cn, hv, hcn⟩ := rws_form HOA.out.own
        subst hv
        rw [ints_len] at hap ⊢
        generalize (nAt p.op k).2.length = ln at *
        clear hown5 hgr5 HL2
        go_wp2_with (first | (at_builtin; refine wpList_append_eq rfl _ _ 49 rfl _ _ rfl rfl _ _ hap ?_) | fail)
        go_roundw
        case rel =>
          refine ⟨k + 1, by omega, by first | rfl | go_num, Lib.hid ?_, Lib.hid ?_, HB5, HS5⟩
          · rw [HE1.out]; exact HR5.out
          · rw [HE2.out]; exact HO5.out
        case measure => (simp [intOf] <;> omega)
      have n16 : (ok == 16) = false := by rw [beq_eq_false_iff_ne]; exact h16
      by_cases h17 : ok = 17
      · subst h17
        have HE2 := Lib.hid (HO17.out (by first | exact rfl | trivial))
        have hne2 := HNE.out (by first | exact rfl | trivial)
        have hqk := HLQ.out hne2
        have HE1 := Lib.hid (HR17.out _ (by first | exact rfl | trivial) rfl hqk)
        obtain ⟨g, c, m', hv, hlen, hmc, hgw, hcl, hOD, hgne⟩ := HOA.out.last hne2
        subst hv
        have hm8 : (m' : Int) ≤ 8 := by have := HL2.out; have := HD8.out; omega
        have HOD := Lib.hid hOD
        rw [← HE2.out] at HOD
        generalize (nAt p.op k).2.getLast?.getD 0 = q at *
        have hqn : q < n := by omega
        have hqn4 : (q : Int) < (n : Int) := by omega
        have hq0 : (0 : Int) ≤ (q : Int) := by omega
        have hm0 : (0 : Int) ≤ (m' : Int) := by omega
        have hm1 : (m' : Int) < (m' : Int) + 1 := by omega
        have hmcc : (m' : Int) ≤ (c : Int) := by omega
        have ew2 : IntKind.i64.wrap ((m' : Int) + 1 - 1) = (m' : Int) := by rw [show (m' : Int) + 1 - 1 = (m' : Int) by omega]; exact i64n (by omega)
        have ew5 : IntKind.i64.wrap (m' : Int) = (m' : Int) := i64n (by omega)
        have HX1 := Lib.hid (own_putI (j := k) (y := (q : Int)) (w := WA) HRA.out (by rw [List.length_set, HZN.out, HN.out]) (by rw [List.getElem?_set_self (by rw [HZN.out]; exact hkl)]))
        have HX2 := Lib.hid (own_putI (j := q) (y := (k : Int)) HX1.out (by rw [List.length_set, List.length_set, HZN.out, HN.out]) (List.getElem?_eq_getElem (by rw [List.length_set, List.length_set, HZN.out]; omega)))
        rw [← HE1.out] at HX2
        have HB2' : Hid (Below w2.heap.size w2 ((WA.setCell ⟨w2.heap.size, k, none⟩ (.int .i64 (q : Int))).setCell ⟨w2.heap.size, q, none⟩ (.int .i64 (k : Int)))) := Lib.hid ((HBA.out.setCell (p := ⟨w2.heap.size, k, none⟩) (Nat.le_refl _) _).setCell (p := ⟨w2.heap.size, q, none⟩) (Nat.le_refl _) _)
        have HO2 : Hid (OpW ((WA.setCell ⟨w2.heap.size, k, none⟩ (.int .i64 (q : Int))).setCell ⟨w2.heap.size, q, none⟩ (.int .i64 (k : Int))) w2.heap.size w2.heap.size (.slice (some ⟨g, 0, none⟩) m' c) (nAt p.op (k + 1)).2) := Lib.hid (OpW.far (OpW.far HOD.out))
        have hrow : WA.ownsRow w2.heap.size 3 1 (.slice (some ⟨w2.heap.size, 0, none⟩) n n) n (row ((nRow p k).set k (-1))) := by
          have h := HRA.out
          unfold Rws at h
          rw [List.length_set, HZN.out, HN.out] at h
          exact h
        have fz : ∀ i, WA.frozen? ⟨w2.heap.size, i, none⟩ = false := fun i => World.ownsRow.frozenAt hrow i
        have cz : ∀ i, i < n → ∃ z, WA.cell? ⟨w2.heap.size, i, none⟩ = some (.int .i64 z) := fun i hi => by
          obtain ⟨b, o, e1, _, k0⟩ := int_at (rws_rd HRA.out).2.1 (List.getElem?_eq_getElem (show i < ((nRow p k).set k (-1)).length by rw [List.length_set, HZN.out, HN.out]; exact hi))
          cases e1
          rw [Nat.zero_add] at k0
          exact ⟨_, k0⟩
        obtain ⟨z1, x1⟩ := cz k hlt
        obtain ⟨z2, x2⟩ := cz q hqn
        have y1 := fz k
        have y2 := fz q
        have HSS : Hid (w2.heap.size < ((WA.setCell ⟨w2.heap.size, k, none⟩ (.int .i64 (q : Int))).setCell ⟨w2.heap.size, q, none⟩ (.int .i64 (k : Int))).heap.size) := Lib.hid (by rw [size_set, size_set]; exact HSA.out)
        clear fz cz hrow HOD HX1 hOD
        go_wp2_with fail
        go_roundw
        case rel => exact ⟨k + 1, by omega, by first | rfl | go_num, HX2, HO2, HB2', HSS⟩
        case measure => (simp [intOf] <;> omega)
      have n17 : (ok == 17) = false := by rw [beq_eq_false_iff_ne]; exact h17
      have HE2 := Lib.hid (HOPL.out h16 h17)
      have HE1 := Lib.hid (HRP.out h17)
      clear h16 h17
      go_wp2_with fail
      go_roundw
      case rel =>
        refine ⟨k + 1, by omega, by first | rfl | go_num, Lib.hid ?_, Lib.hid ?_, HBA, HSA⟩
        · rw [HE1.out]; exact HRA.out
        · rw [HE2.out]; exact HOA.out
      case measure => (simp [intOf] <;> omega)
    · obtain rfl : k = n := by omega
      have HV : Hid (nRow p k = st) := Lib.hid (by
        rw [HS.out]
        unfold nRow enP nAt
        rw [← HN.out, Nat.sub_self, List.take_length]
        exact List.append_nil _)
      have HR2 := HR
      rw [HV.out] at HR2
      have HSZ := Lib.hid HB2.out.size
      go_wp2_with fail
      go_ret
      exact ⟨⟨_, rfl, own_mono HR2.out HSZ.out⟩, bel_tr HB2.out HB.out⟩
end Lb
end Go.Proofs.YtbdhibgljaelbaaDoor
