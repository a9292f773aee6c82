/- The landed package layout: how many bytes all lines have; the labels' places. | The landed package layout: the labels' places. -/
import Derived.Test.YteppmkeoedddnaaDoorY3
import Derived.Test.YteppmkeoedddnaaDoorY5
import Derived.Maps.OwnIn
namespace Go.Proofs.YteppmkeoedddnaaDoor
open Go Go.RowKit Go.Shelf Go.Maps
namespace Ly
open Is Nt Rt
set_option linter.unusedVariables false
set_option linter.unusedSimpArgs false
attribute [local go_sem] Oper.semAt_some
theorem tx_go {w A B : World} {S : Nat → Prop} {Bn : Nat} (h : Tn S w A) (k : Tx Bn S A B) (hB : w.heap.size ≤ Bn) : Tn S w B := h.trans k.tn (fun j hj hl => hj.elim id (fun h' => absurd h' (by omega)))
theorem tx_bk {A B : World} {S : Nat → Prop} {Bn g : Nat} {t : TypeId} {cs : Array Value} (k : Tx Bn S A B) (h : Bk A g t cs) (hn : ¬ S g) : Bk B g t cs := k.block g _ h hn (fun _ => rfl)
theorem tx_sz {A B : World} {S : Nat → Prop} {Bn c mp : Nat} (k : Tx Bn S A B) (h : SzE c mp A) (hn : ¬ S mp) (hB : mp < Bn) : SzE c mp B := by
  obtain ⟨n, D, ⟨es, cl, h1, h2⟩, h3⟩ := h
  exact ⟨n, D, ⟨es, cl, k.block mp _ h1 hn (fun h' => absurd h' (by omega)), h2⟩, h3⟩
theorem tx_own {A B : World} {S : Nat → Prop} {Bn : Nat} {k : TypeId} {R : Value → Option (DataW Unit × List MemPlace)} {b n : Nat} {D : DataW Unit} (x : Tx Bn S A B) (h : A.ownsMap Tryd.prog k R b n D) (hn : ¬ S b) (hB : b < Bn) : B.ownsMap Tryd.prog k R b n D := by
  obtain ⟨es, cl, h1, h2⟩ := h
  exact ⟨es, cl, x.block b _ h1 hn (fun h' => absurd h' (by omega)), h2⟩
theorem kpe_put {mp cb l : Nat} {W : World} (hl : mp < l) (hc : cb ≠ l) (hw : l < W.heap.size) (o' : Obj) : KpE mp cb W (W.putObj l o') :=
  ⟨(Below.refl _ W).grown (grownBy_putObj' W l o') (by omega) (fun k e => by cases e; omega), fun o ho => (World.putObj_heap_other hc).trans ho⟩
theorem kpe_refl (mp cb : Nat) (W : World) : KpE mp cb W W := ⟨Below.refl _ _, fun o h => h⟩
theorem kpe_set {mp cb : Nat} {W : World} (p : Addr) (hl : mp < p.block) (hc : cb ≠ p.block) (v : Value) : KpE mp cb W (W.setCell p v) :=
  ⟨(Below.refl _ W).setCell (by omega) v, fun o ho => (Below.heap_setCell W p v cb hc).trans ho⟩
theorem kpe_grown {mp cb : Nat} {W X : World} {row : Option Nat} (hg : W.grownBy X row) (hm : mp < W.heap.size) (hr : ∀ j, row = some j → mp < j ∧ j ≠ cb) : KpE mp cb W X :=
  ⟨(Below.refl _ W).grown hg (by omega) (fun k e => by have := hr k e; omega), fun o ho => (hg.block cb (Array.getElem?_eq_some_iff.1 ho).1 (fun e => (hr cb e.symm).2 rfl)).trans ho⟩
theorem len_range (x : Nat) : (List.range x ++ [x]).length = x + 1 := by simp
theorem enters_each : ∀ args w, (callFunc 40 args).run Tryd.prog w = .ok (.enter 40 args) w := enters_of Tryd.func40 (by kernel_rfl) rfl
set_option maxRecDepth 100000 in
set_option maxHeartbeats 4000000 in
theorem end_in (n : Nat) (hn : 2 ≤ n) (A : Option Addr) (cap mp c : Nat) (ls : List Ln) (hN : ls.length ≤ 1000) (hc : c ≤ 80000) (w : World) (hT : TabE w) (hG : G3 mp) (hR : RdL w mp A ls.length ls) (hS : SzE c mp w) :
    CallsIn Fence.wide n Tryd.prog 24 #[.agg #[.slice A ls.length cap, .map (some mp)]] w fun e W' => e = .returned (.int .i64 ((upL ls : Nat) : Int)) ∧ Tn (fun k => k = mp) w W' ∧ SzE (c + ls.length) mp W' := by
  have hml := hS.lt
  have HT := Lib.hid hT
  have HR := Lib.hid hR
  have HS := Lib.hid hS
  clear hT hR hS
  refine callsIn_of_wp_marks Tryd.func24 rfl trivial ?_ rfl
  simp only [Tryd.ntmps24, List.size_toArray, List.length_cons, List.length_nil, Nat.reduceAdd, Nat.reduceSub, Array.replicate_succ, Array.replicate_zero, List.push_toArray, List.append_toArray, List.nil_append, List.cons_append]
  have hb0 : ((w.alloc (.cells #[.slice A ls.length cap, .map (some mp)] 48)).alloc (.cells #[.int .i64 0] 3)).cell? ⟨w.heap.size, 0, none⟩ = some (.slice A ls.length cap) := (Bk.alloc (Bk.new w 48 #[.slice A ls.length cap, .map (some mp)]) (.cells #[.int .i64 0] 3)).cell 0
  have hb1 : ((w.alloc (.cells #[.slice A ls.length cap, .map (some mp)] 48)).alloc (.cells #[.int .i64 0] 3)).cell? ⟨w.heap.size, 1, none⟩ = some (.map (some mp)) := (Bk.alloc (Bk.new w 48 #[.slice A ls.length cap, .map (some mp)]) (.cells #[.int .i64 0] 3)).cell 1
  gi_wp2
  refine ⟨trivial, fun h => (by cases h), ?_⟩
  refine (each_in _ A ls.length cap mp _).mono ?_
  rintro e W0 ⟨rfl, hw2⟩
  have hs0 : W0.heap.size = w.heap.size + 3 := by rw [hw2]; simp
  have HB0 : Below w.heap.size w W0 := by rw [hw2]; exact bel_tr (bel_tr (bel_al _) (bel_al _)) (bel_al _)
  have HE0 : Bk W0 (w.heap.size + 1) 3 #[.int .i64 0] := by rw [hw2]; exact (Bk.new' (by simp)).alloc _
  have HC0 : Bk W0 (w.heap.size + 2) 48 #[.slice A ls.length cap, .map (some mp)] := by rw [hw2]; exact Bk.new' (by simp)
  have e2 : ((w.alloc (.cells #[.slice A ls.length cap, .map (some mp)] 48)).alloc (.cells #[.int .i64 0] 3)).heap.size = w.heap.size + 2 := by simp
  rw [e2]
  clear hw2 e2 hb0 hb1
  gi_wp2
  refine range_t (α := Nat) rfl (by omega) (gf := 40) (lb := #[.pointer (some ⟨w.heap.size + 2, 0, none⟩)]) rfl trivial enters_each (each_t (n - 1) (by omega) (w.heap.size + 2) mp c cap A ls hN (by omega) W0 (HT.out.keep HB0) hG (HR.out.below (HB0.mono (Nat.le_of_lt hml))) HC0 (by omega) (HS.out.below HB0)) (Below.refl _ _) (fun k e => by subst e; omega) (fun h k => h.trans k)
    (fun X l o o' hl ho _ => kpe_put (by omega) (by omega) (Array.getElem?_eq_some_iff.1 ho).1 o') (fun _ => rfl) (fun _ _ _ _ _ h _ => h) (fun xs X Y h k => ⟨h.1, tx_sz k h.2 (fun h => h) (by omega)⟩)
    (fun pre X => Bk X (w.heap.size + 1) 3 #[.int .i64 ((upL (ls.take pre.length) : Nat) : Int)] ∧ Tn (fun k => k = mp) w X) ?stay ⟨HE0, Tn.of_below HB0⟩
    (fun pre x a' _ => a' = { tmps := #[.agg #[.slice A ls.length cap, .map (some mp)], .pointer (some ⟨w.heap.size, 0, none⟩), .int .i64 0, .pointer (some ⟨w.heap.size + 1, 0, none⟩), .int .i64 ((upL (ls.take (x + 1)) : Nat) : Int), .agg #[.slice A ls.length cap, .map (some mp)], .func (.func 40) #[] #[.pointer (some ⟨w.heap.size + 2, 0, none⟩)], .int .i64 ((upL (ls.take (x + 1)) : Nat) : Int), .agg (lnA ls x).vs, undef, undef], defers := [] }) (fun _ _ _ _ _ _ h _ => h) ?assign ?body ?done
  case stay =>
    rintro s X Y ⟨h1, h2⟩ k
    exact ⟨tx_bk k h1 (by omega), tx_go h2 k (by omega)⟩
  case assign =>
    rintro l pre x X K hi hy hlen hK
    unfold encB
    gi_wp2
    exact hK _ _ (KeepsFrom.refl _ _) (kpe_refl _ _ _) hi hy rfl
  case body =>
    rintro l pre x a' X hl _ ⟨hb, ht⟩ ⟨rfl, hx⟩ rfl hlen
    have hcell := hb.cell 0
    have hfr := hb.frozen 0
    dsimp at hcell
    gi_wp2
    refine ⟨(KeepsOthers.setCell _ _ _).from _, kpe_set _ (by show mp < w.heap.size + 1; omega) (by show w.heap.size + 2 ≠ w.heap.size + 1; omega) _, ?_, ht.setCell _ (fun h => by have h2 : w.heap.size + 1 < w.heap.size := h; omega) _⟩
    rw [len_range]
    exact hb.set_ 0 _
  case done =>
    rintro D xs X hD ⟨rfl, hsz⟩ ⟨hb, ht⟩ hK
    rw [List.length_range, List.take_of_length_le (Nat.le_refl _)] at hb
    have hcell := hb.cell 0
    dsimp at hcell
    gi_wp2
    refine ⟨by simp, .inl ⟨_, _, rfl, run_takeDeferred hK, ?_⟩⟩
    exact ⟨_, results_tmp rfl _ _ _, rfl, ht.putObj D (fun h => by omega) _, hsz.same (World.putObj_heap_other (by omega))⟩
end Ly
end Go.Proofs.YteppmkeoedddnaaDoor
namespace Go.Proofs.YteppmkeoedddnaaDoor
open Go Go.RowKit Go.Shelf Go.Maps
namespace Ly
open Is Nt Rt
set_option linter.unusedVariables false
set_option linter.unusedSimpArgs false
attribute [local go_sem] Oper.semAt_some
theorem kpe_al {mp cb : Nat} {W : World} (hm : mp < W.heap.size) (o : Obj) : KpE mp cb W (W.alloc o) := ⟨(Below.refl _ W).alloc (by omega) o, fun x hx => (Below.heap_alloc W o cb (Array.getElem?_eq_some_iff.1 hx).1).trans hx⟩
/-- the box of the loop's line -/
def BoxL (X : World) (Bx : Nat) (l : Ln) : Prop := Bk X Bx 37 l.vs
theorem lnA_wf {ls : List Ln} (h : ∀ l ∈ ls, l.wf) {x : Nat} (hx : x < ls.length) : (lnA ls x).wf := h _ (List.mem_of_getElem? (lnA_at hx))
/-- the labels' places of these lines, in block b -/
def LbE (ls : List Ln) (c b : Nat) (W : World) : Prop := ∃ n D, W.ownsMap Tryd.prog 3 (plainElem Tryd.prog 3) b n D ∧ n ≤ c ∧ LbD ls D
theorem LbE.lt {ls : List Ln} {c b : Nat} {W : World} (h : LbE ls c b W) : b < W.heap.size := by
  obtain ⟨n, D, h1, h2, h3⟩ := h
  exact h1.lt
theorem LbE.same {ls : List Ln} {c b : Nat} {W W' : World} (h : LbE ls c b W) (e : W'.heap[b]? = W.heap[b]?) : LbE ls c b W' := by
  obtain ⟨n, D, ⟨es, cl, h1, h2⟩, h3⟩ := h
  exact ⟨n, D, ⟨es, cl, e.trans h1, h2⟩, h3⟩
theorem LbE.tx {A B : World} {S : Nat → Prop} {Bn c b : Nat} {ls : List Ln} (k : Tx Bn S A B) (h : LbE ls c b A) (hn : ¬ S b) (hB : b < Bn) : LbE ls c b B := by
  obtain ⟨n, D, h1, h2⟩ := h
  exact ⟨n, D, tx_own k h1 hn hB, h2⟩
set_option maxRecDepth 100000 in
set_option maxHeartbeats 4000000 in
theorem labels_in (n : Nat) (hn : 2 ≤ n) (A : Option Addr) (cap mp c : Nat) (ls : List Ln) (hN : ls.length ≤ 1000) (hc : c ≤ 80000) (w : World) (hT : TabE w) (hG : G3 mp) (hR : RdL w mp A ls.length ls) (hS : SzE c mp w) :
    CallsIn Fence.wide n Tryd.prog 16 #[.agg #[.slice A ls.length cap, .map (some mp)]] w fun e W' => e = .returned (.map (some (w.heap.size + 1))) ∧ LbE ls ls.length (w.heap.size + 1) W' ∧ Tn (fun k => k = mp) w W' ∧ SzE (c + ls.length) mp W' := by
  have hml := hS.lt
  have HT := Lib.hid hT
  have HR := Lib.hid hR
  have HS := Lib.hid hS
  have HLW := Lib.hid hR.oks
  have hmm := @run_makeMap Tryd.prog
  clear hT hR hS
  refine callsIn_of_wp_marks Tryd.func16 rfl trivial ?_ rfl
  simp only [Tryd.ntmps16, List.size_toArray, List.length_cons, List.length_nil, Nat.reduceAdd, Nat.reduceSub, Array.replicate_succ, Array.replicate_zero, List.push_toArray, List.append_toArray, List.nil_append, List.cons_append]
  have hb0 : (((w.alloc (.cells #[.slice A ls.length cap, .map (some mp)] 48)).alloc (.map #[] 0)).alloc (.cells #[.map (some (w.heap.size + 1))] 51)).cell? ⟨w.heap.size, 0, none⟩ = some (.slice A ls.length cap) := (Bk.alloc (Bk.alloc (Bk.new w 48 #[.slice A ls.length cap, .map (some mp)]) (.map #[] 0)) (.cells #[.map (some (w.heap.size + 1))] 51)).cell 0
  have hb1 : (((w.alloc (.cells #[.slice A ls.length cap, .map (some mp)] 48)).alloc (.map #[] 0)).alloc (.cells #[.map (some (w.heap.size + 1))] 51)).cell? ⟨w.heap.size, 1, none⟩ = some (.map (some mp)) := (Bk.alloc (Bk.alloc (Bk.new w 48 #[.slice A ls.length cap, .map (some mp)]) (.map #[] 0)) (.cells #[.map (some (w.heap.size + 1))] 51)).cell 1
  gi_wp2
  refine ⟨trivial, fun h => (by cases h), ?_⟩
  refine (each_in _ A ls.length cap mp _).mono ?_
  rintro e W0 ⟨rfl, hw2⟩
  have hs0 : W0.heap.size = w.heap.size + 4 := by rw [hw2]; simp
  have HB0 : Below w.heap.size w W0 := by rw [hw2]; exact bel_tr (bel_tr (bel_tr (bel_al _) (bel_al _)) (bel_al _)) (bel_al _)
  have HE0 : Bk W0 (w.heap.size + 2) 51 #[.map (some (w.heap.size + 1))] := by rw [hw2]; exact (Bk.new' (by simp)).alloc _
  have HM0 : LbE [] 0 (w.heap.size + 1) W0 := by
    have h := World.ownsMap_made (w.alloc (.cells #[.slice A ls.length cap, .map (some mp)] 48)) Tryd.prog 3 (plainElem (H := Unit) Tryd.prog 3)
    rw [World.size_alloc] at h
    rw [hw2]
    exact ⟨0, _, (h.alloc _).alloc _, Nat.le_refl _, LbD.nil⟩
  have HC0 : Bk W0 (w.heap.size + 3) 48 #[.slice A ls.length cap, .map (some mp)] := by rw [hw2]; exact Bk.new' (by simp)
  have e2 : (((w.alloc (.cells #[.slice A ls.length cap, .map (some mp)] 48)).alloc (.map #[] 0)).alloc (.cells #[.map (some (w.heap.size + 1))] 51)).heap.size = w.heap.size + 3 := by simp
  rw [e2]
  clear hw2 e2 hb0 hb1
  gi_wp2
  refine range_t (α := Nat) rfl (by omega) (gf := 40) (lb := #[.pointer (some ⟨w.heap.size + 3, 0, none⟩)]) rfl trivial enters_each (each_t (n - 1) (by omega) (w.heap.size + 3) mp c cap A ls hN (by omega) W0 (HT.out.keep HB0) hG (HR.out.below (HB0.mono (Nat.le_of_lt hml))) HC0 (by omega) (HS.out.below HB0)) (Below.refl _ _) (fun k e => by subst e; omega) (fun h k => h.trans k)
    (fun X l o o' hl ho _ => kpe_put (by omega) (by omega) (Array.getElem?_eq_some_iff.1 ho).1 o') (fun _ => rfl) (fun _ _ _ _ _ h _ => h) (fun xs X Y h k => ⟨h.1, tx_sz k h.2 (fun h => h) (by omega)⟩)
    (fun pre X => Bk X (w.heap.size + 2) 51 #[.map (some (w.heap.size + 1))] ∧ LbE (ls.take pre.length) pre.length (w.heap.size + 1) X ∧ Tn (fun k => k = mp) w X ∧ w.heap.size + 4 ≤ X.heap.size) ?stay ⟨HE0, HM0, Tn.of_below HB0, by omega⟩
    (fun pre x a' X => ∃ Bx, w.heap.size + 4 ≤ Bx ∧ BoxL X Bx (lnA ls x) ∧ a' = { tmps := #[.agg #[.slice A ls.length cap, .map (some mp)], .pointer (some ⟨w.heap.size, 0, none⟩), .map none, .pointer (some ⟨w.heap.size + 2, 0, none⟩), .int .i64 ((upL (ls.take (x + 1)) : Nat) : Int), .pointer (some ⟨Bx, 0, none⟩), .map (some (w.heap.size + 1)), .agg #[.slice A ls.length cap, .map (some mp)], .func (.func 40) #[] #[.pointer (some ⟨w.heap.size + 3, 0, none⟩)], .int .i64 ((upL (ls.take (x + 1)) : Nat) : Int), .agg (lnA ls x).vs, undef, undef, undef, undef, undef, undef, undef, undef], defers := [] }) (fun _ _ _ _ _ _ h k => (by obtain ⟨Bx, h1, h2, h3⟩ := h; exact ⟨Bx, h1, tx_bk k h2 (fun h => h), h3⟩)) ?assign ?body ?done
  case stay =>
    rintro s X Y ⟨h1, h2, h3, h4⟩ k
    exact ⟨tx_bk k h1 (by omega), h2.tx k (by omega) (by omega), tx_go h3 k (by omega), Nat.le_trans h4 k.size⟩
  case assign =>
    rintro l pre x X K hi hy hlen hK
    obtain ⟨h1, h2, h3, h4⟩ := hi
    have HI := Lib.hid (show ∀ o, _ from fun o => (⟨h1.alloc o, h2.same ((bel_al o).block _ h2.lt), h3.alloc o, by rw [World.size_alloc]; omega⟩ : Bk (X.alloc o) (w.heap.size + 2) 51 #[.map (some (w.heap.size + 1))] ∧ LbE (ls.take pre.length) pre.length (w.heap.size + 1) (X.alloc o) ∧ Tn (fun k => k = mp) w (X.alloc o) ∧ w.heap.size + 4 ≤ (X.alloc o).heap.size))
    have HX := Lib.hid (show BoxL (X.alloc (.cells (lnA ls x).vs 37)) X.heap.size (lnA ls x) from Bk.new _ _ _)
    unfold encB
    generalize hii : lnA ls x = ii at *
    obtain ⟨lab, ⟨op, d, s, t, b, xx, sc, di, im⟩, tq⟩ := ii
    unfold Ln.vs at HX ⊢
    dsimp only at *
    gi_wp2
    exact hK _ _ ((KeepsOthers.alloc _ _).from _) (kpe_al (by omega) _) (HI.out _) hy ⟨X.heap.size, h4, HX.out, rfl⟩
  case body =>
    rintro l pre x a' X hl _ ⟨h1, h2, h3, h4⟩ ⟨rfl, hx⟩ ⟨Bx, hBx, hk, rfl⟩ hlen
    rw [List.length_range] at h2
    obtain ⟨n0, D, hown, hn0, hD⟩ := h2
    have HW := Lib.hid (lnA_wf HLW.out hx)
    have HTA := Lib.hid (take_at hx)
    have HUP : Hid (upL (ls.take (x + 1)) ≤ 11000) := Lib.hid (by
      have h5 := upL_le (ls.take (x + 1))
      have h6 : (ls.take (x + 1)).length ≤ 1000 := by rw [List.length_take]; omega
      omega)
    have HYES := Lib.hid (fun h0 => by have h := hD.yes (l := lnA ls x) h0; rw [← HTA.out] at h; exact h)
    have HNO := Lib.hid (fun h0 => by have h := hD.no (l := lnA ls x) h0; rw [← HTA.out] at h; exact h)
    clear hD
    have hm := h1.cell 0
    dsimp at hm
    have H1 := Lib.hid h1
    have H3 := Lib.hid h3
    unfold BoxL at hk
    clear h1 h3
    generalize lnA ls x = ii at *
    obtain ⟨lab, ⟨op, d, s, t, b, xx, sc, di, im⟩, tq⟩ := ii
    unfold Ln.vs at hk ⊢
    dsimp only at *
    obtain ⟨a0, a1, a2, a3, a4, a5, a6, a7, a8, a9, a10⟩ := c11 hk
    have hup := HUP.out
    have HLAB := Lib.hid HW.out.lab
    clear hk HW
    by_cases h0 : 0 < lab
    · have HY := Lib.hid (HYES.out h0)
      clear HYES HNO
      generalize upL (ls.take (x + 1)) = up at *
      gi_wp2_with (first | (gi_at_mapUpdate; refine wpListIn_mapUpdate_own _ rfl _ _ _ 51 rfl 3 3 keyedN Tryd.underlying51 _ (w.heap.size + 1) n0 D rfl hown (by simp only [maxLen]; omega) _ _ (.int .i64 lab) rfl rfl (keyOf_int_mk Tryd.underlying3 (i64_lit HLAB.out)) (.lit (.int .i64 (up : Int))) [] (plainElem_int Tryd.underlying3 (i64_lit ⟨by omega, by omega⟩)) ?_; intro w3 hown3 hgrow) | fail)
      refine ⟨KeepsFrom.of_grownBy hgrow (fun j e => by cases e; omega), kpe_grown hgrow (by omega) (fun j e => by cases e; omega), (hgrow.block _ H1.out.lt (by intro e; injection e with e; omega)).trans H1.out, ?_, H3.out.grown hgrow (fun j e hj => by cases e; omega), Nat.le_trans h4 hgrow.size⟩
      rw [len_range]
      exact ⟨n0 + 1, _, hown3, by omega, HY.out⟩
    · have HN := Lib.hid (HNO.out h0)
      clear HYES HNO
      have h0' : lab ≤ 0 := by omega
      gi_wp2
      refine ⟨KeepsFrom.refl _ _, kpe_refl _ _ _, H1.out, ?_, H3.out, h4⟩
      rw [len_range]
      exact ⟨n0, _, hown, by omega, HN.out⟩
  case done =>
    rintro D xs X hD ⟨rfl, hsz⟩ ⟨hb, hm, ht, _⟩ hK
    rw [List.length_range, List.take_of_length_le (Nat.le_refl _)] at hm
    have hcell := hb.cell 0
    dsimp at hcell
    gi_wp2
    refine ⟨by simp, .inl ⟨_, _, rfl, run_takeDeferred hK, ?_⟩⟩
    exact ⟨_, results_tmp rfl _ _ _, rfl, hm.same (World.putObj_heap_other (by omega)), ht.putObj D (fun h => by omega) _, hsz.same (World.putObj_heap_other (by omega))⟩
end Ly
end Go.Proofs.YteppmkeoedddnaaDoor
