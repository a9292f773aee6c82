/- The landed package layout: the lines' instructions. -/
import Derived.Test.YteppmkeoedddnaaDoorY5
import Derived.Test.YteppmkeoedddnaaDoorY3
import Derived.Maps.OwnIn
import Derived.Maps.AppendAt
namespace Go.Proofs.YteppmkeoedddnaaDoor
open Go Go.RowKit Go.Shelf Go.Maps
namespace Ly
open Is Nt Rt
set_option linter.unusedVariables false
set_option linter.unusedSimpArgs false
attribute [local go_sem] Oper.semAt_some
/-- a box holds a row of instructions of one's own -/
def BoxI (B base : Nat) (is : List Ins) (X : World) : Prop := ∃ v, Boxed X B 55 v ∧ X.ownsRow base 35 9 v is.length (insRow is)
theorem tx_row {A B : World} {S : Nat → Prop} {Bn base : Nat} {e : TypeId} {s n : Nat} {v : Value} {xs : List Value} (k : Tx Bn S A B) (h : A.ownsRow base e s v n xs) (hS : ∀ j, S j → j < base) : B.ownsRow base e s v n xs := by
  refine ⟨h.1, ?_⟩
  rcases h.2 with h1 | ⟨g, c, cur, h1, h2, h3, h4⟩
  · exact .inl h1
  · exact .inr ⟨g, c, cur, h1, h2, k.block g _ h3 (fun hs => by have := hS g hs; omega) (fun _ => rfl), h4⟩
theorem row_off {X : World} {base g0 : Nat} {e t : TypeId} {s n : Nat} {v : Value} {xs : List Value} {cs : Array Value} (h : X.ownsRow base e s v n xs) (hb : Bk X g0 t cs) (hne : t ≠ e) : ∀ j, v.ownBlock = some j → j ≠ g0 := by
  intro j hj
  rcases h.2 with ⟨rfl, _⟩ | ⟨g, c, cur, rfl, h2, h3, h4⟩
  · simp [Value.ownBlock] at hj
  · obtain rfl : g = j := by simpa [Value.ownBlock] using hj
    intro e'
    subst e'
    have : X.heap[g]? = some (.cells cs t) := hb
    rw [this] at h3
    injection h3 with h3
    injection h3 with _ h5 _
    exact hne h5
theorem others_below {A B : World} (h : Below A.heap.size A B) : KeepsOthers A B := ⟨h.size, fun k o hk _ => (h.block k (Array.getElem?_eq_some_iff.1 hk).1).trans hk⟩
/-- an instruction appended to a box's row -/
theorem BoxI.more {Y w1 : World} {B base : Nat} {is : List Ins} {v v' : Value} {i : Ins} {o : Obj} (hv : Boxed Y B 55 v) (hrow : Y.ownsRow base 35 9 v is.length (insRow is)) (hb : base ≤ Y.heap.size) (hB : base ≤ B)
    (hown : w1.ownsRow base 35 9 v' (is.length + 1) (insRow is ++ i.vs.toList)) (hgrow : (Y.alloc o).grownBy w1 v.ownBlock) (hne : (55 : TypeId) ≠ 35) :
    Boxed w1 B 55 v ∧ BoxI B base (is ++ [i]) (w1.setCell ⟨B, 0, none⟩ v') ∧ KeepsOthers Y (w1.setCell ⟨B, 0, none⟩ v') ∧ Below base Y (w1.setCell ⟨B, 0, none⟩ v') := by
  obtain ⟨h1, h2, h3, h4, h5⟩ := hv.appended hne hrow hb hB hown hgrow
  refine ⟨h1, ⟨v', h2, ?_⟩, h4, h5⟩
  rw [List.length_append, insRow_app, insRow_one]
  exact h3
theorem grown_set (W : World) (p : Addr) (v : Value) : W.grownBy (W.setCell p v) (some p.block) := ⟨rfl, rfl, rfl, by simp [World.setCell], fun k hk hne => Below.heap_setCell _ _ _ _ (fun e => hne (by rw [e]))⟩
theorem row_ge {X : World} {base : Nat} {e : TypeId} {s n : Nat} {v : Value} {xs : List Value} (h : X.ownsRow base e s v n xs) : ∀ j, v.ownBlock = some j → base ≤ j := by
  intro j hj
  rcases h.2 with ⟨rfl, _⟩ | ⟨g, c, cur, rfl, h2, h3, h4⟩
  · simp [Value.ownBlock] at hj
  · obtain rfl : g = j := by simpa [Value.ownBlock] using hj
    exact h2
/-- a block of another type, behind an append into a box's row -/
theorem bk_more {Y w1 : World} {B base g : Nat} {t : TypeId} {cs : Array Value} {is : List Ins} {v v' : Value} {o : Obj} (hrow : Y.ownsRow base 35 9 v is.length (insRow is)) (hb : Bk Y g t cs) (ht : t ≠ 35) (hg : g ≠ B)
    (hgrow : (Y.alloc o).grownBy w1 v.ownBlock) : Bk (w1.setCell ⟨B, 0, none⟩ v') g t cs := by
  refine Bk.far (p := ⟨B, 0, none⟩) ?_ (show g ≠ B from hg) _
  exact (hgrow.block g (Nat.lt_of_lt_of_le hb.lt (by simp)) (fun e => (row_off hrow hb ht _ e.symm) rfl)).trans (hb.alloc o)
set_option maxRecDepth 100000 in
theorem neT : (55 : TypeId) ≠ 35 ∧ (37 : TypeId) ≠ 35 ∧ (51 : TypeId) ≠ 35 ∧ (48 : TypeId) ≠ 35 := ⟨by decide, by decide, by decide, by decide⟩
set_option maxRecDepth 100000 in
set_option maxHeartbeats 8000000 in
theorem ins_in (n : Nat) (hn : 2 ≤ n) (A : Option Addr) (cap mp c lm cl : Nat) (ls : List Ln) (hN : ls.length ≤ 1000) (hc : c ≤ 80000) (w : World) (hT : TabE w) (hG : G3 mp) (hR : RdL w mp A ls.length ls) (hS : SzE c mp w) (hL : LbE ls cl lm w) (hlm : lm ≠ mp)
    (hok : ∀ l ∈ ls, l.lab = 0 → jmpB l.ins = true → ∃ p, look ls l.to = some p ∧ 0 < l.to) :
    CallsIn Fence.wide n Tryd.prog 19 #[.agg #[.slice A ls.length cap, .map (some mp)], .map (some lm)] w fun e W' => ∃ v, e = .returned v ∧ W'.ownsRow w.heap.size 35 9 v (insL ls ls).length (insRow (insL ls ls)) ∧ Tn (fun k => k = mp) w W' ∧ SzE (c + ls.length) mp W' := by
  have hml := hS.lt
  have hll := hL.lt
  have HT := Lib.hid hT
  have HR := Lib.hid hR
  have HS := Lib.hid hS
  have HL := Lib.hid hL
  have HLW := Lib.hid hR.oks
  have HOK := Lib.hid hok
  have HG := Lib.hid hG
  have hlen4 : (ls.length : Int) ≤ 1000 := by omega
  clear hT hR hS hL hok
  refine callsIn_of_wp_marks Tryd.func19 rfl trivial ?_ rfl
  simp only [Tryd.ntmps19, List.size_toArray, List.length_cons, List.length_nil, Nat.reduceAdd, Nat.reduceSub, Array.replicate_succ, Array.replicate_zero, List.push_toArray, List.append_toArray, List.nil_append, List.cons_append]
  have HS0 : Hid (Bk ((w.alloc (.cells #[.slice A ls.length cap, .map (some mp)] 48)).alloc (.cells #[.map (some lm)] 51)) w.heap.size 48 #[.slice A ls.length cap, .map (some mp)]) := Lib.hid (Bk.alloc (Bk.new _ _ _) _)
  have HM0 : Hid (Bk ((w.alloc (.cells #[.slice A ls.length cap, .map (some mp)] 48)).alloc (.cells #[.map (some lm)] 51)) (w.heap.size + 1) 51 #[.map (some lm)]) := Lib.hid (Bk.new' (by simp))
  have HBB : Hid (Below w.heap.size w ((w.alloc (.cells #[.slice A ls.length cap, .map (some mp)] 48)).alloc (.cells #[.map (some lm)] 51))) := Lib.hid (bel_tr (bel_al _) (bel_al _))
  have hc0 := HS0.out.cell 0
  dsimp at hc0
  obtain ⟨inf, hinf, hz, q1, q2⟩ := info_parts info_inst
  gi_wp2_with (first | (gi_at_make; go_loud (refine wpListIn_make_own _ rfl _ _ 55 rfl w.heap.size 35 inf _ 9 Tryd.underlying55 hinf hz q1 .i64 .i64 _ ls.length rfl rfl rfl (by rw [q2]; omega) (by simp only [maxLen]; omega) (by simp; omega) ?_; intro w3 hown hgrow; have HOWN := Lib.hid hown; have HGR := Lib.hid hgrow; have hlt3 : w.heap.size < w3.heap.size := Nat.lt_of_lt_of_le (by rw [World.size_alloc, World.size_alloc]; omega) hgrow.size; have hd0 : w3.cell? ⟨w.heap.size, 0, none⟩ = some (.slice A ls.length cap) := (World.cell?_of_block (hgrow.block w.heap.size (by rw [World.size_alloc, World.size_alloc]; omega) (by simp))).trans hc0; have hd1 : w3.cell? ⟨w.heap.size, 1, none⟩ = some (.map (some mp)) := (World.cell?_of_block (hgrow.block w.heap.size (by rw [World.size_alloc, World.size_alloc]; omega) (by simp))).trans (HS0.out.cell 1); clear hown hgrow hc0)) | fail)
  refine ⟨trivial, fun h => (by cases h), ?_⟩
  refine (each_in _ A ls.length cap mp _).mono ?_
  rintro e W0 ⟨rfl, hw2⟩
  have e2 : ((w.alloc (.cells #[.slice A ls.length cap, .map (some mp)] 48)).alloc (.cells #[.map (some lm)] 51)).heap.size = w.heap.size + 1 + 1 := by simp
  rw [e2] at HOWN
  have HR3 : Below w.heap.size w w3 := HBB.out.grown HGR.out (by rw [e2]; omega) (fun k e => by cases e)
  have HM3 : Bk w3 (w.heap.size + 1) 51 #[.map (some lm)] := (HGR.out.block _ HM0.out.lt (by simp)).trans HM0.out
  have hb5 : w.heap.size + 2 ≤ w3.heap.size := by have := HGR.out.size; rw [e2] at this; omega
  have hs0 : W0.heap.size = w3.heap.size + 2 := by rw [hw2]; simp
  have HB0 : Below w.heap.size w W0 := by rw [hw2]; exact bel_tr (bel_tr HR3 (bel_al _)) (bel_al _)
  have HI0 : BoxI w3.heap.size w.heap.size [] W0 := ⟨_, by rw [hw2]; exact (Boxed.new _ _ _).alloc _, by rw [hw2]; exact (HOWN.out.alloc _).alloc _⟩
  have HE0 : Bk W0 (w.heap.size + 1) 51 #[.map (some lm)] := by rw [hw2]; exact (HM3.alloc _).alloc _
  have HC0 : Bk W0 (w3.heap.size + 1) 48 #[.slice A ls.length cap, .map (some mp)] := by rw [hw2]; exact Bk.new' (by simp)
  have e3 : (w3.alloc (.cells #[.slice (some ⟨w.heap.size + 1 + 1, 0, none⟩) 0 ls.length] 55)).heap.size = w3.heap.size + 1 := by simp
  rw [e3]
  clear hw2 e2 e3 hd0 hd1 HM3 HR3 HOWN HGR HBB HM0 HS0
  generalize w3.heap.size = B5 at *
  clear hlt3
  gi_wp2
  refine range_t (α := Nat) rfl (by omega) (gf := 40) (lb := #[.pointer (some ⟨B5 + 1, 0, none⟩)]) rfl trivial enters_each (each_t (n - 1) (by omega) (B5 + 1) mp c cap A ls hN (by omega) W0 (HT.out.keep HB0) HG.out (HR.out.below (HB0.mono (Nat.le_of_lt hml))) HC0 (by omega) (HS.out.below HB0)) (Below.refl _ _) (fun k e => by subst e; omega) (fun h k => h.trans k)
    (fun X l o o' hl ho _ => kpe_put (by omega) (by omega) (Array.getElem?_eq_some_iff.1 ho).1 o') (fun _ => rfl) (fun _ _ _ _ _ h _ => h) (fun xs X Y h k => ⟨h.1, tx_sz k h.2 (fun h => h) (by omega)⟩)
    (fun pre X => BoxI B5 w.heap.size (insL ls (ls.take pre.length)) X ∧ Bk X (w.heap.size + 1) 51 #[.map (some lm)] ∧ Bk X (B5 + 1) 48 #[.slice A ls.length cap, .map (some mp)] ∧ Tn (fun k => k = mp) w X ∧ B5 + 2 ≤ X.heap.size) ?stay ⟨HI0, HE0, HC0, Tn.of_below HB0, by omega⟩
    (fun pre x a' X => ∃ Bx, B5 + 2 ≤ Bx ∧ BoxL X Bx (lnA ls x) ∧ a' = { tmps := #[.agg #[.slice A ls.length cap, .map (some mp)], .map (some lm), .pointer (some ⟨w.heap.size, 0, none⟩), .pointer (some ⟨w.heap.size + 1, 0, none⟩), .slice none 0 0, .pointer (some ⟨B5, 0, none⟩), .int .i64 ((upL (ls.take (x + 1)) : Nat) : Int), .pointer (some ⟨Bx, 0, none⟩), .pointer (some ⟨w.heap.size, 0, none⟩), .slice A ls.length cap, .int .i64 (ls.length : Int), .slice (some ⟨w.heap.size + 1 + 1, 0, none⟩) 0 ls.length, .agg #[.slice A ls.length cap, .map (some mp)], .func (.func 40) #[] #[.pointer (some ⟨B5 + 1, 0, none⟩)], .int .i64 ((upL (ls.take (x + 1)) : Nat) : Int), .agg (lnA ls x).vs, undef, undef, undef, undef, undef, undef, undef, undef, undef, undef, undef, undef, undef, undef, undef, undef, undef, undef, undef, undef], defers := [] }) (fun _ _ _ _ _ _ h k => (by obtain ⟨Bx, h1, h2, h3⟩ := h; exact ⟨Bx, h1, tx_bk k h2 (fun h => h), h3⟩)) ?assign ?body ?done
  case stay =>
    rintro s X Y ⟨⟨v, h0, h1⟩, h2, h3, h4, h5⟩ k
    exact ⟨⟨v, k.block _ _ h0 (by omega) (fun _ => rfl), tx_row k h1 (fun j e => by subst e; omega)⟩, tx_bk k h2 (by omega), tx_bk k h3 (by omega), tx_go h4 k (by omega), Nat.le_trans h5 k.size⟩
  case assign =>
    rintro l pre x X K hi hy hlen hK
    obtain ⟨⟨v, h0, h1⟩, h2, h3, h4, h5⟩ := hi
    have HI := Lib.hid (show ∀ o, BoxI B5 w.heap.size (insL ls (ls.take pre.length)) (X.alloc o) ∧ Bk (X.alloc o) (w.heap.size + 1) 51 #[.map (some lm)] ∧ Bk (X.alloc o) (B5 + 1) 48 #[.slice A ls.length cap, .map (some mp)] ∧ Tn (fun k => k = mp) w (X.alloc o) ∧ B5 + 2 ≤ (X.alloc o).heap.size from fun o => ⟨⟨v, h0.alloc _, h1.alloc _⟩, h2.alloc _, h3.alloc _, h4.alloc _, by rw [World.size_alloc]; omega⟩)
    have HX := Lib.hid (show BoxL (X.alloc (.cells (lnA ls x).vs 37)) X.heap.size (lnA ls x) from Bk.new _ _ _)
    unfold encB
    generalize lnA ls x = ii at *
    obtain ⟨lab, ⟨op, d, s, t, b, xx, sc, di, im⟩, tq⟩ := ii
    unfold Ln.vs at HX ⊢
    dsimp only at *
    gi_wp2
    exact hK _ _ ((KeepsOthers.alloc _ _).from _) (kpe_al (by omega) _) (HI.out _) hy ⟨X.heap.size, h5, HX.out, rfl⟩
  case body =>
    rintro l pre x a' X hl _ ⟨⟨v, hv, hrow⟩, h2, h3, h4, h5⟩ ⟨rfl, hx⟩ ⟨Bx, hBx, hk, rfl⟩ hlen
    rw [List.length_range] at hrow
    have HW := Lib.hid (lnA_wf HLW.out hx)
    have HTA := Lib.hid (insL_snoc ls (ls.take x) (lnA ls x))
    rw [← take_at hx] at HTA
    have HUP : Hid (upL (ls.take (x + 1)) ≤ 11000) := Lib.hid (by
      have h5 := upL_le (ls.take (x + 1))
      have h6 : (ls.take (x + 1)).length ≤ 1000 := by rw [List.length_take]; omega
      omega)
    have HLK : Hid (∀ p, look ls (lnA ls x).to = some p → p ≤ 11000) := Lib.hid (fun p hp => by
      have h6 := look_b ls _ hp
      have h7 := upL_le ls
      omega)
    have HIL : Hid ((insL ls (ls.take x)).length ≤ 1000) := Lib.hid (by
      have h6 := insL_len ls (ls.take x)
      have h7 : (ls.take x).length ≤ 1000 := by rw [List.length_take]; omega
      omega)
    have HOKX := Lib.hid (HOK.out _ (List.mem_of_getElem? (lnA_at hx)))
    have HTX : Hid (TabE X) := Lib.hid (HT.out.keepB HG.out (h4.below (Nat.le_of_lt hml) (fun k hk e => by omega)))
    have HLX : Hid (LbE ls cl lm X) := Lib.hid (HL.out.same (h4.block lm hll hlm))
    have hm := h2.cell 0
    dsimp at hm
    have H1 := Lib.hid hv
    have H2 := Lib.hid h2
    have H3 := Lib.hid h3
    have H4 := Lib.hid h4
    have H6 := Lib.hid hrow
    unfold BoxL at hk
    clear h2 h3 h4 hv hrow
    have HK := Lib.hid hk
    by_cases h0 : (lnA ls x).lab = 0
    · have HJ := Lib.hid (fun Y h => ijump_l (lnA ls x).ins HW.out.ins Y h)
      rw [if_neg (by simpa using h0)] at HTA
      have HFX : Hid (fixL ls (upL (ls.take (x + 1))) (lnA ls x) = if jmpB (lnA ls x).ins then { (lnA ls x).ins with im := (((look ls (lnA ls x).to).getD 0 : Nat) : Int) - ((upL (ls.take (x + 1)) : Nat) : Int) } else (lnA ls x).ins) := Lib.hid rfl
      have HO2 := Lib.hid (fun h => HOKX.out h0 h)
      clear HOKX
      generalize lnA ls x = ii at *
      obtain ⟨lab, ⟨op, d, s, t, b, xx, sc, di, im⟩, tq⟩ := ii
      dsimp only at h0
      subst h0
      generalize jmpB ⟨op, d, s, t, b, xx, sc, di, im⟩ = jb at *
      generalize fixL ls (upL (ls.take (x + 1))) ⟨0, ⟨op, d, s, t, b, xx, sc, di, im⟩, tq⟩ = fx at *
      unfold Ln.vs at hk HK ⊢
      unfold Ins.vs at HJ
      dsimp only at *
      obtain ⟨a0, a1, a2, a3, a4, a5, a6, a7, a8, a9, a10⟩ := c11 hk
      have hup := HUP.out
      generalize upL (ls.take (x + 1)) = up at *
      gi_wp2
      refine ⟨trivial, fun h => (by cases h), ?_⟩
      refine (CallsIn.inRound l (callsIn_wide.2 (HJ.out X HTX.out.inst))).mono ?_
      rintro e Y ⟨rfl, hb⟩
      have HBY := Lib.hid hb
      have HYK : Hid (Bk Y Bx 37 #[.int .i64 0, .int .i64 op, .int .i64 d, .int .i64 s, .int .i64 t, .int .i64 b, .int .i64 xx, .int .i64 sc, .int .i64 di, .int .i64 im, .int .i64 tq]) := Lib.hid (hk.below hb hk.lt)
      have HY1 : Hid (Boxed Y B5 55 v) := Lib.hid ((hb.block _ H1.out.lt).trans H1.out)
      have HY2 : Hid (Bk Y (w.heap.size + 1) 51 #[.map (some lm)]) := Lib.hid (H2.out.below hb H2.out.lt)
      have HY3 : Hid (Bk Y (B5 + 1) 48 #[.slice A ls.length cap, .map (some mp)]) := Lib.hid (H3.out.below hb H3.out.lt)
      have HY4 : Hid (Tn (fun k => k = mp) w Y) := Lib.hid (H4.out.trans (Tn.of_below (S := fun k => k = mp) hb) (fun _ h _ => h))
      have HY6 := Lib.hid (tx_row ((Tn.of_below (S := fun _ => False) hb).tx (B := 0)) H6.out (fun j e => e.elim))
      have HYL : Hid (LbE ls cl lm Y) := Lib.hid (HLX.out.same (hb.block lm HLX.out.lt))
      have hYs : B5 + 2 ≤ Y.heap.size := Nat.le_trans h5 hb.size
      clear a0 a1 a2 a3 a4 a5 a6 a7 a8 a9 a10 hm
      obtain ⟨a0, a1, a2, a3, a4, a5, a6, a7, a8, a9, a10⟩ := c11 HYK.out
      have hm := HY2.out.cell 0
      dsimp at hm
      have hbc := HY1.out.cell
      cases jb with
      | true =>
        obtain ⟨p, hp, htp⟩ := HO2.out rfl
        have hpl := HLK.out p hp
        obtain ⟨n0, D, hown, hn0, hD⟩ := HYL.out
        have HAT := Lib.hid ((hD.2 tq).2.1 p htp hp (.lit (.int .i64 0)))
        have HKEY : Hid (keyOf Tryd.prog 3 (.int .i64 tq) = some (.int .i64 tq)) := Lib.hid (keyOf_int_mk Tryd.underlying3 (i64_lit HW.out.to))
        rw [if_pos rfl, hp, Option.getD_some] at HFX
        clear hD hp htp HO2 HYL hb hk
        have HZ6 : Hid ((Y.setCell ⟨Bx, 9, none⟩ (.int .i64 ((p : Int) - (up : Int)))).ownsRow w.heap.size 35 9 v (insL ls (ls.take x)).length (insRow (insL ls (ls.take x)))) := Lib.hid (HY6.out.kept (grown_set Y ⟨Bx, 9, none⟩ _) (.inr (fun e => row_off HY6.out HYK.out neT.2.1 _ e rfl)))
        have HZ1 : Hid (Boxed (Y.setCell ⟨Bx, 9, none⟩ (.int .i64 ((p : Int) - (up : Int)))) B5 55 v) := Lib.hid ((Below.heap_setCell Y ⟨Bx, 9, none⟩ _ B5 (by show B5 ≠ Bx; omega)).trans HY1.out)
        have HZ2 : Hid (Bk (Y.setCell ⟨Bx, 9, none⟩ (.int .i64 ((p : Int) - (up : Int)))) (w.heap.size + 1) 51 #[.map (some lm)]) := Lib.hid (HY2.out.far (show w.heap.size + 1 ≠ Bx from by omega) _)
        have HZ3 : Hid (Bk (Y.setCell ⟨Bx, 9, none⟩ (.int .i64 ((p : Int) - (up : Int)))) (B5 + 1) 48 #[.slice A ls.length cap, .map (some mp)]) := Lib.hid (HY3.out.far (show B5 + 1 ≠ Bx from by omega) _)
        have HZ4 : Hid (Tn (fun k => k = mp) w (Y.setCell ⟨Bx, 9, none⟩ (.int .i64 ((p : Int) - (up : Int))))) := Lib.hid (HY4.out.setCell _ (fun h => by have h2 : Bx < w.heap.size := h; omega) _)
        have hzs : (Y.setCell ⟨Bx, 9, none⟩ (.int .i64 ((p : Int) - (up : Int)))).heap.size = Y.heap.size := by (try simp [World.setCell])
        have HNEW : Hid (∀ j u, (⟨op, d, s, t, b, xx, sc, di, (p : Int) - (up : Int)⟩ : Ins).vs.toList[j]? = some u → ((Y.setCell ⟨Bx, 9, none⟩ (.int .i64 ((p : Int) - (up : Int)))).alloc (.cells (⟨op, d, s, t, b, xx, sc, di, (p : Int) - (up : Int)⟩ : Ins).vs 35)).cell? ((⟨Y.heap.size, 0, none⟩ : Addr).add j) = some u) := Lib.hid (fun j u hu => by
          have h := vs_new9 (Y.setCell ⟨Bx, 9, none⟩ (.int .i64 ((p : Int) - (up : Int)))) ⟨op, d, s, t, b, xx, sc, di, (p : Int) - (up : Int)⟩ j u hu
          rw [hzs] at h
          exact h)
        have hil := HIL.out
        have hzb : (Y.setCell ⟨Bx, 9, none⟩ (.int .i64 ((p : Int) - (up : Int)))).cell? ⟨B5, 0, none⟩ = some v := HZ1.out.cell
        have HZK : Bk (Y.setCell ⟨Bx, 9, none⟩ (.int .i64 ((p : Int) - (up : Int)))) Bx 37 #[.int .i64 0, .int .i64 op, .int .i64 d, .int .i64 s, .int .i64 t, .int .i64 b, .int .i64 xx, .int .i64 sc, .int .i64 di, .int .i64 ((p : Int) - (up : Int)), .int .i64 tq] := HYK.out.set_ 9 _
        obtain ⟨e0, e1, e2, e3, e4, e5, e6, e7, e8, e9, e10⟩ := c11 HZK
        have hfz := HYK.out.frozen 9
        clear HZK
        gi_wp2_with (first | (gi_at_lookup; refine wpListIn_lookup_own_int _ rfl _ _ 51 rfl 3 3 .i64 keyedN Tryd.underlying51 Tryd.underlying3 (zeroN _) lm n0 D rfl hown _ (.int .i64 tq) rfl HKEY.out ?_; intro c1 hat hwc; obtain rfl : (p : Int) = c1 := (by rw [HAT.out] at hat; injection hat with hat; injection hat); clear hat hwc hown) | (gi_at_builtin; go_loud (refine wpListIn_append_own _ rfl _ _ 55 rfl w.heap.size 35 inf _ 9 72 Tryd.underlying55 hinf hz q1 q2 rfl (by decide) _ _ _ rfl (HZ6.out.alloc _) ⟨Y.heap.size, 0, none⟩ 1 1 (⟨op, d, s, t, b, xx, sc, di, (p : Int) - (up : Int)⟩ : Ins).vs.toList rfl rfl HNEW.out (vs_one9 _) (by simp only [maxLen]; omega) (by omega) (by rw [World.size_alloc]; omega) ?_); intro v' w1 hown' hgrow _; obtain ⟨g', cap', rfl⟩ := ownsRow_succ hown'; obtain ⟨hv1, hbox, hko, hbl⟩ := BoxI.more HZ1.out HZ6.out (by omega) (by omega) hown' hgrow neT.1; have hc1 := hv1.cell; have hf1 := hv1.frozen) | fail)
        refine ⟨((others_below HBY.out).trans ((KeepsOthers.setCell _ _ _).trans hko)).from _, ⟨?_, fun o ho => ?_⟩, ?_, bk_more HZ6.out HZ2.out neT.2.2.1 (by omega) hgrow, bk_more HZ6.out HZ3.out neT.2.2.2 (by omega) hgrow, ?_, ?_⟩
        · exact ((HBY.out.mono (by omega)).trans ((Below.refl _ Y).setCell (p := ⟨Bx, 9, none⟩) (by show mp + 1 ≤ Bx; omega) _)).trans (hbl.mono (by omega))
        · rw [show X.heap[B5 + 1]? = _ from H3.out] at ho
          cases ho
          exact bk_more HZ6.out HZ3.out neT.2.2.2 (by omega) hgrow
        · rw [len_range, HTA.out, HFX.out]
          exact hbox
        · exact ((HZ4.out.alloc _).grown hgrow (fun j e hj => absurd (row_ge HZ6.out j e) (by omega))).setCell _ (fun h => by have h2 : B5 < w.heap.size := h; omega) _
        · exact Nat.le_trans (by first | exact hYs | (rw [hzs]; exact hYs)) hko.size
      | false =>
        rw [if_neg (by decide)] at HFX
        clear hb hk HO2
        have HZ6 : Hid ((Y).ownsRow w.heap.size 35 9 v (insL ls (ls.take x)).length (insRow (insL ls (ls.take x)))) := Lib.hid (HY6.out)
        have HZ1 : Hid (Boxed (Y) B5 55 v) := Lib.hid (HY1.out)
        have HZ2 : Hid (Bk (Y) (w.heap.size + 1) 51 #[.map (some lm)]) := Lib.hid (HY2.out)
        have HZ3 : Hid (Bk (Y) (B5 + 1) 48 #[.slice A ls.length cap, .map (some mp)]) := Lib.hid (HY3.out)
        have HZ4 : Hid (Tn (fun k => k = mp) w (Y)) := Lib.hid (HY4.out)
        have hzs : (Y).heap.size = Y.heap.size := by (try simp [World.setCell])
        have HNEW : Hid (∀ j u, (⟨op, d, s, t, b, xx, sc, di, im⟩ : Ins).vs.toList[j]? = some u → ((Y).alloc (.cells (⟨op, d, s, t, b, xx, sc, di, im⟩ : Ins).vs 35)).cell? ((⟨Y.heap.size, 0, none⟩ : Addr).add j) = some u) := Lib.hid (fun j u hu => by
          have h := vs_new9 (Y) ⟨op, d, s, t, b, xx, sc, di, im⟩ j u hu
          rw [hzs] at h
          exact h)
        have hil := HIL.out
        have hzb : (Y).cell? ⟨B5, 0, none⟩ = some v := HZ1.out.cell
        gi_wp2_with (first | (gi_at_builtin; go_loud (refine wpListIn_append_own _ rfl _ _ 55 rfl w.heap.size 35 inf _ 9 72 Tryd.underlying55 hinf hz q1 q2 rfl (by decide) _ _ _ rfl (HZ6.out.alloc _) ⟨Y.heap.size, 0, none⟩ 1 1 (⟨op, d, s, t, b, xx, sc, di, im⟩ : Ins).vs.toList rfl rfl HNEW.out (vs_one9 _) (by simp only [maxLen]; omega) (by omega) (by rw [World.size_alloc]; omega) ?_); intro v' w1 hown' hgrow _; obtain ⟨g', cap', rfl⟩ := ownsRow_succ hown'; obtain ⟨hv1, hbox, hko, hbl⟩ := BoxI.more HZ1.out HZ6.out (by omega) (by omega) hown' hgrow neT.1; have hc1 := hv1.cell; have hf1 := hv1.frozen) | fail)
        refine ⟨((others_below HBY.out).trans (hko)).from _, ⟨?_, fun o ho => ?_⟩, ?_, bk_more HZ6.out HZ2.out neT.2.2.1 (by omega) hgrow, bk_more HZ6.out HZ3.out neT.2.2.2 (by omega) hgrow, ?_, ?_⟩
        · exact ((HBY.out.mono (by omega)).trans (Below.refl _ Y)).trans (hbl.mono (by omega))
        · rw [show X.heap[B5 + 1]? = _ from H3.out] at ho
          cases ho
          exact bk_more HZ6.out HZ3.out neT.2.2.2 (by omega) hgrow
        · rw [len_range, HTA.out, HFX.out]
          exact hbox
        · exact ((HZ4.out.alloc _).grown hgrow (fun j e hj => absurd (row_ge HZ6.out j e) (by omega))).setCell _ (fun h => by have h2 : B5 < w.heap.size := h; omega) _
        · exact Nat.le_trans (by first | exact hYs | (rw [hzs]; exact hYs)) hko.size
    · rw [if_pos h0] at HTA
      have hne : ((lnA ls x).lab != 0) = true := by simpa using h0
      generalize lnA ls x = ii at *
      obtain ⟨lab, ⟨op, d, s, t, b, xx, sc, di, im⟩, tq⟩ := ii
      unfold Ln.vs at hk ⊢
      dsimp only at *
      have a0 := hk.cell 0
      dsimp at a0
      gi_wp2
      refine ⟨KeepsFrom.refl _ _, kpe_refl _ _ _, ?_, H2.out, H3.out, H4.out, h5⟩
      rw [len_range, HTA.out]
      exact ⟨v, H1.out, H6.out⟩
  case done =>
    rintro D xs X hD ⟨rfl, hsz⟩ ⟨⟨v, hv, hrow⟩, h2, h3, h4, h5⟩ hK
    rw [List.length_range, List.take_of_length_le (Nat.le_refl _)] at hrow
    have hcell := hv.cell
    gi_wp2
    refine ⟨by simp, .inl ⟨_, _, rfl, run_takeDeferred hK, ?_⟩⟩
    exact ⟨_, results_tmp rfl _ _ _, v, rfl, ownsRow_putObj hrow _ hK rfl, h4.putObj D (fun h => by omega) _, hsz.same (World.putObj_heap_other (by omega))⟩
end Ly
end Go.Proofs.YteppmkeoedddnaaDoor
