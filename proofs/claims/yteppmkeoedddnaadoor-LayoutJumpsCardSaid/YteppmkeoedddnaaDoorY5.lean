/- The landed package layout: lines compared; a line's fault. | The landed package layout: a jump's fault, a line's fault. | The landed package layout: how many bytes all lines have; the labels' places. | The landed package layout: the labels' places. -/
import Derived.Test.YteppmkeoedddnaaDoorY3
import Derived.DeepKeys
import Derived.Maps.OwnIn
namespace Go.Proofs.YteppmkeoedddnaaDoor
open Go Go.RowKit Go.Maps
namespace Ly
open Is Nt Rt
set_option linter.unusedVariables false
set_option linter.unusedSimpArgs false
set_option maxRecDepth 100000 in
theorem lcells_line : Tryd.prog.cellsOf 37 = 11 := by kernel_rfl
def Ln.ll (l : Ln) : List Lit := [.int .i64 l.lab, .int .i64 l.ins.op, .int .i64 l.ins.d, .int .i64 l.ins.s, .int .i64 l.ins.t, .int .i64 l.ins.b, .int .i64 l.ins.x, .int .i64 l.ins.sc, .int .i64 l.ins.di, .int .i64 l.ins.im, .int .i64 l.to]
set_option maxRecDepth 100000 in
theorem kl_line (d : Nat) {l : Ln} (h : l.wf) : Tryd.prog.keyLits (d + 4) 37 l.vs.toList = some l.ll := by
  have hi := kl_inst d h.ins
  unfold Ins.vs at hi
  unfold Program.keyLits
  rw [Tryd.underlying37]
  unfold Ln.vs Ln.ll
  simp only [List.length_cons, List.length_nil, lcells_line]
  simp [lcells_inst, lcells_i, kl_int (d + 2) h.lab, kl_int (d + 2) h.to, hi]
set_option maxRecDepth 100000 in
theorem key_line : Tryd.prog.keyTypeAt 4 37 = true := by kernel_rfl
theorem form_line (l : Ln) : (Value.agg l.vs).formed Tryd.prog 37 = true := by
  simp [Value.formed, Tryd.underlying37, lcells_line, Ln.vs]
theorem ln_eq {a b : Ln} (h : a.vs = b.vs) : a = b := by
  obtain ⟨a0, ⟨a1, a2, a3, a4, a5, a6, a7, a8, a9⟩, a10⟩ := a
  obtain ⟨b0, ⟨b1, b2, b3, b4, b5, b6, b7, b8, b9⟩, b10⟩ := b
  unfold Ln.vs at h
  simp only [Array.mk.injEq, List.cons.injEq, Value.int.injEq, true_and, and_true] at h
  obtain ⟨rfl, rfl, rfl, rfl, rfl, rfl, rfl, rfl, rfl, rfl, rfl⟩ := h
  rfl
theorem ll_eq {a b : Ln} (h : a.ll = b.ll) : a = b := by
  obtain ⟨a0, ⟨a1, a2, a3, a4, a5, a6, a7, a8, a9⟩, a10⟩ := a
  obtain ⟨b0, ⟨b1, b2, b3, b4, b5, b6, b7, b8, b9⟩, b10⟩ := b
  unfold Ln.ll at h
  simp only [List.cons.injEq, Lit.int.injEq, true_and, and_true] at h
  obtain ⟨rfl, rfl, rfl, rfl, rfl, rfl, rfl, rfl, rfl, rfl, rfl⟩ := h
  rfl
/-- two lines compared -/
theorem lnEq {s t : Ln} (hs : s.wf) (ht : t.wf) (W : World) : ∃ r : Bool, (Op.equalIn 10000 37 (.agg s.vs) (.agg t.vs)).run Tryd.prog W = .ok r W ∧ (r = true ↔ s = t) := by
  obtain ⟨r, h1, h2⟩ := run_equalIn_deep (P := Tryd.prog) 9996 4 37 key_line W 4 4 _ _ _ _ (form_line s) (form_line t) (kl_line 0 hs) (kl_line 0 ht)
  exact ⟨r, h1, h2.trans ⟨fun e => ll_eq e, fun e => by rw [e]⟩⟩
/-- the labels' places, as a map has them -/
def LbD (ls : List Ln) (D : DataW Unit) : Prop := IsMap D ∧ ∀ k : Int, has D (.int .i64 k) = hasL ls k ∧ (∀ p, 0 < k → look ls k = some p → ∀ z, D.atKey (.int .i64 k) z = .lit (.int .i64 (p : Int))) ∧ (hasL ls k = false → ∀ z, D.atKey (.int .i64 k) z = z)
theorem LbD.nil : LbD [] (.map []) := ⟨isMap_empty, fun k => ⟨by simp [has, hasL], fun p _ h => (by rw [look_nil] at h; cases h), fun _ z => rfl⟩⟩
theorem isKey_int (k : Int) : WideAt.IsKeyLit (.int .i64 k) := trivial
theorem key_ne {a b : Int} (h : a ≠ b) : (Lit.int .i64 a) ≠ .int .i64 b := fun e => h (by injection e)
theorem hasL_snoc (ls : List Ln) (l : Ln) (k : Int) : hasL (ls ++ [l]) k = (decide (0 < k) && ((ls.any fun x => decide (x.lab = k)) || decide (l.lab = k))) := by unfold hasL; simp
theorem LbD.yes {ls : List Ln} {D : DataW Unit} (h : LbD ls D) {l : Ln} (h0 : 0 < l.lab) : LbD (ls ++ [l]) (D.put (.int .i64 l.lab) (.lit (.int .i64 ((upL (ls ++ [l]) : Nat) : Int)))) := by
  refine ⟨h.1.put _ _, fun k => ?_⟩
  obtain ⟨h1, h2, h3⟩ := h.2 k
  by_cases e : k = l.lab
  · subst e
    refine ⟨?_, fun p hp hl z => ?_, fun hn => ?_⟩
    · rw [has_put_same h.1 (isKey_int _), hasL_snoc]
      simp [h0]
    · rw [look_snoc, if_pos rfl] at hl
      cases hl
      exact atKey_put_same h.1 (isKey_int _) _ _
    · rw [hasL_snoc] at hn
      simp [h0] at hn
  · refine ⟨?_, fun p hp hl z => ?_, fun hn z => ?_⟩
    · rw [has_put_other (key_ne e), h1, hasL_snoc]
      unfold hasL
      rw [show decide (l.lab = k) = false from decide_eq_false (fun e' => e e'.symm), Bool.or_false]
    · rw [look_snoc, if_neg (fun e' => e e'.symm)] at hl
      rw [atKey_put_other (key_ne e)]
      exact h2 p hp hl z
    · rw [atKey_put_other (key_ne e)]
      refine h3 ?_ z
      rw [hasL_snoc, show decide (l.lab = k) = false from decide_eq_false (fun e' => e e'.symm), Bool.or_false] at hn
      exact hn
theorem LbD.no {ls : List Ln} {D : DataW Unit} (h : LbD ls D) {l : Ln} (h0 : ¬ 0 < l.lab) : LbD (ls ++ [l]) D := by
  refine ⟨h.1, fun k => ?_⟩
  obtain ⟨h1, h2, h3⟩ := h.2 k
  by_cases hk : 0 < k
  · have e : decide (l.lab = k) = false := decide_eq_false (fun e' => by omega)
    have e2 : hasL (ls ++ [l]) k = hasL ls k := by rw [hasL_snoc, e, Bool.or_false]; rfl
    rw [e2]
    refine ⟨h1, fun p hp hl z => ?_, h3⟩
    rw [look_snoc, if_neg (fun e' => by omega)] at hl
    exact h2 p hp hl z
  · have e2 : hasL (ls ++ [l]) k = false := by rw [hasL_snoc]; simp [hk]
    have e3 : hasL ls k = false := by unfold hasL; simp [hk]
    rw [e2]
    exact ⟨by rw [h1, e3], fun p hp => absurd hp hk, fun _ => h3 e3⟩
/-- the labels that have come, as a map has them -/
def AhD (pre : List Ln) (D : DataW Unit) : Prop := IsMap D ∧ ∀ k : Int, has D (.int .i64 k) = dupL pre k
theorem AhD.nil : AhD [] (.map []) := ⟨isMap_empty, fun k => by simp [has, dupL]⟩
theorem AhD.put {pre : List Ln} {D : DataW Unit} (h : AhD pre D) (l : Ln) (d : DataW Unit) : AhD (pre ++ [l]) (D.put (.int .i64 l.lab) d) := by
  refine ⟨h.1.put _ _, fun k => ?_⟩
  unfold dupL
  rw [List.any_append]
  by_cases e : k = l.lab
  · subst e
    rw [has_put_same h.1 (isKey_int _)]
    simp
  · rw [has_put_other (key_ne e), h.2 k]
    have e2 : decide (l.lab = k) = false := decide_eq_false (fun e' => e e'.symm)
    simp [dupL, e2]
theorem wf_fresh {l : Ln} (h : l.wf) : (⟨l.lab, zI, 0⟩ : Ln).wf := ⟨h.lab, zI_wf, i64_0⟩
set_option maxRecDepth 100000 in
theorem zeroU (w : World) : (zeroValue 65).run Tryd.prog w = .ok (.agg #[]) w := by kernel_rfl
set_option maxRecDepth 100000 in
set_option maxHeartbeats 4000000 in
theorem fltLab_l (W : World) (l : Ln) (hl : l.wf) (h0 : l.lab ≠ 0) (am n0 : Nat) (pre : List Ln) (D : DataW Unit) (hown : W.ownsMap Tryd.prog 3 unitElem am n0 D) (hA : AhD pre D) :
    Calls Tryd.prog 38 #[.agg l.vs, .map (some am)] W fun e W' => e = .returned (.int .i64 (if l.lab < 0 ∨ l.ins ≠ zI ∨ l.to ≠ 0 then 2 else if dupL pre l.lab then 6 else 0)) ∧ Below W.heap.size W W' := by
  have HB0 : Hid (Below W.heap.size W (W.alloc (.cells l.vs 37))) := Lib.hid (bel_al _)
  have HL0 := Lib.hid (Bk.new W 37 l.vs)
  have hown0 := own_below hown HB0.out
  have HAD := Lib.hid (hA.2 l.lab)
  have HKEY : Hid (keyOf Tryd.prog 3 (.int .i64 l.lab) = some (.int .i64 l.lab)) := Lib.hid (keyOf_int_mk Tryd.underlying3 (i64_lit hl.lab))
  obtain ⟨r, hr1, hr2⟩ : ∃ r : Bool, (∀ X, (Op.equalIn 10000 37 (.agg l.vs) (.agg (⟨l.lab, zI, 0⟩ : Ln).vs)).run Tryd.prog X = .ok r X) ∧ (r = true ↔ l = ⟨l.lab, zI, 0⟩) := by
    obtain ⟨r, h1, h2⟩ := lnEq hl (wf_fresh hl) W
    refine ⟨r, fun X => ?_, h2⟩
    obtain ⟨r', h1', h2'⟩ := lnEq hl (wf_fresh hl) X
    rw [h1']
    have : r' = r := by rw [Bool.eq_iff_iff, h2', h2]
    rw [this]
  have HV : Hid ((if l.lab < 0 ∨ l.ins ≠ zI ∨ l.to ≠ 0 then (2 : Int) else if dupL pre l.lab then 6 else 0) = if l.lab < 0 then 2 else if r then (if dupL pre l.lab then 6 else 0) else 2) := Lib.hid (by
    by_cases h1 : l.lab < 0
    · rw [if_pos (.inl h1), if_pos h1]
    · rw [if_neg h1]
      cases r with
      | true =>
        have e := hr2.1 rfl
        have e1 : l.ins = zI := congrArg Ln.ins e
        have e2 : l.to = 0 := congrArg Ln.to e
        rw [if_neg (by rintro (h | h | h) <;> contradiction), if_pos rfl]
      | false =>
        rw [if_pos (by
          refine .inr (Classical.byContradiction fun hn => ?_)
          have h2 : l.ins = zI ∧ l.to = 0 := ⟨Classical.byContradiction fun h => hn (.inl h), Classical.byContradiction fun h => hn (.inr h)⟩
          have : false = true := hr2.2 (by
            obtain ⟨lab, ins, tq⟩ := l
            dsimp only at h2
            rw [h2.1, h2.2])
          cases this)]
        rfl)
  rw [HV.out]
  clear HV hr2 hA hown
  generalize dupL pre l.lab = dp at *
  have hne : (l.lab == 0) = false := by rw [beq_eq_false_iff_ne]; exact h0
  obtain ⟨lab, ⟨op, d, s, t, b, x, sc, di, im⟩, tq⟩ := l
  unfold Ln.vs zI at hr1
  unfold Ln.vs at HB0 HL0 hown0
  unfold Ln.vs
  dsimp only at *
  obtain ⟨a0, a1, a2, a3, a4, a5, a6, a7, a8, a9, a10⟩ := c11 HL0.out
  clear h0 hl
  by_cases h1 : lab < 0
  · rw [if_pos h1]
    go_enter Tryd.func38, Tryd.ntmps38
    go_wp2_with fail
    go_ret
    exact ⟨rfl, HB0.out⟩
  · rw [if_neg h1]
    have h1' : 0 ≤ lab := by omega
    cases r with
    | false =>
      go_enter Tryd.func38, Tryd.ntmps38
      go_wp2_with fail
      go_ret
      exact ⟨rfl, HB0.out⟩
    | true =>
      go_enter Tryd.func38, Tryd.ntmps38
      go_wp2_with (first | (at_lookup; refine wpList_lookup_own_unit _ rfl _ _ 63 rfl 3 65 keyedN Tryd.underlying63 (zeroU _) am n0 D rfl hown0 _ _ rfl HKEY.out ?_; rw [HAD.out]) | fail)
      all_goals (go_ret; exact ⟨by simp_all, bel_tr HB0.out (bel_al _)⟩)
end Ly
end Go.Proofs.YteppmkeoedddnaaDoor
namespace Go.Proofs.YteppmkeoedddnaaDoor
open Go Go.RowKit Go.Maps
namespace Ly
open Is Nt Rt
set_option linter.unusedVariables false
set_option linter.unusedSimpArgs false
set_option maxRecDepth 100000 in
set_option maxHeartbeats 4000000 in
theorem fltJmp_l (W : World) (l : Ln) (hl : l.wf) (lm n0 : Nat) (all : List Ln) (D : DataW Unit) (hown : W.ownsMap Tryd.prog 3 (plainElem Tryd.prog 3) lm n0 D) (hA : LbD all D) :
    Calls Tryd.prog 39 #[.agg l.vs, .map (some lm)] W fun e W' => e = .returned (.int .i64 (if l.ins.im ≠ 0 then 2 else if hasL all l.to then 0 else 5)) ∧ Below W.heap.size W W' := by
  have HB0 : Hid (Below W.heap.size W (W.alloc (.cells l.vs 37))) := Lib.hid (bel_al _)
  have HL0 := Lib.hid (Bk.new W 37 l.vs)
  have hown0 := own_below hown HB0.out
  have HAD := Lib.hid (hA.2 l.to).1
  have HKEY : Hid (keyOf Tryd.prog 3 (.int .i64 l.to) = some (.int .i64 l.to)) := Lib.hid (keyOf_int_mk Tryd.underlying3 (i64_lit hl.to))
  clear hA hown hl
  generalize hasL all l.to = hb at *
  obtain ⟨lab, ⟨op, d, s, t, b, x, sc, di, im⟩, tq⟩ := l
  unfold Ln.vs at HB0 HL0 hown0
  unfold Ln.vs
  dsimp only at *
  obtain ⟨a0, a1, a2, a3, a4, a5, a6, a7, a8, a9, a10⟩ := c11 HL0.out
  by_cases h1 : im = 0
  · rw [if_neg (by simpa using h1)]
    subst h1
    go_enter Tryd.func39, Tryd.ntmps39
    go_wp2_with (first | (at_lookup; refine wpList_lookup_own_ok_int _ rfl _ _ 51 rfl 3 3 .i64 keyedN Tryd.underlying51 Tryd.underlying3 (zeroN _) lm n0 D rfl hown0 _ _ rfl HKEY.out ?_; intro c1 hat hwc; rw [HAD.out]) | fail)
    all_goals (go_ret; exact ⟨by simp_all, HB0.out⟩)
  · rw [if_pos h1]
    have hne : (im != 0) = true := by simpa using h1
    go_enter Tryd.func39, Tryd.ntmps39
    go_wp2_with fail
    go_ret
    exact ⟨rfl, HB0.out⟩
set_option maxRecDepth 100000 in
set_option maxHeartbeats 4000000 in
theorem fault_l (W : World) (hT : Tab W) (l : Ln) (hl : l.wf) (lm n0 am n1 : Nat) (all pre : List Ln) (D A : DataW Unit) (hlm : W.ownsMap Tryd.prog 3 (plainElem Tryd.prog 3) lm n0 D) (hD : LbD all D) (ham : W.ownsMap Tryd.prog 3 unitElem am n1 A) (hA : AhD pre A) :
    Calls Tryd.prog 23 #[.agg l.vs, .map (some lm), .map (some am)] W fun e W' => e = .returned (.int .i64 (fltL all pre l)) ∧ Below W.heap.size W W' := by
  have HB0 : Hid (Below W.heap.size W (W.alloc (.cells l.vs 37))) := Lib.hid (bel_al _)
  have HL0 := Lib.hid (Bk.new W 37 l.vs)
  have hlm0 := own_below hlm HB0.out
  have ham0 := own_below ham HB0.out
  have HT0 := Lib.hid (hT.keep HB0.out)
  have HC := Lib.hid (fun X h => check_l l.ins hl.ins X h)
  have HJ := Lib.hid (fun X h => ijump_l l.ins hl.ins X h)
  have HFL := Lib.hid (fun X (h0 : l.lab ≠ 0) ho => fltLab_l X l hl h0 am n1 pre A ho hA)
  have HFJ := Lib.hid (fun X ho => fltJmp_l X l hl lm n0 all D ho hD)
  have HOA := Lib.hid (fun X (hb : Below (W.alloc (.cells l.vs 37)).heap.size (W.alloc (.cells l.vs 37)) X) => own_below ham0 hb)
  have HOL := Lib.hid (fun X (hb : Below (W.alloc (.cells l.vs 37)).heap.size (W.alloc (.cells l.vs 37)) X) => own_below hlm0 hb)
  have HTX := Lib.hid (fun X (hb : Below (W.alloc (.cells l.vs 37)).heap.size (W.alloc (.cells l.vs 37)) X) => HT0.out.keep hb)
  have HLX := Lib.hid (fun X (hb : Below (W.alloc (.cells l.vs 37)).heap.size (W.alloc (.cells l.vs 37)) X) => HL0.out.below hb HL0.out.lt)
  clear hlm ham hD hA hT hl hlm0 ham0
  by_cases h0 : l.lab = 0
  · have e0 : fltL all pre l = if chk l.ins ≠ 0 then 2 else if jmpB l.ins then (if l.ins.im ≠ 0 then 2 else if hasL all l.to then 0 else 5) else if l.to ≠ 0 then 2 else 0 := by unfold fltL; rw [if_neg (by simpa using h0)]
    rw [e0]
    clear e0 HFL HOA
    generalize (if l.ins.im ≠ 0 then (2 : Int) else if hasL all l.to then 0 else 5) = fj at *
    generalize chk l.ins = ck at *
    generalize jmpB l.ins = jb at *
    obtain ⟨lab, ⟨op, d, s, t, b, x, sc, di, im⟩, tq⟩ := l
    unfold Ln.vs at *
    unfold Ins.vs at HC HJ
    dsimp only at *
    subst h0
    obtain ⟨a0, a1, a2, a3, a4, a5, a6, a7, a8, a9, a10⟩ := c11 HL0.out
    by_cases h1 : ck = 0
    · subst h1
      rw [if_neg (by decide)]
      cases jb with
      | true =>
        go_enter Tryd.func23, Tryd.ntmps23
        go_wp2_with fail
        go_at_call 27
        refine (HC.out _ HT0.out).mono ?_
        rintro e w2 ⟨rfl, hg⟩
        have HB2 := Lib.hid hg.below
        have HL2 := Lib.hid (HLX.out _ HB2.out)
        clear hg a0 a1 a2 a3 a4 a5 a6 a7 a8 a9 a10
        obtain ⟨a0, a1, a2, a3, a4, a5, a6, a7, a8, a9, a10⟩ := c11 HL2.out
        go_wp2_with fail
        go_at_call 28
        refine (HJ.out _ (HTX.out _ HB2.out)).mono ?_
        rintro e w3 ⟨rfl, hb⟩
        have HB3 := Lib.hid (bel_tr HB2.out hb)
        have HL3 := Lib.hid (HLX.out _ HB3.out)
        clear hb a0 a1 a2 a3 a4 a5 a6 a7 a8 a9 a10
        obtain ⟨a0, a1, a2, a3, a4, a5, a6, a7, a8, a9, a10⟩ := c11 HL3.out
        go_wp2_with fail
        go_at_call 39
        refine (HFJ.out _ (HOL.out _ HB3.out)).mono ?_
        rintro e w4 ⟨rfl, hb⟩
        have HB4 := Lib.hid (bel_tr HB3.out hb)
        clear hb
        go_wp2_with fail
        go_ret
        exact ⟨rfl, bel_tr HB0.out HB4.out⟩
      | false =>
        obtain ⟨fv, hfv⟩ : ∃ fv, (if false = true then fj else if tq ≠ 0 then (2 : Int) else 0) = fv := ⟨_, rfl⟩
        rw [hfv]
        have HFV := Lib.hid hfv
        clear hfv
        go_enter Tryd.func23, Tryd.ntmps23
        go_wp2_with fail
        go_at_call 27
        refine (HC.out _ HT0.out).mono ?_
        rintro e w2 ⟨rfl, hg⟩
        have HB2 := Lib.hid hg.below
        have HL2 := Lib.hid (HLX.out _ HB2.out)
        clear hg a0 a1 a2 a3 a4 a5 a6 a7 a8 a9 a10
        obtain ⟨a0, a1, a2, a3, a4, a5, a6, a7, a8, a9, a10⟩ := c11 HL2.out
        go_wp2_with fail
        go_at_call 28
        refine (HJ.out _ (HTX.out _ HB2.out)).mono ?_
        rintro e w3 ⟨rfl, hb⟩
        have HB3 := Lib.hid (bel_tr HB2.out hb)
        have HL3 := Lib.hid (HLX.out _ HB3.out)
        clear hb a0 a1 a2 a3 a4 a5 a6 a7 a8 a9 a10
        obtain ⟨a0, a1, a2, a3, a4, a5, a6, a7, a8, a9, a10⟩ := c11 HL3.out
        by_cases h2 : tq = 0
        · subst h2
          go_wp2_with fail
          go_ret
          exact ⟨by rw [← HFV.out]; simp, bel_tr HB0.out HB3.out⟩
        · have hne : (tq != 0) = true := by simpa using h2
          have HN := Lib.hid h2
          clear h2
          go_wp2_with fail
          go_ret
          exact ⟨by rw [← HFV.out]; simp [HN.out], bel_tr HB0.out HB3.out⟩
    · rw [if_pos h1]
      have hne : (ck != 0) = true := by simpa using h1
      go_enter Tryd.func23, Tryd.ntmps23
      go_wp2_with fail
      go_at_call 27
      refine (HC.out _ HT0.out).mono ?_
      rintro e w2 ⟨rfl, hg⟩
      have HB2 := Lib.hid hg.below
      clear hg a0 a1 a2 a3 a4 a5 a6 a7 a8 a9 a10
      go_wp2_with fail
      go_ret
      exact ⟨rfl, bel_tr HB0.out HB2.out⟩
  · have e0 : fltL all pre l = (if l.lab < 0 ∨ l.ins ≠ zI ∨ l.to ≠ 0 then 2 else if dupL pre l.lab then 6 else 0) := by unfold fltL; rw [if_pos h0]
    rw [e0]
    have HF := Lib.hid (fun X ho => HFL.out X h0 ho)
    have hne : (l.lab != 0) = true := by simpa using h0
    clear e0 HFL HFJ HC HJ HTX HT0
    generalize (if l.lab < 0 ∨ l.ins ≠ zI ∨ l.to ≠ 0 then (2 : Int) else if dupL pre l.lab then 6 else 0) = fv at *
    obtain ⟨lab, ⟨op, d, s, t, b, x, sc, di, im⟩, tq⟩ := l
    unfold Ln.vs at *
    dsimp only at *
    obtain ⟨a0, a1, a2, a3, a4, a5, a6, a7, a8, a9, a10⟩ := c11 HL0.out
    go_enter Tryd.func23, Tryd.ntmps23
    go_wp2_with fail
    go_at_call 38
    refine (HF.out _ (HOA.out _ (Below.refl _ _))).mono ?_
    rintro e w2 ⟨rfl, hb⟩
    have HB2 := Lib.hid (bel_tr HB0.out hb)
    clear hb
    go_wp2_with fail
    go_ret
    exact ⟨rfl, HB2.out⟩
end Ly
end Go.Proofs.YteppmkeoedddnaaDoor
namespace Go.Proofs.YteppmkeoedddnaaDoor
open Go Go.RowKit Go.Shelf Go.Maps
namespace Ly
open Is Nt Rt
set_option linter.unusedVariables false
set_option linter.unusedSimpArgs false
attribute [local go_sem] Oper.semAt_some
theorem tx_go {w A B : World} {S : Nat → Prop} {Bn : Nat} (h : Tn S w A) (k : Tx Bn S A B) (hB : w.heap.size ≤ Bn) : Tn S w B := h.trans k.tn (fun j hj hl => hj.elim id (fun h' => absurd h' (by omega)))
theorem tx_bk {A B : World} {S : Nat → Prop} {Bn g : Nat} {t : TypeId} {cs : Array Value} (k : Tx Bn S A B) (h : Bk A g t cs) (hn : ¬ S g) : Bk B g t cs := k.block g _ h hn (fun _ => rfl)
theorem tx_sz {A B : World} {S : Nat → Prop} {Bn c mp : Nat} (k : Tx Bn S A B) (h : SzE c mp A) (hn : ¬ S mp) (hB : mp < Bn) : SzE c mp B := by
  obtain ⟨n, D, ⟨es, cl, h1, h2⟩, h3⟩ := h
  exact ⟨n, D, ⟨es, cl, k.block mp _ h1 hn (fun h' => absurd h' (by omega)), h2⟩, h3⟩
theorem tx_own {A B : World} {S : Nat → Prop} {Bn : Nat} {k : TypeId} {R : Value → Option (DataW Unit × List MemPlace)} {b n : Nat} {D : DataW Unit} (x : Tx Bn S A B) (h : A.ownsMap Tryd.prog k R b n D) (hn : ¬ S b) (hB : b < Bn) : B.ownsMap Tryd.prog k R b n D := by
  obtain ⟨es, cl, h1, h2⟩ := h
  exact ⟨es, cl, x.block b _ h1 hn (fun h' => absurd h' (by omega)), h2⟩
theorem kpe_put {mp cb l : Nat} {W : World} (hl : mp < l) (hc : cb ≠ l) (hw : l < W.heap.size) (o' : Obj) : KpE mp cb W (W.putObj l o') :=
  ⟨(Below.refl _ W).grown (grownBy_putObj' W l o') (by omega) (fun k e => by cases e; omega), fun o ho => (World.putObj_heap_other hc).trans ho⟩
theorem kpe_refl (mp cb : Nat) (W : World) : KpE mp cb W W := ⟨Below.refl _ _, fun o h => h⟩
theorem kpe_set {mp cb : Nat} {W : World} (p : Addr) (hl : mp < p.block) (hc : cb ≠ p.block) (v : Value) : KpE mp cb W (W.setCell p v) :=
  ⟨(Below.refl _ W).setCell (by omega) v, fun o ho => (Below.heap_setCell W p v cb hc).trans ho⟩
theorem kpe_grown {mp cb : Nat} {W X : World} {row : Option Nat} (hg : W.grownBy X row) (hm : mp < W.heap.size) (hr : ∀ j, row = some j → mp < j ∧ j ≠ cb) : KpE mp cb W X :=
  ⟨(Below.refl _ W).grown hg (by omega) (fun k e => by have := hr k e; omega), fun o ho => (hg.block cb (Array.getElem?_eq_some_iff.1 ho).1 (fun e => (hr cb e.symm).2 rfl)).trans ho⟩
theorem len_range (x : Nat) : (List.range x ++ [x]).length = x + 1 := by simp
theorem enters_each : ∀ args w, (callFunc 40 args).run Tryd.prog w = .ok (.enter 40 args) w := enters_of Tryd.func40 (by kernel_rfl) rfl
set_option maxRecDepth 100000 in
set_option maxHeartbeats 4000000 in
theorem end_in (n : Nat) (hn : 2 ≤ n) (A : Option Addr) (cap mp c : Nat) (ls : List Ln) (hN : ls.length ≤ 1000) (hc : c ≤ 80000) (w : World) (hT : TabE w) (hG : G3 mp) (hR : RdL w mp A ls.length ls) (hS : SzE c mp w) :
    CallsIn Fence.wide n Tryd.prog 24 #[.agg #[.slice A ls.length cap, .map (some mp)]] w fun e W' => e = .returned (.int .i64 ((upL ls : Nat) : Int)) ∧ Tn (fun k => k = mp) w W' ∧ SzE (c + ls.length) mp W' := by
  have hml := hS.lt
  have HT := Lib.hid hT
  have HR := Lib.hid hR
  have HS := Lib.hid hS
  clear hT hR hS
  refine callsIn_of_wp_marks Tryd.func24 rfl trivial ?_ rfl
  simp only [Tryd.ntmps24, List.size_toArray, List.length_cons, List.length_nil, Nat.reduceAdd, Nat.reduceSub, Array.replicate_succ, Array.replicate_zero, List.push_toArray, List.append_toArray, List.nil_append, List.cons_append]
  have hb0 : ((w.alloc (.cells #[.slice A ls.length cap, .map (some mp)] 48)).alloc (.cells #[.int .i64 0] 3)).cell? ⟨w.heap.size, 0, none⟩ = some (.slice A ls.length cap) := (Bk.alloc (Bk.new w 48 #[.slice A ls.length cap, .map (some mp)]) (.cells #[.int .i64 0] 3)).cell 0
  have hb1 : ((w.alloc (.cells #[.slice A ls.length cap, .map (some mp)] 48)).alloc (.cells #[.int .i64 0] 3)).cell? ⟨w.heap.size, 1, none⟩ = some (.map (some mp)) := (Bk.alloc (Bk.new w 48 #[.slice A ls.length cap, .map (some mp)]) (.cells #[.int .i64 0] 3)).cell 1
  gi_wp2
  refine ⟨trivial, fun h => (by cases h), ?_⟩
  refine (each_in _ A ls.length cap mp _).mono ?_
  rintro e W0 ⟨rfl, hw2⟩
  have hs0 : W0.heap.size = w.heap.size + 3 := by rw [hw2]; simp
  have HB0 : Below w.heap.size w W0 := by rw [hw2]; exact bel_tr (bel_tr (bel_al _) (bel_al _)) (bel_al _)
  have HE0 : Bk W0 (w.heap.size + 1) 3 #[.int .i64 0] := by rw [hw2]; exact (Bk.new' (by simp)).alloc _
  have HC0 : Bk W0 (w.heap.size + 2) 48 #[.slice A ls.length cap, .map (some mp)] := by rw [hw2]; exact Bk.new' (by simp)
  have e2 : ((w.alloc (.cells #[.slice A ls.length cap, .map (some mp)] 48)).alloc (.cells #[.int .i64 0] 3)).heap.size = w.heap.size + 2 := by simp
  rw [e2]
  clear hw2 e2 hb0 hb1
  gi_wp2
  refine range_t (α := Nat) rfl (by omega) (gf := 40) (lb := #[.pointer (some ⟨w.heap.size + 2, 0, none⟩)]) rfl trivial enters_each (each_t (n - 1) (by omega) (w.heap.size + 2) mp c cap A ls hN (by omega) W0 (HT.out.keep HB0) hG (HR.out.below (HB0.mono (Nat.le_of_lt hml))) HC0 (by omega) (HS.out.below HB0)) (Below.refl _ _) (fun k e => by subst e; omega) (fun h k => h.trans k)
    (fun X l o o' hl ho _ => kpe_put (by omega) (by omega) (Array.getElem?_eq_some_iff.1 ho).1 o') (fun _ => rfl) (fun _ _ _ _ _ h _ => h) (fun xs X Y h k => ⟨h.1, tx_sz k h.2 (fun h => h) (by omega)⟩)
    (fun pre X => Bk X (w.heap.size + 1) 3 #[.int .i64 ((upL (ls.take pre.length) : Nat) : Int)] ∧ Tn (fun k => k = mp) w X) ?stay ⟨HE0, Tn.of_below HB0⟩
    (fun pre x a' _ => a' = { tmps := #[.agg #[.slice A ls.length cap, .map (some mp)], .pointer (some ⟨w.heap.size, 0, none⟩), .int .i64 0, .pointer (some ⟨w.heap.size + 1, 0, none⟩), .int .i64 ((upL (ls.take (x + 1)) : Nat) : Int), .agg #[.slice A ls.length cap, .map (some mp)], .func (.func 40) #[] #[.pointer (some ⟨w.heap.size + 2, 0, none⟩)], .int .i64 ((upL (ls.take (x + 1)) : Nat) : Int), .agg (lnA ls x).vs, undef, undef], defers := [] }) (fun _ _ _ _ _ _ h _ => h) ?assign ?body ?done
  case stay =>
    rintro s X Y ⟨h1, h2⟩ k
    exact ⟨tx_bk k h1 (by omega), tx_go h2 k (by omega)⟩
  case assign =>
    rintro l pre x X K hi hy hlen hK
    unfold encB
    gi_wp2
    exact hK _ _ (KeepsFrom.refl _ _) (kpe_refl _ _ _) hi hy rfl
  case body =>
    rintro l pre x a' X hl _ ⟨hb, ht⟩ ⟨rfl, hx⟩ rfl hlen
    have hcell := hb.cell 0
    have hfr := hb.frozen 0
    dsimp at hcell
    gi_wp2
    refine ⟨(KeepsOthers.setCell _ _ _).from _, kpe_set _ (by show mp < w.heap.size + 1; omega) (by show w.heap.size + 2 ≠ w.heap.size + 1; omega) _, ?_, ht.setCell _ (fun h => by have h2 : w.heap.size + 1 < w.heap.size := h; omega) _⟩
    rw [len_range]
    exact hb.set_ 0 _
  case done =>
    rintro D xs X hD ⟨rfl, hsz⟩ ⟨hb, ht⟩ hK
    rw [List.length_range, List.take_of_length_le (Nat.le_refl _)] at hb
    have hcell := hb.cell 0
    dsimp at hcell
    gi_wp2
    refine ⟨by simp, .inl ⟨_, _, rfl, run_takeDeferred hK, ?_⟩⟩
    exact ⟨_, results_tmp rfl _ _ _, rfl, ht.putObj D (fun h => by omega) _, hsz.same (World.putObj_heap_other (by omega))⟩
end Ly
end Go.Proofs.YteppmkeoedddnaaDoor
namespace Go.Proofs.YteppmkeoedddnaaDoor
open Go Go.RowKit Go.Shelf Go.Maps
namespace Ly
open Is Nt Rt
set_option linter.unusedVariables false
set_option linter.unusedSimpArgs false
attribute [local go_sem] Oper.semAt_some
theorem kpe_al {mp cb : Nat} {W : World} (hm : mp < W.heap.size) (o : Obj) : KpE mp cb W (W.alloc o) := ⟨(Below.refl _ W).alloc (by omega) o, fun x hx => (Below.heap_alloc W o cb (Array.getElem?_eq_some_iff.1 hx).1).trans hx⟩
/-- the box of the loop's line -/
def BoxL (X : World) (Bx : Nat) (l : Ln) : Prop := Bk X Bx 37 l.vs
theorem lnA_wf {ls : List Ln} (h : ∀ l ∈ ls, l.wf) {x : Nat} (hx : x < ls.length) : (lnA ls x).wf := h _ (List.mem_of_getElem? (lnA_at hx))
/-- the labels' places of these lines, in block b -/
def LbE (ls : List Ln) (c b : Nat) (W : World) : Prop := ∃ n D, W.ownsMap Tryd.prog 3 (plainElem Tryd.prog 3) b n D ∧ n ≤ c ∧ LbD ls D
theorem LbE.lt {ls : List Ln} {c b : Nat} {W : World} (h : LbE ls c b W) : b < W.heap.size := by
  obtain ⟨n, D, h1, h2, h3⟩ := h
  exact h1.lt
theorem LbE.same {ls : List Ln} {c b : Nat} {W W' : World} (h : LbE ls c b W) (e : W'.heap[b]? = W.heap[b]?) : LbE ls c b W' := by
  obtain ⟨n, D, ⟨es, cl, h1, h2⟩, h3⟩ := h
  exact ⟨n, D, ⟨es, cl, e.trans h1, h2⟩, h3⟩
theorem LbE.tx {A B : World} {S : Nat → Prop} {Bn c b : Nat} {ls : List Ln} (k : Tx Bn S A B) (h : LbE ls c b A) (hn : ¬ S b) (hB : b < Bn) : LbE ls c b B := by
  obtain ⟨n, D, h1, h2⟩ := h
  exact ⟨n, D, tx_own k h1 hn hB, h2⟩
set_option maxRecDepth 100000 in
set_option maxHeartbeats 4000000 in
theorem labels_in (n : Nat) (hn : 2 ≤ n) (A : Option Addr) (cap mp c : Nat) (ls : List Ln) (hN : ls.length ≤ 1000) (hc : c ≤ 80000) (w : World) (hT : TabE w) (hG : G3 mp) (hR : RdL w mp A ls.length ls) (hS : SzE c mp w) :
    CallsIn Fence.wide n Tryd.prog 16 #[.agg #[.slice A ls.length cap, .map (some mp)]] w fun e W' => e = .returned (.map (some (w.heap.size + 1))) ∧ LbE ls ls.length (w.heap.size + 1) W' ∧ Tn (fun k => k = mp) w W' ∧ SzE (c + ls.length) mp W' := by
  have hml := hS.lt
  have HT := Lib.hid hT
  have HR := Lib.hid hR
  have HS := Lib.hid hS
  have HLW := Lib.hid hR.oks
  have hmm := @run_makeMap Tryd.prog
  clear hT hR hS
  refine callsIn_of_wp_marks Tryd.func16 rfl trivial ?_ rfl
  simp only [Tryd.ntmps16, List.size_toArray, List.length_cons, List.length_nil, Nat.reduceAdd, Nat.reduceSub, Array.replicate_succ, Array.replicate_zero, List.push_toArray, List.append_toArray, List.nil_append, List.cons_append]
  have hb0 : (((w.alloc (.cells #[.slice A ls.length cap, .map (some mp)] 48)).alloc (.map #[] 0)).alloc (.cells #[.map (some (w.heap.size + 1))] 51)).cell? ⟨w.heap.size, 0, none⟩ = some (.slice A ls.length cap) := (Bk.alloc (Bk.alloc (Bk.new w 48 #[.slice A ls.length cap, .map (some mp)]) (.map #[] 0)) (.cells #[.map (some (w.heap.size + 1))] 51)).cell 0
  have hb1 : (((w.alloc (.cells #[.slice A ls.length cap, .map (some mp)] 48)).alloc (.map #[] 0)).alloc (.cells #[.map (some (w.heap.size + 1))] 51)).cell? ⟨w.heap.size, 1, none⟩ = some (.map (some mp)) := (Bk.alloc (Bk.alloc (Bk.new w 48 #[.slice A ls.length cap, .map (some mp)]) (.map #[] 0)) (.cells #[.map (some (w.heap.size + 1))] 51)).cell 1
  gi_wp2
  refine ⟨trivial, fun h => (by cases h), ?_⟩
  refine (each_in _ A ls.length cap mp _).mono ?_
  rintro e W0 ⟨rfl, hw2⟩
  have hs0 : W0.heap.size = w.heap.size + 4 := by rw [hw2]; simp
  have HB0 : Below w.heap.size w W0 := by rw [hw2]; exact bel_tr (bel_tr (bel_tr (bel_al _) (bel_al _)) (bel_al _)) (bel_al _)
  have HE0 : Bk W0 (w.heap.size + 2) 51 #[.map (some (w.heap.size + 1))] := by rw [hw2]; exact (Bk.new' (by simp)).alloc _
  have HM0 : LbE [] 0 (w.heap.size + 1) W0 := by
    have h := World.ownsMap_made (w.alloc (.cells #[.slice A ls.length cap, .map (some mp)] 48)) Tryd.prog 3 (plainElem (H := Unit) Tryd.prog 3)
    rw [World.size_alloc] at h
    rw [hw2]
    exact ⟨0, _, (h.alloc _).alloc _, Nat.le_refl _, LbD.nil⟩
  have HC0 : Bk W0 (w.heap.size + 3) 48 #[.slice A ls.length cap, .map (some mp)] := by rw [hw2]; exact Bk.new' (by simp)
  have e2 : (((w.alloc (.cells #[.slice A ls.length cap, .map (some mp)] 48)).alloc (.map #[] 0)).alloc (.cells #[.map (some (w.heap.size + 1))] 51)).heap.size = w.heap.size + 3 := by simp
  rw [e2]
  clear hw2 e2 hb0 hb1
  gi_wp2
  refine range_t (α := Nat) rfl (by omega) (gf := 40) (lb := #[.pointer (some ⟨w.heap.size + 3, 0, none⟩)]) rfl trivial enters_each (each_t (n - 1) (by omega) (w.heap.size + 3) mp c cap A ls hN (by omega) W0 (HT.out.keep HB0) hG (HR.out.below (HB0.mono (Nat.le_of_lt hml))) HC0 (by omega) (HS.out.below HB0)) (Below.refl _ _) (fun k e => by subst e; omega) (fun h k => h.trans k)
    (fun X l o o' hl ho _ => kpe_put (by omega) (by omega) (Array.getElem?_eq_some_iff.1 ho).1 o') (fun _ => rfl) (fun _ _ _ _ _ h _ => h) (fun xs X Y h k => ⟨h.1, tx_sz k h.2 (fun h => h) (by omega)⟩)
    (fun pre X => Bk X (w.heap.size + 2) 51 #[.map (some (w.heap.size + 1))] ∧ LbE (ls.take pre.length) pre.length (w.heap.size + 1) X ∧ Tn (fun k => k = mp) w X ∧ w.heap.size + 4 ≤ X.heap.size) ?stay ⟨HE0, HM0, Tn.of_below HB0, by omega⟩
    (fun pre x a' X => ∃ Bx, w.heap.size + 4 ≤ Bx ∧ BoxL X Bx (lnA ls x) ∧ a' = { tmps := #[.agg #[.slice A ls.length cap, .map (some mp)], .pointer (some ⟨w.heap.size, 0, none⟩), .map none, .pointer (some ⟨w.heap.size + 2, 0, none⟩), .int .i64 ((upL (ls.take (x + 1)) : Nat) : Int), .pointer (some ⟨Bx, 0, none⟩), .map (some (w.heap.size + 1)), .agg #[.slice A ls.length cap, .map (some mp)], .func (.func 40) #[] #[.pointer (some ⟨w.heap.size + 3, 0, none⟩)], .int .i64 ((upL (ls.take (x + 1)) : Nat) : Int), .agg (lnA ls x).vs, undef, undef, undef, undef, undef, undef, undef, undef], defers := [] }) (fun _ _ _ _ _ _ h k => (by obtain ⟨Bx, h1, h2, h3⟩ := h; exact ⟨Bx, h1, tx_bk k h2 (fun h => h), h3⟩)) ?assign ?body ?done
  case stay =>
    rintro s X Y ⟨h1, h2, h3, h4⟩ k
    exact ⟨tx_bk k h1 (by omega), h2.tx k (by omega) (by omega), tx_go h3 k (by omega), Nat.le_trans h4 k.size⟩
  case assign =>
    rintro l pre x X K hi hy hlen hK
    obtain ⟨h1, h2, h3, h4⟩ := hi
    have HI := Lib.hid (show ∀ o, _ from fun o => (⟨h1.alloc o, h2.same ((bel_al o).block _ h2.lt), h3.alloc o, by rw [World.size_alloc]; omega⟩ : Bk (X.alloc o) (w.heap.size + 2) 51 #[.map (some (w.heap.size + 1))] ∧ LbE (ls.take pre.length) pre.length (w.heap.size + 1) (X.alloc o) ∧ Tn (fun k => k = mp) w (X.alloc o) ∧ w.heap.size + 4 ≤ (X.alloc o).heap.size))
    have HX := Lib.hid (show BoxL (X.alloc (.cells (lnA ls x).vs 37)) X.heap.size (lnA ls x) from Bk.new _ _ _)
    unfold encB
    generalize hii : lnA ls x = ii at *
    obtain ⟨lab, ⟨op, d, s, t, b, xx, sc, di, im⟩, tq⟩ := ii
    unfold Ln.vs at HX ⊢
    dsimp only at *
    gi_wp2
    exact hK _ _ ((KeepsOthers.alloc _ _).from _) (kpe_al (by omega) _) (HI.out _) hy ⟨X.heap.size, h4, HX.out, rfl⟩
  case body =>
    rintro l pre x a' X hl _ ⟨h1, h2, h3, h4⟩ ⟨rfl, hx⟩ ⟨Bx, hBx, hk, rfl⟩ hlen
    rw [List.length_range] at h2
    obtain ⟨n0, D, hown, hn0, hD⟩ := h2
    have HW := Lib.hid (lnA_wf HLW.out hx)
    have HTA := Lib.hid (take_at hx)
    have HUP : Hid (upL (ls.take (x + 1)) ≤ 11000) := Lib.hid (by
      have h5 := upL_le (ls.take (x + 1))
      have h6 : (ls.take (x + 1)).length ≤ 1000 := by rw [List.length_take]; omega
      omega)
    have HYES := Lib.hid (fun h0 => by have h := hD.yes (l := lnA ls x) h0; rw [← HTA.out] at h; exact h)
    have HNO := Lib.hid (fun h0 => by have h := hD.no (l := lnA ls x) h0; rw [← HTA.out] at h; exact h)
    clear hD
    have hm := h1.cell 0
    dsimp at hm
    have H1 := Lib.hid h1
    have H3 := Lib.hid h3
    unfold BoxL at hk
    clear h1 h3
    generalize lnA ls x = ii at *
    obtain ⟨lab, ⟨op, d, s, t, b, xx, sc, di, im⟩, tq⟩ := ii
    unfold Ln.vs at hk ⊢
    dsimp only at *
    obtain ⟨a0, a1, a2, a3, a4, a5, a6, a7, a8, a9, a10⟩ := c11 hk
    have hup := HUP.out
    have HLAB := Lib.hid HW.out.lab
    clear hk HW
    by_cases h0 : 0 < lab
    · have HY := Lib.hid (HYES.out h0)
      clear HYES HNO
      generalize upL (ls.take (x + 1)) = up at *
      gi_wp2_with (first | (gi_at_mapUpdate; refine wpListIn_mapUpdate_own _ rfl _ _ _ 51 rfl 3 3 keyedN Tryd.underlying51 _ (w.heap.size + 1) n0 D rfl hown (by simp only [maxLen]; omega) _ _ (.int .i64 lab) rfl rfl (keyOf_int_mk Tryd.underlying3 (i64_lit HLAB.out)) (.lit (.int .i64 (up : Int))) [] (plainElem_int Tryd.underlying3 (i64_lit ⟨by omega, by omega⟩)) ?_; intro w3 hown3 hgrow) | fail)
      refine ⟨KeepsFrom.of_grownBy hgrow (fun j e => by cases e; omega), kpe_grown hgrow (by omega) (fun j e => by cases e; omega), (hgrow.block _ H1.out.lt (by intro e; injection e with e; omega)).trans H1.out, ?_, H3.out.grown hgrow (fun j e hj => by cases e; omega), Nat.le_trans h4 hgrow.size⟩
      rw [len_range]
      exact ⟨n0 + 1, _, hown3, by omega, HY.out⟩
    · have HN := Lib.hid (HNO.out h0)
      clear HYES HNO
      have h0' : lab ≤ 0 := by omega
      gi_wp2
      refine ⟨KeepsFrom.refl _ _, kpe_refl _ _ _, H1.out, ?_, H3.out, h4⟩
      rw [len_range]
      exact ⟨n0, _, hown, by omega, HN.out⟩
  case done =>
    rintro D xs X hD ⟨rfl, hsz⟩ ⟨hb, hm, ht, _⟩ hK
    rw [List.length_range, List.take_of_length_le (Nat.le_refl _)] at hm
    have hcell := hb.cell 0
    dsimp at hcell
    gi_wp2
    refine ⟨by simp, .inl ⟨_, _, rfl, run_takeDeferred hK, ?_⟩⟩
    exact ⟨_, results_tmp rfl _ _ _, rfl, hm.same (World.putObj_heap_other (by omega)), ht.putObj D (fun h => by omega) _, hsz.same (World.putObj_heap_other (by omega))⟩
end Ly
end Go.Proofs.YteppmkeoedddnaaDoor
