/- The landed package step: what is seen. -/
import Derived.Test.YtikbnfhnimjmmaaGreatDoorS12
namespace Go.Proofs.YtikbnfhnimjmmaaGreatDoor
open Go Go.RowKit Go.Shelf
namespace Sp
open Wd Nt Mm Is
set_option linter.unusedVariables false
set_option linter.unusedSimpArgs false
structure M4 (w : World) (s : Stt) (i : Ins) (t : Ev) (n : Stt) (W : World) : Prop where
  s : Bk W w.heap.size 42 s.vs
  i : Bk W (w.heap.size + 1) 26 i.vs
  t : Bk W (w.heap.size + 1 + 1) 51 t.vs
  n : Bk W (w.heap.size + 1 + 1 + 1) 42 n.vs
  b : Below w.heap.size w W
theorem M4.new (w : World) (s : Stt) (i : Ins) (t : Ev) (n : Stt) : M4 w s i t n ((((w.alloc (.cells s.vs 42)).alloc (.cells i.vs 26)).alloc (.cells t.vs 51)).alloc (.cells n.vs 42)) :=
  ⟨(((Bk.new w _ _).alloc _).alloc _).alloc _, ((Bk.new' (w := w.alloc _) (by simp)).alloc _).alloc _, (Bk.new' (w := (w.alloc _).alloc _) (by simp)).alloc _, Bk.new' (w := ((w.alloc _).alloc _).alloc _) (by simp), bel_al (bel_al (bel_al (bel_alloc _) _) _) _⟩
theorem M4.drew {w W : World} {s : Stt} {i : Ins} {t : Ev} {n : Stt} (h : M4 w s i t n W) : M4 w s i t n W.drew := ⟨h.s, h.i, h.t, h.n, h.b.drew⟩
theorem M4.below {w W X : World} {s : Stt} {i : Ins} {t : Ev} {n : Stt} (h : M4 w s i t n W) (hb : Below W.heap.size W X) : M4 w s i t n X :=
  ⟨h.s.below hb h.s.lt, h.i.below hb h.i.lt, h.t.below hb h.t.lt, h.n.below hb h.n.lt, bel_tr h.b hb⟩
def e3 (a b c : Ev) : Nat → Ev := fun j => if j = 0 then a else if j = 1 then b else c
theorem E3.new {w : World} {g : Nat} {a b c : Ev} (h : Bk w g 51 #[.int .i64 a.k, .int .u64 a.a, .int .i64 b.k, .int .u64 b.a, .int .i64 c.k, .int .u64 c.a]) : E3 w g (e3 a b c) :=
  ⟨h.lt, fun j hj => by rcases (show j = 0 ∨ j = 1 ∨ j = 2 by omega) with rfl | rfl | rfl <;> exact ⟨h.cell _, h.cell _⟩, fun j => h.frozen j⟩
def evL (pc : Int) (t g : Ev) : List Ev := [⟨1, pc⟩, t, g].filter (fun e => decide (e ≠ ev0))
def SeenP (l : List Ev) (w : World) (e : Ending) (w' : World) : Prop := ∃ A n c, e = .returned (.slice A n c) ∧ Hid (RdE w' w'.heap.size A n l) ∧ n ≤ c ∧ c ≤ 3 ∧ (∀ ad, A = some ad → w.heap.size ≤ ad.block) ∧ Below w.heap.size w w'
theorem del_any (a b c : Ev) (ha : a ≠ ev0) (g : Nat) (w : World) (hE : E3 w g (e3 a b c)) (w0 : World) (hg : w0.heap.size ≤ g) (hw : w0.heap.size ≤ w.heap.size) (hw0 : Below w0.heap.size w0 w) :
    Calls Tryz.prog 121 #[.slice (some ⟨g, 0, none⟩) 3 3, .func (.func 122) #[] #[]] w (SeenP ([a, b, c].filter (fun e => decide (e ≠ ev0))) w0) := by
  have ha' : decide (a ≠ ev0) = true := decide_eq_true ha
  by_cases hb : b = ev0
  · have hb' : decide (b ≠ ev0) = false := decide_eq_false (fun h => h hb)
    by_cases hc : c = ev0
    · have hc' : decide (c ≠ ev0) = false := decide_eq_false (fun h => h hc)
      have el : [a, b, c].filter (fun e => decide (e ≠ ev0)) = [a] := by simp only [List.filter, ha', hb', hc']
      rw [el]
      refine (delD_l (e3 a b c) ha hb hc g w hE w0.heap.size hg hw w0 hw0).mono ?_
      rintro x y ⟨rfl, h1, h2⟩
      exact ⟨_, _, _, rfl, Lib.hid h1, by omega, by omega, fun ad h => by cases h; exact hg, h2⟩
    · have hc' : decide (c ≠ ev0) = true := decide_eq_true hc
      have el : [a, b, c].filter (fun e => decide (e ≠ ev0)) = [a, c] := by simp only [List.filter, ha', hb', hc']
      rw [el]
      refine (delC_l (e3 a b c) ha hb hc g w hE w0.heap.size hg hw w0 hw0).mono ?_
      rintro x y ⟨rfl, h1, h2⟩
      exact ⟨_, _, _, rfl, Lib.hid h1, by omega, by omega, fun ad h => by cases h; exact hg, h2⟩
  · have hb' : decide (b ≠ ev0) = true := decide_eq_true hb
    by_cases hc : c = ev0
    · have hc' : decide (c ≠ ev0) = false := decide_eq_false (fun h => h hc)
      have el : [a, b, c].filter (fun e => decide (e ≠ ev0)) = [a, b] := by simp only [List.filter, ha', hb', hc']
      rw [el]
      refine (del2_l (e3 a b c) ha hb hc g w hE w0.heap.size hg hw w0 hw0).mono ?_
      rintro x y ⟨rfl, h1, h2⟩
      exact ⟨_, _, _, rfl, Lib.hid h1, by omega, by omega, fun ad h => by cases h; exact hg, h2⟩
    · have hc' : decide (c ≠ ev0) = true := decide_eq_true hc
      have el : [a, b, c].filter (fun e => decide (e ≠ ev0)) = [a, b, c] := by simp only [List.filter, ha', hb', hc']
      rw [el]
      refine (del3_l (e3 a b c) (fun j hj => by rcases (show j = 0 ∨ j = 1 ∨ j = 2 by omega) with rfl | rfl | rfl <;> assumption) g w hE).mono ?_
      rintro x y ⟨rfl, h2⟩
      exact ⟨_, _, _, rfl, Lib.hid ((hE.below h2).rd (n := 3) (by omega)), by omega, by omega, fun ad h => by cases h; exact hg, hw0.trans (h2.mono hw)⟩
set_option maxRecDepth 100000 in
set_option maxHeartbeats 2000000 in
theorem seen_l (s : Stt) (i : Ins) (hi : i.wf) (t : Ev) (n : Stt) (w : World) (hT : Tab w) : Calls Tryz.prog 66 #[.agg s.vs, .agg i.vs, .agg t.vs, .agg n.vs] w (SeenP (evL s.pc t (goe i n)) w) := by
  have K1 := Lib.hid (fun W h => goes_l i hi n W h)
  have HT := Lib.hid hT
  obtain ⟨ge, hge⟩ : ∃ ge, goe i n = ge := ⟨_, rfl⟩
  rw [hge] at K1 ⊢
  clear hi hge hT
  obtain ⟨L, hL⟩ : ∃ L, evL s.pc t ge = L := ⟨_, rfl⟩
  have K2 := Lib.hid (fun g W hE w0 h1 h2 h3 => del_any ⟨1, s.pc⟩ t ge (by intro h; simp [ev0] at h) g W hE w0 h1 h2 h3)
  change Hid (∀ g W, _ → ∀ w0 : World, _ → _ → _ → Calls _ _ _ W (SeenP (evL s.pc t ge) w0)) at K2
  rw [hL] at K2 ⊢
  clear hL
  go_enter Tryz.func66, Tryz.ntmps66
  go_upto_region 1 with fail
  have HM := Lib.hid (M4.new w s i t n)
  generalize World.alloc _ _ = W1 at *
  refine wp_region_held_drew (S := (fun w' => M4 w s i t n w')) (by kernel_rfl) HM.out.drew (fun hHeld => ?_)
  have HM2 := Lib.hid HM.out.drew
  generalize World.drew W1 = W2 at *
  clear HM
  refine wpAnyH_take (i := 0) (oi := { dst := some 10, op := Op.fieldAddr 42 (Operand.tmp 4) 1, type := 0, pos := "step.go:75", after := #[], guard := none }) (v := (.pointer (some ⟨w.heap.size, 16, none⟩))) rfl (by kernel_rfl) (by kernel_rfl) (by kernel_rfl) (fun _ _ _ h => h) (Or.inl ⟨by rfl, ?_⟩) (by assumption) ?_
  · intro w' hSw
    go_simp
  simp only [Act.put, List.setIfInBounds_toArray, List.set_cons_zero, List.set_cons_succ]
  refine wpAnyH_take (i := 1) (oi := { dst := some 11, op := Op.load 39 (Operand.tmp 10), type := 39, pos := "step.go:75", after := #[{ on := 0, ground := Ground.data }], guard := none }) (v := (.int .u64 s.pc)) rfl (by kernel_rfl) (by kernel_rfl) (by kernel_rfl) (fun _ _ _ h => h) (Or.inl ⟨by rfl, ?_⟩) (by assumption) ?_
  · intro w' hSw
    have c := hSw.s.cell 16
    change _ = some (Value.int .u64 s.pc) at c
    go_simp
  simp only [Act.put, List.setIfInBounds_toArray, List.set_cons_zero, List.set_cons_succ]
  refine wpAnyH_take (i := 2) (oi := { dst := some 12, op := Op.build 51 #[(0, Operand.const (Value.int IntKind.i64 1)), (1, Operand.tmp 11)], type := 51, pos := "step.go:75", after := #[{ on := 1, ground := Ground.data }], guard := none }) (v := (.agg #[.int .i64 1, .int .u64 s.pc])) rfl (by kernel_rfl) (by kernel_rfl) (by kernel_rfl) (fun _ _ _ h => h) (Or.inl ⟨by rfl, ?_⟩) (by assumption) ?_
  · intro w' hSw
    go_simp
  simp only [Act.put, List.setIfInBounds_toArray, List.set_cons_zero, List.set_cons_succ]
  refine wpAnyH_take (i := 3) (oi := { dst := some 13, op := Op.load 51 (Operand.tmp 6), type := 51, pos := "step.go:75", after := #[], guard := none }) (v := (.agg t.vs)) rfl (by kernel_rfl) (by kernel_rfl) (by kernel_rfl) (fun _ _ _ h => h) (Or.inl ⟨by rfl, ?_⟩) (by assumption) ?_
  · intro w' hSw
    exact row_yields 51 (.tmp 6) rfl _ rfl t.vs _ hSw.t Tryz.underlying51 rfl i2
  simp only [Act.put, List.setIfInBounds_toArray, List.set_cons_zero, List.set_cons_succ]
  refine wpAnyH_take (i := 4) (oi := { dst := some 14, op := Op.load 26 (Operand.tmp 5), type := 26, pos := "step.go:75", after := #[], guard := none }) (v := (.agg i.vs)) rfl (by kernel_rfl) (by kernel_rfl) (by kernel_rfl) (fun _ _ _ h => h) (Or.inl ⟨by rfl, ?_⟩) (by assumption) ?_
  · intro w' hSw
    exact row_yields 26 (.tmp 5) rfl _ rfl i.vs _ hSw.i Tryz.underlying26 rfl i9
  simp only [Act.put, List.setIfInBounds_toArray, List.set_cons_zero, List.set_cons_succ]
  refine wpAnyH_take (i := 5) (oi := { dst := some 15, op := Op.load 42 (Operand.tmp 7), type := 42, pos := "step.go:75", after := #[], guard := none }) (v := (.agg n.vs)) rfl (by kernel_rfl) (by kernel_rfl) (by kernel_rfl) (fun _ _ _ h => h) (Or.inl ⟨by rfl, ?_⟩) (by assumption) ?_
  · intro w' hSw
    exact row_yields 42 (.tmp 7) rfl _ rfl n.vs _ hSw.n Tryz.underlying42 rfl i20
  simp only [Act.put, List.setIfInBounds_toArray, List.set_cons_zero, List.set_cons_succ]
  refine wpAnyH_ready (rs := [6]) (by kernel_rfl) (by simp) ?_
  refine AllReadyH.cons (o := { dst := some 16, op := Op.call { callee := Callee.value (Operand.func 120), args := #[Operand.tmp 14, Operand.tmp 15], argTypes := #[26, 42] }, type := 51, pos := "step.go:75", after := #[{ on := 4, ground := Ground.data }, { on := 5, ground := Ground.data }], guard := none }) rfl (fun K' hK => ?_) AllReadyH.nil
  rw [if_pos (by rfl)]
  go_simp
  go_at_call 120
  refine (K1.out _ (HT.out.keep HM2.out.b)).mono ?_
  rintro e y ⟨rfl, hb⟩
  have HM3 := Lib.hid (HM2.out.below hb)
  clear hb
  refine hK.out _ _ (HM3.out) (fun hHeld => ?_)
  clear hK
  try simp only [Act.put, List.setIfInBounds_toArray, List.set_cons_zero, List.set_cons_succ]
  have HVT : Hid (t.vs = #[.int .i64 t.k, .int .u64 t.a]) := Lib.hid rfl
  have HVG : Hid (ge.vs = #[.int .i64 ge.k, .int .u64 ge.a]) := Lib.hid rfl
  unfold Ev.vs
  refine wpAnyH_ready (rs := [7]) (by kernel_rfl) (by simp) ?_
  refine AllReadyH.cons (o := { dst := some 17, op := Op.buildSlice 46 3 #[(0, Operand.tmp 12), (1, Operand.tmp 13), (2, Operand.tmp 16)], type := 46, pos := "step.go:75", after := #[{ on := 2, ground := Ground.data }, { on := 3, ground := Ground.data }, { on := 6, ground := Ground.data }], guard := none }) rfl (fun K' hK => ?_) AllReadyH.nil
  rw [if_pos (by rfl)]
  go_simp
  have HM4 := Lib.hid (HM3.out.below (bel_alloc (.cells #[.int .i64 1, .int .u64 s.pc, .int .i64 t.k, .int .u64 t.a, .int .i64 ge.k, .int .u64 ge.a] 51)))
  have HE := Lib.hid (E3.new (a := ⟨1, s.pc⟩) (b := t) (c := ge) (Bk.new y 51 #[.int .i64 1, .int .u64 s.pc, .int .i64 t.k, .int .u64 t.a, .int .i64 ge.k, .int .u64 ge.a]))
  have hgl := HM3.out.b.size
  obtain ⟨Y, hY⟩ : ∃ Y, Y = y.alloc (.cells #[.int .i64 1, .int .u64 s.pc, .int .i64 t.k, .int .u64 t.a, .int .i64 ge.k, .int .u64 ge.a] 51) := ⟨_, rfl⟩
  rw [← hY] at HM4 HE ⊢
  clear hY
  generalize y.heap.size = B at HE hgl ⊢
  refine hK.out _ _ (HM4.out) (fun hHeld => ?_)
  clear hK
  try simp only [Act.put, List.setIfInBounds_toArray, List.set_cons_zero, List.set_cons_succ]
  refine wpAnyH_take (i := 8) (oi := { dst := some 9, op := Op.assign (Operand.tmp 17), type := 46, pos := "step.go:75", after := #[{ on := 7, ground := Ground.data }, { on := 6, ground := Ground.chain }, { on := 0, ground := Ground.phase }, { on := 1, ground := Ground.phase }, { on := 2, ground := Ground.phase }, { on := 3, ground := Ground.phase }, { on := 4, ground := Ground.phase }, { on := 5, ground := Ground.phase }, { on := 6, ground := Ground.phase }, { on := 7, ground := Ground.phase }], guard := none }) (v := (.slice (some ⟨B, 0, none⟩) 3 3)) rfl (by kernel_rfl) (by kernel_rfl) (by kernel_rfl) (fun _ _ _ h => h) (Or.inl ⟨by rfl, ?_⟩) (by assumption) ?_
  · intro w' hSw
    go_simp
  simp only [Act.put, List.setIfInBounds_toArray, List.set_cons_zero, List.set_cons_succ]
  refine wpAnyH_done (by kernel_rfl) ?_ _
  have K3 := Lib.hid (K2.out B Y HE.out w hgl HM4.out.b.size HM4.out.b)
  clear hHeld K1 K2 HT HVT HVG HE hgl HM2 HM3 HM4
  go_wp2_with fail
  go_at_call 121
  refine K3.out.mono ?_
  rintro x z ⟨A, k, c, rfl, hR, hkc, hc3, hlo, hb⟩
  have HLO := Lib.hid hlo
  have HKC := Lib.hid hkc
  have HC3 := Lib.hid hc3
  have HBB := Lib.hid hb
  clear hkc hc3 hlo hb K3
  go_wp2_with fail
  go_ret
  exact ⟨A, k, c, rfl, hR, HKC.out, HC3.out, HLO.out, HBB.out⟩
end Sp
end Go.Proofs.YtikbnfhnimjmmaaGreatDoor
