/- The document's own step (layer 8): registers, addresses, sums, rests, events. -/
import Derived.Test.YtikbnfhnimjmmaaGreatDoorS16
import Derived.Test.YtikbnfhnimjmmaaGreatDoorX0
namespace Go.Proofs.YtikbnfhnimjmmaaGreatDoor
open Go Go.RowKit Go.Shelf
namespace Sp
open Wd Nt Mm Is
set_option linter.unusedVariables false
set_option linter.unusedSimpArgs false
theorem ret_sv {fn : Func} {p u : Tmp} {R : Ending → World → Prop} {a : Act} {w : World} {g : Nat} {s : Stt} {x : Value} (h : fn.results = #[.cell p 42, .tmp u]) (hp : a.tmps.getD p undef = .pointer (some ⟨g, 0, none⟩)) (hu : a.tmps.getD u undef = x) (hd : a.defers = [])
    (hb : Bk w g 42 s.vs) (hR : R (.returned (.tuple #[.agg s.vs, x])) w) : bodyPost Tryz.prog fn R .ret a w := by
  refine bodyPost_ret (v := .tuple #[.agg s.vs, x]) ?_ hd hR
  have hp' : a.tmps[p]?.getD undef = .pointer (some ⟨g, 0, none⟩) := by simpa using hp
  have hu' : a.tmps[u]?.getD undef = x := by simpa using hu
  simp [results, h, hp', hu', asAddr, Sem.run_bind, run_loadVar_row w g 42 42 s.vs (0, 0) _ hb Tryz.underlying42 rfl i20]
set_option maxRecDepth 100000 in
theorem rtop_c (a : Int) (ha : W a) (w : World) : Calls Tryz.prog 224 #[.int .u64 a] w fun e w' => e = .returned (.bool (tp a)) ∧ w' = w := by
  obtain ⟨h0, h1⟩ := ha
  have H : Hid ((a / 9223372036854775808 == 1) = tp a) := Lib.hid (by
    unfold tp
    show decide (a / 9223372036854775808 = 1) = _
    rw [decide_eq_decide]; omega)
  go_enter Tryz.func224, Tryz.ntmps224
  go_wp2_with fail
  go_ret
  exact ⟨ret_b H.out, rfl⟩
set_option maxRecDepth 100000 in
set_option maxHeartbeats 1000000 in
theorem rreg_c (s : Stt) (r : Int) (w : World) : Calls Tryz.prog 82 #[.agg s.vs, .int .i64 r] w fun e w' => e = .returned (.int .u64 (held s r)) ∧ Below w.heap.size w w' := by
  by_cases h0 : r < 0
  · have e : held s r = 0 := by unfold held; rw [if_neg (by omega)]
    rw [e]
    go_enter Tryz.func82, Tryz.ntmps82
    go_wp2_with fail
    go_ret
    exact ⟨rfl, bel_alloc _⟩
  · by_cases h1 : 16 ≤ r
    · have e : held s r = 0 := by unfold held; rw [if_neg (by omega)]
      rw [e]
      go_enter Tryz.func82, Tryz.ntmps82
      go_wp2_with fail
      go_ret
      exact ⟨rfl, bel_alloc _⟩
    · obtain ⟨d, rfl, hd⟩ : ∃ d : Nat, r = (d : Int) ∧ d < 16 := ⟨r.toNat, by omega, by omega⟩
      have e : held s (d : Int) = s.r d := by unfold held; rw [if_pos (by omega)]; rfl
      rw [e]
      have hdi : (d : Int) < 16 := by omega
      have h1' : ¬ (16 : Int) ≤ (d : Int) := h1
      clear h0 h1 e
      go_enter Tryz.func82, Tryz.ntmps82
      go_upto_region 1 with fail
      have c1 : (w.alloc (.cells s.vs 42)).cell? ⟨w.heap.size, d, none⟩ = some (.int .u64 (s.r d)) := ((Bk.new w 42 s.vs).cell d).trans (s.vs_r hd)
      have HB : Hid (Below w.heap.size w (w.alloc (.cells s.vs 42))) := Lib.hid (bel_alloc _)
      generalize World.alloc _ _ = W1 at *
      go_wp2_with fail
      go_ret
      exact ⟨rfl, HB.out⟩
/-! ### sums, rests -/
/-- the two blocks that are laid first: the state, the state to be handed back -/
structure R2 (w : World) (s z : Stt) (W : World) : Prop where
  s : Bk W w.heap.size 42 s.vs
  z : Bk W (w.heap.size + 1) 42 z.vs
  b : Below w.heap.size w W
theorem R2.new (w : World) (s : Stt) : R2 w s s0 ((w.alloc (.cells s.vs 42)).alloc (.cells s0.vs 42)) :=
  ⟨(Bk.new w _ _).alloc _, Bk.new' (w := w.alloc _) (by simp), bel_al (bel_alloc _) _⟩
theorem R2.below {w W X : World} {s z : Stt} (h : R2 w s z W) (hb : Below W.heap.size W X) : R2 w s z X := ⟨h.s.below hb h.s.lt, h.z.below hb h.z.lt, bel_tr h.b hb⟩
theorem R2.cf {w W : World} {s z : Stt} (h : R2 w s z W) (c : Bool) : R2 w { s with cf := c } z (W.setCell ⟨w.heap.size, 17, none⟩ (.bool c)) :=
  ⟨h.s.set_ 17 _, h.z.far (by show w.heap.size + 1 ≠ w.heap.size; omega) _, h.b.setCell (Nat.le_refl _) _⟩
theorem R2.of {w W : World} {s z : Stt} (h : R2 w s z W) (c : Bool) : R2 w { s with ov := c } z (W.setCell ⟨w.heap.size, 18, none⟩ (.bool c)) :=
  ⟨h.s.set_ 18 _, h.z.far (by show w.heap.size + 1 ≠ w.heap.size; omega) _, h.b.setCell (Nat.le_refl _) _⟩
theorem R2.zf {w W : World} {s z : Stt} (h : R2 w s z W) (c : Bool) : R2 w { s with zf := c } z (W.setCell ⟨w.heap.size, 19, none⟩ (.bool c)) :=
  ⟨h.s.set_ 19 _, h.z.far (by show w.heap.size + 1 ≠ w.heap.size; omega) _, h.b.setCell (Nat.le_refl _) _⟩
theorem R2.fl {w W : World} {s z : Stt} (h : R2 w s z W) (f : Fl) : R2 w (s.setF f) z (((W.setCell ⟨w.heap.size, 17, none⟩ (.bool f.c)).setCell ⟨w.heap.size, 18, none⟩ (.bool f.o)).setCell ⟨w.heap.size, 19, none⟩ (.bool f.z)) := ((h.cf f.c).of f.o).zf f.z
theorem R2.put {w W : World} {s z : Stt} (h : R2 w s z W) (n : Stt) : R2 w n z (W.setRow w.heap.size n.vs) := ⟨bk_row h.s, (setRow_other W _ _ _ (by omega)).trans h.z, bel_row h.b (Nat.le_refl _) _⟩
theorem R2.ans {w W : World} {s z : Stt} (h : R2 w s z W) (n : Stt) : R2 w s n (W.setRow (w.heap.size + 1) n.vs) := ⟨(setRow_other W _ _ _ (by omega)).trans h.s, bk_row h.z, bel_row h.b (by omega) _⟩
set_option maxRecDepth 100000 in
set_option maxHeartbeats 1000000 in
theorem revent_c (k a : Int) (w : World) : Calls Tryz.prog 74 #[.int .i64 k, .int .u64 a] w fun e w' => e = .returned (.agg #[.int .i64 k, .int .u64 a]) ∧ Below w.heap.size w w' := by
  go_enter Tryz.func74, Tryz.ntmps74
  go_wp2_with fail
  exact bodyPost_ret (results_cell_row rfl _ _ w.heap.size 51 #[.int .i64 k, .int .u64 a] (0, 0) _ rfl (Bk.new w _ _) Tryz.underlying51 rfl (by kernel_rfl)) rfl ⟨rfl, bel_alloc _⟩
def memV2 (b x sc di : Int) : Array Value := #[.int .i64 b, .int .i64 x, .int .i64 sc, .int .i64 di]
structure A2 (w : World) (s : Stt) (b x sc di : Int) (W : World) : Prop where
  s : Bk W w.heap.size 42 s.vs
  m : Bk W (w.heap.size + 1) 24 #[.int .i64 b, .int .i64 x, .int .i64 sc, .int .i64 di]
  b : Below w.heap.size w W
theorem A2.new (w : World) (s : Stt) (b x sc di : Int) : A2 w s b x sc di ((w.alloc (.cells s.vs 42)).alloc (.cells #[.int .i64 b, .int .i64 x, .int .i64 sc, .int .i64 di] 24)) :=
  ⟨(Bk.new w _ _).alloc _, Bk.new' (w := w.alloc _) (by simp), bel_al (bel_alloc _) _⟩
theorem A2.drew {w W : World} {s : Stt} {b x sc di : Int} (h : A2 w s b x sc di W) : A2 w s b x sc di W.drew := ⟨h.s, h.m, h.b.drew⟩
theorem A2.below {w W X : World} {s : Stt} {b x sc di : Int} (h : A2 w s b x sc di W) (hb : Below W.heap.size W X) : A2 w s b x sc di X := ⟨h.s.below hb h.s.lt, h.m.below hb h.m.lt, bel_tr h.b hb⟩
set_option maxRecDepth 100000 in
set_option maxHeartbeats 4000000 in
theorem raddr_c (s : Stt) (b x sc di : Int) (w : World) : Calls Tryz.prog 32 #[.agg s.vs, .agg #[.int .i64 b, .int .i64 x, .int .i64 sc, .int .i64 di]] w fun e w' => e = .returned (.int .u64 (addr s b x sc di)) ∧ Below w.heap.size w w' := by
  have HE : Hid (IntKind.u64.wrap (IntKind.u64.wrap (held s b + IntKind.u64.wrap (held s x * IntKind.u64.wrap sc)) + IntKind.u64.wrap di) = addr s b x sc di) := Lib.hid (by unfold addr u64; simp only [IntKind.wrap_u64])
  go_enter Tryz.func32, Tryz.ntmps32
  go_upto_region 1 with fail
  have HM0 : Hid (A2 w s b x sc di _) := Lib.hid (A2.new w s b x sc di)
  generalize World.alloc _ _ = W1 at *
  refine wp_region_held_drew (S := (fun w' => A2 w s b x sc di w')) (by kernel_rfl) HM0.out.drew (fun hHeld => ?_)
  have HM : Hid (A2 w s b x sc di W1.drew) := Lib.hid HM0.out.drew
  generalize World.drew W1 = V0 at *
  clear HM0
  refine wpAnyH_take (i := 0) (oi := { dst := some 5, op := Op.load 42 (Operand.tmp 2), type := 42, pos := "ref.go:21", after := #[], guard := none }) (v := (.agg s.vs)) rfl (by kernel_rfl) (by kernel_rfl) (by kernel_rfl) (fun _ _ _ h => h) (Or.inl ⟨by rfl, ?_⟩) (by assumption) ?_
  · intro w' hSw
    exact row_yields 42 (.tmp 2) rfl _ rfl s.vs _ hSw.s Tryz.underlying42 rfl i20
  simp only [Act.put, List.setIfInBounds_toArray, List.set_cons_zero, List.set_cons_succ]
  refine wpAnyH_take (i := 1) (oi := { dst := some 6, op := Op.fieldAddr 24 (Operand.tmp 3) 0, type := 0, pos := "ref.go:21", after := #[], guard := none }) (v := (.pointer (some ⟨w.heap.size + 1, 0, none⟩))) rfl (by kernel_rfl) (by kernel_rfl) (by kernel_rfl) (fun _ _ _ h => h) (Or.inl ⟨by rfl, ?_⟩) (by assumption) ?_
  · intro w' hSw
    go_simp
  simp only [Act.put, List.setIfInBounds_toArray, List.set_cons_zero, List.set_cons_succ]
  refine wpAnyH_take (i := 2) (oi := { dst := some 7, op := Op.load 3 (Operand.tmp 6), type := 3, pos := "ref.go:21", after := #[{ on := 1, ground := Ground.data }], guard := none }) (v := (.int .i64 b)) rfl (by kernel_rfl) (by kernel_rfl) (by kernel_rfl) (fun _ _ _ h => h) (Or.inl ⟨by rfl, ?_⟩) (by assumption) ?_
  · intro w' hSw
    have z := hSw.m.cell 0
    clear hSw
    go_simp
  simp only [Act.put, List.setIfInBounds_toArray, List.set_cons_zero, List.set_cons_succ]
  refine wpAnyH_take (i := 4) (oi := { dst := some 9, op := Op.load 42 (Operand.tmp 2), type := 42, pos := "ref.go:21", after := #[], guard := none }) (v := (.agg s.vs)) rfl (by kernel_rfl) (by kernel_rfl) (by kernel_rfl) (fun _ _ _ h => h) (Or.inl ⟨by rfl, ?_⟩) (by assumption) ?_
  · intro w' hSw
    exact row_yields 42 (.tmp 2) rfl _ rfl s.vs _ hSw.s Tryz.underlying42 rfl i20
  simp only [Act.put, List.setIfInBounds_toArray, List.set_cons_zero, List.set_cons_succ]
  refine wpAnyH_take (i := 5) (oi := { dst := some 10, op := Op.fieldAddr 24 (Operand.tmp 3) 1, type := 0, pos := "ref.go:21", after := #[], guard := none }) (v := (.pointer (some ⟨w.heap.size + 1, 1, none⟩))) rfl (by kernel_rfl) (by kernel_rfl) (by kernel_rfl) (fun _ _ _ h => h) (Or.inl ⟨by rfl, ?_⟩) (by assumption) ?_
  · intro w' hSw
    go_simp
  simp only [Act.put, List.setIfInBounds_toArray, List.set_cons_zero, List.set_cons_succ]
  refine wpAnyH_take (i := 6) (oi := { dst := some 11, op := Op.load 3 (Operand.tmp 10), type := 3, pos := "ref.go:21", after := #[{ on := 5, ground := Ground.data }], guard := none }) (v := (.int .i64 x)) rfl (by kernel_rfl) (by kernel_rfl) (by kernel_rfl) (fun _ _ _ h => h) (Or.inl ⟨by rfl, ?_⟩) (by assumption) ?_
  · intro w' hSw
    have z := hSw.m.cell 1
    clear hSw
    go_simp
  simp only [Act.put, List.setIfInBounds_toArray, List.set_cons_zero, List.set_cons_succ]
  refine wpAnyH_take (i := 8) (oi := { dst := some 13, op := Op.fieldAddr 24 (Operand.tmp 3) 2, type := 0, pos := "ref.go:21", after := #[], guard := none }) (v := (.pointer (some ⟨w.heap.size + 1, 2, none⟩))) rfl (by kernel_rfl) (by kernel_rfl) (by kernel_rfl) (fun _ _ _ h => h) (Or.inl ⟨by rfl, ?_⟩) (by assumption) ?_
  · intro w' hSw
    go_simp
  simp only [Act.put, List.setIfInBounds_toArray, List.set_cons_zero, List.set_cons_succ]
  refine wpAnyH_take (i := 9) (oi := { dst := some 14, op := Op.load 3 (Operand.tmp 13), type := 3, pos := "ref.go:21", after := #[{ on := 8, ground := Ground.data }], guard := none }) (v := (.int .i64 sc)) rfl (by kernel_rfl) (by kernel_rfl) (by kernel_rfl) (fun _ _ _ h => h) (Or.inl ⟨by rfl, ?_⟩) (by assumption) ?_
  · intro w' hSw
    have z := hSw.m.cell 2
    clear hSw
    go_simp
  simp only [Act.put, List.setIfInBounds_toArray, List.set_cons_zero, List.set_cons_succ]
  refine wpAnyH_take (i := 10) (oi := { dst := some 15, op := Op.convert 3 39 (Operand.tmp 14), type := 39, pos := "ref.go:21", after := #[{ on := 9, ground := Ground.data }], guard := none }) (v := (.int .u64 (IntKind.u64.wrap sc))) rfl (by kernel_rfl) (by kernel_rfl) (by kernel_rfl) (fun _ _ _ h => h) (Or.inl ⟨by rfl, ?_⟩) (by assumption) ?_
  · intro w' hSw
    go_simp
  simp only [Act.put, List.setIfInBounds_toArray, List.set_cons_zero, List.set_cons_succ]
  refine wpAnyH_take (i := 13) (oi := { dst := some 18, op := Op.fieldAddr 24 (Operand.tmp 3) 3, type := 0, pos := "ref.go:21", after := #[], guard := none }) (v := (.pointer (some ⟨w.heap.size + 1, 3, none⟩))) rfl (by kernel_rfl) (by kernel_rfl) (by kernel_rfl) (fun _ _ _ h => h) (Or.inl ⟨by rfl, ?_⟩) (by assumption) ?_
  · intro w' hSw
    go_simp
  simp only [Act.put, List.setIfInBounds_toArray, List.set_cons_zero, List.set_cons_succ]
  refine wpAnyH_take (i := 14) (oi := { dst := some 19, op := Op.load 2 (Operand.tmp 18), type := 2, pos := "ref.go:21", after := #[{ on := 13, ground := Ground.data }], guard := none }) (v := (.int .i64 di)) rfl (by kernel_rfl) (by kernel_rfl) (by kernel_rfl) (fun _ _ _ h => h) (Or.inl ⟨by rfl, ?_⟩) (by assumption) ?_
  · intro w' hSw
    have z := hSw.m.cell 3
    clear hSw
    go_simp
  simp only [Act.put, List.setIfInBounds_toArray, List.set_cons_zero, List.set_cons_succ]
  refine wpAnyH_take (i := 15) (oi := { dst := some 20, op := Op.convert 2 39 (Operand.tmp 19), type := 39, pos := "ref.go:21", after := #[{ on := 14, ground := Ground.data }], guard := none }) (v := (.int .u64 (IntKind.u64.wrap di))) rfl (by kernel_rfl) (by kernel_rfl) (by kernel_rfl) (fun _ _ _ h => h) (Or.inl ⟨by rfl, ?_⟩) (by assumption) ?_
  · intro w' hSw
    go_simp
  simp only [Act.put, List.setIfInBounds_toArray, List.set_cons_zero, List.set_cons_succ]
  refine wpAnyH_ready (rs := [3]) (by kernel_rfl) (by simp) ?_
  refine AllReadyH.cons (o := { dst := some 8, op := Op.call { callee := Callee.value (Operand.func 82), args := #[Operand.tmp 5, Operand.tmp 7], argTypes := #[42, 3] }, type := 39, pos := "ref.go:21", after := #[{ on := 0, ground := Ground.data }, { on := 2, ground := Ground.data }], guard := none }) rfl (fun K' hK => ?_) AllReadyH.nil
  rw [if_pos (by rfl)]
  go_simp
  go_at_call 82
  refine (rreg_c s b _).mono ?_
  rintro e y1 ⟨rfl, hb1⟩
  have HM1 := Lib.hid (HM.out.below hb1)
  refine hK.out _ _ (HM1.out) (fun hHeld => ?_)
  clear hK
  try simp only [Act.put, List.setIfInBounds_toArray, List.set_cons_zero, List.set_cons_succ]
  refine wpAnyH_ready (rs := [7]) (by kernel_rfl) (by simp) ?_
  refine AllReadyH.cons (o := { dst := some 12, op := Op.call { callee := Callee.value (Operand.func 82), args := #[Operand.tmp 9, Operand.tmp 11], argTypes := #[42, 3] }, type := 39, pos := "ref.go:21", after := #[{ on := 4, ground := Ground.data }, { on := 6, ground := Ground.data }, { on := 3, ground := Ground.chain }], guard := none }) rfl (fun K' hK => ?_) AllReadyH.nil
  rw [if_pos (by rfl)]
  go_simp
  go_at_call 82
  refine (rreg_c s x _).mono ?_
  rintro e y2 ⟨rfl, hb2⟩
  have HM2 := Lib.hid (HM1.out.below hb2)
  refine hK.out _ _ (HM2.out) (fun hHeld => ?_)
  clear hK
  try simp only [Act.put, List.setIfInBounds_toArray, List.set_cons_zero, List.set_cons_succ]
  refine wpAnyH_take (i := 11) (oi := { dst := some 16, op := Op.binOp BinOp.mul 39 (Operand.tmp 12) (Operand.tmp 15) 39, type := 39, pos := "ref.go:21", after := #[{ on := 7, ground := Ground.data }, { on := 10, ground := Ground.data }], guard := none }) (v := (.int .u64 (IntKind.u64.wrap (held s x * IntKind.u64.wrap sc)))) rfl (by kernel_rfl) (by kernel_rfl) (by kernel_rfl) (fun _ _ _ h => h) (Or.inl ⟨by rfl, ?_⟩) (by assumption) ?_
  · intro w' hSw
    go_simp
  simp only [Act.put, List.setIfInBounds_toArray, List.set_cons_zero, List.set_cons_succ]
  refine wpAnyH_take (i := 12) (oi := { dst := some 17, op := Op.binOp BinOp.add 39 (Operand.tmp 8) (Operand.tmp 16) 39, type := 39, pos := "ref.go:21", after := #[{ on := 3, ground := Ground.data }, { on := 11, ground := Ground.data }], guard := none }) (v := (.int .u64 (IntKind.u64.wrap (held s b + IntKind.u64.wrap (held s x * IntKind.u64.wrap sc))))) rfl (by kernel_rfl) (by kernel_rfl) (by kernel_rfl) (fun _ _ _ h => h) (Or.inl ⟨by rfl, ?_⟩) (by assumption) ?_
  · intro w' hSw
    go_simp
  simp only [Act.put, List.setIfInBounds_toArray, List.set_cons_zero, List.set_cons_succ]
  refine wpAnyH_take (i := 16) (oi := { dst := some 21, op := Op.binOp BinOp.add 39 (Operand.tmp 17) (Operand.tmp 20) 39, type := 39, pos := "ref.go:21", after := #[{ on := 12, ground := Ground.data }, { on := 15, ground := Ground.data }], guard := none }) (v := (.int .u64 (addr s b x sc di))) rfl (by kernel_rfl) (by kernel_rfl) (by kernel_rfl) (fun _ _ _ h => h) (Or.inl ⟨by rfl, ?_⟩) (by assumption) ?_
  · intro w' hSw
    rw [← HE.out]
    go_simp
  simp only [Act.put, List.setIfInBounds_toArray, List.set_cons_zero, List.set_cons_succ]
  refine wpAnyH_take (i := 17) (oi := { dst := some 4, op := Op.assign (Operand.tmp 21), type := 39, pos := "ref.go:21", after := #[{ on := 16, ground := Ground.data }, { on := 7, ground := Ground.chain }, { on := 0, ground := Ground.phase }, { on := 1, ground := Ground.phase }, { on := 2, ground := Ground.phase }, { on := 3, ground := Ground.phase }, { on := 4, ground := Ground.phase }, { on := 5, ground := Ground.phase }, { on := 6, ground := Ground.phase }, { on := 7, ground := Ground.phase }, { on := 8, ground := Ground.phase }, { on := 9, ground := Ground.phase }, { on := 10, ground := Ground.phase }, { on := 11, ground := Ground.phase }, { on := 12, ground := Ground.phase }, { on := 13, ground := Ground.phase }, { on := 14, ground := Ground.phase }, { on := 15, ground := Ground.phase }, { on := 16, ground := Ground.phase }], guard := none }) (v := (.int .u64 (addr s b x sc di))) rfl (by kernel_rfl) (by kernel_rfl) (by kernel_rfl) (fun _ _ _ h => h) (Or.inl ⟨by rfl, ?_⟩) (by assumption) ?_
  · intro w' hSw
    go_simp
  simp only [Act.put, List.setIfInBounds_toArray, List.set_cons_zero, List.set_cons_succ]
  refine wpAnyH_done (by kernel_rfl) ?_ _
  go_wp2_with fail
  go_ret
  exact ⟨rfl, HM2.out.b⟩
set_option maxRecDepth 100000 in
set_option maxHeartbeats 2000000 in
theorem rsame_e (A B : Option Addr) (n c m d Ba Bb : Nat) (xs ys : List Ev) (w : World) (ha : RdE w Ba A n xs) (hb : RdE w Bb B m ys) (hn : n ≤ 1000000) (hm : m ≤ 1000000) :
    Calls Tryz.prog 33 #[.slice A n c, .slice B m d] w fun e w' => e = .returned (.bool (decide (xs = ys))) ∧ Below w.heap.size w w' := by
  by_cases hnm : n = m
  · subst hnm
    go_enter Tryz.func33, Tryz.ntmps33
    go_wp2_with fail
    go_loopw [5] (fun i wr => ∃ k q : Nat, k ≤ n ∧ i = .int .i64 k ∧ (∀ j, j < k → nthE xs j = nthE ys j) ∧ wr = w.drewN q) (fun i _ => n - (intOf i).toNat)
    case atStart => exact ⟨0, 0, Nat.zero_le _, rfl, fun j hj => absurd hj (by omega), rfl⟩
    case round =>
      obtain ⟨k, q, hk, rfl, hz, rfl⟩ := hrel
      by_cases hlt : k < n
      · obtain ⟨ad, rfl, _, hca, hca2⟩ := ha.at_ hlt
        obtain ⟨bd, rfl, _, hcb, hcb2⟩ := hb.at_ hlt
        have hki : (k : Int) < (n : Int) := by omega
        have hne := evNe (nthE xs k).k (nthE xs k).a (nthE ys k).k (nthE ys k).a
        by_cases hx : nthE xs k = nthE ys k
        · have HZ : Hid (∀ j, j < k + 1 → nthE xs j = nthE ys j) := Lib.hid (fun j hj => by
            rcases Nat.lt_succ_iff_lt_or_eq.1 hj with h | rfl
            · exact hz j h
            · exact hx)
          have hne2 : ∀ W, (binOp .neq 51 (.agg #[.int .i64 (nthE xs k).k, .int .u64 (nthE xs k).a]) (.agg #[.int .i64 (nthE ys k).k, .int .u64 (nthE ys k).a])).run Tryz.prog W = .ok (.bool false) W := fun W => by rw [hne W]; simp [hx]
          clear hx hz ha hb hne
          generalize (nthE xs k).k = p1 at *
          generalize (nthE xs k).a = p2 at *
          generalize (nthE ys k).k = p3 at *
          generalize (nthE ys k).a = p4 at *
          go_wp2_with fail
          go_quiet (fail)
          go_wp2_with fail
          go_roundw
          case rel => exact ⟨k + 1, _, by omega, by go_num, HZ.out, rfl⟩
          case measure => (simp [intOf] <;> omega)
        · have hn2 : xs ≠ ys := fun e => hx (by rw [e])
          have HN := Lib.hid hn2
          have hne2 : ∀ W, (binOp .neq 51 (.agg #[.int .i64 (nthE xs k).k, .int .u64 (nthE xs k).a]) (.agg #[.int .i64 (nthE ys k).k, .int .u64 (nthE ys k).a])).run Tryz.prog W = .ok (.bool true) W := fun W => by
            rw [hne W]
            have : ({ k := (nthE xs k).k, a := (nthE xs k).a } : Ev) ≠ ⟨(nthE ys k).k, (nthE ys k).a⟩ := hx
            simp [this]
          clear hn2 hz ha hb hx hne
          generalize (nthE xs k).k = p1 at *
          generalize (nthE xs k).a = p2 at *
          generalize (nthE ys k).k = p3 at *
          generalize (nthE ys k).a = p4 at *
          go_wp2_with fail
          go_quiet (fail)
          go_wp2_with fail
          go_ret
          exact ⟨by rw [decide_eq_false HN.out]; rfl, below_drewN (below_drewN (Below.refl _ _) _) _⟩
      · obtain rfl : k = n := by omega
        have HE := Lib.hid (eq_of_nthE (by rw [ha.len, hb.len]) (fun j hj => hz j (by rw [ha.len] at hj; exact hj)))
        clear hz ha hb
        go_wp2_with fail
        go_ret
        exact ⟨by rw [decide_eq_true HE.out]; rfl, below_drewN (Below.refl _ _) _⟩
  · have hne : xs ≠ ys := fun e => hnm (by rw [← ha.len, ← hb.len, e])
    have HN := Lib.hid hne
    clear hne ha hb
    have hmi : ¬ ((n : Int) = (m : Int)) := by omega
    have hmb : ((n : Int) == (m : Int)) = false := by rw [beq_eq_false_iff_ne]; exact hmi
    have hmn : ((n : Int) != (m : Int)) = true := by rw [bne, hmb]; rfl
    go_enter Tryz.func33, Tryz.ntmps33
    go_wp2_with fail
    go_ret
    exact ⟨by rw [decide_eq_false HN.out]; rfl, Below.refl _ _⟩
end Sp
end Go.Proofs.YtikbnfhnimjmmaaGreatDoor
