/- The landed package step: the state behind an instruction. -/
import Derived.Test.YtikbnfhnimjmmaaGreatDoorS10
namespace Go.Proofs.YtikbnfhnimjmmaaGreatDoor
open Go Go.RowKit Go.Shelf
namespace Sp
open Wd Nt Mm Is
set_option linter.unusedVariables false
set_option linter.unusedSimpArgs false
theorem row_yields {o : Oper} {a : Act} {w : World} (ty : TypeId) (x : Operand) (ho : o.op = .load ty x) (g : Nat) (hx : a.eval x = .pointer (some ⟨g, 0, none⟩)) (cs : Array Value) (d : TypeDesc) (hg : w.heap[g]? = some (.cells cs ty (0, 0)))
    (hu : Tryz.prog.underlying ty = some d) (hd : d.isRow = true) (hi : (Tryz.prog.info? ty).map (·.size) = some cs.size) : (execOp a.eval o).run Tryz.prog w = .ok (.value (.agg cs)) w := by
  unfold execOp
  simp only [ho, hx, Sem.run_bind, Sem.run_pure, Result.andThen_ok, run_loadAt_mid w g 0 ty cs.toList d (by
    intro j v hv
    rw [cell_of_row w g (0 + j) cs ty (0, 0) hg, Nat.zero_add]
    simpa using hv) hu hd (by simpa using hi)]
theorem fn_nil (W : World) : (binOp .neq 171 .nilFunc .nilFunc).run Tryz.prog W = .ok (.bool false) W := by
  have h : (Op.equal 171 .nilFunc .nilFunc).run Tryz.prog W = .ok true W := by
    unfold Op.equal
    show (Op.equalIn (9999 + 1) _ _ _).run Tryz.prog W = _
    unfold Op.equalIn
    simp [Sem.run_bind, run_underlying Tryz.underlying171, go_sem]
  simp [binOp, go_sem, h, Result.andThen]
theorem fn_neq (k : Nat) (W : World) : (binOp .neq 171 (.func (.func k) #[] #[]) .nilFunc).run Tryz.prog W = .ok (.bool true) W := by
  have h : (Op.equal 171 (.func (.func k) #[] #[]) .nilFunc).run Tryz.prog W = .ok false W := by
    unfold Op.equal
    show (Op.equalIn (9999 + 1) _ _ _).run Tryz.prog W = _
    unfold Op.equalIn
    simp [Sem.run_bind, run_underlying Tryz.underlying171, go_sem]
  simp [binOp, go_sem, h, Result.andThen]
theorem M3.setF {w W : World} {s : Stt} {i : Ins} (h : M3 w s i W) (f : Fl) : M3 w (s.setF f) i (((W.setCell ⟨w.heap.size, 17, none⟩ (.bool f.c)).setCell ⟨w.heap.size, 18, none⟩ (.bool f.o)).setCell ⟨w.heap.size, 19, none⟩ (.bool f.z)) :=
  ⟨((h.s.set_ 17 _).set_ 18 _).set_ 19 _, ((h.i.far (by show w.heap.size + 1 ≠ w.heap.size; omega) _).far (by show w.heap.size + 1 ≠ w.heap.size; omega) _).far (by show w.heap.size + 1 ≠ w.heap.size; omega) _, ((h.z.far (by show w.heap.size + 1 + 1 ≠ w.heap.size; omega) _).far (by show w.heap.size + 1 + 1 ≠ w.heap.size; omega) _).far (by show w.heap.size + 1 + 1 ≠ w.heap.size; omega) _, ((h.b.setCell (Nat.le_refl _) _).setCell (Nat.le_refl _) _).setCell (Nat.le_refl _) _⟩
theorem M3.far {w W : World} {s : Stt} {i : Ins} (h : M3 w s i W) {g k : Nat} (hg : w.heap.size + 1 + 1 < g) (v : Value) : M3 w s i (W.setCell ⟨g, k, none⟩ v) :=
  ⟨h.s.far (by show w.heap.size ≠ g; omega) _, h.i.far (by show w.heap.size + 1 ≠ g; omega) _, h.z.far (by show w.heap.size + 1 + 1 ≠ g; omega) _, h.b.setCell (by show w.heap.size ≤ g; omega) _⟩
theorem Bk.fl {w : World} {g : Nat} {f : Fl} (h : Bk w g 174 f.vs) : w.cell? ⟨g, 0, none⟩ = some (.bool f.c) ∧ w.cell? ⟨g, 1, none⟩ = some (.bool f.o) ∧ w.cell? ⟨g, 2, none⟩ = some (.bool f.z) := ⟨h.cell 0, h.cell 1, h.cell 2⟩
def z3 : Array Value := #[.bool false, .bool false, .bool false]
theorem ok_op1 {i : Ins} (h : okI i = true) : 1 ≤ i.op ∧ i.op ≤ 33 := by
  have := ok_op h
  omega
set_option maxRecDepth 100000 in
set_option maxHeartbeats 1000000 in
theorem behind_mv (s : Stt) (hs : s.wf) (i : Ins) (hi : okI i = true) (hm : isMv i.op = true) (size v : Int) (w : World) : Calls Tryz.prog 65 #[.agg s.vs, .agg i.vs, .int .i64 size, .int .u64 v] w fun e w' => e = .returned (.agg (mvP { s with pc := u64 (s.pc + u64 size) } i v).vs) ∧ Below w.heap.size w w' := by
  obtain ⟨q, hq⟩ : ∃ q, u64 (s.pc + u64 size) = q := ⟨_, rfl⟩
  have hqW : W q := by rw [← hq]; exact u64_W _
  rw [hq]
  have hE : IntKind.u64.wrap (s.pc + IntKind.u64.wrap size) = q := by rw [← hq]; unfold u64; simp only [IntKind.wrap_u64]
  have K1 := Lib.hid (fun W => moving_l i.op hm W)
  have K2 := Lib.hid (fun W => mvf_l { s with pc := q } ⟨hs.r, hqW⟩ i hi hm v W)
  have heg := mv_enters i.op hm
  have hfn := fn_neq (mvF i.op)
  generalize mvF i.op = k at *
  obtain ⟨n, hn⟩ : ∃ n, mvP { s with pc := q } i v = n := ⟨_, rfl⟩
  rw [hn] at K2 ⊢
  clear hq hqW hm hi hs hn
  go_enter Tryz.func65, Tryz.ntmps65
  go_upto_region 1 with fail
  rw [s0_vs]
  have HM := Lib.hid (M3.new w s i)
  generalize World.alloc _ _ = W1 at *
  have c16 : W1.cell? ⟨w.heap.size, 16, none⟩ = some (.int .u64 s.pc) := HM.out.s.cell 16
  have f16 := HM.out.s.frozen 16
  have HM2 := Lib.hid (HM.out.setPc q)
  have c0 := HM2.out.i.cell 0
  change _ = some (Value.int .i64 i.op) at c0
  go_wp2_with (first | (go_at_call 117; refine (K1.out _).mono ?_; rintro e w' ⟨rfl, rfl⟩) | (refine wpList_load_row rfl 42 (.tmp 4) rfl w.heap.size rfl 42 ({ s with pc := q } : Stt).vs (0, 0) _ HM2.out.s Tryz.underlying42 rfl i20 ?_) | (refine wpList_load_row rfl 26 (.tmp 5) rfl (w.heap.size + 1) rfl 26 i.vs (0, 0) _ HM2.out.i Tryz.underlying26 rfl i9 ?_) | fail)
  refine (K2.out _).mono ?_
  rintro e y2 ⟨rfl, hb⟩
  have HM3 := Lib.hid (HM2.out.below hb)
  clear hb c0 c16 f16
  go_wp2_with (first | (refine wpList_store_row rfl 42 (.tmp 8) (.tmp 27) rfl (w.heap.size + 1 + 1) n.vs rfl rfl 42 s0.vs HM3.out.z i20 rfl n.vs_one ?_) | fail)
  exact ret_st rfl rfl rfl (bk_row HM3.out.z) ⟨rfl, bel_row HM3.out.b (by omega) _⟩
set_option maxRecDepth 100000 in
set_option maxHeartbeats 4000000 in
theorem behind_rk (s : Stt) (hs : s.wf) (i : Ins) (hi : okI i = true) (hm : isMv i.op = false) (size v : Int) (w : World) : Calls Tryz.prog 65 #[.agg s.vs, .agg i.vs, .int .i64 size, .int .u64 v] w fun e w' =>
    e = .returned (.agg (((({ s with pc := u64 (s.pc + u64 size) } : Stt).set i.d.toNat (rkP i.op (s.r i.d.toNat) (secd s i) s.fl).1).setF (rkP i.op (s.r i.d.toNat) (secd s i) s.fl).2).vs)) ∧ Below w.heap.size w w' := by
  obtain ⟨h1, h2, h3⟩ := ok_regs hi
  obtain ⟨d, hd, hdl⟩ := nat_of h1
  obtain ⟨c, hc, hcl⟩ := nat_of h2
  have td : i.d.toNat = d := by omega
  rw [td]
  obtain ⟨q, hq⟩ : ∃ q, u64 (s.pc + u64 size) = q := ⟨_, rfl⟩
  rw [hq]
  have hE : IntKind.u64.wrap (s.pc + IntKind.u64.wrap size) = q := by rw [← hq]; unfold u64; simp only [IntKind.wrap_u64]
  obtain ⟨o1, o33⟩ := ok_op1 hi
  have hbW : W (secd s i) := by
    unfold secd; split
    · exact u64_W _
    · exact hs.r _
  have hsh : i.op = 24 ∨ i.op = 25 → 1 ≤ secd s i ∧ secd s i ≤ 63 := fun h => by
    have := ok_shift hi h
    unfold secd
    rw [if_pos (by omega)]
    unfold u64; omega
  have K1 := Lib.hid (fun W => moving_n i.op hm W)
  have K2 := Lib.hid (fun W => reck_l i.op hm o1 o33 W)
  have K3 : Hid (∀ X, Bk X w.heap.size 42 ({ s with pc := q } : Stt).vs → Calls Tryz.prog 119 #[.pointer (some ⟨w.heap.size, 0, none⟩), .agg i.vs] X fun e w' => e = .returned (.int .u64 (secd s i)) ∧ Below X.heap.size X w') := Lib.hid (fun X h => second_l { s with pc := q } i c hcl hc w.heap.size X h)
  have K4 := Lib.hid (fun W => rkf_l i.op hm o1 o33 (s.r d) (secd s i) (hs.r d) hbW hsh s.fl W)
  change Hid (∀ W, Calls Tryz.prog (rkF i.op) #[.int .u64 (s.r d), .int .u64 (secd s i), .agg #[.bool s.cf, .bool s.ov, .bool s.zf]] W fun e w' => e = .returned (.tuple #[.int .u64 (rkP i.op (s.r d) (secd s i) s.fl).1, .agg #[.bool (rkP i.op (s.r d) (secd s i) s.fl).2.c, .bool (rkP i.op (s.r d) (secd s i) s.fl).2.o, .bool (rkP i.op (s.r d) (secd s i) s.fl).2.z]]) ∧ Below W.heap.size W w') at K4
  have heg := rk_enters i.op hm o1 o33
  have hfn := fn_nil
  generalize rkF i.op = k at *
  generalize (rkP i.op (s.r d) (secd s i) s.fl).1 = rv at *
  generalize (rkP i.op (s.r d) (secd s i) s.fl).2 = rf at *
  generalize secd s i = b at *
  have HD := Lib.hid hd
  have hdi : (d : Int) < 16 := by omega
  clear hq hm hi hs h1 h2 h3 hd hc td o1 o33 hbW hsh
  go_enter Tryz.func65, Tryz.ntmps65
  go_upto_region 1 with fail
  rw [s0_vs]
  have HM := Lib.hid (M3.new w s i)
  generalize World.alloc _ _ = W1 at *
  have c16 : W1.cell? ⟨w.heap.size, 16, none⟩ = some (.int .u64 s.pc) := HM.out.s.cell 16
  have f16 := HM.out.s.frozen 16
  have HM2 := Lib.hid (HM.out.setPc q)
  have c0 := HM2.out.i.cell 0
  change _ = some (Value.int .i64 i.op) at c0
  go_wp2_with (first | (go_at_call 117; refine (K1.out _).mono ?_; rintro e w' ⟨rfl, rfl⟩) | fail)
  clear K1 c0 c16 f16 HM hE
  generalize World.setCell _ _ _ = W2 at *
  obtain ⟨s1, hs1⟩ : ∃ s1 : Stt, s1 = { s with pc := q } := ⟨_, rfl⟩
  rw [← hs1] at HM2 K3
  have HS1 := Lib.hid hs1
  have hr1 : s1.r d = s.r d := by rw [hs1]
  have hf1 : s1.cf = s.cf := by rw [hs1]
  have hf2 : s1.ov = s.ov := by rw [hs1]
  have hf3 : s1.zf = s.zf := by rw [hs1]
  have HC : Hid (∀ X, M3 w s1 i X → X.cell? ⟨w.heap.size + 1, 0, none⟩ = some (.int .i64 i.op) ∧ X.cell? ⟨w.heap.size + 1, 1, none⟩ = some (.int .i64 (d : Int)) ∧ X.cell? ⟨w.heap.size, d, none⟩ = some (.int .u64 (s.r d)) ∧ X.cell? ⟨w.heap.size, 17, none⟩ = some (.bool s.cf) ∧ X.cell? ⟨w.heap.size, 18, none⟩ = some (.bool s.ov) ∧ X.cell? ⟨w.heap.size, 19, none⟩ = some (.bool s.zf)) := Lib.hid (fun X h =>
    ⟨h.i.cell 0, by rw [← HD.out]; exact h.i.cell 1, by rw [← hr1]; exact (h.s.cell d).trans (s1.vs_r hdl), by rw [← hf1]; exact h.s.cell 17, by rw [← hf2]; exact h.s.cell 18, by rw [← hf3]; exact h.s.cell 19⟩)
  clear hs1 hr1 hf1 hf2 hf3
  refine wp_region_held_drew (S := (fun w' => M3 w s1 i w')) (by kernel_rfl) HM2.out.drew (fun hHeld => ?_)
  have HM2D := Lib.hid HM2.out.drew
  generalize World.drew W2 = X2 at *
  clear HM2
  refine wpAnyH_take (i := 0) (oi := { dst := some 29, op := Op.fieldAddr 26 (Operand.tmp 5) 0, type := 0, pos := "step.go:58", after := #[], guard := none }) (v := (.pointer (some ⟨w.heap.size + 1, 0, none⟩))) rfl (by kernel_rfl) (by kernel_rfl) (by kernel_rfl) (fun _ _ _ h => h) (Or.inl ⟨by rfl, ?_⟩) (by assumption) ?_
  · intro w' hSw
    obtain ⟨z0, z1, z2, z3, z4, z5⟩ := HC.out _ hSw
    clear hSw
    go_simp
  simp only [Act.put, List.setIfInBounds_toArray, List.set_cons_zero, List.set_cons_succ]
  refine wpAnyH_take (i := 1) (oi := { dst := some 30, op := Op.load 3 (Operand.tmp 29), type := 3, pos := "step.go:58", after := #[{ on := 0, ground := Ground.data }], guard := none }) (v := (.int .i64 i.op)) rfl (by kernel_rfl) (by kernel_rfl) (by kernel_rfl) (fun _ _ _ h => h) (Or.inl ⟨by rfl, ?_⟩) (by assumption) ?_
  · intro w' hSw
    obtain ⟨z0, z1, z2, z3, z4, z5⟩ := HC.out _ hSw
    clear hSw
    go_simp
  simp only [Act.put, List.setIfInBounds_toArray, List.set_cons_zero, List.set_cons_succ]
  refine wpAnyH_take (i := 3) (oi := { dst := some 32, op := Op.fieldAddr 26 (Operand.tmp 5) 1, type := 0, pos := "step.go:58", after := #[], guard := none }) (v := (.pointer (some ⟨w.heap.size + 1, 1, none⟩))) rfl (by kernel_rfl) (by kernel_rfl) (by kernel_rfl) (fun _ _ _ h => h) (Or.inl ⟨by rfl, ?_⟩) (by assumption) ?_
  · intro w' hSw
    obtain ⟨z0, z1, z2, z3, z4, z5⟩ := HC.out _ hSw
    clear hSw
    go_simp
  simp only [Act.put, List.setIfInBounds_toArray, List.set_cons_zero, List.set_cons_succ]
  refine wpAnyH_take (i := 4) (oi := { dst := some 33, op := Op.load 3 (Operand.tmp 32), type := 3, pos := "step.go:58", after := #[{ on := 3, ground := Ground.data }], guard := none }) (v := (.int .i64 (d : Int))) rfl (by kernel_rfl) (by kernel_rfl) (by kernel_rfl) (fun _ _ _ h => h) (Or.inl ⟨by rfl, ?_⟩) (by assumption) ?_
  · intro w' hSw
    obtain ⟨z0, z1, z2, z3, z4, z5⟩ := HC.out _ hSw
    clear hSw
    go_simp
  simp only [Act.put, List.setIfInBounds_toArray, List.set_cons_zero, List.set_cons_succ]
  refine wpAnyH_take (i := 5) (oi := { dst := some 34, op := Op.fieldAddr 42 (Operand.tmp 4) 0, type := 0, pos := "step.go:58", after := #[], guard := none }) (v := (.pointer (some ⟨w.heap.size, 0, none⟩))) rfl (by kernel_rfl) (by kernel_rfl) (by kernel_rfl) (fun _ _ _ h => h) (Or.inl ⟨by rfl, ?_⟩) (by assumption) ?_
  · intro w' hSw
    obtain ⟨z0, z1, z2, z3, z4, z5⟩ := HC.out _ hSw
    clear hSw
    go_simp
  simp only [Act.put, List.setIfInBounds_toArray, List.set_cons_zero, List.set_cons_succ]
  refine wpAnyH_take (i := 6) (oi := { dst := some 35, op := Op.indexAddr 40 (Operand.tmp 34) (Operand.tmp 33), type := 0, pos := "step.go:58", after := #[{ on := 5, ground := Ground.data }, { on := 4, ground := Ground.data }], guard := none }) (v := (.pointer (some ⟨w.heap.size, d, none⟩))) rfl (by kernel_rfl) (by kernel_rfl) (by kernel_rfl) (fun _ _ _ h => h) (Or.inl ⟨by rfl, ?_⟩) (by assumption) ?_
  · intro w' hSw
    obtain ⟨z0, z1, z2, z3, z4, z5⟩ := HC.out _ hSw
    clear hSw
    go_simp
  simp only [Act.put, List.setIfInBounds_toArray, List.set_cons_zero, List.set_cons_succ]
  refine wpAnyH_take (i := 7) (oi := { dst := some 36, op := Op.load 39 (Operand.tmp 35), type := 39, pos := "step.go:58", after := #[{ on := 6, ground := Ground.data }], guard := none }) (v := (.int .u64 (s.r d))) rfl (by kernel_rfl) (by kernel_rfl) (by kernel_rfl) (fun _ _ _ h => h) (Or.inl ⟨by rfl, ?_⟩) (by assumption) ?_
  · intro w' hSw
    obtain ⟨z0, z1, z2, z3, z4, z5⟩ := HC.out _ hSw
    clear hSw
    go_simp
  simp only [Act.put, List.setIfInBounds_toArray, List.set_cons_zero, List.set_cons_succ]
  refine wpAnyH_take (i := 8) (oi := { dst := some 37, op := Op.load 26 (Operand.tmp 5), type := 26, pos := "step.go:58", after := #[], guard := none }) (v := (.agg i.vs)) rfl (by kernel_rfl) (by kernel_rfl) (by kernel_rfl) (fun _ _ _ h => h) (Or.inl ⟨by rfl, ?_⟩) (by assumption) ?_
  · intro w' hSw
    exact row_yields 26 (.tmp 5) rfl _ rfl i.vs _ hSw.i Tryz.underlying26 rfl i9
  simp only [Act.put, List.setIfInBounds_toArray, List.set_cons_zero, List.set_cons_succ]
  refine wpAnyH_take (i := 10) (oi := { dst := some 39, op := Op.fieldAddr 42 (Operand.tmp 4) 2, type := 0, pos := "step.go:58", after := #[], guard := none }) (v := (.pointer (some ⟨w.heap.size, 17, none⟩))) rfl (by kernel_rfl) (by kernel_rfl) (by kernel_rfl) (fun _ _ _ h => h) (Or.inl ⟨by rfl, ?_⟩) (by assumption) ?_
  · intro w' hSw
    obtain ⟨z0, z1, z2, z3, z4, z5⟩ := HC.out _ hSw
    clear hSw
    go_simp
  simp only [Act.put, List.setIfInBounds_toArray, List.set_cons_zero, List.set_cons_succ]
  refine wpAnyH_take (i := 11) (oi := { dst := some 40, op := Op.load 4 (Operand.tmp 39), type := 4, pos := "step.go:58", after := #[{ on := 10, ground := Ground.data }], guard := none }) (v := (.bool s.cf)) rfl (by kernel_rfl) (by kernel_rfl) (by kernel_rfl) (fun _ _ _ h => h) (Or.inl ⟨by rfl, ?_⟩) (by assumption) ?_
  · intro w' hSw
    obtain ⟨z0, z1, z2, z3, z4, z5⟩ := HC.out _ hSw
    clear hSw
    go_simp
  simp only [Act.put, List.setIfInBounds_toArray, List.set_cons_zero, List.set_cons_succ]
  refine wpAnyH_take (i := 12) (oi := { dst := some 41, op := Op.fieldAddr 42 (Operand.tmp 4) 3, type := 0, pos := "step.go:58", after := #[], guard := none }) (v := (.pointer (some ⟨w.heap.size, 18, none⟩))) rfl (by kernel_rfl) (by kernel_rfl) (by kernel_rfl) (fun _ _ _ h => h) (Or.inl ⟨by rfl, ?_⟩) (by assumption) ?_
  · intro w' hSw
    obtain ⟨z0, z1, z2, z3, z4, z5⟩ := HC.out _ hSw
    clear hSw
    go_simp
  simp only [Act.put, List.setIfInBounds_toArray, List.set_cons_zero, List.set_cons_succ]
  refine wpAnyH_take (i := 13) (oi := { dst := some 42, op := Op.load 4 (Operand.tmp 41), type := 4, pos := "step.go:58", after := #[{ on := 12, ground := Ground.data }], guard := none }) (v := (.bool s.ov)) rfl (by kernel_rfl) (by kernel_rfl) (by kernel_rfl) (fun _ _ _ h => h) (Or.inl ⟨by rfl, ?_⟩) (by assumption) ?_
  · intro w' hSw
    obtain ⟨z0, z1, z2, z3, z4, z5⟩ := HC.out _ hSw
    clear hSw
    go_simp
  simp only [Act.put, List.setIfInBounds_toArray, List.set_cons_zero, List.set_cons_succ]
  refine wpAnyH_take (i := 14) (oi := { dst := some 43, op := Op.fieldAddr 42 (Operand.tmp 4) 4, type := 0, pos := "step.go:58", after := #[], guard := none }) (v := (.pointer (some ⟨w.heap.size, 19, none⟩))) rfl (by kernel_rfl) (by kernel_rfl) (by kernel_rfl) (fun _ _ _ h => h) (Or.inl ⟨by rfl, ?_⟩) (by assumption) ?_
  · intro w' hSw
    obtain ⟨z0, z1, z2, z3, z4, z5⟩ := HC.out _ hSw
    clear hSw
    go_simp
  simp only [Act.put, List.setIfInBounds_toArray, List.set_cons_zero, List.set_cons_succ]
  refine wpAnyH_take (i := 15) (oi := { dst := some 44, op := Op.load 4 (Operand.tmp 43), type := 4, pos := "step.go:58", after := #[{ on := 14, ground := Ground.data }], guard := none }) (v := (.bool s.zf)) rfl (by kernel_rfl) (by kernel_rfl) (by kernel_rfl) (fun _ _ _ h => h) (Or.inl ⟨by rfl, ?_⟩) (by assumption) ?_
  · intro w' hSw
    obtain ⟨z0, z1, z2, z3, z4, z5⟩ := HC.out _ hSw
    clear hSw
    go_simp
  simp only [Act.put, List.setIfInBounds_toArray, List.set_cons_zero, List.set_cons_succ]
  refine wpAnyH_take (i := 16) (oi := { dst := some 45, op := Op.build 174 #[(0, Operand.tmp 40), (1, Operand.tmp 42), (2, Operand.tmp 44)], type := 174, pos := "step.go:58", after := #[{ on := 11, ground := Ground.data }, { on := 13, ground := Ground.data }, { on := 15, ground := Ground.data }], guard := none }) (v := (.agg #[.bool s.cf, .bool s.ov, .bool s.zf])) rfl (by kernel_rfl) (by kernel_rfl) (by kernel_rfl) (fun _ _ _ h => h) (Or.inl ⟨by rfl, ?_⟩) (by assumption) ?_
  · intro w' hSw
    obtain ⟨z0, z1, z2, z3, z4, z5⟩ := HC.out _ hSw
    clear hSw
    go_simp
  simp only [Act.put, List.setIfInBounds_toArray, List.set_cons_zero, List.set_cons_succ]
  refine wpAnyH_ready (rs := [2, 21]) (by kernel_rfl) (by simp) ?_
  refine AllReadyH.cons (o := { dst := some 31, op := Op.call { callee := Callee.value (Operand.func 118), args := #[Operand.tmp 30], argTypes := #[3] }, type := 177, pos := "step.go:58", after := #[{ on := 1, ground := Ground.data }], guard := none }) rfl (fun K' hK => ?_) (AllReadyH.cons (o := { dst := some 11, op := Op.alloc 174, type := 0, pos := "step.go:58", after := #[], guard := none }) rfl (fun K' hK => ?_) AllReadyH.nil)
  · skip
    rw [if_pos (by rfl)]
    go_simp
    go_at_call 118
    refine (K2.out _).mono ?_
    rintro e y ⟨rfl, hy⟩
    rw [hy]
    clear hy
    refine hK.out _ _ (HM2D.out) (fun hHeld => ?_)
    clear hK
    try simp only [Act.put, List.setIfInBounds_toArray, List.set_cons_zero, List.set_cons_succ]
    refine wpAnyH_ready (rs := [9, 21]) (by kernel_rfl) (by simp) ?_
    refine AllReadyH.cons (o := { dst := some 38, op := Op.call { callee := Callee.value (Operand.func 119), args := #[Operand.tmp 4, Operand.tmp 37], argTypes := #[114, 26] }, type := 39, pos := "step.go:58", after := #[{ on := 8, ground := Ground.data }, { on := 2, ground := Ground.chain }], guard := none }) rfl (fun K' hK => ?_) (AllReadyH.cons (o := { dst := some 11, op := Op.alloc 174, type := 0, pos := "step.go:58", after := #[], guard := none }) rfl (fun K' hK => ?_) AllReadyH.nil)
    · skip
      rw [if_pos (by rfl)]
      go_simp
      go_at_call 119
      refine (K3.out _ HM2D.out.s).mono ?_
      rintro e y1 ⟨rfl, hb1⟩
      have HX1 := Lib.hid (HM2D.out.below hb1)
      clear hb1
      refine hK.out _ _ (HX1.out) (fun hHeld => ?_)
      clear hK
      try simp only [Act.put, List.setIfInBounds_toArray, List.set_cons_zero, List.set_cons_succ]
      refine wpAnyH_ready (rs := [17, 21]) (by kernel_rfl) (by simp) ?_
      refine AllReadyH.cons (o := { dst := some 46, op := Op.call { callee := Callee.value (Operand.tmp 31), args := #[Operand.tmp 36, Operand.tmp 38, Operand.tmp 45], argTypes := #[39, 39, 174] }, type := 175, pos := "step.go:58", after := #[{ on := 2, ground := Ground.data }, { on := 7, ground := Ground.data }, { on := 9, ground := Ground.data }, { on := 16, ground := Ground.data }, { on := 9, ground := Ground.chain }], guard := none }) rfl (fun K' hK => ?_) (AllReadyH.cons (o := { dst := some 11, op := Op.alloc 174, type := 0, pos := "step.go:58", after := #[], guard := none }) rfl (fun K' hK => ?_) AllReadyH.nil)
      · skip
        rw [if_pos (by rfl)]
        go_simp
        refine (K4.out _).mono ?_
        rintro e y2 ⟨rfl, hb2⟩
        have HX2 := Lib.hid (HX1.out.below hb2)
        clear hb2
        refine hK.out _ _ (HX2.out) (fun hHeld => ?_)
        clear hK
        try simp only [Act.put, List.setIfInBounds_toArray, List.set_cons_zero, List.set_cons_succ]
        refine wpAnyH_take (i := 18) (oi := { dst := some 28, op := Op.move (Operand.tmp 46), type := 175, pos := "step.go:58", after := #[{ on := 17, ground := Ground.data }], guard := none }) (v := (.tuple #[.int .u64 rv, .agg #[.bool rf.c, .bool rf.o, .bool rf.z]])) rfl (by kernel_rfl) (by kernel_rfl) (by kernel_rfl) (fun _ _ _ h => h) (Or.inl ⟨by rfl, ?_⟩) (by assumption) ?_
        · intro w' hSw
          obtain ⟨z0, z1, z2, z3, z4, z5⟩ := HC.out _ hSw
          clear hSw
          go_simp
        simp only [Act.put, List.setIfInBounds_toArray, List.set_cons_zero, List.set_cons_succ]
        refine wpAnyH_take (i := 19) (oi := { dst := some 47, op := Op.extract (Operand.tmp 28) 0, type := 39, pos := "step.go:58", after := #[{ on := 18, ground := Ground.data }], guard := none }) (v := (.int .u64 rv)) rfl (by kernel_rfl) (by kernel_rfl) (by kernel_rfl) (fun _ _ _ h => h) (Or.inl ⟨by rfl, ?_⟩) (by assumption) ?_
        · intro w' hSw
          obtain ⟨z0, z1, z2, z3, z4, z5⟩ := HC.out _ hSw
          clear hSw
          go_simp
        simp only [Act.put, List.setIfInBounds_toArray, List.set_cons_zero, List.set_cons_succ]
        refine wpAnyH_take (i := 20) (oi := { dst := some 48, op := Op.extract (Operand.tmp 28) 1, type := 174, pos := "step.go:58", after := #[{ on := 18, ground := Ground.data }, { on := 22, ground := Ground.gcOnly Departure.lateStores }], guard := none }) (v := (.agg #[.bool rf.c, .bool rf.o, .bool rf.z])) rfl (by kernel_rfl) (by kernel_rfl) (by kernel_rfl) (fun _ _ _ h => h) (Or.inl ⟨by rfl, ?_⟩) (by assumption) ?_
        · intro w' hSw
          obtain ⟨z0, z1, z2, z3, z4, z5⟩ := HC.out _ hSw
          clear hSw
          go_simp
        simp only [Act.put, List.setIfInBounds_toArray, List.set_cons_zero, List.set_cons_succ]
        refine wpAnyH_ready (rs := [21]) (by kernel_rfl) (by simp) ?_
        refine AllReadyH.cons (o := { dst := some 11, op := Op.alloc 174, type := 0, pos := "step.go:58", after := #[], guard := none }) rfl (fun K' hK => ?_) AllReadyH.nil
        rw [if_pos (by rfl)]
        go_simp
        have HX3 := Lib.hid (HX2.out.below (bel_alloc (.cells #[.bool false, .bool false, .bool false] 174)))
        have HA3 := Lib.hid (Bk.new y2 174 #[.bool false, .bool false, .bool false])
        have HG := Lib.hid HX2.out.z.lt
        obtain ⟨Y3, hY⟩ : ∃ Y, Y = y2.alloc (.cells #[.bool false, .bool false, .bool false] 174) := ⟨_, rfl⟩
        rw [← hY] at HX3 HA3 ⊢
        clear hY
        generalize y2.heap.size = B at HA3 HG ⊢
        refine hK.out _ _ (HX3.out) (fun hHeld => ?_)
        clear hK
        try simp only [Act.put, List.setIfInBounds_toArray, List.set_cons_zero, List.set_cons_succ]
        refine wpAnyH_take (i := 22) (oi := { dst := some 10, op := Op.assign (Operand.tmp 47), type := 39, pos := "step.go:58", after := #[{ on := 19, ground := Ground.data }, { on := 17, ground := Ground.chain }, { on := 0, ground := Ground.phase }, { on := 1, ground := Ground.phase }, { on := 2, ground := Ground.phase }, { on := 3, ground := Ground.phase }, { on := 4, ground := Ground.phase }, { on := 5, ground := Ground.phase }, { on := 6, ground := Ground.phase }, { on := 7, ground := Ground.phase }, { on := 8, ground := Ground.phase }, { on := 9, ground := Ground.phase }, { on := 10, ground := Ground.phase }, { on := 11, ground := Ground.phase }, { on := 12, ground := Ground.phase }, { on := 13, ground := Ground.phase }, { on := 14, ground := Ground.phase }, { on := 15, ground := Ground.phase }, { on := 16, ground := Ground.phase }, { on := 17, ground := Ground.phase }, { on := 18, ground := Ground.phase }, { on := 19, ground := Ground.phase }, { on := 20, ground := Ground.textOnly Departure.lateStores }, { on := 21, ground := Ground.phase }], guard := none }) (v := (.int .u64 rv)) rfl (by kernel_rfl) (by kernel_rfl) (by kernel_rfl) (fun _ _ _ h => h) (Or.inl ⟨by rfl, ?_⟩) (by assumption) ?_
        · intro w' hSw
          obtain ⟨z0, z1, z2, z3, z4, z5⟩ := HC.out _ hSw
          clear hSw
          go_simp
        simp only [Act.put, List.setIfInBounds_toArray, List.set_cons_zero, List.set_cons_succ]
        refine wpAnyH_ready (rs := [23]) (by kernel_rfl) (by simp) ?_
        refine AllReadyH.cons (o := { dst := none, op := Op.store 174 (Operand.tmp 11) (Operand.tmp 48), type := 0, pos := "step.go:58", after := #[{ on := 21, ground := Ground.data }, { on := 20, ground := Ground.data }, { on := 22, ground := Ground.chain }, { on := 0, ground := Ground.phase }, { on := 1, ground := Ground.phase }, { on := 2, ground := Ground.phase }, { on := 3, ground := Ground.phase }, { on := 4, ground := Ground.phase }, { on := 5, ground := Ground.phase }, { on := 6, ground := Ground.phase }, { on := 7, ground := Ground.phase }, { on := 8, ground := Ground.phase }, { on := 9, ground := Ground.phase }, { on := 10, ground := Ground.phase }, { on := 11, ground := Ground.phase }, { on := 12, ground := Ground.phase }, { on := 13, ground := Ground.phase }, { on := 14, ground := Ground.phase }, { on := 15, ground := Ground.phase }, { on := 16, ground := Ground.phase }, { on := 17, ground := Ground.phase }, { on := 18, ground := Ground.phase }, { on := 19, ground := Ground.phase }, { on := 20, ground := Ground.phase }, { on := 21, ground := Ground.phase }, { on := 22, ground := Ground.phase }], guard := none }) rfl (fun K' hK => ?_) AllReadyH.nil
        rw [if_pos (by rfl)]
        obtain ⟨p0, p1, p2, f0, f1, f2⟩ := b3 HA3.out
        have HY := Lib.hid (M3.far (M3.far (M3.far HX3.out HG.out (k := 0) (.bool rf.c)) HG.out (k := 1) (.bool rf.o)) HG.out (k := 2) (.bool rf.z))
        have HF := Lib.hid (((HA3.out.set_ 0 (.bool rf.c)).set_ 1 (.bool rf.o)).set_ 2 (.bool rf.z))
        go_simp
        refine hK.out _ _ (HY.out) (fun hHeld => ?_)
        clear hK
        try simp only [Act.put, List.setIfInBounds_toArray, List.set_cons_zero, List.set_cons_succ]
        clear p0 p1 p2 f0 f1 f2
        refine wpAnyH_done (by kernel_rfl) ?_ _
        change Hid (Bk _ B 174 #[.bool rf.c, .bool rf.o, .bool rf.z]) at HF
        generalize World.setCell _ _ _ = Y at *
        clear hHeld HC K2 K3 K4 heg
        have c1 : Y.cell? ⟨w.heap.size + 1, 1, none⟩ = some (.int .i64 (d : Int)) := by rw [← HD.out]; exact HY.out.i.cell 1
        have cd : Y.cell? ⟨w.heap.size, d, none⟩ = some (.int .u64 (s1.r d)) := (HY.out.s.cell d).trans (s1.vs_r hdl)
        have fd := HY.out.s.frozen d
        go_upto_region 7 with fail
        have HM5 := Lib.hid (HY.out.set hdl rv)
        have HB5 := Lib.hid (HF.out.far (p := ⟨w.heap.size, d, none⟩) (by have := HG.out; show B ≠ w.heap.size; omega) (.int .u64 rv))
        clear c1 cd fd
        generalize World.setCell _ _ _ = V at *
        clear HY HF
        generalize hs2 : s1.set d rv = s2 at *
        have HS2 := Lib.hid hs2
        clear hs2
        refine wp_region_held_drew (S := (fun w' => Bk w' B 174 #[.bool rf.c, .bool rf.o, .bool rf.z])) (by kernel_rfl) HB5.out.drew (fun hHeld => ?_)
        have HM6 := Lib.hid HM5.out.drew
        have HB6 := Lib.hid HB5.out.drew
        generalize World.drew V = V2 at *
        clear HM5 HB5
        refine wpAnyH_take (i := 0) (oi := { dst := some 54, op := Op.fieldAddr 174 (Operand.tmp 11) 0, type := 0, pos := "step.go:60", after := #[], guard := none }) (v := (.pointer (some ⟨B, 0, none⟩))) rfl (by kernel_rfl) (by kernel_rfl) (by kernel_rfl) (fun _ _ _ h => h) (Or.inl ⟨by rfl, ?_⟩) (by assumption) ?_
        · intro w' hSw
          have b0 := hSw.cell 0
          have b1 := hSw.cell 1
          have b2 := hSw.cell 2
          change _ = some (Value.bool rf.c) at b0
          change _ = some (Value.bool rf.o) at b1
          change _ = some (Value.bool rf.z) at b2
          clear hSw
          go_simp
        simp only [Act.put, List.setIfInBounds_toArray, List.set_cons_zero, List.set_cons_succ]
        refine wpAnyH_take (i := 1) (oi := { dst := some 55, op := Op.load 4 (Operand.tmp 54), type := 4, pos := "step.go:60", after := #[{ on := 0, ground := Ground.data }], guard := none }) (v := (.bool rf.c)) rfl (by kernel_rfl) (by kernel_rfl) (by kernel_rfl) (fun _ _ _ h => h) (Or.inl ⟨by rfl, ?_⟩) (by assumption) ?_
        · intro w' hSw
          have b0 := hSw.cell 0
          have b1 := hSw.cell 1
          have b2 := hSw.cell 2
          change _ = some (Value.bool rf.c) at b0
          change _ = some (Value.bool rf.o) at b1
          change _ = some (Value.bool rf.z) at b2
          clear hSw
          go_simp
        simp only [Act.put, List.setIfInBounds_toArray, List.set_cons_zero, List.set_cons_succ]
        refine wpAnyH_take (i := 2) (oi := { dst := some 56, op := Op.fieldAddr 174 (Operand.tmp 11) 1, type := 0, pos := "step.go:60", after := #[{ on := 7, ground := Ground.gcOnly Departure.lateStores }], guard := none }) (v := (.pointer (some ⟨B, 1, none⟩))) rfl (by kernel_rfl) (by kernel_rfl) (by kernel_rfl) (fun _ _ _ h => h) (Or.inl ⟨by rfl, ?_⟩) (by assumption) ?_
        · intro w' hSw
          have b0 := hSw.cell 0
          have b1 := hSw.cell 1
          have b2 := hSw.cell 2
          change _ = some (Value.bool rf.c) at b0
          change _ = some (Value.bool rf.o) at b1
          change _ = some (Value.bool rf.z) at b2
          clear hSw
          go_simp
        simp only [Act.put, List.setIfInBounds_toArray, List.set_cons_zero, List.set_cons_succ]
        refine wpAnyH_take (i := 3) (oi := { dst := some 57, op := Op.load 4 (Operand.tmp 56), type := 4, pos := "step.go:60", after := #[{ on := 2, ground := Ground.data }, { on := 7, ground := Ground.gcOnly Departure.lateStores }], guard := none }) (v := (.bool rf.o)) rfl (by kernel_rfl) (by kernel_rfl) (by kernel_rfl) (fun _ _ _ h => h) (Or.inl ⟨by rfl, ?_⟩) (by assumption) ?_
        · intro w' hSw
          have b0 := hSw.cell 0
          have b1 := hSw.cell 1
          have b2 := hSw.cell 2
          change _ = some (Value.bool rf.c) at b0
          change _ = some (Value.bool rf.o) at b1
          change _ = some (Value.bool rf.z) at b2
          clear hSw
          go_simp
        simp only [Act.put, List.setIfInBounds_toArray, List.set_cons_zero, List.set_cons_succ]
        refine wpAnyH_take (i := 4) (oi := { dst := some 58, op := Op.fieldAddr 174 (Operand.tmp 11) 2, type := 0, pos := "step.go:60", after := #[{ on := 9, ground := Ground.gcOnly Departure.lateStores }], guard := none }) (v := (.pointer (some ⟨B, 2, none⟩))) rfl (by kernel_rfl) (by kernel_rfl) (by kernel_rfl) (fun _ _ _ h => h) (Or.inl ⟨by rfl, ?_⟩) (by assumption) ?_
        · intro w' hSw
          have b0 := hSw.cell 0
          have b1 := hSw.cell 1
          have b2 := hSw.cell 2
          change _ = some (Value.bool rf.c) at b0
          change _ = some (Value.bool rf.o) at b1
          change _ = some (Value.bool rf.z) at b2
          clear hSw
          go_simp
        simp only [Act.put, List.setIfInBounds_toArray, List.set_cons_zero, List.set_cons_succ]
        refine wpAnyH_take (i := 5) (oi := { dst := some 59, op := Op.load 4 (Operand.tmp 58), type := 4, pos := "step.go:60", after := #[{ on := 4, ground := Ground.data }, { on := 9, ground := Ground.gcOnly Departure.lateStores }], guard := none }) (v := (.bool rf.z)) rfl (by kernel_rfl) (by kernel_rfl) (by kernel_rfl) (fun _ _ _ h => h) (Or.inl ⟨by rfl, ?_⟩) (by assumption) ?_
        · intro w' hSw
          have b0 := hSw.cell 0
          have b1 := hSw.cell 1
          have b2 := hSw.cell 2
          change _ = some (Value.bool rf.c) at b0
          change _ = some (Value.bool rf.o) at b1
          change _ = some (Value.bool rf.z) at b2
          clear hSw
          go_simp
        simp only [Act.put, List.setIfInBounds_toArray, List.set_cons_zero, List.set_cons_succ]
        refine wpAnyH_take (i := 6) (oi := { dst := some 60, op := Op.fieldAddr 42 (Operand.tmp 4) 2, type := 0, pos := "step.go:60", after := #[{ on := 0, ground := Ground.phase }, { on := 1, ground := Ground.phase }, { on := 2, ground := Ground.textOnly Departure.lateStores }, { on := 3, ground := Ground.textOnly Departure.lateStores }, { on := 4, ground := Ground.textOnly Departure.lateStores }, { on := 5, ground := Ground.textOnly Departure.lateStores }], guard := none }) (v := (.pointer (some ⟨w.heap.size, 17, none⟩))) rfl (by kernel_rfl) (by kernel_rfl) (by kernel_rfl) (fun _ _ _ h => h) (Or.inl ⟨by rfl, ?_⟩) (by assumption) ?_
        · intro w' hSw
          have b0 := hSw.cell 0
          have b1 := hSw.cell 1
          have b2 := hSw.cell 2
          change _ = some (Value.bool rf.c) at b0
          change _ = some (Value.bool rf.o) at b1
          change _ = some (Value.bool rf.z) at b2
          clear hSw
          go_simp
        simp only [Act.put, List.setIfInBounds_toArray, List.set_cons_zero, List.set_cons_succ]
        have q17 : V2.cell? ⟨w.heap.size, 17, none⟩ = some (.bool s2.cf) := HM6.out.s.cell 17
        have q18 : V2.cell? ⟨w.heap.size, 18, none⟩ = some (.bool s2.ov) := HM6.out.s.cell 18
        have q19 : V2.cell? ⟨w.heap.size, 19, none⟩ = some (.bool s2.zf) := HM6.out.s.cell 19
        have g17 := HM6.out.s.frozen 17
        have g18 := HM6.out.s.frozen 18
        have g19 := HM6.out.s.frozen 19
        have hne : B ≠ w.heap.size := by have := HG.out; omega
        refine wpAnyH_ready (rs := [7]) (by kernel_rfl) (by simp) ?_
        refine AllReadyH.cons (o := { dst := none, op := Op.store 4 (Operand.tmp 60) (Operand.tmp 55), type := 0, pos := "step.go:60", after := #[{ on := 6, ground := Ground.data }, { on := 1, ground := Ground.data }, { on := 0, ground := Ground.phase }, { on := 1, ground := Ground.phase }, { on := 2, ground := Ground.textOnly Departure.lateStores }, { on := 3, ground := Ground.textOnly Departure.lateStores }, { on := 4, ground := Ground.textOnly Departure.lateStores }, { on := 5, ground := Ground.textOnly Departure.lateStores }], guard := none }) rfl (fun K' hK => ?_) AllReadyH.nil
        rw [if_pos (by rfl)]
        go_simp
        refine hK.out _ _ (HB6.out.far (p := ⟨w.heap.size, 17, none⟩) hne _) (fun hHeld => ?_)
        clear hK
        try simp only [Act.put, List.setIfInBounds_toArray, List.set_cons_zero, List.set_cons_succ]
        refine wpAnyH_take (i := 8) (oi := { dst := some 61, op := Op.fieldAddr 42 (Operand.tmp 4) 3, type := 0, pos := "step.go:60", after := #[{ on := 0, ground := Ground.phase }, { on := 1, ground := Ground.phase }, { on := 2, ground := Ground.phase }, { on := 3, ground := Ground.phase }, { on := 4, ground := Ground.textOnly Departure.lateStores }, { on := 5, ground := Ground.textOnly Departure.lateStores }, { on := 6, ground := Ground.phase }, { on := 7, ground := Ground.phase }], guard := none }) (v := (.pointer (some ⟨w.heap.size, 18, none⟩))) rfl (by kernel_rfl) (by kernel_rfl) (by kernel_rfl) (fun _ _ _ h => h) (Or.inl ⟨by rfl, ?_⟩) (by assumption) ?_
        · intro w' hSw
          have b0 := hSw.cell 0
          have b1 := hSw.cell 1
          have b2 := hSw.cell 2
          change _ = some (Value.bool rf.c) at b0
          change _ = some (Value.bool rf.o) at b1
          change _ = some (Value.bool rf.z) at b2
          clear hSw
          go_simp
        simp only [Act.put, List.setIfInBounds_toArray, List.set_cons_zero, List.set_cons_succ]
        refine wpAnyH_ready (rs := [9]) (by kernel_rfl) (by simp) ?_
        refine AllReadyH.cons (o := { dst := none, op := Op.store 4 (Operand.tmp 61) (Operand.tmp 57), type := 0, pos := "step.go:60", after := #[{ on := 8, ground := Ground.data }, { on := 3, ground := Ground.data }, { on := 7, ground := Ground.chain }, { on := 0, ground := Ground.phase }, { on := 1, ground := Ground.phase }, { on := 2, ground := Ground.phase }, { on := 3, ground := Ground.phase }, { on := 4, ground := Ground.textOnly Departure.lateStores }, { on := 5, ground := Ground.textOnly Departure.lateStores }, { on := 6, ground := Ground.phase }, { on := 7, ground := Ground.phase }], guard := none }) rfl (fun K' hK => ?_) AllReadyH.nil
        rw [if_pos (by rfl)]
        go_simp
        refine hK.out _ _ ((HB6.out.far (p := ⟨w.heap.size, 17, none⟩) hne _).far (p := ⟨w.heap.size, 18, none⟩) hne _) (fun hHeld => ?_)
        clear hK
        try simp only [Act.put, List.setIfInBounds_toArray, List.set_cons_zero, List.set_cons_succ]
        refine wpAnyH_take (i := 10) (oi := { dst := some 62, op := Op.fieldAddr 42 (Operand.tmp 4) 4, type := 0, pos := "step.go:60", after := #[{ on := 0, ground := Ground.phase }, { on := 1, ground := Ground.phase }, { on := 2, ground := Ground.phase }, { on := 3, ground := Ground.phase }, { on := 4, ground := Ground.phase }, { on := 5, ground := Ground.phase }, { on := 6, ground := Ground.phase }, { on := 7, ground := Ground.phase }, { on := 8, ground := Ground.phase }, { on := 9, ground := Ground.phase }], guard := none }) (v := (.pointer (some ⟨w.heap.size, 19, none⟩))) rfl (by kernel_rfl) (by kernel_rfl) (by kernel_rfl) (fun _ _ _ h => h) (Or.inl ⟨by rfl, ?_⟩) (by assumption) ?_
        · intro w' hSw
          have b0 := hSw.cell 0
          have b1 := hSw.cell 1
          have b2 := hSw.cell 2
          change _ = some (Value.bool rf.c) at b0
          change _ = some (Value.bool rf.o) at b1
          change _ = some (Value.bool rf.z) at b2
          clear hSw
          go_simp
        simp only [Act.put, List.setIfInBounds_toArray, List.set_cons_zero, List.set_cons_succ]
        refine wpAnyH_ready (rs := [11]) (by kernel_rfl) (by simp) ?_
        refine AllReadyH.cons (o := { dst := none, op := Op.store 4 (Operand.tmp 62) (Operand.tmp 59), type := 0, pos := "step.go:60", after := #[{ on := 10, ground := Ground.data }, { on := 5, ground := Ground.data }, { on := 9, ground := Ground.chain }, { on := 0, ground := Ground.phase }, { on := 1, ground := Ground.phase }, { on := 2, ground := Ground.phase }, { on := 3, ground := Ground.phase }, { on := 4, ground := Ground.phase }, { on := 5, ground := Ground.phase }, { on := 6, ground := Ground.phase }, { on := 7, ground := Ground.phase }, { on := 8, ground := Ground.phase }, { on := 9, ground := Ground.phase }], guard := none }) rfl (fun K' hK => ?_) AllReadyH.nil
        rw [if_pos (by rfl)]
        go_simp
        refine hK.out _ _ (((HB6.out.far (p := ⟨w.heap.size, 17, none⟩) hne _).far (p := ⟨w.heap.size, 18, none⟩) hne _).far (p := ⟨w.heap.size, 19, none⟩) hne _) (fun hHeld => ?_)
        clear hK
        try simp only [Act.put, List.setIfInBounds_toArray, List.set_cons_zero, List.set_cons_succ]
        refine wpAnyH_done (by kernel_rfl) ?_ _
        have HM7 := Lib.hid (HM6.out.setF rf)
        clear hHeld q17 q18 q19 g17 g18 g19 hne HM6 HB6
        generalize World.setCell _ _ _ = V3 at *
        go_wp2_with (first | (refine wpList_load_row rfl 42 (.tmp 4) rfl w.heap.size rfl 42 (s2.setF rf).vs (0, 0) _ HM7.out.s Tryz.underlying42 rfl i20 ?_) | (refine wpList_store_row rfl 42 (.tmp 8) (.tmp 63) rfl (w.heap.size + 1 + 1) (s2.setF rf).vs rfl rfl 42 s0.vs HM7.out.z i20 rfl (s2.setF rf).vs_one ?_) | fail)
        exact ret_st rfl rfl rfl (bk_row HM7.out.z) ⟨by rw [← HS2.out, HS1.out], bel_row HM7.out.b (by omega) _⟩
      · skip
        rw [if_pos (by rfl)]
        go_simp
        have HX2 := Lib.hid (HX1.out.below (bel_alloc (.cells #[.bool false, .bool false, .bool false] 174)))
        have HA2 := Lib.hid (Bk.new y1 174 #[.bool false, .bool false, .bool false])
        have HG := Lib.hid HX1.out.z.lt
        obtain ⟨Y2, hY⟩ : ∃ Y, Y = y1.alloc (.cells #[.bool false, .bool false, .bool false] 174) := ⟨_, rfl⟩
        rw [← hY] at HX2 HA2 ⊢
        clear hY
        generalize y1.heap.size = B at HA2 HG ⊢
        refine hK.out _ _ (HX2.out) (fun hHeld => ?_)
        clear hK
        try simp only [Act.put, List.setIfInBounds_toArray, List.set_cons_zero, List.set_cons_succ]
        refine wpAnyH_ready (rs := [17]) (by kernel_rfl) (by simp) ?_
        refine AllReadyH.cons (o := { dst := some 46, op := Op.call { callee := Callee.value (Operand.tmp 31), args := #[Operand.tmp 36, Operand.tmp 38, Operand.tmp 45], argTypes := #[39, 39, 174] }, type := 175, pos := "step.go:58", after := #[{ on := 2, ground := Ground.data }, { on := 7, ground := Ground.data }, { on := 9, ground := Ground.data }, { on := 16, ground := Ground.data }, { on := 9, ground := Ground.chain }], guard := none }) rfl (fun K' hK => ?_) AllReadyH.nil
        rw [if_pos (by rfl)]
        go_simp
        refine (K4.out _).mono ?_
        rintro e y3 ⟨rfl, hb3⟩
        have HX3 := Lib.hid (HX2.out.below hb3)
        have HA3 := Lib.hid (HA2.out.below hb3 HA2.out.lt)
        clear hb3
        refine hK.out _ _ (HX3.out) (fun hHeld => ?_)
        clear hK
        try simp only [Act.put, List.setIfInBounds_toArray, List.set_cons_zero, List.set_cons_succ]
        refine wpAnyH_take (i := 18) (oi := { dst := some 28, op := Op.move (Operand.tmp 46), type := 175, pos := "step.go:58", after := #[{ on := 17, ground := Ground.data }], guard := none }) (v := (.tuple #[.int .u64 rv, .agg #[.bool rf.c, .bool rf.o, .bool rf.z]])) rfl (by kernel_rfl) (by kernel_rfl) (by kernel_rfl) (fun _ _ _ h => h) (Or.inl ⟨by rfl, ?_⟩) (by assumption) ?_
        · intro w' hSw
          obtain ⟨z0, z1, z2, z3, z4, z5⟩ := HC.out _ hSw
          clear hSw
          go_simp
        simp only [Act.put, List.setIfInBounds_toArray, List.set_cons_zero, List.set_cons_succ]
        refine wpAnyH_take (i := 19) (oi := { dst := some 47, op := Op.extract (Operand.tmp 28) 0, type := 39, pos := "step.go:58", after := #[{ on := 18, ground := Ground.data }], guard := none }) (v := (.int .u64 rv)) rfl (by kernel_rfl) (by kernel_rfl) (by kernel_rfl) (fun _ _ _ h => h) (Or.inl ⟨by rfl, ?_⟩) (by assumption) ?_
        · intro w' hSw
          obtain ⟨z0, z1, z2, z3, z4, z5⟩ := HC.out _ hSw
          clear hSw
          go_simp
        simp only [Act.put, List.setIfInBounds_toArray, List.set_cons_zero, List.set_cons_succ]
        refine wpAnyH_take (i := 20) (oi := { dst := some 48, op := Op.extract (Operand.tmp 28) 1, type := 174, pos := "step.go:58", after := #[{ on := 18, ground := Ground.data }, { on := 22, ground := Ground.gcOnly Departure.lateStores }], guard := none }) (v := (.agg #[.bool rf.c, .bool rf.o, .bool rf.z])) rfl (by kernel_rfl) (by kernel_rfl) (by kernel_rfl) (fun _ _ _ h => h) (Or.inl ⟨by rfl, ?_⟩) (by assumption) ?_
        · intro w' hSw
          obtain ⟨z0, z1, z2, z3, z4, z5⟩ := HC.out _ hSw
          clear hSw
          go_simp
        simp only [Act.put, List.setIfInBounds_toArray, List.set_cons_zero, List.set_cons_succ]
        refine wpAnyH_take (i := 22) (oi := { dst := some 10, op := Op.assign (Operand.tmp 47), type := 39, pos := "step.go:58", after := #[{ on := 19, ground := Ground.data }, { on := 17, ground := Ground.chain }, { on := 0, ground := Ground.phase }, { on := 1, ground := Ground.phase }, { on := 2, ground := Ground.phase }, { on := 3, ground := Ground.phase }, { on := 4, ground := Ground.phase }, { on := 5, ground := Ground.phase }, { on := 6, ground := Ground.phase }, { on := 7, ground := Ground.phase }, { on := 8, ground := Ground.phase }, { on := 9, ground := Ground.phase }, { on := 10, ground := Ground.phase }, { on := 11, ground := Ground.phase }, { on := 12, ground := Ground.phase }, { on := 13, ground := Ground.phase }, { on := 14, ground := Ground.phase }, { on := 15, ground := Ground.phase }, { on := 16, ground := Ground.phase }, { on := 17, ground := Ground.phase }, { on := 18, ground := Ground.phase }, { on := 19, ground := Ground.phase }, { on := 20, ground := Ground.textOnly Departure.lateStores }, { on := 21, ground := Ground.phase }], guard := none }) (v := (.int .u64 rv)) rfl (by kernel_rfl) (by kernel_rfl) (by kernel_rfl) (fun _ _ _ h => h) (Or.inl ⟨by rfl, ?_⟩) (by assumption) ?_
        · intro w' hSw
          obtain ⟨z0, z1, z2, z3, z4, z5⟩ := HC.out _ hSw
          clear hSw
          go_simp
        simp only [Act.put, List.setIfInBounds_toArray, List.set_cons_zero, List.set_cons_succ]
        refine wpAnyH_ready (rs := [23]) (by kernel_rfl) (by simp) ?_
        refine AllReadyH.cons (o := { dst := none, op := Op.store 174 (Operand.tmp 11) (Operand.tmp 48), type := 0, pos := "step.go:58", after := #[{ on := 21, ground := Ground.data }, { on := 20, ground := Ground.data }, { on := 22, ground := Ground.chain }, { on := 0, ground := Ground.phase }, { on := 1, ground := Ground.phase }, { on := 2, ground := Ground.phase }, { on := 3, ground := Ground.phase }, { on := 4, ground := Ground.phase }, { on := 5, ground := Ground.phase }, { on := 6, ground := Ground.phase }, { on := 7, ground := Ground.phase }, { on := 8, ground := Ground.phase }, { on := 9, ground := Ground.phase }, { on := 10, ground := Ground.phase }, { on := 11, ground := Ground.phase }, { on := 12, ground := Ground.phase }, { on := 13, ground := Ground.phase }, { on := 14, ground := Ground.phase }, { on := 15, ground := Ground.phase }, { on := 16, ground := Ground.phase }, { on := 17, ground := Ground.phase }, { on := 18, ground := Ground.phase }, { on := 19, ground := Ground.phase }, { on := 20, ground := Ground.phase }, { on := 21, ground := Ground.phase }, { on := 22, ground := Ground.phase }], guard := none }) rfl (fun K' hK => ?_) AllReadyH.nil
        rw [if_pos (by rfl)]
        obtain ⟨p0, p1, p2, f0, f1, f2⟩ := b3 HA3.out
        have HY := Lib.hid (M3.far (M3.far (M3.far HX3.out HG.out (k := 0) (.bool rf.c)) HG.out (k := 1) (.bool rf.o)) HG.out (k := 2) (.bool rf.z))
        have HF := Lib.hid (((HA3.out.set_ 0 (.bool rf.c)).set_ 1 (.bool rf.o)).set_ 2 (.bool rf.z))
        go_simp
        refine hK.out _ _ (HY.out) (fun hHeld => ?_)
        clear hK
        try simp only [Act.put, List.setIfInBounds_toArray, List.set_cons_zero, List.set_cons_succ]
        clear p0 p1 p2 f0 f1 f2
        refine wpAnyH_done (by kernel_rfl) ?_ _
        change Hid (Bk _ B 174 #[.bool rf.c, .bool rf.o, .bool rf.z]) at HF
        generalize World.setCell _ _ _ = Y at *
        clear hHeld HC K2 K3 K4 heg
        have c1 : Y.cell? ⟨w.heap.size + 1, 1, none⟩ = some (.int .i64 (d : Int)) := by rw [← HD.out]; exact HY.out.i.cell 1
        have cd : Y.cell? ⟨w.heap.size, d, none⟩ = some (.int .u64 (s1.r d)) := (HY.out.s.cell d).trans (s1.vs_r hdl)
        have fd := HY.out.s.frozen d
        go_upto_region 7 with fail
        have HM5 := Lib.hid (HY.out.set hdl rv)
        have HB5 := Lib.hid (HF.out.far (p := ⟨w.heap.size, d, none⟩) (by have := HG.out; show B ≠ w.heap.size; omega) (.int .u64 rv))
        clear c1 cd fd
        generalize World.setCell _ _ _ = V at *
        clear HY HF
        generalize hs2 : s1.set d rv = s2 at *
        have HS2 := Lib.hid hs2
        clear hs2
        refine wp_region_held_drew (S := (fun w' => Bk w' B 174 #[.bool rf.c, .bool rf.o, .bool rf.z])) (by kernel_rfl) HB5.out.drew (fun hHeld => ?_)
        have HM6 := Lib.hid HM5.out.drew
        have HB6 := Lib.hid HB5.out.drew
        generalize World.drew V = V2 at *
        clear HM5 HB5
        refine wpAnyH_take (i := 0) (oi := { dst := some 54, op := Op.fieldAddr 174 (Operand.tmp 11) 0, type := 0, pos := "step.go:60", after := #[], guard := none }) (v := (.pointer (some ⟨B, 0, none⟩))) rfl (by kernel_rfl) (by kernel_rfl) (by kernel_rfl) (fun _ _ _ h => h) (Or.inl ⟨by rfl, ?_⟩) (by assumption) ?_
        · intro w' hSw
          have b0 := hSw.cell 0
          have b1 := hSw.cell 1
          have b2 := hSw.cell 2
          change _ = some (Value.bool rf.c) at b0
          change _ = some (Value.bool rf.o) at b1
          change _ = some (Value.bool rf.z) at b2
          clear hSw
          go_simp
        simp only [Act.put, List.setIfInBounds_toArray, List.set_cons_zero, List.set_cons_succ]
        refine wpAnyH_take (i := 1) (oi := { dst := some 55, op := Op.load 4 (Operand.tmp 54), type := 4, pos := "step.go:60", after := #[{ on := 0, ground := Ground.data }], guard := none }) (v := (.bool rf.c)) rfl (by kernel_rfl) (by kernel_rfl) (by kernel_rfl) (fun _ _ _ h => h) (Or.inl ⟨by rfl, ?_⟩) (by assumption) ?_
        · intro w' hSw
          have b0 := hSw.cell 0
          have b1 := hSw.cell 1
          have b2 := hSw.cell 2
          change _ = some (Value.bool rf.c) at b0
          change _ = some (Value.bool rf.o) at b1
          change _ = some (Value.bool rf.z) at b2
          clear hSw
          go_simp
        simp only [Act.put, List.setIfInBounds_toArray, List.set_cons_zero, List.set_cons_succ]
        refine wpAnyH_take (i := 2) (oi := { dst := some 56, op := Op.fieldAddr 174 (Operand.tmp 11) 1, type := 0, pos := "step.go:60", after := #[{ on := 7, ground := Ground.gcOnly Departure.lateStores }], guard := none }) (v := (.pointer (some ⟨B, 1, none⟩))) rfl (by kernel_rfl) (by kernel_rfl) (by kernel_rfl) (fun _ _ _ h => h) (Or.inl ⟨by rfl, ?_⟩) (by assumption) ?_
        · intro w' hSw
          have b0 := hSw.cell 0
          have b1 := hSw.cell 1
          have b2 := hSw.cell 2
          change _ = some (Value.bool rf.c) at b0
          change _ = some (Value.bool rf.o) at b1
          change _ = some (Value.bool rf.z) at b2
          clear hSw
          go_simp
        simp only [Act.put, List.setIfInBounds_toArray, List.set_cons_zero, List.set_cons_succ]
        refine wpAnyH_take (i := 3) (oi := { dst := some 57, op := Op.load 4 (Operand.tmp 56), type := 4, pos := "step.go:60", after := #[{ on := 2, ground := Ground.data }, { on := 7, ground := Ground.gcOnly Departure.lateStores }], guard := none }) (v := (.bool rf.o)) rfl (by kernel_rfl) (by kernel_rfl) (by kernel_rfl) (fun _ _ _ h => h) (Or.inl ⟨by rfl, ?_⟩) (by assumption) ?_
        · intro w' hSw
          have b0 := hSw.cell 0
          have b1 := hSw.cell 1
          have b2 := hSw.cell 2
          change _ = some (Value.bool rf.c) at b0
          change _ = some (Value.bool rf.o) at b1
          change _ = some (Value.bool rf.z) at b2
          clear hSw
          go_simp
        simp only [Act.put, List.setIfInBounds_toArray, List.set_cons_zero, List.set_cons_succ]
        refine wpAnyH_take (i := 4) (oi := { dst := some 58, op := Op.fieldAddr 174 (Operand.tmp 11) 2, type := 0, pos := "step.go:60", after := #[{ on := 9, ground := Ground.gcOnly Departure.lateStores }], guard := none }) (v := (.pointer (some ⟨B, 2, none⟩))) rfl (by kernel_rfl) (by kernel_rfl) (by kernel_rfl) (fun _ _ _ h => h) (Or.inl ⟨by rfl, ?_⟩) (by assumption) ?_
        · intro w' hSw
          have b0 := hSw.cell 0
          have b1 := hSw.cell 1
          have b2 := hSw.cell 2
          change _ = some (Value.bool rf.c) at b0
          change _ = some (Value.bool rf.o) at b1
          change _ = some (Value.bool rf.z) at b2
          clear hSw
          go_simp
        simp only [Act.put, List.setIfInBounds_toArray, List.set_cons_zero, List.set_cons_succ]
        refine wpAnyH_take (i := 5) (oi := { dst := some 59, op := Op.load 4 (Operand.tmp 58), type := 4, pos := "step.go:60", after := #[{ on := 4, ground := Ground.data }, { on := 9, ground := Ground.gcOnly Departure.lateStores }], guard := none }) (v := (.bool rf.z)) rfl (by kernel_rfl) (by kernel_rfl) (by kernel_rfl) (fun _ _ _ h => h) (Or.inl ⟨by rfl, ?_⟩) (by assumption) ?_
        · intro w' hSw
          have b0 := hSw.cell 0
          have b1 := hSw.cell 1
          have b2 := hSw.cell 2
          change _ = some (Value.bool rf.c) at b0
          change _ = some (Value.bool rf.o) at b1
          change _ = some (Value.bool rf.z) at b2
          clear hSw
          go_simp
        simp only [Act.put, List.setIfInBounds_toArray, List.set_cons_zero, List.set_cons_succ]
        refine wpAnyH_take (i := 6) (oi := { dst := some 60, op := Op.fieldAddr 42 (Operand.tmp 4) 2, type := 0, pos := "step.go:60", after := #[{ on := 0, ground := Ground.phase }, { on := 1, ground := Ground.phase }, { on := 2, ground := Ground.textOnly Departure.lateStores }, { on := 3, ground := Ground.textOnly Departure.lateStores }, { on := 4, ground := Ground.textOnly Departure.lateStores }, { on := 5, ground := Ground.textOnly Departure.lateStores }], guard := none }) (v := (.pointer (some ⟨w.heap.size, 17, none⟩))) rfl (by kernel_rfl) (by kernel_rfl) (by kernel_rfl) (fun _ _ _ h => h) (Or.inl ⟨by rfl, ?_⟩) (by assumption) ?_
        · intro w' hSw
          have b0 := hSw.cell 0
          have b1 := hSw.cell 1
          have b2 := hSw.cell 2
          change _ = some (Value.bool rf.c) at b0
          change _ = some (Value.bool rf.o) at b1
          change _ = some (Value.bool rf.z) at b2
          clear hSw
          go_simp
        simp only [Act.put, List.setIfInBounds_toArray, List.set_cons_zero, List.set_cons_succ]
        have q17 : V2.cell? ⟨w.heap.size, 17, none⟩ = some (.bool s2.cf) := HM6.out.s.cell 17
        have q18 : V2.cell? ⟨w.heap.size, 18, none⟩ = some (.bool s2.ov) := HM6.out.s.cell 18
        have q19 : V2.cell? ⟨w.heap.size, 19, none⟩ = some (.bool s2.zf) := HM6.out.s.cell 19
        have g17 := HM6.out.s.frozen 17
        have g18 := HM6.out.s.frozen 18
        have g19 := HM6.out.s.frozen 19
        have hne : B ≠ w.heap.size := by have := HG.out; omega
        refine wpAnyH_ready (rs := [7]) (by kernel_rfl) (by simp) ?_
        refine AllReadyH.cons (o := { dst := none, op := Op.store 4 (Operand.tmp 60) (Operand.tmp 55), type := 0, pos := "step.go:60", after := #[{ on := 6, ground := Ground.data }, { on := 1, ground := Ground.data }, { on := 0, ground := Ground.phase }, { on := 1, ground := Ground.phase }, { on := 2, ground := Ground.textOnly Departure.lateStores }, { on := 3, ground := Ground.textOnly Departure.lateStores }, { on := 4, ground := Ground.textOnly Departure.lateStores }, { on := 5, ground := Ground.textOnly Departure.lateStores }], guard := none }) rfl (fun K' hK => ?_) AllReadyH.nil
        rw [if_pos (by rfl)]
        go_simp
        refine hK.out _ _ (HB6.out.far (p := ⟨w.heap.size, 17, none⟩) hne _) (fun hHeld => ?_)
        clear hK
        try simp only [Act.put, List.setIfInBounds_toArray, List.set_cons_zero, List.set_cons_succ]
        refine wpAnyH_take (i := 8) (oi := { dst := some 61, op := Op.fieldAddr 42 (Operand.tmp 4) 3, type := 0, pos := "step.go:60", after := #[{ on := 0, ground := Ground.phase }, { on := 1, ground := Ground.phase }, { on := 2, ground := Ground.phase }, { on := 3, ground := Ground.phase }, { on := 4, ground := Ground.textOnly Departure.lateStores }, { on := 5, ground := Ground.textOnly Departure.lateStores }, { on := 6, ground := Ground.phase }, { on := 7, ground := Ground.phase }], guard := none }) (v := (.pointer (some ⟨w.heap.size, 18, none⟩))) rfl (by kernel_rfl) (by kernel_rfl) (by kernel_rfl) (fun _ _ _ h => h) (Or.inl ⟨by rfl, ?_⟩) (by assumption) ?_
        · intro w' hSw
          have b0 := hSw.cell 0
          have b1 := hSw.cell 1
          have b2 := hSw.cell 2
          change _ = some (Value.bool rf.c) at b0
          change _ = some (Value.bool rf.o) at b1
          change _ = some (Value.bool rf.z) at b2
          clear hSw
          go_simp
        simp only [Act.put, List.setIfInBounds_toArray, List.set_cons_zero, List.set_cons_succ]
        refine wpAnyH_ready (rs := [9]) (by kernel_rfl) (by simp) ?_
        refine AllReadyH.cons (o := { dst := none, op := Op.store 4 (Operand.tmp 61) (Operand.tmp 57), type := 0, pos := "step.go:60", after := #[{ on := 8, ground := Ground.data }, { on := 3, ground := Ground.data }, { on := 7, ground := Ground.chain }, { on := 0, ground := Ground.phase }, { on := 1, ground := Ground.phase }, { on := 2, ground := Ground.phase }, { on := 3, ground := Ground.phase }, { on := 4, ground := Ground.textOnly Departure.lateStores }, { on := 5, ground := Ground.textOnly Departure.lateStores }, { on := 6, ground := Ground.phase }, { on := 7, ground := Ground.phase }], guard := none }) rfl (fun K' hK => ?_) AllReadyH.nil
        rw [if_pos (by rfl)]
        go_simp
        refine hK.out _ _ ((HB6.out.far (p := ⟨w.heap.size, 17, none⟩) hne _).far (p := ⟨w.heap.size, 18, none⟩) hne _) (fun hHeld => ?_)
        clear hK
        try simp only [Act.put, List.setIfInBounds_toArray, List.set_cons_zero, List.set_cons_succ]
        refine wpAnyH_take (i := 10) (oi := { dst := some 62, op := Op.fieldAddr 42 (Operand.tmp 4) 4, type := 0, pos := "step.go:60", after := #[{ on := 0, ground := Ground.phase }, { on := 1, ground := Ground.phase }, { on := 2, ground := Ground.phase }, { on := 3, ground := Ground.phase }, { on := 4, ground := Ground.phase }, { on := 5, ground := Ground.phase }, { on := 6, ground := Ground.phase }, { on := 7, ground := Ground.phase }, { on := 8, ground := Ground.phase }, { on := 9, ground := Ground.phase }], guard := none }) (v := (.pointer (some ⟨w.heap.size, 19, none⟩))) rfl (by kernel_rfl) (by kernel_rfl) (by kernel_rfl) (fun _ _ _ h => h) (Or.inl ⟨by rfl, ?_⟩) (by assumption) ?_
        · intro w' hSw
          have b0 := hSw.cell 0
          have b1 := hSw.cell 1
          have b2 := hSw.cell 2
          change _ = some (Value.bool rf.c) at b0
          change _ = some (Value.bool rf.o) at b1
          change _ = some (Value.bool rf.z) at b2
          clear hSw
          go_simp
        simp only [Act.put, List.setIfInBounds_toArray, List.set_cons_zero, List.set_cons_succ]
        refine wpAnyH_ready (rs := [11]) (by kernel_rfl) (by simp) ?_
        refine AllReadyH.cons (o := { dst := none, op := Op.store 4 (Operand.tmp 62) (Operand.tmp 59), type := 0, pos := "step.go:60", after := #[{ on := 10, ground := Ground.data }, { on := 5, ground := Ground.data }, { on := 9, ground := Ground.chain }, { on := 0, ground := Ground.phase }, { on := 1, ground := Ground.phase }, { on := 2, ground := Ground.phase }, { on := 3, ground := Ground.phase }, { on := 4, ground := Ground.phase }, { on := 5, ground := Ground.phase }, { on := 6, ground := Ground.phase }, { on := 7, ground := Ground.phase }, { on := 8, ground := Ground.phase }, { on := 9, ground := Ground.phase }], guard := none }) rfl (fun K' hK => ?_) AllReadyH.nil
        rw [if_pos (by rfl)]
        go_simp
        refine hK.out _ _ (((HB6.out.far (p := ⟨w.heap.size, 17, none⟩) hne _).far (p := ⟨w.heap.size, 18, none⟩) hne _).far (p := ⟨w.heap.size, 19, none⟩) hne _) (fun hHeld => ?_)
        clear hK
        try simp only [Act.put, List.setIfInBounds_toArray, List.set_cons_zero, List.set_cons_succ]
        refine wpAnyH_done (by kernel_rfl) ?_ _
        have HM7 := Lib.hid (HM6.out.setF rf)
        clear hHeld q17 q18 q19 g17 g18 g19 hne HM6 HB6
        generalize World.setCell _ _ _ = V3 at *
        go_wp2_with (first | (refine wpList_load_row rfl 42 (.tmp 4) rfl w.heap.size rfl 42 (s2.setF rf).vs (0, 0) _ HM7.out.s Tryz.underlying42 rfl i20 ?_) | (refine wpList_store_row rfl 42 (.tmp 8) (.tmp 63) rfl (w.heap.size + 1 + 1) (s2.setF rf).vs rfl rfl 42 s0.vs HM7.out.z i20 rfl (s2.setF rf).vs_one ?_) | fail)
        exact ret_st rfl rfl rfl (bk_row HM7.out.z) ⟨by rw [← HS2.out, HS1.out], bel_row HM7.out.b (by omega) _⟩
    · skip
      rw [if_pos (by rfl)]
      go_simp
      have HX1 := Lib.hid (HM2D.out.below (bel_alloc (.cells #[.bool false, .bool false, .bool false] 174)))
      have HA1 := Lib.hid (Bk.new X2 174 #[.bool false, .bool false, .bool false])
      have HG := Lib.hid HM2D.out.z.lt
      obtain ⟨Y1, hY⟩ : ∃ Y, Y = X2.alloc (.cells #[.bool false, .bool false, .bool false] 174) := ⟨_, rfl⟩
      rw [← hY] at HX1 HA1 ⊢
      clear hY
      generalize X2.heap.size = B at HA1 HG ⊢
      refine hK.out _ _ (HX1.out) (fun hHeld => ?_)
      clear hK
      try simp only [Act.put, List.setIfInBounds_toArray, List.set_cons_zero, List.set_cons_succ]
      refine wpAnyH_ready (rs := [9]) (by kernel_rfl) (by simp) ?_
      refine AllReadyH.cons (o := { dst := some 38, op := Op.call { callee := Callee.value (Operand.func 119), args := #[Operand.tmp 4, Operand.tmp 37], argTypes := #[114, 26] }, type := 39, pos := "step.go:58", after := #[{ on := 8, ground := Ground.data }, { on := 2, ground := Ground.chain }], guard := none }) rfl (fun K' hK => ?_) AllReadyH.nil
      rw [if_pos (by rfl)]
      go_simp
      go_at_call 119
      refine (K3.out _ HX1.out.s).mono ?_
      rintro e y2 ⟨rfl, hb2⟩
      have HX2 := Lib.hid (HX1.out.below hb2)
      have HA2 := Lib.hid (HA1.out.below hb2 HA1.out.lt)
      clear hb2
      refine hK.out _ _ (HX2.out) (fun hHeld => ?_)
      clear hK
      try simp only [Act.put, List.setIfInBounds_toArray, List.set_cons_zero, List.set_cons_succ]
      refine wpAnyH_ready (rs := [17]) (by kernel_rfl) (by simp) ?_
      refine AllReadyH.cons (o := { dst := some 46, op := Op.call { callee := Callee.value (Operand.tmp 31), args := #[Operand.tmp 36, Operand.tmp 38, Operand.tmp 45], argTypes := #[39, 39, 174] }, type := 175, pos := "step.go:58", after := #[{ on := 2, ground := Ground.data }, { on := 7, ground := Ground.data }, { on := 9, ground := Ground.data }, { on := 16, ground := Ground.data }, { on := 9, ground := Ground.chain }], guard := none }) rfl (fun K' hK => ?_) AllReadyH.nil
      rw [if_pos (by rfl)]
      go_simp
      refine (K4.out _).mono ?_
      rintro e y3 ⟨rfl, hb3⟩
      have HX3 := Lib.hid (HX2.out.below hb3)
      have HA3 := Lib.hid (HA2.out.below hb3 HA2.out.lt)
      clear hb3
      refine hK.out _ _ (HX3.out) (fun hHeld => ?_)
      clear hK
      try simp only [Act.put, List.setIfInBounds_toArray, List.set_cons_zero, List.set_cons_succ]
      refine wpAnyH_take (i := 18) (oi := { dst := some 28, op := Op.move (Operand.tmp 46), type := 175, pos := "step.go:58", after := #[{ on := 17, ground := Ground.data }], guard := none }) (v := (.tuple #[.int .u64 rv, .agg #[.bool rf.c, .bool rf.o, .bool rf.z]])) rfl (by kernel_rfl) (by kernel_rfl) (by kernel_rfl) (fun _ _ _ h => h) (Or.inl ⟨by rfl, ?_⟩) (by assumption) ?_
      · intro w' hSw
        obtain ⟨z0, z1, z2, z3, z4, z5⟩ := HC.out _ hSw
        clear hSw
        go_simp
      simp only [Act.put, List.setIfInBounds_toArray, List.set_cons_zero, List.set_cons_succ]
      refine wpAnyH_take (i := 19) (oi := { dst := some 47, op := Op.extract (Operand.tmp 28) 0, type := 39, pos := "step.go:58", after := #[{ on := 18, ground := Ground.data }], guard := none }) (v := (.int .u64 rv)) rfl (by kernel_rfl) (by kernel_rfl) (by kernel_rfl) (fun _ _ _ h => h) (Or.inl ⟨by rfl, ?_⟩) (by assumption) ?_
      · intro w' hSw
        obtain ⟨z0, z1, z2, z3, z4, z5⟩ := HC.out _ hSw
        clear hSw
        go_simp
      simp only [Act.put, List.setIfInBounds_toArray, List.set_cons_zero, List.set_cons_succ]
      refine wpAnyH_take (i := 20) (oi := { dst := some 48, op := Op.extract (Operand.tmp 28) 1, type := 174, pos := "step.go:58", after := #[{ on := 18, ground := Ground.data }, { on := 22, ground := Ground.gcOnly Departure.lateStores }], guard := none }) (v := (.agg #[.bool rf.c, .bool rf.o, .bool rf.z])) rfl (by kernel_rfl) (by kernel_rfl) (by kernel_rfl) (fun _ _ _ h => h) (Or.inl ⟨by rfl, ?_⟩) (by assumption) ?_
      · intro w' hSw
        obtain ⟨z0, z1, z2, z3, z4, z5⟩ := HC.out _ hSw
        clear hSw
        go_simp
      simp only [Act.put, List.setIfInBounds_toArray, List.set_cons_zero, List.set_cons_succ]
      refine wpAnyH_take (i := 22) (oi := { dst := some 10, op := Op.assign (Operand.tmp 47), type := 39, pos := "step.go:58", after := #[{ on := 19, ground := Ground.data }, { on := 17, ground := Ground.chain }, { on := 0, ground := Ground.phase }, { on := 1, ground := Ground.phase }, { on := 2, ground := Ground.phase }, { on := 3, ground := Ground.phase }, { on := 4, ground := Ground.phase }, { on := 5, ground := Ground.phase }, { on := 6, ground := Ground.phase }, { on := 7, ground := Ground.phase }, { on := 8, ground := Ground.phase }, { on := 9, ground := Ground.phase }, { on := 10, ground := Ground.phase }, { on := 11, ground := Ground.phase }, { on := 12, ground := Ground.phase }, { on := 13, ground := Ground.phase }, { on := 14, ground := Ground.phase }, { on := 15, ground := Ground.phase }, { on := 16, ground := Ground.phase }, { on := 17, ground := Ground.phase }, { on := 18, ground := Ground.phase }, { on := 19, ground := Ground.phase }, { on := 20, ground := Ground.textOnly Departure.lateStores }, { on := 21, ground := Ground.phase }], guard := none }) (v := (.int .u64 rv)) rfl (by kernel_rfl) (by kernel_rfl) (by kernel_rfl) (fun _ _ _ h => h) (Or.inl ⟨by rfl, ?_⟩) (by assumption) ?_
      · intro w' hSw
        obtain ⟨z0, z1, z2, z3, z4, z5⟩ := HC.out _ hSw
        clear hSw
        go_simp
      simp only [Act.put, List.setIfInBounds_toArray, List.set_cons_zero, List.set_cons_succ]
      refine wpAnyH_ready (rs := [23]) (by kernel_rfl) (by simp) ?_
      refine AllReadyH.cons (o := { dst := none, op := Op.store 174 (Operand.tmp 11) (Operand.tmp 48), type := 0, pos := "step.go:58", after := #[{ on := 21, ground := Ground.data }, { on := 20, ground := Ground.data }, { on := 22, ground := Ground.chain }, { on := 0, ground := Ground.phase }, { on := 1, ground := Ground.phase }, { on := 2, ground := Ground.phase }, { on := 3, ground := Ground.phase }, { on := 4, ground := Ground.phase }, { on := 5, ground := Ground.phase }, { on := 6, ground := Ground.phase }, { on := 7, ground := Ground.phase }, { on := 8, ground := Ground.phase }, { on := 9, ground := Ground.phase }, { on := 10, ground := Ground.phase }, { on := 11, ground := Ground.phase }, { on := 12, ground := Ground.phase }, { on := 13, ground := Ground.phase }, { on := 14, ground := Ground.phase }, { on := 15, ground := Ground.phase }, { on := 16, ground := Ground.phase }, { on := 17, ground := Ground.phase }, { on := 18, ground := Ground.phase }, { on := 19, ground := Ground.phase }, { on := 20, ground := Ground.phase }, { on := 21, ground := Ground.phase }, { on := 22, ground := Ground.phase }], guard := none }) rfl (fun K' hK => ?_) AllReadyH.nil
      rw [if_pos (by rfl)]
      obtain ⟨p0, p1, p2, f0, f1, f2⟩ := b3 HA3.out
      have HY := Lib.hid (M3.far (M3.far (M3.far HX3.out HG.out (k := 0) (.bool rf.c)) HG.out (k := 1) (.bool rf.o)) HG.out (k := 2) (.bool rf.z))
      have HF := Lib.hid (((HA3.out.set_ 0 (.bool rf.c)).set_ 1 (.bool rf.o)).set_ 2 (.bool rf.z))
      go_simp
      refine hK.out _ _ (HY.out) (fun hHeld => ?_)
      clear hK
      try simp only [Act.put, List.setIfInBounds_toArray, List.set_cons_zero, List.set_cons_succ]
      clear p0 p1 p2 f0 f1 f2
      refine wpAnyH_done (by kernel_rfl) ?_ _
      change Hid (Bk _ B 174 #[.bool rf.c, .bool rf.o, .bool rf.z]) at HF
      generalize World.setCell _ _ _ = Y at *
      clear hHeld HC K2 K3 K4 heg
      have c1 : Y.cell? ⟨w.heap.size + 1, 1, none⟩ = some (.int .i64 (d : Int)) := by rw [← HD.out]; exact HY.out.i.cell 1
      have cd : Y.cell? ⟨w.heap.size, d, none⟩ = some (.int .u64 (s1.r d)) := (HY.out.s.cell d).trans (s1.vs_r hdl)
      have fd := HY.out.s.frozen d
      go_upto_region 7 with fail
      have HM5 := Lib.hid (HY.out.set hdl rv)
      have HB5 := Lib.hid (HF.out.far (p := ⟨w.heap.size, d, none⟩) (by have := HG.out; show B ≠ w.heap.size; omega) (.int .u64 rv))
      clear c1 cd fd
      generalize World.setCell _ _ _ = V at *
      clear HY HF
      generalize hs2 : s1.set d rv = s2 at *
      have HS2 := Lib.hid hs2
      clear hs2
      refine wp_region_held_drew (S := (fun w' => Bk w' B 174 #[.bool rf.c, .bool rf.o, .bool rf.z])) (by kernel_rfl) HB5.out.drew (fun hHeld => ?_)
      have HM6 := Lib.hid HM5.out.drew
      have HB6 := Lib.hid HB5.out.drew
      generalize World.drew V = V2 at *
      clear HM5 HB5
      refine wpAnyH_take (i := 0) (oi := { dst := some 54, op := Op.fieldAddr 174 (Operand.tmp 11) 0, type := 0, pos := "step.go:60", after := #[], guard := none }) (v := (.pointer (some ⟨B, 0, none⟩))) rfl (by kernel_rfl) (by kernel_rfl) (by kernel_rfl) (fun _ _ _ h => h) (Or.inl ⟨by rfl, ?_⟩) (by assumption) ?_
      · intro w' hSw
        have b0 := hSw.cell 0
        have b1 := hSw.cell 1
        have b2 := hSw.cell 2
        change _ = some (Value.bool rf.c) at b0
        change _ = some (Value.bool rf.o) at b1
        change _ = some (Value.bool rf.z) at b2
        clear hSw
        go_simp
      simp only [Act.put, List.setIfInBounds_toArray, List.set_cons_zero, List.set_cons_succ]
      refine wpAnyH_take (i := 1) (oi := { dst := some 55, op := Op.load 4 (Operand.tmp 54), type := 4, pos := "step.go:60", after := #[{ on := 0, ground := Ground.data }], guard := none }) (v := (.bool rf.c)) rfl (by kernel_rfl) (by kernel_rfl) (by kernel_rfl) (fun _ _ _ h => h) (Or.inl ⟨by rfl, ?_⟩) (by assumption) ?_
      · intro w' hSw
        have b0 := hSw.cell 0
        have b1 := hSw.cell 1
        have b2 := hSw.cell 2
        change _ = some (Value.bool rf.c) at b0
        change _ = some (Value.bool rf.o) at b1
        change _ = some (Value.bool rf.z) at b2
        clear hSw
        go_simp
      simp only [Act.put, List.setIfInBounds_toArray, List.set_cons_zero, List.set_cons_succ]
      refine wpAnyH_take (i := 2) (oi := { dst := some 56, op := Op.fieldAddr 174 (Operand.tmp 11) 1, type := 0, pos := "step.go:60", after := #[{ on := 7, ground := Ground.gcOnly Departure.lateStores }], guard := none }) (v := (.pointer (some ⟨B, 1, none⟩))) rfl (by kernel_rfl) (by kernel_rfl) (by kernel_rfl) (fun _ _ _ h => h) (Or.inl ⟨by rfl, ?_⟩) (by assumption) ?_
      · intro w' hSw
        have b0 := hSw.cell 0
        have b1 := hSw.cell 1
        have b2 := hSw.cell 2
        change _ = some (Value.bool rf.c) at b0
        change _ = some (Value.bool rf.o) at b1
        change _ = some (Value.bool rf.z) at b2
        clear hSw
        go_simp
      simp only [Act.put, List.setIfInBounds_toArray, List.set_cons_zero, List.set_cons_succ]
      refine wpAnyH_take (i := 3) (oi := { dst := some 57, op := Op.load 4 (Operand.tmp 56), type := 4, pos := "step.go:60", after := #[{ on := 2, ground := Ground.data }, { on := 7, ground := Ground.gcOnly Departure.lateStores }], guard := none }) (v := (.bool rf.o)) rfl (by kernel_rfl) (by kernel_rfl) (by kernel_rfl) (fun _ _ _ h => h) (Or.inl ⟨by rfl, ?_⟩) (by assumption) ?_
      · intro w' hSw
        have b0 := hSw.cell 0
        have b1 := hSw.cell 1
        have b2 := hSw.cell 2
        change _ = some (Value.bool rf.c) at b0
        change _ = some (Value.bool rf.o) at b1
        change _ = some (Value.bool rf.z) at b2
        clear hSw
        go_simp
      simp only [Act.put, List.setIfInBounds_toArray, List.set_cons_zero, List.set_cons_succ]
      refine wpAnyH_take (i := 4) (oi := { dst := some 58, op := Op.fieldAddr 174 (Operand.tmp 11) 2, type := 0, pos := "step.go:60", after := #[{ on := 9, ground := Ground.gcOnly Departure.lateStores }], guard := none }) (v := (.pointer (some ⟨B, 2, none⟩))) rfl (by kernel_rfl) (by kernel_rfl) (by kernel_rfl) (fun _ _ _ h => h) (Or.inl ⟨by rfl, ?_⟩) (by assumption) ?_
      · intro w' hSw
        have b0 := hSw.cell 0
        have b1 := hSw.cell 1
        have b2 := hSw.cell 2
        change _ = some (Value.bool rf.c) at b0
        change _ = some (Value.bool rf.o) at b1
        change _ = some (Value.bool rf.z) at b2
        clear hSw
        go_simp
      simp only [Act.put, List.setIfInBounds_toArray, List.set_cons_zero, List.set_cons_succ]
      refine wpAnyH_take (i := 5) (oi := { dst := some 59, op := Op.load 4 (Operand.tmp 58), type := 4, pos := "step.go:60", after := #[{ on := 4, ground := Ground.data }, { on := 9, ground := Ground.gcOnly Departure.lateStores }], guard := none }) (v := (.bool rf.z)) rfl (by kernel_rfl) (by kernel_rfl) (by kernel_rfl) (fun _ _ _ h => h) (Or.inl ⟨by rfl, ?_⟩) (by assumption) ?_
      · intro w' hSw
        have b0 := hSw.cell 0
        have b1 := hSw.cell 1
        have b2 := hSw.cell 2
        change _ = some (Value.bool rf.c) at b0
        change _ = some (Value.bool rf.o) at b1
        change _ = some (Value.bool rf.z) at b2
        clear hSw
        go_simp
      simp only [Act.put, List.setIfInBounds_toArray, List.set_cons_zero, List.set_cons_succ]
      refine wpAnyH_take (i := 6) (oi := { dst := some 60, op := Op.fieldAddr 42 (Operand.tmp 4) 2, type := 0, pos := "step.go:60", after := #[{ on := 0, ground := Ground.phase }, { on := 1, ground := Ground.phase }, { on := 2, ground := Ground.textOnly Departure.lateStores }, { on := 3, ground := Ground.textOnly Departure.lateStores }, { on := 4, ground := Ground.textOnly Departure.lateStores }, { on := 5, ground := Ground.textOnly Departure.lateStores }], guard := none }) (v := (.pointer (some ⟨w.heap.size, 17, none⟩))) rfl (by kernel_rfl) (by kernel_rfl) (by kernel_rfl) (fun _ _ _ h => h) (Or.inl ⟨by rfl, ?_⟩) (by assumption) ?_
      · intro w' hSw
        have b0 := hSw.cell 0
        have b1 := hSw.cell 1
        have b2 := hSw.cell 2
        change _ = some (Value.bool rf.c) at b0
        change _ = some (Value.bool rf.o) at b1
        change _ = some (Value.bool rf.z) at b2
        clear hSw
        go_simp
      simp only [Act.put, List.setIfInBounds_toArray, List.set_cons_zero, List.set_cons_succ]
      have q17 : V2.cell? ⟨w.heap.size, 17, none⟩ = some (.bool s2.cf) := HM6.out.s.cell 17
      have q18 : V2.cell? ⟨w.heap.size, 18, none⟩ = some (.bool s2.ov) := HM6.out.s.cell 18
      have q19 : V2.cell? ⟨w.heap.size, 19, none⟩ = some (.bool s2.zf) := HM6.out.s.cell 19
      have g17 := HM6.out.s.frozen 17
      have g18 := HM6.out.s.frozen 18
      have g19 := HM6.out.s.frozen 19
      have hne : B ≠ w.heap.size := by have := HG.out; omega
      refine wpAnyH_ready (rs := [7]) (by kernel_rfl) (by simp) ?_
      refine AllReadyH.cons (o := { dst := none, op := Op.store 4 (Operand.tmp 60) (Operand.tmp 55), type := 0, pos := "step.go:60", after := #[{ on := 6, ground := Ground.data }, { on := 1, ground := Ground.data }, { on := 0, ground := Ground.phase }, { on := 1, ground := Ground.phase }, { on := 2, ground := Ground.textOnly Departure.lateStores }, { on := 3, ground := Ground.textOnly Departure.lateStores }, { on := 4, ground := Ground.textOnly Departure.lateStores }, { on := 5, ground := Ground.textOnly Departure.lateStores }], guard := none }) rfl (fun K' hK => ?_) AllReadyH.nil
      rw [if_pos (by rfl)]
      go_simp
      refine hK.out _ _ (HB6.out.far (p := ⟨w.heap.size, 17, none⟩) hne _) (fun hHeld => ?_)
      clear hK
      try simp only [Act.put, List.setIfInBounds_toArray, List.set_cons_zero, List.set_cons_succ]
      refine wpAnyH_take (i := 8) (oi := { dst := some 61, op := Op.fieldAddr 42 (Operand.tmp 4) 3, type := 0, pos := "step.go:60", after := #[{ on := 0, ground := Ground.phase }, { on := 1, ground := Ground.phase }, { on := 2, ground := Ground.phase }, { on := 3, ground := Ground.phase }, { on := 4, ground := Ground.textOnly Departure.lateStores }, { on := 5, ground := Ground.textOnly Departure.lateStores }, { on := 6, ground := Ground.phase }, { on := 7, ground := Ground.phase }], guard := none }) (v := (.pointer (some ⟨w.heap.size, 18, none⟩))) rfl (by kernel_rfl) (by kernel_rfl) (by kernel_rfl) (fun _ _ _ h => h) (Or.inl ⟨by rfl, ?_⟩) (by assumption) ?_
      · intro w' hSw
        have b0 := hSw.cell 0
        have b1 := hSw.cell 1
        have b2 := hSw.cell 2
        change _ = some (Value.bool rf.c) at b0
        change _ = some (Value.bool rf.o) at b1
        change _ = some (Value.bool rf.z) at b2
        clear hSw
        go_simp
      simp only [Act.put, List.setIfInBounds_toArray, List.set_cons_zero, List.set_cons_succ]
      refine wpAnyH_ready (rs := [9]) (by kernel_rfl) (by simp) ?_
      refine AllReadyH.cons (o := { dst := none, op := Op.store 4 (Operand.tmp 61) (Operand.tmp 57), type := 0, pos := "step.go:60", after := #[{ on := 8, ground := Ground.data }, { on := 3, ground := Ground.data }, { on := 7, ground := Ground.chain }, { on := 0, ground := Ground.phase }, { on := 1, ground := Ground.phase }, { on := 2, ground := Ground.phase }, { on := 3, ground := Ground.phase }, { on := 4, ground := Ground.textOnly Departure.lateStores }, { on := 5, ground := Ground.textOnly Departure.lateStores }, { on := 6, ground := Ground.phase }, { on := 7, ground := Ground.phase }], guard := none }) rfl (fun K' hK => ?_) AllReadyH.nil
      rw [if_pos (by rfl)]
      go_simp
      refine hK.out _ _ ((HB6.out.far (p := ⟨w.heap.size, 17, none⟩) hne _).far (p := ⟨w.heap.size, 18, none⟩) hne _) (fun hHeld => ?_)
      clear hK
      try simp only [Act.put, List.setIfInBounds_toArray, List.set_cons_zero, List.set_cons_succ]
      refine wpAnyH_take (i := 10) (oi := { dst := some 62, op := Op.fieldAddr 42 (Operand.tmp 4) 4, type := 0, pos := "step.go:60", after := #[{ on := 0, ground := Ground.phase }, { on := 1, ground := Ground.phase }, { on := 2, ground := Ground.phase }, { on := 3, ground := Ground.phase }, { on := 4, ground := Ground.phase }, { on := 5, ground := Ground.phase }, { on := 6, ground := Ground.phase }, { on := 7, ground := Ground.phase }, { on := 8, ground := Ground.phase }, { on := 9, ground := Ground.phase }], guard := none }) (v := (.pointer (some ⟨w.heap.size, 19, none⟩))) rfl (by kernel_rfl) (by kernel_rfl) (by kernel_rfl) (fun _ _ _ h => h) (Or.inl ⟨by rfl, ?_⟩) (by assumption) ?_
      · intro w' hSw
        have b0 := hSw.cell 0
        have b1 := hSw.cell 1
        have b2 := hSw.cell 2
        change _ = some (Value.bool rf.c) at b0
        change _ = some (Value.bool rf.o) at b1
        change _ = some (Value.bool rf.z) at b2
        clear hSw
        go_simp
      simp only [Act.put, List.setIfInBounds_toArray, List.set_cons_zero, List.set_cons_succ]
      refine wpAnyH_ready (rs := [11]) (by kernel_rfl) (by simp) ?_
      refine AllReadyH.cons (o := { dst := none, op := Op.store 4 (Operand.tmp 62) (Operand.tmp 59), type := 0, pos := "step.go:60", after := #[{ on := 10, ground := Ground.data }, { on := 5, ground := Ground.data }, { on := 9, ground := Ground.chain }, { on := 0, ground := Ground.phase }, { on := 1, ground := Ground.phase }, { on := 2, ground := Ground.phase }, { on := 3, ground := Ground.phase }, { on := 4, ground := Ground.phase }, { on := 5, ground := Ground.phase }, { on := 6, ground := Ground.phase }, { on := 7, ground := Ground.phase }, { on := 8, ground := Ground.phase }, { on := 9, ground := Ground.phase }], guard := none }) rfl (fun K' hK => ?_) AllReadyH.nil
      rw [if_pos (by rfl)]
      go_simp
      refine hK.out _ _ (((HB6.out.far (p := ⟨w.heap.size, 17, none⟩) hne _).far (p := ⟨w.heap.size, 18, none⟩) hne _).far (p := ⟨w.heap.size, 19, none⟩) hne _) (fun hHeld => ?_)
      clear hK
      try simp only [Act.put, List.setIfInBounds_toArray, List.set_cons_zero, List.set_cons_succ]
      refine wpAnyH_done (by kernel_rfl) ?_ _
      have HM7 := Lib.hid (HM6.out.setF rf)
      clear hHeld q17 q18 q19 g17 g18 g19 hne HM6 HB6
      generalize World.setCell _ _ _ = V3 at *
      go_wp2_with (first | (refine wpList_load_row rfl 42 (.tmp 4) rfl w.heap.size rfl 42 (s2.setF rf).vs (0, 0) _ HM7.out.s Tryz.underlying42 rfl i20 ?_) | (refine wpList_store_row rfl 42 (.tmp 8) (.tmp 63) rfl (w.heap.size + 1 + 1) (s2.setF rf).vs rfl rfl 42 s0.vs HM7.out.z i20 rfl (s2.setF rf).vs_one ?_) | fail)
      exact ret_st rfl rfl rfl (bk_row HM7.out.z) ⟨by rw [← HS2.out, HS1.out], bel_row HM7.out.b (by omega) _⟩
  · skip
    rw [if_pos (by rfl)]
    go_simp
    have HX0 := Lib.hid (HM2D.out.below (bel_alloc (.cells #[.bool false, .bool false, .bool false] 174)))
    have HA0 := Lib.hid (Bk.new X2 174 #[.bool false, .bool false, .bool false])
    have HG := Lib.hid HM2D.out.z.lt
    obtain ⟨Y0, hY⟩ : ∃ Y, Y = X2.alloc (.cells #[.bool false, .bool false, .bool false] 174) := ⟨_, rfl⟩
    rw [← hY] at HX0 HA0 ⊢
    clear hY
    generalize X2.heap.size = B at HA0 HG ⊢
    refine hK.out _ _ (HX0.out) (fun hHeld => ?_)
    clear hK
    try simp only [Act.put, List.setIfInBounds_toArray, List.set_cons_zero, List.set_cons_succ]
    refine wpAnyH_ready (rs := [2]) (by kernel_rfl) (by simp) ?_
    refine AllReadyH.cons (o := { dst := some 31, op := Op.call { callee := Callee.value (Operand.func 118), args := #[Operand.tmp 30], argTypes := #[3] }, type := 177, pos := "step.go:58", after := #[{ on := 1, ground := Ground.data }], guard := none }) rfl (fun K' hK => ?_) AllReadyH.nil
    rw [if_pos (by rfl)]
    go_simp
    go_at_call 118
    refine (K2.out _).mono ?_
    rintro e y ⟨rfl, hy⟩
    rw [hy]
    clear hy
    refine hK.out _ _ (HX0.out) (fun hHeld => ?_)
    clear hK
    try simp only [Act.put, List.setIfInBounds_toArray, List.set_cons_zero, List.set_cons_succ]
    refine wpAnyH_ready (rs := [9]) (by kernel_rfl) (by simp) ?_
    refine AllReadyH.cons (o := { dst := some 38, op := Op.call { callee := Callee.value (Operand.func 119), args := #[Operand.tmp 4, Operand.tmp 37], argTypes := #[114, 26] }, type := 39, pos := "step.go:58", after := #[{ on := 8, ground := Ground.data }, { on := 2, ground := Ground.chain }], guard := none }) rfl (fun K' hK => ?_) AllReadyH.nil
    rw [if_pos (by rfl)]
    go_simp
    go_at_call 119
    refine (K3.out _ HX0.out.s).mono ?_
    rintro e y2 ⟨rfl, hb2⟩
    have HX2 := Lib.hid (HX0.out.below hb2)
    have HA2 := Lib.hid (HA0.out.below hb2 HA0.out.lt)
    clear hb2
    refine hK.out _ _ (HX2.out) (fun hHeld => ?_)
    clear hK
    try simp only [Act.put, List.setIfInBounds_toArray, List.set_cons_zero, List.set_cons_succ]
    refine wpAnyH_ready (rs := [17]) (by kernel_rfl) (by simp) ?_
    refine AllReadyH.cons (o := { dst := some 46, op := Op.call { callee := Callee.value (Operand.tmp 31), args := #[Operand.tmp 36, Operand.tmp 38, Operand.tmp 45], argTypes := #[39, 39, 174] }, type := 175, pos := "step.go:58", after := #[{ on := 2, ground := Ground.data }, { on := 7, ground := Ground.data }, { on := 9, ground := Ground.data }, { on := 16, ground := Ground.data }, { on := 9, ground := Ground.chain }], guard := none }) rfl (fun K' hK => ?_) AllReadyH.nil
    rw [if_pos (by rfl)]
    go_simp
    refine (K4.out _).mono ?_
    rintro e y3 ⟨rfl, hb3⟩
    have HX3 := Lib.hid (HX2.out.below hb3)
    have HA3 := Lib.hid (HA2.out.below hb3 HA2.out.lt)
    clear hb3
    refine hK.out _ _ (HX3.out) (fun hHeld => ?_)
    clear hK
    try simp only [Act.put, List.setIfInBounds_toArray, List.set_cons_zero, List.set_cons_succ]
    refine wpAnyH_take (i := 18) (oi := { dst := some 28, op := Op.move (Operand.tmp 46), type := 175, pos := "step.go:58", after := #[{ on := 17, ground := Ground.data }], guard := none }) (v := (.tuple #[.int .u64 rv, .agg #[.bool rf.c, .bool rf.o, .bool rf.z]])) rfl (by kernel_rfl) (by kernel_rfl) (by kernel_rfl) (fun _ _ _ h => h) (Or.inl ⟨by rfl, ?_⟩) (by assumption) ?_
    · intro w' hSw
      obtain ⟨z0, z1, z2, z3, z4, z5⟩ := HC.out _ hSw
      clear hSw
      go_simp
    simp only [Act.put, List.setIfInBounds_toArray, List.set_cons_zero, List.set_cons_succ]
    refine wpAnyH_take (i := 19) (oi := { dst := some 47, op := Op.extract (Operand.tmp 28) 0, type := 39, pos := "step.go:58", after := #[{ on := 18, ground := Ground.data }], guard := none }) (v := (.int .u64 rv)) rfl (by kernel_rfl) (by kernel_rfl) (by kernel_rfl) (fun _ _ _ h => h) (Or.inl ⟨by rfl, ?_⟩) (by assumption) ?_
    · intro w' hSw
      obtain ⟨z0, z1, z2, z3, z4, z5⟩ := HC.out _ hSw
      clear hSw
      go_simp
    simp only [Act.put, List.setIfInBounds_toArray, List.set_cons_zero, List.set_cons_succ]
    refine wpAnyH_take (i := 20) (oi := { dst := some 48, op := Op.extract (Operand.tmp 28) 1, type := 174, pos := "step.go:58", after := #[{ on := 18, ground := Ground.data }, { on := 22, ground := Ground.gcOnly Departure.lateStores }], guard := none }) (v := (.agg #[.bool rf.c, .bool rf.o, .bool rf.z])) rfl (by kernel_rfl) (by kernel_rfl) (by kernel_rfl) (fun _ _ _ h => h) (Or.inl ⟨by rfl, ?_⟩) (by assumption) ?_
    · intro w' hSw
      obtain ⟨z0, z1, z2, z3, z4, z5⟩ := HC.out _ hSw
      clear hSw
      go_simp
    simp only [Act.put, List.setIfInBounds_toArray, List.set_cons_zero, List.set_cons_succ]
    refine wpAnyH_take (i := 22) (oi := { dst := some 10, op := Op.assign (Operand.tmp 47), type := 39, pos := "step.go:58", after := #[{ on := 19, ground := Ground.data }, { on := 17, ground := Ground.chain }, { on := 0, ground := Ground.phase }, { on := 1, ground := Ground.phase }, { on := 2, ground := Ground.phase }, { on := 3, ground := Ground.phase }, { on := 4, ground := Ground.phase }, { on := 5, ground := Ground.phase }, { on := 6, ground := Ground.phase }, { on := 7, ground := Ground.phase }, { on := 8, ground := Ground.phase }, { on := 9, ground := Ground.phase }, { on := 10, ground := Ground.phase }, { on := 11, ground := Ground.phase }, { on := 12, ground := Ground.phase }, { on := 13, ground := Ground.phase }, { on := 14, ground := Ground.phase }, { on := 15, ground := Ground.phase }, { on := 16, ground := Ground.phase }, { on := 17, ground := Ground.phase }, { on := 18, ground := Ground.phase }, { on := 19, ground := Ground.phase }, { on := 20, ground := Ground.textOnly Departure.lateStores }, { on := 21, ground := Ground.phase }], guard := none }) (v := (.int .u64 rv)) rfl (by kernel_rfl) (by kernel_rfl) (by kernel_rfl) (fun _ _ _ h => h) (Or.inl ⟨by rfl, ?_⟩) (by assumption) ?_
    · intro w' hSw
      obtain ⟨z0, z1, z2, z3, z4, z5⟩ := HC.out _ hSw
      clear hSw
      go_simp
    simp only [Act.put, List.setIfInBounds_toArray, List.set_cons_zero, List.set_cons_succ]
    refine wpAnyH_ready (rs := [23]) (by kernel_rfl) (by simp) ?_
    refine AllReadyH.cons (o := { dst := none, op := Op.store 174 (Operand.tmp 11) (Operand.tmp 48), type := 0, pos := "step.go:58", after := #[{ on := 21, ground := Ground.data }, { on := 20, ground := Ground.data }, { on := 22, ground := Ground.chain }, { on := 0, ground := Ground.phase }, { on := 1, ground := Ground.phase }, { on := 2, ground := Ground.phase }, { on := 3, ground := Ground.phase }, { on := 4, ground := Ground.phase }, { on := 5, ground := Ground.phase }, { on := 6, ground := Ground.phase }, { on := 7, ground := Ground.phase }, { on := 8, ground := Ground.phase }, { on := 9, ground := Ground.phase }, { on := 10, ground := Ground.phase }, { on := 11, ground := Ground.phase }, { on := 12, ground := Ground.phase }, { on := 13, ground := Ground.phase }, { on := 14, ground := Ground.phase }, { on := 15, ground := Ground.phase }, { on := 16, ground := Ground.phase }, { on := 17, ground := Ground.phase }, { on := 18, ground := Ground.phase }, { on := 19, ground := Ground.phase }, { on := 20, ground := Ground.phase }, { on := 21, ground := Ground.phase }, { on := 22, ground := Ground.phase }], guard := none }) rfl (fun K' hK => ?_) AllReadyH.nil
    rw [if_pos (by rfl)]
    obtain ⟨p0, p1, p2, f0, f1, f2⟩ := b3 HA3.out
    have HY := Lib.hid (M3.far (M3.far (M3.far HX3.out HG.out (k := 0) (.bool rf.c)) HG.out (k := 1) (.bool rf.o)) HG.out (k := 2) (.bool rf.z))
    have HF := Lib.hid (((HA3.out.set_ 0 (.bool rf.c)).set_ 1 (.bool rf.o)).set_ 2 (.bool rf.z))
    go_simp
    refine hK.out _ _ (HY.out) (fun hHeld => ?_)
    clear hK
    try simp only [Act.put, List.setIfInBounds_toArray, List.set_cons_zero, List.set_cons_succ]
    clear p0 p1 p2 f0 f1 f2
    refine wpAnyH_done (by kernel_rfl) ?_ _
    change Hid (Bk _ B 174 #[.bool rf.c, .bool rf.o, .bool rf.z]) at HF
    generalize World.setCell _ _ _ = Y at *
    clear hHeld HC K2 K3 K4 heg
    have c1 : Y.cell? ⟨w.heap.size + 1, 1, none⟩ = some (.int .i64 (d : Int)) := by rw [← HD.out]; exact HY.out.i.cell 1
    have cd : Y.cell? ⟨w.heap.size, d, none⟩ = some (.int .u64 (s1.r d)) := (HY.out.s.cell d).trans (s1.vs_r hdl)
    have fd := HY.out.s.frozen d
    go_upto_region 7 with fail
    have HM5 := Lib.hid (HY.out.set hdl rv)
    have HB5 := Lib.hid (HF.out.far (p := ⟨w.heap.size, d, none⟩) (by have := HG.out; show B ≠ w.heap.size; omega) (.int .u64 rv))
    clear c1 cd fd
    generalize World.setCell _ _ _ = V at *
    clear HY HF
    generalize hs2 : s1.set d rv = s2 at *
    have HS2 := Lib.hid hs2
    clear hs2
    refine wp_region_held_drew (S := (fun w' => Bk w' B 174 #[.bool rf.c, .bool rf.o, .bool rf.z])) (by kernel_rfl) HB5.out.drew (fun hHeld => ?_)
    have HM6 := Lib.hid HM5.out.drew
    have HB6 := Lib.hid HB5.out.drew
    generalize World.drew V = V2 at *
    clear HM5 HB5
    refine wpAnyH_take (i := 0) (oi := { dst := some 54, op := Op.fieldAddr 174 (Operand.tmp 11) 0, type := 0, pos := "step.go:60", after := #[], guard := none }) (v := (.pointer (some ⟨B, 0, none⟩))) rfl (by kernel_rfl) (by kernel_rfl) (by kernel_rfl) (fun _ _ _ h => h) (Or.inl ⟨by rfl, ?_⟩) (by assumption) ?_
    · intro w' hSw
      have b0 := hSw.cell 0
      have b1 := hSw.cell 1
      have b2 := hSw.cell 2
      change _ = some (Value.bool rf.c) at b0
      change _ = some (Value.bool rf.o) at b1
      change _ = some (Value.bool rf.z) at b2
      clear hSw
      go_simp
    simp only [Act.put, List.setIfInBounds_toArray, List.set_cons_zero, List.set_cons_succ]
    refine wpAnyH_take (i := 1) (oi := { dst := some 55, op := Op.load 4 (Operand.tmp 54), type := 4, pos := "step.go:60", after := #[{ on := 0, ground := Ground.data }], guard := none }) (v := (.bool rf.c)) rfl (by kernel_rfl) (by kernel_rfl) (by kernel_rfl) (fun _ _ _ h => h) (Or.inl ⟨by rfl, ?_⟩) (by assumption) ?_
    · intro w' hSw
      have b0 := hSw.cell 0
      have b1 := hSw.cell 1
      have b2 := hSw.cell 2
      change _ = some (Value.bool rf.c) at b0
      change _ = some (Value.bool rf.o) at b1
      change _ = some (Value.bool rf.z) at b2
      clear hSw
      go_simp
    simp only [Act.put, List.setIfInBounds_toArray, List.set_cons_zero, List.set_cons_succ]
    refine wpAnyH_take (i := 2) (oi := { dst := some 56, op := Op.fieldAddr 174 (Operand.tmp 11) 1, type := 0, pos := "step.go:60", after := #[{ on := 7, ground := Ground.gcOnly Departure.lateStores }], guard := none }) (v := (.pointer (some ⟨B, 1, none⟩))) rfl (by kernel_rfl) (by kernel_rfl) (by kernel_rfl) (fun _ _ _ h => h) (Or.inl ⟨by rfl, ?_⟩) (by assumption) ?_
    · intro w' hSw
      have b0 := hSw.cell 0
      have b1 := hSw.cell 1
      have b2 := hSw.cell 2
      change _ = some (Value.bool rf.c) at b0
      change _ = some (Value.bool rf.o) at b1
      change _ = some (Value.bool rf.z) at b2
      clear hSw
      go_simp
    simp only [Act.put, List.setIfInBounds_toArray, List.set_cons_zero, List.set_cons_succ]
    refine wpAnyH_take (i := 3) (oi := { dst := some 57, op := Op.load 4 (Operand.tmp 56), type := 4, pos := "step.go:60", after := #[{ on := 2, ground := Ground.data }, { on := 7, ground := Ground.gcOnly Departure.lateStores }], guard := none }) (v := (.bool rf.o)) rfl (by kernel_rfl) (by kernel_rfl) (by kernel_rfl) (fun _ _ _ h => h) (Or.inl ⟨by rfl, ?_⟩) (by assumption) ?_
    · intro w' hSw
      have b0 := hSw.cell 0
      have b1 := hSw.cell 1
      have b2 := hSw.cell 2
      change _ = some (Value.bool rf.c) at b0
      change _ = some (Value.bool rf.o) at b1
      change _ = some (Value.bool rf.z) at b2
      clear hSw
      go_simp
    simp only [Act.put, List.setIfInBounds_toArray, List.set_cons_zero, List.set_cons_succ]
    refine wpAnyH_take (i := 4) (oi := { dst := some 58, op := Op.fieldAddr 174 (Operand.tmp 11) 2, type := 0, pos := "step.go:60", after := #[{ on := 9, ground := Ground.gcOnly Departure.lateStores }], guard := none }) (v := (.pointer (some ⟨B, 2, none⟩))) rfl (by kernel_rfl) (by kernel_rfl) (by kernel_rfl) (fun _ _ _ h => h) (Or.inl ⟨by rfl, ?_⟩) (by assumption) ?_
    · intro w' hSw
      have b0 := hSw.cell 0
      have b1 := hSw.cell 1
      have b2 := hSw.cell 2
      change _ = some (Value.bool rf.c) at b0
      change _ = some (Value.bool rf.o) at b1
      change _ = some (Value.bool rf.z) at b2
      clear hSw
      go_simp
    simp only [Act.put, List.setIfInBounds_toArray, List.set_cons_zero, List.set_cons_succ]
    refine wpAnyH_take (i := 5) (oi := { dst := some 59, op := Op.load 4 (Operand.tmp 58), type := 4, pos := "step.go:60", after := #[{ on := 4, ground := Ground.data }, { on := 9, ground := Ground.gcOnly Departure.lateStores }], guard := none }) (v := (.bool rf.z)) rfl (by kernel_rfl) (by kernel_rfl) (by kernel_rfl) (fun _ _ _ h => h) (Or.inl ⟨by rfl, ?_⟩) (by assumption) ?_
    · intro w' hSw
      have b0 := hSw.cell 0
      have b1 := hSw.cell 1
      have b2 := hSw.cell 2
      change _ = some (Value.bool rf.c) at b0
      change _ = some (Value.bool rf.o) at b1
      change _ = some (Value.bool rf.z) at b2
      clear hSw
      go_simp
    simp only [Act.put, List.setIfInBounds_toArray, List.set_cons_zero, List.set_cons_succ]
    refine wpAnyH_take (i := 6) (oi := { dst := some 60, op := Op.fieldAddr 42 (Operand.tmp 4) 2, type := 0, pos := "step.go:60", after := #[{ on := 0, ground := Ground.phase }, { on := 1, ground := Ground.phase }, { on := 2, ground := Ground.textOnly Departure.lateStores }, { on := 3, ground := Ground.textOnly Departure.lateStores }, { on := 4, ground := Ground.textOnly Departure.lateStores }, { on := 5, ground := Ground.textOnly Departure.lateStores }], guard := none }) (v := (.pointer (some ⟨w.heap.size, 17, none⟩))) rfl (by kernel_rfl) (by kernel_rfl) (by kernel_rfl) (fun _ _ _ h => h) (Or.inl ⟨by rfl, ?_⟩) (by assumption) ?_
    · intro w' hSw
      have b0 := hSw.cell 0
      have b1 := hSw.cell 1
      have b2 := hSw.cell 2
      change _ = some (Value.bool rf.c) at b0
      change _ = some (Value.bool rf.o) at b1
      change _ = some (Value.bool rf.z) at b2
      clear hSw
      go_simp
    simp only [Act.put, List.setIfInBounds_toArray, List.set_cons_zero, List.set_cons_succ]
    have q17 : V2.cell? ⟨w.heap.size, 17, none⟩ = some (.bool s2.cf) := HM6.out.s.cell 17
    have q18 : V2.cell? ⟨w.heap.size, 18, none⟩ = some (.bool s2.ov) := HM6.out.s.cell 18
    have q19 : V2.cell? ⟨w.heap.size, 19, none⟩ = some (.bool s2.zf) := HM6.out.s.cell 19
    have g17 := HM6.out.s.frozen 17
    have g18 := HM6.out.s.frozen 18
    have g19 := HM6.out.s.frozen 19
    have hne : B ≠ w.heap.size := by have := HG.out; omega
    refine wpAnyH_ready (rs := [7]) (by kernel_rfl) (by simp) ?_
    refine AllReadyH.cons (o := { dst := none, op := Op.store 4 (Operand.tmp 60) (Operand.tmp 55), type := 0, pos := "step.go:60", after := #[{ on := 6, ground := Ground.data }, { on := 1, ground := Ground.data }, { on := 0, ground := Ground.phase }, { on := 1, ground := Ground.phase }, { on := 2, ground := Ground.textOnly Departure.lateStores }, { on := 3, ground := Ground.textOnly Departure.lateStores }, { on := 4, ground := Ground.textOnly Departure.lateStores }, { on := 5, ground := Ground.textOnly Departure.lateStores }], guard := none }) rfl (fun K' hK => ?_) AllReadyH.nil
    rw [if_pos (by rfl)]
    go_simp
    refine hK.out _ _ (HB6.out.far (p := ⟨w.heap.size, 17, none⟩) hne _) (fun hHeld => ?_)
    clear hK
    try simp only [Act.put, List.setIfInBounds_toArray, List.set_cons_zero, List.set_cons_succ]
    refine wpAnyH_take (i := 8) (oi := { dst := some 61, op := Op.fieldAddr 42 (Operand.tmp 4) 3, type := 0, pos := "step.go:60", after := #[{ on := 0, ground := Ground.phase }, { on := 1, ground := Ground.phase }, { on := 2, ground := Ground.phase }, { on := 3, ground := Ground.phase }, { on := 4, ground := Ground.textOnly Departure.lateStores }, { on := 5, ground := Ground.textOnly Departure.lateStores }, { on := 6, ground := Ground.phase }, { on := 7, ground := Ground.phase }], guard := none }) (v := (.pointer (some ⟨w.heap.size, 18, none⟩))) rfl (by kernel_rfl) (by kernel_rfl) (by kernel_rfl) (fun _ _ _ h => h) (Or.inl ⟨by rfl, ?_⟩) (by assumption) ?_
    · intro w' hSw
      have b0 := hSw.cell 0
      have b1 := hSw.cell 1
      have b2 := hSw.cell 2
      change _ = some (Value.bool rf.c) at b0
      change _ = some (Value.bool rf.o) at b1
      change _ = some (Value.bool rf.z) at b2
      clear hSw
      go_simp
    simp only [Act.put, List.setIfInBounds_toArray, List.set_cons_zero, List.set_cons_succ]
    refine wpAnyH_ready (rs := [9]) (by kernel_rfl) (by simp) ?_
    refine AllReadyH.cons (o := { dst := none, op := Op.store 4 (Operand.tmp 61) (Operand.tmp 57), type := 0, pos := "step.go:60", after := #[{ on := 8, ground := Ground.data }, { on := 3, ground := Ground.data }, { on := 7, ground := Ground.chain }, { on := 0, ground := Ground.phase }, { on := 1, ground := Ground.phase }, { on := 2, ground := Ground.phase }, { on := 3, ground := Ground.phase }, { on := 4, ground := Ground.textOnly Departure.lateStores }, { on := 5, ground := Ground.textOnly Departure.lateStores }, { on := 6, ground := Ground.phase }, { on := 7, ground := Ground.phase }], guard := none }) rfl (fun K' hK => ?_) AllReadyH.nil
    rw [if_pos (by rfl)]
    go_simp
    refine hK.out _ _ ((HB6.out.far (p := ⟨w.heap.size, 17, none⟩) hne _).far (p := ⟨w.heap.size, 18, none⟩) hne _) (fun hHeld => ?_)
    clear hK
    try simp only [Act.put, List.setIfInBounds_toArray, List.set_cons_zero, List.set_cons_succ]
    refine wpAnyH_take (i := 10) (oi := { dst := some 62, op := Op.fieldAddr 42 (Operand.tmp 4) 4, type := 0, pos := "step.go:60", after := #[{ on := 0, ground := Ground.phase }, { on := 1, ground := Ground.phase }, { on := 2, ground := Ground.phase }, { on := 3, ground := Ground.phase }, { on := 4, ground := Ground.phase }, { on := 5, ground := Ground.phase }, { on := 6, ground := Ground.phase }, { on := 7, ground := Ground.phase }, { on := 8, ground := Ground.phase }, { on := 9, ground := Ground.phase }], guard := none }) (v := (.pointer (some ⟨w.heap.size, 19, none⟩))) rfl (by kernel_rfl) (by kernel_rfl) (by kernel_rfl) (fun _ _ _ h => h) (Or.inl ⟨by rfl, ?_⟩) (by assumption) ?_
    · intro w' hSw
      have b0 := hSw.cell 0
      have b1 := hSw.cell 1
      have b2 := hSw.cell 2
      change _ = some (Value.bool rf.c) at b0
      change _ = some (Value.bool rf.o) at b1
      change _ = some (Value.bool rf.z) at b2
      clear hSw
      go_simp
    simp only [Act.put, List.setIfInBounds_toArray, List.set_cons_zero, List.set_cons_succ]
    refine wpAnyH_ready (rs := [11]) (by kernel_rfl) (by simp) ?_
    refine AllReadyH.cons (o := { dst := none, op := Op.store 4 (Operand.tmp 62) (Operand.tmp 59), type := 0, pos := "step.go:60", after := #[{ on := 10, ground := Ground.data }, { on := 5, ground := Ground.data }, { on := 9, ground := Ground.chain }, { on := 0, ground := Ground.phase }, { on := 1, ground := Ground.phase }, { on := 2, ground := Ground.phase }, { on := 3, ground := Ground.phase }, { on := 4, ground := Ground.phase }, { on := 5, ground := Ground.phase }, { on := 6, ground := Ground.phase }, { on := 7, ground := Ground.phase }, { on := 8, ground := Ground.phase }, { on := 9, ground := Ground.phase }], guard := none }) rfl (fun K' hK => ?_) AllReadyH.nil
    rw [if_pos (by rfl)]
    go_simp
    refine hK.out _ _ (((HB6.out.far (p := ⟨w.heap.size, 17, none⟩) hne _).far (p := ⟨w.heap.size, 18, none⟩) hne _).far (p := ⟨w.heap.size, 19, none⟩) hne _) (fun hHeld => ?_)
    clear hK
    try simp only [Act.put, List.setIfInBounds_toArray, List.set_cons_zero, List.set_cons_succ]
    refine wpAnyH_done (by kernel_rfl) ?_ _
    have HM7 := Lib.hid (HM6.out.setF rf)
    clear hHeld q17 q18 q19 g17 g18 g19 hne HM6 HB6
    generalize World.setCell _ _ _ = V3 at *
    go_wp2_with (first | (refine wpList_load_row rfl 42 (.tmp 4) rfl w.heap.size rfl 42 (s2.setF rf).vs (0, 0) _ HM7.out.s Tryz.underlying42 rfl i20 ?_) | (refine wpList_store_row rfl 42 (.tmp 8) (.tmp 63) rfl (w.heap.size + 1 + 1) (s2.setF rf).vs rfl rfl 42 s0.vs HM7.out.z i20 rfl (s2.setF rf).vs_one ?_) | fail)
    exact ret_st rfl rfl rfl (bk_row HM7.out.z) ⟨by rw [← HS2.out, HS1.out], bel_row HM7.out.b (by omega) _⟩
end Sp
end Go.Proofs.YtikbnfhnimjmmaaGreatDoor
