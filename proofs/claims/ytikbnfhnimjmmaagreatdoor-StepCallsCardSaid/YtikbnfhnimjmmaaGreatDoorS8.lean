/- The landed package step: the functions that move by a product, and by an address. -/
import Derived.Test.YtikbnfhnimjmmaaGreatDoorS7
import Derived.Deep.RegionHeld3
namespace Go.Proofs.YtikbnfhnimjmmaaGreatDoor
open Go Go.RowKit Go.Shelf
namespace Sp
open Wd Nt Mm Is
set_option linter.unusedVariables false
set_option linter.unusedSimpArgs false
set_option maxRecDepth 100000 in
set_option maxHeartbeats 1000000 in
theorem mv4_l (s : Stt) (i : Ins) (hs : s.wf) (d c f : Nat) (hd : d < 16) (he : c < 16) (hf : f < 16) (hde : d ≠ c) (hi : i.d = d) (hj : i.s = c) (hk : i.t = f) (v : Int) (w : World) : Calls Tryz.prog 192 #[.agg s.vs, .agg i.vs, .int .u64 v] w fun e w' => e = .returned (.agg ((s.set d (mulH (s.r f) (s.r 2))).set c (mulL (s.r f) (s.r 2))).vs) ∧ Below w.heap.size w w' := by
  have K1 := Lib.hid (fun W => mul64_l (s.r f) (s.r 2) (hs.r f) (hs.r 2) W)
  generalize mulH (s.r f) (s.r 2) = mh at *
  generalize mulL (s.r f) (s.r 2) = ml at *
  go_enter Tryz.func192, Tryz.ntmps192
  go_upto_region 1 with fail
  rw [s0_vs]
  have HM := Lib.hid (M3.new w s i)
  generalize World.alloc _ _ = W1 at *
  have c1 : W1.cell? ⟨w.heap.size + 1, 1, none⟩ = some (.int .i64 (d : Int)) := by rw [← hi]; exact HM.out.i.cell 1
  have c2 : W1.cell? ⟨w.heap.size + 1, 2, none⟩ = some (.int .i64 (c : Int)) := by rw [← hj]; exact HM.out.i.cell 2
  have c3 : W1.cell? ⟨w.heap.size + 1, 3, none⟩ = some (.int .i64 (f : Int)) := by rw [← hk]; exact HM.out.i.cell 3
  have r2 : W1.cell? ⟨w.heap.size, 2, none⟩ = some (.int .u64 (s.r 2)) := (HM.out.s.cell 2).trans (s.vs_r (by omega))
  have rf : W1.cell? ⟨w.heap.size, f, none⟩ = some (.int .u64 (s.r f)) := (HM.out.s.cell f).trans (s.vs_r hf)
  have rd : W1.cell? ⟨w.heap.size, d, none⟩ = some (.int .u64 (s.r d)) := (HM.out.s.cell d).trans (s.vs_r hd)
  have fd := HM.out.s.frozen d
  have fc := HM.out.s.frozen c
  have hdi : (d : Int) < 16 := by omega
  have hei : (c : Int) < 16 := by omega
  have hfi : (f : Int) < 16 := by omega
  have HM2 := Lib.hid ((HM.out.set hd mh))
  have rc : (W1.setCell ⟨w.heap.size, d, none⟩ (.int .u64 mh)).cell? ⟨w.heap.size, c, none⟩ = some (.int .u64 ((s.set d mh).r c)) := (HM2.out.s.cell c).trans ((s.set d mh).vs_r he)
  have HM3 := Lib.hid (HM2.out.set he ml)
  have HE : Hid (∀ X, Bk X (w.heap.size + 1) 26 i.vs → X.cell? ⟨w.heap.size + 1, 1, none⟩ = some (.int .i64 (d : Int)) ∧ X.cell? ⟨w.heap.size + 1, 2, none⟩ = some (.int .i64 (c : Int)) ∧ X.cell? ⟨w.heap.size + 1, 3, none⟩ = some (.int .i64 (f : Int))) := Lib.hid (fun X h => ⟨by rw [← hi]; exact h.cell 1, by rw [← hj]; exact h.cell 2, by rw [← hk]; exact h.cell 3⟩)
  have HD := Lib.hid hde
  clear hi hj hk hde hs
  refine wp_region_held_drew (S := (fun w' => w'.cell? ⟨w.heap.size + 1, 1, none⟩ = some (.int .i64 (d : Int)) ∧ w'.cell? ⟨w.heap.size + 1, 2, none⟩ = some (.int .i64 (c : Int)) ∧ w'.cell? ⟨w.heap.size + 1, 3, none⟩ = some (.int .i64 (f : Int)))) (by kernel_rfl) (HE.out _ HM.out.i) (fun hHeld => ?_)
  refine wpAnyH_take (i := 0) (oi := { dst := some 8, op := Op.fieldAddr 26 (Operand.tmp 4) 1, type := 0, pos := "moving.go:26", after := #[], guard := none }) (v := (.pointer (some ⟨w.heap.size + 1, 1, none⟩))) rfl (by kernel_rfl) (by kernel_rfl) (by kernel_rfl) (fun _ _ _ h => h) (Or.inl ⟨by rfl, ?_⟩) (by assumption) ?_
  · intro w' hSw
    obtain ⟨z1, z2, z3⟩ := hSw
    go_simp
  simp only [Act.put, List.setIfInBounds_toArray, List.set_cons_zero, List.set_cons_succ]
  refine wpAnyH_take (i := 1) (oi := { dst := some 9, op := Op.load 3 (Operand.tmp 8), type := 3, pos := "moving.go:26", after := #[{ on := 0, ground := Ground.data }], guard := none }) (v := (.int .i64 (d : Int))) rfl (by kernel_rfl) (by kernel_rfl) (by kernel_rfl) (fun _ _ _ h => h) (Or.inl ⟨by rfl, ?_⟩) (by assumption) ?_
  · intro w' hSw
    obtain ⟨z1, z2, z3⟩ := hSw
    go_simp
  simp only [Act.put, List.setIfInBounds_toArray, List.set_cons_zero, List.set_cons_succ]
  refine wpAnyH_take (i := 2) (oi := { dst := some 10, op := Op.fieldAddr 26 (Operand.tmp 4) 2, type := 0, pos := "moving.go:26", after := #[{ on := 18, ground := Ground.gcOnly Departure.lateStores }], guard := none }) (v := (.pointer (some ⟨w.heap.size + 1, 2, none⟩))) rfl (by kernel_rfl) (by kernel_rfl) (by kernel_rfl) (fun _ _ _ h => h) (Or.inl ⟨by rfl, ?_⟩) (by assumption) ?_
  · intro w' hSw
    obtain ⟨z1, z2, z3⟩ := hSw
    go_simp
  simp only [Act.put, List.setIfInBounds_toArray, List.set_cons_zero, List.set_cons_succ]
  refine wpAnyH_take (i := 3) (oi := { dst := some 11, op := Op.load 3 (Operand.tmp 10), type := 3, pos := "moving.go:26", after := #[{ on := 2, ground := Ground.data }, { on := 18, ground := Ground.gcOnly Departure.lateStores }], guard := none }) (v := (.int .i64 (c : Int))) rfl (by kernel_rfl) (by kernel_rfl) (by kernel_rfl) (fun _ _ _ h => h) (Or.inl ⟨by rfl, ?_⟩) (by assumption) ?_
  · intro w' hSw
    obtain ⟨z1, z2, z3⟩ := hSw
    go_simp
  simp only [Act.put, List.setIfInBounds_toArray, List.set_cons_zero, List.set_cons_succ]
  refine wpAnyH_take (i := 4) (oi := { dst := some 12, op := Op.fieldAddr 26 (Operand.tmp 4) 3, type := 0, pos := "moving.go:26", after := #[], guard := none }) (v := (.pointer (some ⟨w.heap.size + 1, 3, none⟩))) rfl (by kernel_rfl) (by kernel_rfl) (by kernel_rfl) (fun _ _ _ h => h) (Or.inl ⟨by rfl, ?_⟩) (by assumption) ?_
  · intro w' hSw
    obtain ⟨z1, z2, z3⟩ := hSw
    go_simp
  simp only [Act.put, List.setIfInBounds_toArray, List.set_cons_zero, List.set_cons_succ]
  refine wpAnyH_take (i := 5) (oi := { dst := some 13, op := Op.load 3 (Operand.tmp 12), type := 3, pos := "moving.go:26", after := #[{ on := 4, ground := Ground.data }], guard := none }) (v := (.int .i64 (f : Int))) rfl (by kernel_rfl) (by kernel_rfl) (by kernel_rfl) (fun _ _ _ h => h) (Or.inl ⟨by rfl, ?_⟩) (by assumption) ?_
  · intro w' hSw
    obtain ⟨z1, z2, z3⟩ := hSw
    go_simp
  simp only [Act.put, List.setIfInBounds_toArray, List.set_cons_zero, List.set_cons_succ]
  refine wpAnyH_take (i := 6) (oi := { dst := some 14, op := Op.fieldAddr 42 (Operand.tmp 3) 0, type := 0, pos := "moving.go:26", after := #[], guard := none }) (v := (.pointer (some ⟨w.heap.size, 0, none⟩))) rfl (by kernel_rfl) (by kernel_rfl) (by kernel_rfl) (fun _ _ _ h => h) (Or.inl ⟨by rfl, ?_⟩) (by assumption) ?_
  · intro w' hSw
    obtain ⟨z1, z2, z3⟩ := hSw
    go_simp
  simp only [Act.put, List.setIfInBounds_toArray, List.set_cons_zero, List.set_cons_succ]
  refine wpAnyH_take (i := 7) (oi := { dst := some 15, op := Op.indexAddr 40 (Operand.tmp 14) (Operand.tmp 13), type := 0, pos := "moving.go:26", after := #[{ on := 6, ground := Ground.data }, { on := 5, ground := Ground.data }], guard := none }) (v := (.pointer (some ⟨w.heap.size, f, none⟩))) rfl (by kernel_rfl) (by kernel_rfl) (by kernel_rfl) (fun _ _ _ h => h) (Or.inl ⟨by rfl, ?_⟩) (by assumption) ?_
  · intro w' hSw
    obtain ⟨z1, z2, z3⟩ := hSw
    go_simp
  simp only [Act.put, List.setIfInBounds_toArray, List.set_cons_zero, List.set_cons_succ]
  refine wpAnyH_take (i := 9) (oi := { dst := some 17, op := Op.fieldAddr 42 (Operand.tmp 3) 0, type := 0, pos := "moving.go:26", after := #[], guard := none }) (v := (.pointer (some ⟨w.heap.size, 0, none⟩))) rfl (by kernel_rfl) (by kernel_rfl) (by kernel_rfl) (fun _ _ _ h => h) (Or.inl ⟨by rfl, ?_⟩) (by assumption) ?_
  · intro w' hSw
    obtain ⟨z1, z2, z3⟩ := hSw
    go_simp
  simp only [Act.put, List.setIfInBounds_toArray, List.set_cons_zero, List.set_cons_succ]
  refine wpAnyH_take (i := 10) (oi := { dst := some 18, op := Op.indexAddr 40 (Operand.tmp 17) (Operand.const (Value.int IntKind.i64 2)), type := 0, pos := "moving.go:26", after := #[{ on := 9, ground := Ground.data }], guard := none }) (v := (.pointer (some ⟨w.heap.size, 2, none⟩))) rfl (by kernel_rfl) (by kernel_rfl) (by kernel_rfl) (fun _ _ _ h => h) (Or.inl ⟨by rfl, ?_⟩) (by assumption) ?_
  · intro w' hSw
    obtain ⟨z1, z2, z3⟩ := hSw
    go_simp
  simp only [Act.put, List.setIfInBounds_toArray, List.set_cons_zero, List.set_cons_succ]
  refine wpAnyH_take (i := 16) (oi := { dst := some 23, op := Op.fieldAddr 42 (Operand.tmp 3) 0, type := 0, pos := "moving.go:26", after := #[], guard := none }) (v := (.pointer (some ⟨w.heap.size, 0, none⟩))) rfl (by kernel_rfl) (by kernel_rfl) (by kernel_rfl) (fun _ _ _ h => h) (Or.inl ⟨by rfl, ?_⟩) (by assumption) ?_
  · intro w' hSw
    obtain ⟨z1, z2, z3⟩ := hSw
    go_simp
  simp only [Act.put, List.setIfInBounds_toArray, List.set_cons_zero, List.set_cons_succ]
  refine wpAnyH_take (i := 19) (oi := { dst := some 25, op := Op.fieldAddr 42 (Operand.tmp 3) 0, type := 0, pos := "moving.go:26", after := #[], guard := none }) (v := (.pointer (some ⟨w.heap.size, 0, none⟩))) rfl (by kernel_rfl) (by kernel_rfl) (by kernel_rfl) (fun _ _ _ h => h) (Or.inl ⟨by rfl, ?_⟩) (by assumption) ?_
  · intro w' hSw
    obtain ⟨z1, z2, z3⟩ := hSw
    go_simp
  simp only [Act.put, List.setIfInBounds_toArray, List.set_cons_zero, List.set_cons_succ]
  refine wpAnyH_ready (rs := [8, 11]) (by kernel_rfl) (by simp) ?_
  refine AllReadyH.cons (o := { dst := some 16, op := Op.load 39 (Operand.tmp 15), type := 39, pos := "moving.go:26", after := #[{ on := 7, ground := Ground.data }], guard := none }) rfl (fun K' hK => ?_) (AllReadyH.cons (o := { dst := some 19, op := Op.load 39 (Operand.tmp 18), type := 39, pos := "moving.go:26", after := #[{ on := 10, ground := Ground.data }], guard := none }) rfl (fun K' hK => ?_) AllReadyH.nil)
  · skip
    rw [if_pos (by rfl)]
    go_simp
    refine hK.out _ _ (HE.out _ HM.out.i) (fun hHeld => ?_)
    clear hK
    try simp only [Act.put, List.setIfInBounds_toArray, List.set_cons_zero, List.set_cons_succ]
    refine wpAnyH_ready (rs := [11]) (by kernel_rfl) (by simp) ?_
    refine AllReadyH.cons (o := { dst := some 19, op := Op.load 39 (Operand.tmp 18), type := 39, pos := "moving.go:26", after := #[{ on := 10, ground := Ground.data }], guard := none }) rfl (fun K' hK => ?_) AllReadyH.nil
    rw [if_pos (by rfl)]
    go_simp
    refine hK.out _ _ (HE.out _ HM.out.i) (fun hHeld => ?_)
    clear hK
    try simp only [Act.put, List.setIfInBounds_toArray, List.set_cons_zero, List.set_cons_succ]
    refine wpAnyH_ready (rs := [12]) (by kernel_rfl) (by simp) ?_
    refine AllReadyH.cons (o := { dst := some 20, op := Op.call { callee := Callee.value (Operand.func 193), args := #[Operand.tmp 16, Operand.tmp 19], argTypes := #[39, 39] }, type := 127, pos := "moving.go:26", after := #[{ on := 8, ground := Ground.data }, { on := 11, ground := Ground.data }], guard := none }) rfl (fun K' hK => ?_) AllReadyH.nil
    rw [if_pos (by rfl)]
    go_simp
    go_at_call 193
    refine (K1.out _).mono ?_
    rintro e y1 ⟨rfl, rfl⟩
    refine hK.out _ _ (HE.out _ HM.out.i) (fun hHeld => ?_)
    clear hK
    try simp only [Act.put, List.setIfInBounds_toArray, List.set_cons_zero, List.set_cons_succ]
    refine wpAnyH_take (i := 13) (oi := { dst := some 7, op := Op.move (Operand.tmp 20), type := 127, pos := "moving.go:26", after := #[{ on := 12, ground := Ground.data }], guard := none }) (v := (.tuple #[.int .u64 mh, .int .u64 ml])) rfl (by kernel_rfl) (by kernel_rfl) (by kernel_rfl) (fun _ _ _ h => h) (Or.inl ⟨by rfl, ?_⟩) (by assumption) ?_
    · intro w' hSw
      obtain ⟨z1, z2, z3⟩ := hSw
      go_simp
    simp only [Act.put, List.setIfInBounds_toArray, List.set_cons_zero, List.set_cons_succ]
    refine wpAnyH_take (i := 14) (oi := { dst := some 21, op := Op.extract (Operand.tmp 7) 0, type := 39, pos := "moving.go:26", after := #[{ on := 13, ground := Ground.data }], guard := none }) (v := (.int .u64 mh)) rfl (by kernel_rfl) (by kernel_rfl) (by kernel_rfl) (fun _ _ _ h => h) (Or.inl ⟨by rfl, ?_⟩) (by assumption) ?_
    · intro w' hSw
      obtain ⟨z1, z2, z3⟩ := hSw
      go_simp
    simp only [Act.put, List.setIfInBounds_toArray, List.set_cons_zero, List.set_cons_succ]
    refine wpAnyH_take (i := 15) (oi := { dst := some 22, op := Op.extract (Operand.tmp 7) 1, type := 39, pos := "moving.go:26", after := #[{ on := 13, ground := Ground.data }, { on := 18, ground := Ground.gcOnly Departure.lateStores }], guard := none }) (v := (.int .u64 ml)) rfl (by kernel_rfl) (by kernel_rfl) (by kernel_rfl) (fun _ _ _ h => h) (Or.inl ⟨by rfl, ?_⟩) (by assumption) ?_
    · intro w' hSw
      obtain ⟨z1, z2, z3⟩ := hSw
      go_simp
    simp only [Act.put, List.setIfInBounds_toArray, List.set_cons_zero, List.set_cons_succ]
    refine wpAnyH_take (i := 17) (oi := { dst := some 24, op := Op.indexAddr 40 (Operand.tmp 23) (Operand.tmp 9), type := 0, pos := "moving.go:26", after := #[{ on := 16, ground := Ground.data }, { on := 1, ground := Ground.data }, { on := 0, ground := Ground.phase }, { on := 1, ground := Ground.phase }, { on := 2, ground := Ground.textOnly Departure.lateStores }, { on := 3, ground := Ground.textOnly Departure.lateStores }, { on := 4, ground := Ground.phase }, { on := 5, ground := Ground.phase }, { on := 6, ground := Ground.phase }, { on := 7, ground := Ground.phase }, { on := 8, ground := Ground.phase }, { on := 9, ground := Ground.phase }, { on := 10, ground := Ground.phase }, { on := 11, ground := Ground.phase }, { on := 12, ground := Ground.phase }, { on := 13, ground := Ground.phase }, { on := 14, ground := Ground.phase }, { on := 15, ground := Ground.textOnly Departure.lateStores }], guard := none }) (v := (.pointer (some ⟨w.heap.size, d, none⟩))) rfl (by kernel_rfl) (by kernel_rfl) (by kernel_rfl) (fun _ _ _ h => h) (Or.inl ⟨by rfl, ?_⟩) (by assumption) ?_
    · intro w' hSw
      obtain ⟨z1, z2, z3⟩ := hSw
      go_simp
    simp only [Act.put, List.setIfInBounds_toArray, List.set_cons_zero, List.set_cons_succ]
    refine wpAnyH_ready (rs := [18]) (by kernel_rfl) (by simp) ?_
    refine AllReadyH.cons (o := { dst := none, op := Op.store 39 (Operand.tmp 24) (Operand.tmp 21), type := 0, pos := "moving.go:26", after := #[{ on := 17, ground := Ground.data }, { on := 14, ground := Ground.data }, { on := 12, ground := Ground.chain }, { on := 0, ground := Ground.phase }, { on := 1, ground := Ground.phase }, { on := 2, ground := Ground.textOnly Departure.lateStores }, { on := 3, ground := Ground.textOnly Departure.lateStores }, { on := 4, ground := Ground.phase }, { on := 5, ground := Ground.phase }, { on := 6, ground := Ground.phase }, { on := 7, ground := Ground.phase }, { on := 8, ground := Ground.phase }, { on := 9, ground := Ground.phase }, { on := 10, ground := Ground.phase }, { on := 11, ground := Ground.phase }, { on := 12, ground := Ground.phase }, { on := 13, ground := Ground.phase }, { on := 14, ground := Ground.phase }, { on := 15, ground := Ground.textOnly Departure.lateStores }], guard := none }) rfl (fun K' hK => ?_) AllReadyH.nil
    rw [if_pos (by rfl)]
    go_simp
    refine hK.out _ _ (HE.out _ HM2.out.i) (fun hHeld => ?_)
    clear hK
    try simp only [Act.put, List.setIfInBounds_toArray, List.set_cons_zero, List.set_cons_succ]
    refine wpAnyH_take (i := 20) (oi := { dst := some 26, op := Op.indexAddr 40 (Operand.tmp 25) (Operand.tmp 11), type := 0, pos := "moving.go:26", after := #[{ on := 19, ground := Ground.data }, { on := 3, ground := Ground.data }, { on := 0, ground := Ground.phase }, { on := 1, ground := Ground.phase }, { on := 2, ground := Ground.phase }, { on := 3, ground := Ground.phase }, { on := 4, ground := Ground.phase }, { on := 5, ground := Ground.phase }, { on := 6, ground := Ground.phase }, { on := 7, ground := Ground.phase }, { on := 8, ground := Ground.phase }, { on := 9, ground := Ground.phase }, { on := 10, ground := Ground.phase }, { on := 11, ground := Ground.phase }, { on := 12, ground := Ground.phase }, { on := 13, ground := Ground.phase }, { on := 14, ground := Ground.phase }, { on := 15, ground := Ground.phase }, { on := 16, ground := Ground.phase }, { on := 17, ground := Ground.phase }, { on := 18, ground := Ground.phase }], guard := none }) (v := (.pointer (some ⟨w.heap.size, c, none⟩))) rfl (by kernel_rfl) (by kernel_rfl) (by kernel_rfl) (fun _ _ _ h => h) (Or.inl ⟨by rfl, ?_⟩) (by assumption) ?_
    · intro w' hSw
      obtain ⟨z1, z2, z3⟩ := hSw
      go_simp
    simp only [Act.put, List.setIfInBounds_toArray, List.set_cons_zero, List.set_cons_succ]
    refine wpAnyH_ready (rs := [21]) (by kernel_rfl) (by simp) ?_
    refine AllReadyH.cons (o := { dst := none, op := Op.store 39 (Operand.tmp 26) (Operand.tmp 22), type := 0, pos := "moving.go:26", after := #[{ on := 20, ground := Ground.data }, { on := 15, ground := Ground.data }, { on := 18, ground := Ground.chain }, { on := 0, ground := Ground.phase }, { on := 1, ground := Ground.phase }, { on := 2, ground := Ground.phase }, { on := 3, ground := Ground.phase }, { on := 4, ground := Ground.phase }, { on := 5, ground := Ground.phase }, { on := 6, ground := Ground.phase }, { on := 7, ground := Ground.phase }, { on := 8, ground := Ground.phase }, { on := 9, ground := Ground.phase }, { on := 10, ground := Ground.phase }, { on := 11, ground := Ground.phase }, { on := 12, ground := Ground.phase }, { on := 13, ground := Ground.phase }, { on := 14, ground := Ground.phase }, { on := 15, ground := Ground.phase }, { on := 16, ground := Ground.phase }, { on := 17, ground := Ground.phase }, { on := 18, ground := Ground.phase }], guard := none }) rfl (fun K' hK => ?_) AllReadyH.nil
    rw [if_pos (by rfl)]
    go_simp
    refine hK.out _ _ (HE.out _ HM3.out.i) (fun hHeld => ?_)
    clear hK
    try simp only [Act.put, List.setIfInBounds_toArray, List.set_cons_zero, List.set_cons_succ]
    refine wpAnyH_done (by kernel_rfl) ?_ _
    clear hHeld HE K1 c1 c2 c3 r2 rf rd fd fc rc HM HM2 HD
    have HM4 := Lib.hid HM3.out.drew
    go_wp2_with (first | (refine wpList_load_row rfl 42 (.tmp 3) rfl w.heap.size rfl 42 ((s.set d mh).set c ml).vs (0, 0) _ HM4.out.s Tryz.underlying42 rfl i20 ?_) | (refine wpList_store_row rfl 42 (.tmp 6) (.tmp 27) rfl (w.heap.size + 1 + 1) ((s.set d mh).set c ml).vs rfl rfl 42 s0.vs HM4.out.z i20 rfl ((s.set d mh).set c ml).vs_one ?_) | fail)
    exact ret_st rfl rfl rfl (bk_row HM4.out.z) ⟨rfl, bel_row HM4.out.b (by omega) _⟩
  · skip
    rw [if_pos (by rfl)]
    go_simp
    refine hK.out _ _ (HE.out _ HM.out.i) (fun hHeld => ?_)
    clear hK
    try simp only [Act.put, List.setIfInBounds_toArray, List.set_cons_zero, List.set_cons_succ]
    refine wpAnyH_ready (rs := [8]) (by kernel_rfl) (by simp) ?_
    refine AllReadyH.cons (o := { dst := some 16, op := Op.load 39 (Operand.tmp 15), type := 39, pos := "moving.go:26", after := #[{ on := 7, ground := Ground.data }], guard := none }) rfl (fun K' hK => ?_) AllReadyH.nil
    rw [if_pos (by rfl)]
    go_simp
    refine hK.out _ _ (HE.out _ HM.out.i) (fun hHeld => ?_)
    clear hK
    try simp only [Act.put, List.setIfInBounds_toArray, List.set_cons_zero, List.set_cons_succ]
    refine wpAnyH_ready (rs := [12]) (by kernel_rfl) (by simp) ?_
    refine AllReadyH.cons (o := { dst := some 20, op := Op.call { callee := Callee.value (Operand.func 193), args := #[Operand.tmp 16, Operand.tmp 19], argTypes := #[39, 39] }, type := 127, pos := "moving.go:26", after := #[{ on := 8, ground := Ground.data }, { on := 11, ground := Ground.data }], guard := none }) rfl (fun K' hK => ?_) AllReadyH.nil
    rw [if_pos (by rfl)]
    go_simp
    go_at_call 193
    refine (K1.out _).mono ?_
    rintro e y1 ⟨rfl, rfl⟩
    refine hK.out _ _ (HE.out _ HM.out.i) (fun hHeld => ?_)
    clear hK
    try simp only [Act.put, List.setIfInBounds_toArray, List.set_cons_zero, List.set_cons_succ]
    refine wpAnyH_take (i := 13) (oi := { dst := some 7, op := Op.move (Operand.tmp 20), type := 127, pos := "moving.go:26", after := #[{ on := 12, ground := Ground.data }], guard := none }) (v := (.tuple #[.int .u64 mh, .int .u64 ml])) rfl (by kernel_rfl) (by kernel_rfl) (by kernel_rfl) (fun _ _ _ h => h) (Or.inl ⟨by rfl, ?_⟩) (by assumption) ?_
    · intro w' hSw
      obtain ⟨z1, z2, z3⟩ := hSw
      go_simp
    simp only [Act.put, List.setIfInBounds_toArray, List.set_cons_zero, List.set_cons_succ]
    refine wpAnyH_take (i := 14) (oi := { dst := some 21, op := Op.extract (Operand.tmp 7) 0, type := 39, pos := "moving.go:26", after := #[{ on := 13, ground := Ground.data }], guard := none }) (v := (.int .u64 mh)) rfl (by kernel_rfl) (by kernel_rfl) (by kernel_rfl) (fun _ _ _ h => h) (Or.inl ⟨by rfl, ?_⟩) (by assumption) ?_
    · intro w' hSw
      obtain ⟨z1, z2, z3⟩ := hSw
      go_simp
    simp only [Act.put, List.setIfInBounds_toArray, List.set_cons_zero, List.set_cons_succ]
    refine wpAnyH_take (i := 15) (oi := { dst := some 22, op := Op.extract (Operand.tmp 7) 1, type := 39, pos := "moving.go:26", after := #[{ on := 13, ground := Ground.data }, { on := 18, ground := Ground.gcOnly Departure.lateStores }], guard := none }) (v := (.int .u64 ml)) rfl (by kernel_rfl) (by kernel_rfl) (by kernel_rfl) (fun _ _ _ h => h) (Or.inl ⟨by rfl, ?_⟩) (by assumption) ?_
    · intro w' hSw
      obtain ⟨z1, z2, z3⟩ := hSw
      go_simp
    simp only [Act.put, List.setIfInBounds_toArray, List.set_cons_zero, List.set_cons_succ]
    refine wpAnyH_take (i := 17) (oi := { dst := some 24, op := Op.indexAddr 40 (Operand.tmp 23) (Operand.tmp 9), type := 0, pos := "moving.go:26", after := #[{ on := 16, ground := Ground.data }, { on := 1, ground := Ground.data }, { on := 0, ground := Ground.phase }, { on := 1, ground := Ground.phase }, { on := 2, ground := Ground.textOnly Departure.lateStores }, { on := 3, ground := Ground.textOnly Departure.lateStores }, { on := 4, ground := Ground.phase }, { on := 5, ground := Ground.phase }, { on := 6, ground := Ground.phase }, { on := 7, ground := Ground.phase }, { on := 8, ground := Ground.phase }, { on := 9, ground := Ground.phase }, { on := 10, ground := Ground.phase }, { on := 11, ground := Ground.phase }, { on := 12, ground := Ground.phase }, { on := 13, ground := Ground.phase }, { on := 14, ground := Ground.phase }, { on := 15, ground := Ground.textOnly Departure.lateStores }], guard := none }) (v := (.pointer (some ⟨w.heap.size, d, none⟩))) rfl (by kernel_rfl) (by kernel_rfl) (by kernel_rfl) (fun _ _ _ h => h) (Or.inl ⟨by rfl, ?_⟩) (by assumption) ?_
    · intro w' hSw
      obtain ⟨z1, z2, z3⟩ := hSw
      go_simp
    simp only [Act.put, List.setIfInBounds_toArray, List.set_cons_zero, List.set_cons_succ]
    refine wpAnyH_ready (rs := [18]) (by kernel_rfl) (by simp) ?_
    refine AllReadyH.cons (o := { dst := none, op := Op.store 39 (Operand.tmp 24) (Operand.tmp 21), type := 0, pos := "moving.go:26", after := #[{ on := 17, ground := Ground.data }, { on := 14, ground := Ground.data }, { on := 12, ground := Ground.chain }, { on := 0, ground := Ground.phase }, { on := 1, ground := Ground.phase }, { on := 2, ground := Ground.textOnly Departure.lateStores }, { on := 3, ground := Ground.textOnly Departure.lateStores }, { on := 4, ground := Ground.phase }, { on := 5, ground := Ground.phase }, { on := 6, ground := Ground.phase }, { on := 7, ground := Ground.phase }, { on := 8, ground := Ground.phase }, { on := 9, ground := Ground.phase }, { on := 10, ground := Ground.phase }, { on := 11, ground := Ground.phase }, { on := 12, ground := Ground.phase }, { on := 13, ground := Ground.phase }, { on := 14, ground := Ground.phase }, { on := 15, ground := Ground.textOnly Departure.lateStores }], guard := none }) rfl (fun K' hK => ?_) AllReadyH.nil
    rw [if_pos (by rfl)]
    go_simp
    refine hK.out _ _ (HE.out _ HM2.out.i) (fun hHeld => ?_)
    clear hK
    try simp only [Act.put, List.setIfInBounds_toArray, List.set_cons_zero, List.set_cons_succ]
    refine wpAnyH_take (i := 20) (oi := { dst := some 26, op := Op.indexAddr 40 (Operand.tmp 25) (Operand.tmp 11), type := 0, pos := "moving.go:26", after := #[{ on := 19, ground := Ground.data }, { on := 3, ground := Ground.data }, { on := 0, ground := Ground.phase }, { on := 1, ground := Ground.phase }, { on := 2, ground := Ground.phase }, { on := 3, ground := Ground.phase }, { on := 4, ground := Ground.phase }, { on := 5, ground := Ground.phase }, { on := 6, ground := Ground.phase }, { on := 7, ground := Ground.phase }, { on := 8, ground := Ground.phase }, { on := 9, ground := Ground.phase }, { on := 10, ground := Ground.phase }, { on := 11, ground := Ground.phase }, { on := 12, ground := Ground.phase }, { on := 13, ground := Ground.phase }, { on := 14, ground := Ground.phase }, { on := 15, ground := Ground.phase }, { on := 16, ground := Ground.phase }, { on := 17, ground := Ground.phase }, { on := 18, ground := Ground.phase }], guard := none }) (v := (.pointer (some ⟨w.heap.size, c, none⟩))) rfl (by kernel_rfl) (by kernel_rfl) (by kernel_rfl) (fun _ _ _ h => h) (Or.inl ⟨by rfl, ?_⟩) (by assumption) ?_
    · intro w' hSw
      obtain ⟨z1, z2, z3⟩ := hSw
      go_simp
    simp only [Act.put, List.setIfInBounds_toArray, List.set_cons_zero, List.set_cons_succ]
    refine wpAnyH_ready (rs := [21]) (by kernel_rfl) (by simp) ?_
    refine AllReadyH.cons (o := { dst := none, op := Op.store 39 (Operand.tmp 26) (Operand.tmp 22), type := 0, pos := "moving.go:26", after := #[{ on := 20, ground := Ground.data }, { on := 15, ground := Ground.data }, { on := 18, ground := Ground.chain }, { on := 0, ground := Ground.phase }, { on := 1, ground := Ground.phase }, { on := 2, ground := Ground.phase }, { on := 3, ground := Ground.phase }, { on := 4, ground := Ground.phase }, { on := 5, ground := Ground.phase }, { on := 6, ground := Ground.phase }, { on := 7, ground := Ground.phase }, { on := 8, ground := Ground.phase }, { on := 9, ground := Ground.phase }, { on := 10, ground := Ground.phase }, { on := 11, ground := Ground.phase }, { on := 12, ground := Ground.phase }, { on := 13, ground := Ground.phase }, { on := 14, ground := Ground.phase }, { on := 15, ground := Ground.phase }, { on := 16, ground := Ground.phase }, { on := 17, ground := Ground.phase }, { on := 18, ground := Ground.phase }], guard := none }) rfl (fun K' hK => ?_) AllReadyH.nil
    rw [if_pos (by rfl)]
    go_simp
    refine hK.out _ _ (HE.out _ HM3.out.i) (fun hHeld => ?_)
    clear hK
    try simp only [Act.put, List.setIfInBounds_toArray, List.set_cons_zero, List.set_cons_succ]
    refine wpAnyH_done (by kernel_rfl) ?_ _
    clear hHeld HE K1 c1 c2 c3 r2 rf rd fd fc rc HM HM2 HD
    have HM4 := Lib.hid HM3.out.drew
    go_wp2_with (first | (refine wpList_load_row rfl 42 (.tmp 3) rfl w.heap.size rfl 42 ((s.set d mh).set c ml).vs (0, 0) _ HM4.out.s Tryz.underlying42 rfl i20 ?_) | (refine wpList_store_row rfl 42 (.tmp 6) (.tmp 27) rfl (w.heap.size + 1 + 1) ((s.set d mh).set c ml).vs rfl rfl 42 s0.vs HM4.out.z i20 rfl ((s.set d mh).set c ml).vs_one ?_) | fail)
    exact ret_st rfl rfl rfl (bk_row HM4.out.z) ⟨rfl, bel_row HM4.out.b (by omega) _⟩
set_option maxRecDepth 100000 in
set_option maxHeartbeats 1000000 in
theorem mv3_l (s : Stt) (i : Ins) (d : Nat) (hd : d < 16) (hi : i.d = d) (v : Int) (w : World) : Calls Tryz.prog 191 #[.agg s.vs, .agg i.vs, .int .u64 v] w fun e w' => e = .returned (.agg (s.set d (atI i s)).vs) ∧ Below w.heap.size w w' := by
  have K1 := Lib.hid (fun W => addr_l s i.b i.x i.sc i.di W)
  obtain ⟨q, hq⟩ : ∃ q, atI i s = q := ⟨_, rfl⟩
  rw [hq]
  change addr s i.b i.x i.sc i.di = q at hq
  rw [hq] at K1
  clear hq
  go_enter Tryz.func191, Tryz.ntmps191
  go_upto_region 1 with fail
  rw [s0_vs]
  have HM := Lib.hid (M3.new w s i)
  generalize World.alloc _ _ = W1 at *
  have HE : Hid (∀ X, Bk X (w.heap.size + 1) 26 i.vs → X.cell? ⟨w.heap.size + 1, 1, none⟩ = some (.int .i64 (d : Int)) ∧ X.cell? ⟨w.heap.size + 1, 4, none⟩ = some (.int .i64 i.b) ∧ X.cell? ⟨w.heap.size + 1, 5, none⟩ = some (.int .i64 i.x) ∧ X.cell? ⟨w.heap.size + 1, 6, none⟩ = some (.int .i64 i.sc) ∧ X.cell? ⟨w.heap.size + 1, 7, none⟩ = some (.int .i64 i.di)) := Lib.hid (fun X h => ⟨by rw [← hi]; exact h.cell 1, h.cell 4, h.cell 5, h.cell 6, h.cell 7⟩)
  have hdi : (d : Int) < 16 := by omega
  clear hi
  refine wp_region_held_drew (S := (fun w' => w'.cell? ⟨w.heap.size + 1, 1, none⟩ = some (.int .i64 (d : Int)) ∧ w'.cell? ⟨w.heap.size + 1, 4, none⟩ = some (.int .i64 i.b) ∧ w'.cell? ⟨w.heap.size + 1, 5, none⟩ = some (.int .i64 i.x) ∧ w'.cell? ⟨w.heap.size + 1, 6, none⟩ = some (.int .i64 i.sc) ∧ w'.cell? ⟨w.heap.size + 1, 7, none⟩ = some (.int .i64 i.di))) (by kernel_rfl) (HE.out _ HM.out.i) (fun hHeld => ?_)
  refine wpAnyH_take (i := 0) (oi := { dst := some 7, op := Op.fieldAddr 26 (Operand.tmp 4) 1, type := 0, pos := "moving.go:21", after := #[], guard := none }) (v := (.pointer (some ⟨w.heap.size + 1, 1, none⟩))) rfl (by kernel_rfl) (by kernel_rfl) (by kernel_rfl) (fun _ _ _ h => h) (Or.inl ⟨by rfl, ?_⟩) (by assumption) ?_
  · intro w' hSw
    obtain ⟨z1, z4, z5, z6, z7⟩ := hSw
    go_simp
  simp only [Act.put, List.setIfInBounds_toArray, List.set_cons_zero, List.set_cons_succ]
  refine wpAnyH_take (i := 1) (oi := { dst := some 8, op := Op.load 3 (Operand.tmp 7), type := 3, pos := "moving.go:21", after := #[{ on := 0, ground := Ground.data }], guard := none }) (v := (.int .i64 (d : Int))) rfl (by kernel_rfl) (by kernel_rfl) (by kernel_rfl) (fun _ _ _ h => h) (Or.inl ⟨by rfl, ?_⟩) (by assumption) ?_
  · intro w' hSw
    obtain ⟨z1, z4, z5, z6, z7⟩ := hSw
    go_simp
  simp only [Act.put, List.setIfInBounds_toArray, List.set_cons_zero, List.set_cons_succ]
  refine wpAnyH_take (i := 3) (oi := { dst := some 10, op := Op.fieldAddr 26 (Operand.tmp 4) 4, type := 0, pos := "moving.go:21", after := #[], guard := none }) (v := (.pointer (some ⟨w.heap.size + 1, 4, none⟩))) rfl (by kernel_rfl) (by kernel_rfl) (by kernel_rfl) (fun _ _ _ h => h) (Or.inl ⟨by rfl, ?_⟩) (by assumption) ?_
  · intro w' hSw
    obtain ⟨z1, z4, z5, z6, z7⟩ := hSw
    go_simp
  simp only [Act.put, List.setIfInBounds_toArray, List.set_cons_zero, List.set_cons_succ]
  refine wpAnyH_take (i := 4) (oi := { dst := some 11, op := Op.load 24 (Operand.tmp 10), type := 24, pos := "moving.go:21", after := #[{ on := 3, ground := Ground.data }], guard := none }) (v := (.agg #[.int .i64 i.b, .int .i64 i.x, .int .i64 i.sc, .int .i64 i.di])) rfl (by kernel_rfl) (by kernel_rfl) (by kernel_rfl) (fun _ _ _ h => h) (Or.inl ⟨by rfl, ?_⟩) (by assumption) ?_
  · intro w' hSw
    obtain ⟨z1, z4, z5, z6, z7⟩ := hSw
    go_simp
  simp only [Act.put, List.setIfInBounds_toArray, List.set_cons_zero, List.set_cons_succ]
  refine wpAnyH_take (i := 6) (oi := { dst := some 13, op := Op.fieldAddr 42 (Operand.tmp 3) 0, type := 0, pos := "moving.go:21", after := #[], guard := none }) (v := (.pointer (some ⟨w.heap.size, 0, none⟩))) rfl (by kernel_rfl) (by kernel_rfl) (by kernel_rfl) (fun _ _ _ h => h) (Or.inl ⟨by rfl, ?_⟩) (by assumption) ?_
  · intro w' hSw
    obtain ⟨z1, z4, z5, z6, z7⟩ := hSw
    go_simp
  simp only [Act.put, List.setIfInBounds_toArray, List.set_cons_zero, List.set_cons_succ]
  refine wpAnyH_ready (rs := [2]) (by kernel_rfl) (by simp) ?_
  refine AllReadyH.cons (o := { dst := some 9, op := Op.load 42 (Operand.tmp 3), type := 42, pos := "moving.go:21", after := #[], guard := none }) rfl (fun K' hK => ?_) AllReadyH.nil
  rw [if_pos (by rfl)]
  refine wp_load_row 42 (.tmp 3) rfl w.heap.size rfl 42 s.vs (0, 0) _ HM.out.s Tryz.underlying42 rfl i20 ?_
  refine hK.out _ _ (HE.out _ HM.out.i) (fun hHeld => ?_)
  clear hK
  try simp only [Act.put, List.setIfInBounds_toArray, List.set_cons_zero, List.set_cons_succ]
  refine wpAnyH_ready (rs := [5]) (by kernel_rfl) (by simp) ?_
  refine AllReadyH.cons (o := { dst := some 12, op := Op.call { callee := Callee.value (Operand.func 24), args := #[Operand.tmp 9, Operand.tmp 11], argTypes := #[42, 24] }, type := 39, pos := "moving.go:21", after := #[{ on := 2, ground := Ground.data }, { on := 4, ground := Ground.data }], guard := none }) rfl (fun K' hK => ?_) AllReadyH.nil
  rw [if_pos (by rfl)]
  go_simp
  go_at_call 24
  refine (K1.out _).mono ?_
  rintro e y2 ⟨rfl, hb⟩
  have HM2 := Lib.hid (HM.out.drew.below hb)
  refine hK.out _ _ (HE.out _ HM2.out.i) (fun hHeld => ?_)
  clear hK
  try simp only [Act.put, List.setIfInBounds_toArray, List.set_cons_zero, List.set_cons_succ]
  refine wpAnyH_take (i := 7) (oi := { dst := some 14, op := Op.indexAddr 40 (Operand.tmp 13) (Operand.tmp 8), type := 0, pos := "moving.go:21", after := #[{ on := 6, ground := Ground.data }, { on := 1, ground := Ground.data }, { on := 0, ground := Ground.phase }, { on := 1, ground := Ground.phase }, { on := 2, ground := Ground.phase }, { on := 3, ground := Ground.phase }, { on := 4, ground := Ground.phase }, { on := 5, ground := Ground.phase }], guard := none }) (v := (.pointer (some ⟨w.heap.size, d, none⟩))) rfl (by kernel_rfl) (by kernel_rfl) (by kernel_rfl) (fun _ _ _ h => h) (Or.inl ⟨by rfl, ?_⟩) (by assumption) ?_
  · intro w' hSw
    obtain ⟨z1, z4, z5, z6, z7⟩ := hSw
    go_simp
  simp only [Act.put, List.setIfInBounds_toArray, List.set_cons_zero, List.set_cons_succ]
  refine wpAnyH_ready (rs := [8]) (by kernel_rfl) (by simp) ?_
  refine AllReadyH.cons (o := { dst := none, op := Op.store 39 (Operand.tmp 14) (Operand.tmp 12), type := 0, pos := "moving.go:21", after := #[{ on := 7, ground := Ground.data }, { on := 5, ground := Ground.data }, { on := 5, ground := Ground.chain }, { on := 0, ground := Ground.phase }, { on := 1, ground := Ground.phase }, { on := 2, ground := Ground.phase }, { on := 3, ground := Ground.phase }, { on := 4, ground := Ground.phase }, { on := 5, ground := Ground.phase }], guard := none }) rfl (fun K' hK => ?_) AllReadyH.nil
  rw [if_pos (by rfl)]
  have cd : y2.cell? ⟨w.heap.size, d, none⟩ = some (.int .u64 (s.r d)) := (HM2.out.s.cell d).trans (s.vs_r hd)
  have fd := HM2.out.s.frozen d
  have HM3 := Lib.hid (HM2.out.set hd q)
  go_simp
  refine hK.out _ _ (HE.out _ HM3.out.i) (fun hHeld => ?_)
  clear hK
  try simp only [Act.put, List.setIfInBounds_toArray, List.set_cons_zero, List.set_cons_succ]
  refine wpAnyH_done (by kernel_rfl) ?_ _
  clear hHeld HE K1 hb cd fd HM2 HM
  go_wp2_with (first | (refine wpList_load_row rfl 42 (.tmp 3) rfl w.heap.size rfl 42 (s.set d q).vs (0, 0) _ HM3.out.s Tryz.underlying42 rfl i20 ?_) | (refine wpList_store_row rfl 42 (.tmp 6) (.tmp 15) rfl (w.heap.size + 1 + 1) (s.set d q).vs rfl rfl 42 s0.vs HM3.out.z i20 rfl (s.set d q).vs_one ?_) | fail)
  exact ret_st rfl rfl rfl (bk_row HM3.out.z) ⟨rfl, bel_row HM3.out.b (by omega) _⟩
end Sp
end Go.Proofs.YtikbnfhnimjmmaaGreatDoor
