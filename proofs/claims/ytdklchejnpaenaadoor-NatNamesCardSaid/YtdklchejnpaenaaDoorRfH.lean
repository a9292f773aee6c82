/- The document's own Fit: noughts put behind what is one's own. -/
import Derived.Test.YtdklchejnpaenaaDoorRfB
namespace Go.Proofs.YtdklchejnpaenaaDoor
open Go Go.RowKit
namespace Nt
open Wd Sti
set_option linter.unusedVariables false

theorem zeros_cells (j : Nat) : Builtin.zeroCells (Value.int .u64 0).cells j = us (List.replicate j 0) := by
  apply Array.ext <;> simp [Builtin.zeroCells, Value.cells, us, Nat.mod_one]
theorem zeros_list (j : Nat) : (us (List.replicate j 0)).toList = (List.replicate j 0).map (Value.int .u64) := by simp [us]

theorem wpList_append_zeros {P : Program} {w : World} {ops : Array Oper} {rest : List Oper} {o : Oper} {a : Act} {Q : Exit → Act → World → Prop} (hgd : o.guard = none) (s x : Operand) (t tx : TypeId)
    (ho : o.op = .call { callee := .builtin .append, args := #[s, x], argTypes := #[t, tx] }) (v sx : Value) (hs : a.eval s = v) (hx : a.eval x = sx) (v' : Value) (w' : World)
    (hrun : (Builtin.append_ #[t, tx] o.type #[v, sx]).run P w = .ok v' w') (h : wpList P ops Q rest (a.put o.dst v') w') : wpList P ops Q (o :: rest) a w :=
  wpList_plain hgd fun _ hK => by
    unfold Oper.wp execOp
    simp only [ho, resolve, invoke, builtin, Sem.run_bind, Sem.run_pure, Result.andThen_ok, List.map_toArray, List.map_cons, List.map_nil, hs, hx, hrun]
    exact hK _ _ h
theorem own_zeros {w : World} {B k : Nat} {v : Value} {xs : List Int} (ty : TypeId) (ho : Own B w v k xs) (j : Nat) (hk : k + j ≤ 1048576) (hB : B ≤ w.heap.size) :
    ∃ v' w', (Builtin.append_ #[24, 3] ty #[v, .int .i64 (j : Int)]).run Tryd.prog w = .ok v' w' ∧ Own B w' v' (k + j) (xs ++ List.replicate j 0) ∧ Below B w w' := by
  obtain ⟨i, hi, hz, h1, h2⟩ := info_parts info_u64
  have ht := Tryd.underlying24
  have hx : Tryd.prog.underlying 3 = some (.int .i64) := by kernel_rfl
  have hwr : IntKind.i64.wrap (j : Int) = (j : Int) := by rw [IntKind.wrap_i64]; omega
  have hw : Ws (xs ++ List.replicate j 0) := ho.ws.append (Ws.zeros _)
  have hnn : ¬ ((j : Int) < 0) := by omega
  have h8 : ¬ (281474976710656 < (j : Int) * 8) := by omega
  have hlen : xs.length = k := ho.len
  have hz8 : IntKind.i64.wrap 0 = 0 := rfl
  -- what a new row leaves
  have made : ∀ (c0 : Nat) (row : Option Nat), c0 < k + j →
      Own B (w.drew.alloc (.cells ((xs.map (Value.int .u64)).toArray ++ (us (List.replicate j 0) ++ Builtin.zeroCells (Value.int .u64 0).cells (grownCap w (k + j) c0 28 - (k + j)))) 28)) (.slice (some ⟨w.heap.size, 0, none⟩) (k + j) (grownCap w (k + j) c0 28)) (k + j) (xs ++ List.replicate j 0) ∧
      Below B w (w.drew.alloc (.cells ((xs.map (Value.int .u64)).toArray ++ (us (List.replicate j 0) ++ Builtin.zeroCells (Value.int .u64 0).cells (grownCap w (k + j) c0 28 - (k + j)))) 28)) := by
    intro c0 row hc0
    have hge := grownCap_ge w (k + j) c0 28
    have hcm := grownCap_le_maxLen w (k + j) c0 28 (by simp only [maxLen]; omega)
    refine ⟨⟨⟨by simp [hlen], .inr ⟨w.heap.size, _, _, rfl, hB, heap_alloc_new w.drew _, hge, hcm, ?_, ?_⟩⟩, hw⟩, (below_drewN (Below.refl B w) 1).alloc (by simpa using hB) _⟩
    · simp only [Array.size_append, List.size_toArray, List.length_map, hlen, us_size, List.length_replicate, size_zeroCells, Value.cells]
      simp
      omega
    · simp only [Array.toList_append, zeros_list, Nat.mul_one, List.map_append]
      rw [← List.append_assoc, List.take_append_of_le_length (by simp [hlen]), List.take_of_length_le (by simp [hlen])]
  rcases ho.own.2 with ⟨rfl, rfl⟩ | ⟨g, cap, cur, rfl, hbg, hg, hnc, hcm, hcs, htake⟩
  · obtain rfl : xs = [] := List.eq_nil_of_length_eq_zero hlen
    rcases Nat.eq_zero_or_pos j with rfl | hj
    · refine ⟨.slice none 0 0, w, ?_, Own.nil _ _, Below.refl _ _⟩
      simp [Builtin.append_, run_underlying ht, run_underlying hx, sizeOf, typeInfo, hi, h2, asInt, asIntOf, hz8]
    · obtain ⟨m1, m2⟩ := made 0 none (by omega)
      have hn : j ≠ 0 := by omega
      have h63 : ¬ (9223372036854775807 < (j : Int)) := by omega
      have h48 : ¬ (281474976710656 < Builtin.nextslicecap j 0 * 8) := by rw [nextslicecap_zero hj]; omega
      simp only [Nat.zero_add, List.map_nil, List.nil_append] at m1 m2 ⊢
      refine ⟨_, _, ?_, m1, m2⟩
      simp [Builtin.append_, run_underlying ht, run_underlying hx, sizeOf, typeInfo, zeroValue, hi, hz, h1, h2, asInt, asIntOf, hwr, hnn, h8, hn, h63, h48, Question.forced, run_firstCells_none, newRow, grownCap, zeros_cells]
  · have hcells : ∀ q u, (xs.map (Value.int .u64))[q]? = some u → w.cell? ((⟨g, 0, none⟩ : Addr).add q) = some u := World.ownsRow.cells ho.own rfl
    by_cases hroom : k + j ≤ cap
    · rcases Nat.eq_zero_or_pos j with rfl | hj
      · refine ⟨.slice (some ⟨g, 0, none⟩) k cap, w, ?_, by simpa using ho, Below.refl _ _⟩
        simp [Builtin.append_, run_underlying ht, run_underlying hx, sizeOf, typeInfo, hi, h2, asInt, asIntOf, hz8, hnc, storeCells]
      · have hst := run_storeCells_at Tryd.prog g k 28 ((List.replicate j 0).map (Value.int .u64)) 0 cur w hg (by simp; omega) (fun u hu => by obtain ⟨x, _, rfl⟩ := List.mem_map.1 hu; simp [Value.oneCell'])
        simp only [Nat.add_zero, ← zeros_list] at hst
        have hn : j ≠ 0 := by omega
        have hgr : w.grownBy (w.setRow g (cur.toList.take k ++ (us (List.replicate j 0)).toList ++ cur.toList.drop (k + (us (List.replicate j 0)).toList.length)).toArray) (some g) := ⟨rfl, rfl, rfl, by simp, fun q _ hq => setRow_other w g q _ (fun e => hq (by rw [e]))⟩
        refine ⟨.slice (some ⟨g, 0, none⟩) (k + j) cap, w.setRow g (cur.toList.take k ++ (us (List.replicate j 0)).toList ++ cur.toList.drop (k + (us (List.replicate j 0)).toList.length)).toArray, ?_, ⟨⟨by simp [hlen], .inr ⟨g, cap, _, rfl, hbg, setRow_heap w g cur _ 28 _ hg, hroom, hcm, ?_, ?_⟩⟩, hw⟩, (Below.refl B w).grown hgr hB (fun q e => by cases e; exact hbg)⟩
        · simp [Builtin.append_, run_underlying ht, run_underlying hx, sizeOf, typeInfo, zeroValue, hi, hz, h1, h2, asInt, asIntOf, hwr, hnn, h8, hn, hroom, zeros_cells, Addr.add_lit, hst]
        · simp only [List.size_toArray, List.length_append, List.length_take, List.length_drop, Array.length_toList, us_size, List.length_replicate]
          omega
        · rw [Nat.mul_one] at htake
          simp only [Nat.mul_one, List.map_append, zeros_list]
          rw [htake, List.take_append_of_le_length (by simp [hlen]), List.take_of_length_le (by simp [hlen])]
    · obtain ⟨m1, m2⟩ := made cap none (by omega)
      have hn : ¬ (k + j ≤ cap) := by omega
      have hj : j ≠ 0 := by omega
      have h63 : ¬ (9223372036854775807 < ((k : Int) + (j : Int))) := by omega
      have h48 := growslice_fits (need := k + j) (old := cap) (bytes := 8) (by omega) (by omega)
      have h48' : ¬ (281474976710656 < Builtin.nextslicecap (k + j) cap * 8) := by omega
      have hfo := run_firstCells_some (P := Tryd.prog) w.drew 1 k ⟨g, 0, none⟩ k cap (xs.map (Value.int .u64)) (by simp [hlen]) (by simpa using hcells)
      refine ⟨_, _, ?_, m1, m2⟩
      simp [Builtin.append_, run_underlying ht, run_underlying hx, sizeOf, typeInfo, zeroValue, hi, hz, h1, h2, asInt, asIntOf, hwr, hnn, h8, hn, hj, h63, h48', Question.forced, hfo, newRow, grownCap, zeros_cells]

theorem fitE_r (A : Option Addr) (n c : Nat) (k : Int) (w : World) (hk : k < 0 ∨ 512 < k) :
    Calls Tryd.prog 29 #[.slice A n c, .int .i64 k] w fun e w' => e = .returned (.tuple #[.slice none 0 0, .int .i64 2]) ∧ w' = w := by
  by_cases h0 : k < 0
  · clear hk
    go_enter Tryd.func29, Tryd.ntmps29
    go_wp2_with fail
    go_ret2
    exact ⟨rfl, rfl⟩
  · have h1 : 512 < k := by omega
    clear hk
    go_enter Tryd.func29, Tryd.ntmps29
    go_wp2_with fail
    go_ret2
    exact ⟨rfl, rfl⟩
theorem fitL_r (A : Option Addr) (n c k : Nat) (xs : List Int) (w : World) (h : At w A n xs) (hc : n ≤ c ∧ n ≤ 524288) (hn : c ≤ 9223372036854775807) (hk : k ≤ 512) (hl : k < (trim xs).length) :
    Calls Tryd.prog 29 #[.slice A n c, .int .i64 (k : Int)] w fun e w' => e = .returned (.tuple #[.slice none 0 0, .int .i64 3]) ∧ Below w.heap.size w w' := by
  obtain ⟨hc, hcn⟩ := hc
  have HT := Lib.hid (trim_r A n c xs w h hc hn (by omega))
  have hk' : ((k : Nat) : Int) ≤ 512 := by omega
  obtain ⟨m, hm⟩ : ∃ m, (trim xs).length = m := ⟨_, rfl⟩
  rw [hm] at HT hl
  have hl' : (k : Int) < (m : Int) := by omega
  clear h hm hl
  go_enter Tryd.func29, Tryd.ntmps29
  go_wp2_with fail
  go_at_call 31
  refine HT.out.mono ?_
  rintro e w1 ⟨v, rfl, hO, hB⟩
  obtain ⟨A1, c1, rfl, h1, h2, h3⟩ := hO.slice
  have HB := Lib.hid hB
  clear hO HT hB h1
  go_wp2_with fail
  go_ret2
  exact ⟨rfl, HB.out⟩
set_option maxRecDepth 100000 in
theorem fit_r (A : Option Addr) (n c k : Nat) (xs : List Int) (w : World) (h : At w A n xs) (hc : n ≤ c ∧ n ≤ 524288) (hn : c ≤ 9223372036854775807) (hk : k ≤ 512) (hl : (trim xs).length ≤ k) :
    Calls Tryd.prog 29 #[.slice A n c, .int .i64 (k : Int)] w fun e w' => ∃ A1 c1, e = .returned (.tuple #[.slice A1 k c1, .int .i64 0]) ∧ Hid (At w' A1 k (trim xs ++ List.replicate (k - (trim xs).length) 0)) ∧ k ≤ c1 ∧ c1 ≤ 9223372036854775807 ∧ Below w.heap.size w w' := by
  obtain ⟨hc, hcn⟩ := hc
  have HT := Lib.hid (trim_r A n c xs w h hc hn (by omega))
  have hk' : ((k : Nat) : Int) ≤ 512 := by omega
  clear h
  generalize trim xs = zs at *
  obtain ⟨m, hm⟩ : ∃ m, zs.length = m := ⟨_, rfl⟩
  rw [hm] at HT hl ⊢
  have hl' : (m : Int) ≤ (k : Int) := by omega
  obtain ⟨j, hj⟩ : ∃ j, k = m + j := ⟨k - m, by omega⟩
  have hjj : k - m = j := by omega
  rw [hjj]
  have hji : (k : Int) - (m : Int) = (j : Int) := by omega
  have HJ := Lib.hid hj
  clear hm hj hjj
  go_enter Tryd.func29, Tryd.ntmps29
  go_wp2_with fail
  go_at_call 31
  refine HT.out.mono ?_
  rintro e w1 ⟨v, rfl, hO, hB⟩
  obtain ⟨v', w', hap, hO2, hB2⟩ := own_zeros 24 hO j (by have := HJ.out; omega) hB.size
  obtain ⟨A1, c1, rfl, h1, h2, h3⟩ := hO.slice
  obtain ⟨A2, c2, rfl, g1, g2, g3⟩ := hO2.slice
  have HG := Lib.hid (show At w' A2 k (zs ++ List.replicate j 0) ∧ k ≤ c2 by rw [HJ.out]; exact ⟨g1, g2⟩)
  have HB := Lib.hid (hB.trans hB2)
  clear hO HT hB h1 hO2 hB2 g1 g2
  go_wp2_with (at_builtin; refine wpList_append_zeros rfl (.tmp 18) (.tmp 22) 24 3 rfl _ _ rfl rfl _ _ hap ?_)
  go_ret2
  exact ⟨A2, c2, by rw [HJ.out]; rfl, Lib.hid HG.out.1, HG.out.2, g3, HB.out⟩
end Nt
end Go.Proofs.YtdklchejnpaenaaDoor
