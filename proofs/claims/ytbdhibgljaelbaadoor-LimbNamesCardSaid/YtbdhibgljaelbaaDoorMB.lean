/- The landed package limb: the rows as they are at first. -/
import Derived.Test.YtbdhibgljaelbaaDoorMA
namespace Go.Proofs.YtbdhibgljaelbaaDoor
open Go Go.RowKit Go.Sort Go.Shelf
namespace Lb
open Wd Nt Gr
set_option linter.unusedVariables false
set_option linter.unusedSimpArgs false
theorem copy_run {w : World} (dT sT ty : TypeId) (hu : Tryd.prog.underlying dT = some (.slice 31)) {g B n c dLen dCap : Nat} {A : Option Addr} {xs os : List Int} (hg : Bk w g 31 (us os)) (hd : os.length = dLen) (hr : Rd w B A n xs) (hn : n ≤ dLen) :
    ∃ w', (Builtin.copy_ #[dT, sT] ty #[.slice (some ⟨g, 0, none⟩) dLen dCap, .slice A n c]).run Tryd.prog w = .ok (goInt n) w' ∧ Bk w' g 31 (us (xs ++ os.drop n)) ∧ w.grownBy w' (some g) := by
  have hsz : (Tryd.prog.info? 31).map (·.size) = some 1 := by kernel_rfl
  rcases Nat.eq_zero_or_pos n with rfl | h0
  · obtain rfl : xs = [] := List.eq_nil_of_length_eq_zero hr.len
    exact ⟨w, run_copy_none w dT sT ty _ _ _ _ _ _ _ hu hsz (by simp), by simpa using hg, World.grownBy.refl w _⟩
  · obtain ⟨ad, rfl, _, hc⟩ := hr.rd h0
    have h := run_copy_row (P := Tryd.prog) w dT sT ty 31 g 0 dLen dCap ad n c (us os) 31 (xs.map (Value.int .u64)) hu hsz hg (by rw [List.length_map, hr.len]; show n = min n dLen; omega)
      (fun j v hj => by
        rw [List.getElem?_map] at hj
        have hjl : j < n := by
          rcases Nat.lt_or_ge j xs.length with h | h
          · rw [← hr.len]; exact h
          · rw [List.getElem?_eq_none h] at hj; cases hj
        rw [hc j hjl]
        rw [at_lt (by rw [hr.len]; exact hjl)] at hj
        exact hj) (by rw [us_size, List.length_map, hr.len]; omega) (fun v hv => by
        obtain ⟨x, _, rfl⟩ := List.mem_map.1 hv
        simp [Value.oneCell'])
    rw [List.length_map, hr.len] at h
    refine ⟨_, h, ?_, ?_⟩
    · have := setRow_heap w g (us os) ((us os).toList.take 0 ++ xs.map (Value.int .u64) ++ (us os).toList.drop (0 + n)).toArray 31 (0, 0) hg
      have e : ((us os).toList.take 0 ++ xs.map (Value.int .u64) ++ (us os).toList.drop (0 + n)).toArray = us (xs ++ os.drop n) := by
        simp [us, List.map_drop]
      rw [e] at this ⊢
      exact this
    · exact ⟨rfl, rfl, rfl, by simp [World.setRow], fun k _ hne => setRow_other w g k _ (fun e => hne (by rw [e]))⟩

theorem wpList_cpy {P : Program} {w : World} {ops : Array Oper} {rest : List Oper} {o : Oper} {a : Act} {Q : Exit → Act → World → Prop} (hgd : o.guard = none) (s x : Operand) (t : TypeId)
    (ho : o.op = .call { callee := .builtin .copy, args := #[s, x], argTypes := #[t, t] }) (v sx : Value) (hs : a.eval s = v) (hx : a.eval x = sx) (v' : Value) (w' : World)
    (hrun : (Builtin.copy_ #[t, t] o.type #[v, sx]).run P w = .ok v' w') (h : wpList P ops Q rest (a.put o.dst v') w') : wpList P ops Q (o :: rest) a w :=
  wpList_plain hgd fun _ hK => by
    unfold Oper.wp execOp
    simp only [ho, resolve, invoke, builtin, Sem.run_bind, Sem.run_pure, Result.andThen_ok, List.map_toArray, List.map_cons, List.map_nil, hs, hx, hrun]
    exact hK _ _ h
def setL (xs : List Value) : Nat → List Value → List Value
  | _, [] => xs
  | s, v :: r => setL (xs.set s v) (s + 1) r

theorem infoU : (Tryd.prog.info? 31).map (fun i => (i.zero, i.size, i.bytes)) = some (some (.int .u64 0), 1, 8) := by kernel_rfl
theorem make_u64 (n : Nat) (hn : n ≤ 1000000) (w : World) :
    (Instr.makeSlice 43 (.int .i64 (n : Int)) (.int .i64 (n : Int))).run Tryd.prog w = .ok (.slice (some ⟨w.heap.size, 0, none⟩) n n) (w.alloc (.cells (us (List.replicate n 0)) 31)) := by
  obtain ⟨i, hi, hz, h1, h2⟩ := info_parts infoU
  have hr := run_make (P := Tryd.prog) w 43 31 i (.int .u64 0) Tryd.underlying43 hi hz .i64 .i64 (n : Int) (n : Int) (by omega) (by omega) (by rw [h2]; omega) (by omega)
  simp only [Int.toNat_natCast] at hr
  rw [hr, us_zeros, h1]
  have e : madeCells (Value.int .u64 0).cells (n * 1) = Array.replicate n (Value.int .u64 0) := by
    apply Array.ext <;> simp [madeCells, Value.cells, Nat.mod_one]
  rw [e]
theorem infoS : (Tryd.prog.info? 43).map (fun i => (i.zero, i.size, i.bytes)) = some (some (Value.slice none 0 0), 1, 24) := by kernel_rfl
theorem make_rows (n : Nat) (hn : n ≤ 100000) (w : World) :
    (Instr.makeSlice 39 (.int .i64 (n : Int)) (.int .i64 (n : Int))).run Tryd.prog w = .ok (.slice (some ⟨w.heap.size, 0, none⟩) n n) (w.alloc (.cells (Array.replicate n (Value.slice none 0 0)) 43)) := by
  obtain ⟨i, hi, hz, h1, h2⟩ := info_parts infoS
  have hr := run_make (P := Tryd.prog) w 39 43 i (Value.slice none 0 0) Tryd.underlying39 hi hz .i64 .i64 (n : Int) (n : Int) (by omega) (by omega) (by rw [h2]; omega) (by omega)
  simp only [Int.toNat_natCast] at hr
  rw [hr, h1]
  have e : madeCells (Value.slice none 0 0).cells (n * 1) = Array.replicate n (Value.slice none 0 0) := by
    apply Array.ext <;> simp [madeCells, Value.cells, Nat.mod_one]
  rw [e]
/-- the rows' slices so far, the rest none -/
def slC (xs : List (Nat × List Int)) (n : Nat) : Array Value := (xs.map slv ++ List.replicate (n - xs.length) (Value.slice none 0 0)).toArray
theorem slC_0 (n : Nat) : slC [] n = Array.replicate n (Value.slice none 0 0) := by
  unfold slC
  apply Array.ext'
  rw [Array.toList_replicate]
  rfl
theorem slC_set {xs : List (Nat × List Int)} {n : Nat} (h : xs.length < n) (x : Nat × List Int) : (slC xs n).setIfInBounds xs.length (slv x) = slC (xs ++ [x]) n := by
  unfold slC
  apply Array.ext'
  rw [Array.toList_setIfInBounds]
  show (xs.map slv ++ List.replicate (n - xs.length) (Value.slice none 0 0)).set xs.length (slv x) = (xs ++ [x]).map slv ++ List.replicate (n - (xs ++ [x]).length) (Value.slice none 0 0)
  rw [List.set_append_right _ _ (by simp), List.length_map, Nat.sub_self, List.map_append, List.append_assoc]
  obtain ⟨m, hm⟩ : ∃ m, n - xs.length = m + 1 := ⟨n - xs.length - 1, by omega⟩
  rw [hm, List.replicate_succ, List.set_cons_zero, List.length_append, show n - (xs.length + [x].length) = m by simp; omega]
  rfl
theorem slC_full {xs : List (Nat × List Int)} : slC xs xs.length = (xs.map slv).toArray := by
  unfold slC
  rw [Nat.sub_self]
  simp
theorem rows0_get : ∀ {bs : List Bf} {rs : List (List Int)} {k : Nat}, fitP bs rs = true → k < bs.length → (rows0 bs rs)[k]? = some (row0 (bfAt bs (k : Int)) (rowAt rs (k : Int)))
  | b :: bs, r :: rs, 0, _, _ => rfl
  | b :: bs, r :: rs, k + 1, h, hk => by
    unfold fitP at h
    rw [Bool.and_eq_true] at h
    show (rows0 bs rs)[k]? = _
    rw [rows0_get h.2 (by simp at hk; exact hk)]
    unfold bfAt rowAt
    rw [Int.toNat_natCast, Int.toNat_natCast, List.getElem?_cons_succ, List.getElem?_cons_succ]
  | b :: bs, [], k, h, _ => by cases h
  | [], _, k, _, hk => absurd hk (by simp)
theorem rows0_len : ∀ {bs : List Bf} {rs : List (List Int)}, fitP bs rs = true → (rows0 bs rs).length = bs.length
  | b :: bs, r :: rs, h => by
    unfold fitP at h
    rw [Bool.and_eq_true] at h
    show (rows0 bs rs).length + 1 = _
    rw [rows0_len h.2]
    rfl
  | b :: bs, [], h => by cases h
  | [], [], _ => rfl
  | [], r :: rs, h => by cases h
theorem fit_len {b : Bf} {ys : List Int} (h : fitB b ys = true) (hs : 0 < b.sz) : ys.length ≤ b.sz.toNat := by
  unfold fitB at h
  split at h
  · have : ys = [] := by simpa using h
    rw [this]
    exact Nat.zero_le _
  · have := of_decide_eq_true h
    omega
theorem row0_eq {b : Bf} {ys : List Int} (h : ys.length ≤ b.sz.toNat) : row0 b ys = ys ++ (List.replicate b.sz.toNat 0).drop ys.length := by
  unfold row0
  rw [List.take_of_length_le h, List.drop_replicate]
theorem row0_len {b : Bf} {ys : List Int} (h : ys.length ≤ b.sz.toNat) : (row0 b ys).length = b.sz.toNat := by
  rw [row0_eq h, List.length_append, List.length_drop, List.length_replicate]
  omega
/-- rows made so far -/
structure MkR (w W : World) (G n : Nat) (bufs : List Bf) (ys : List (List Int)) (xs : List (Nat × List Int)) : Prop where
  blk : Bk W G 43 (slC xs n)
  hG : w.heap.size ≤ G
  each : ∀ x ∈ xs, w.heap.size ≤ x.1 ∧ Bk W x.1 31 (us x.2) ∧ Ws x.2
  nd : (xs.map (·.1)).Nodup
  val : xs.map (·.2) = (rows0 bufs ys).take xs.length
  bel : Below w.heap.size w W
set_option maxRecDepth 100000 in
set_option maxHeartbeats 4000000 in
theorem rows_l (A X : Option Addr) (n c d : Nat) (bufs : List Bf) (hs : List Hr) (w : World) (hR : Rdr w w.heap.size A n bufs) (hH : HrW w w.heap.size X n hs) (hn : n ≤ 32) (hfit : fitP bufs (hrYs hs) = true) (hsz : ∀ b ∈ bufs, 0 < b.sz ∧ b.sz ≤ 65536) :
    Calls Tryd.prog 39 #[.slice A n c, .slice X n d] w fun e w' => ∃ G xs, e = .returned (.slice (some ⟨G, 0, none⟩) n n) ∧ xs.length = n ∧ xs.map (·.2) = rows0 bufs (hrYs hs) ∧ RowsB w' w.heap.size G xs ∧ Below w.heap.size w w' := by
  have HL := Lib.hid hR.len
  have HM := Lib.hid hH.rd.len
  have HR := Lib.hid hR
  have HH := Lib.hid hH
  have HFT := Lib.hid hfit
  have HSZ := Lib.hid hsz
  have HG0 := Lib.hid (rows0_len hfit)
  clear hR hH hfit hsz
  have hmk := fun W => make_rows n (by omega) W
  have HI0 : Hid (MkR w (w.alloc (.cells (Array.replicate n (Value.slice none 0 0)) 43)) w.heap.size n bufs (hrYs hs) []) := Lib.hid ⟨by rw [slC_0]; exact Bk.new _ _ _, Nat.le_refl _, fun x hx => (by cases hx), List.nodup_nil, rfl, bel_al _⟩
  generalize (Array.replicate n (Value.slice none 0 0)) = zs at *
  go_enter Tryd.func39, Tryd.ntmps39
  go_wp2_with fail
  go_loopw [13] (fun i W => ∃ xs : List (Nat × List Int), xs.length ≤ n ∧ i = .int .i64 (xs.length : Int) ∧ Hid (MkR w W w.heap.size n bufs (hrYs hs) xs)) (fun i _ => n - (intOf i).toNat)
  case atStart => exact ⟨[], Nat.zero_le _, rfl, HI0⟩
  case round =>
    obtain ⟨xs, hk, rfl, HI⟩ := hrel
    clear HI0 hmk
    obtain ⟨k, hkk⟩ : ∃ k, xs.length = k := ⟨_, rfl⟩
    have HKK := Lib.hid hkk
    rw [hkk] at hk ⊢
    rcases Nat.lt_or_ge k n with hlt | hge
    · have hki : (k : Int) < (n : Int) := by omega
      have hk0 : (0 : Int) ≤ (k : Int) := by omega
      have hkl : k < bufs.length := by rw [HL.out]; exact hlt
      obtain ⟨b, o, rfl, hblt, s0, s1, s2⟩ := bf_at (HR.out.below HI.out.bel) (bfAt_some hkl)
      obtain ⟨x, hx⟩ : ∃ x, hs[k]? = some x := ⟨_, List.getElem?_eq_getElem (by rw [HM.out]; exact hlt)⟩
      obtain ⟨b2, o2, rfl, hb2, x0⟩ := hr_at (HH.out.rd.below HI.out.bel) hx
      have HXE := Lib.hid (HH.out.each x (List.mem_of_getElem? hx))
      have HXR : Hid (rowAt (hrYs hs) (k : Int) = x.ys) := Lib.hid (by unfold rowAt hrYs; rw [Int.toNat_natCast, List.getElem?_map, hx]; rfl)
      have HGET := Lib.hid (rows0_get HFT.out hkl)
      rw [HXR.out] at HGET
      have HBSZ := Lib.hid (HSZ.out _ (List.mem_of_getElem? (bfAt_some hkl)))
      have HFL : Hid (x.ys.length ≤ (bfAt bufs (k : Int)).sz.toNat) := Lib.hid (by
        have h := HFT.out
        rw [fitP_eq, Bool.and_eq_true, List.all_eq_true] at h
        have h2 := h.2 k (List.mem_range.2 hkl)
        rw [HXR.out] at h2
        exact fit_len h2 HBSZ.out.1)
      generalize bfAt bufs (k : Int) = bb at *
      obtain ⟨sz, kd, sec⟩ := bb
      dsimp only at *
      obtain ⟨q, hq⟩ : ∃ q : Nat, sz = (q : Int) := ⟨sz.toNat, by have := HBSZ.out.1; omega⟩
      subst hq
      have hq6 : q ≤ 65536 := by have := HBSZ.out.2; omega
      have hq4 : (q : Int) ≤ 65536 := by omega
      have hq0 : (0 : Int) ≤ (q : Int) := by omega
      have hmk2 := fun W => make_u64 q (by omega) W
      have hGl := HI.out.blk.lt
      have hbk := HI.out.blk
      have gk : wr.cell? ⟨w.heap.size, k, none⟩ = some (Value.slice none 0 0) := by
        rw [hbk.cell]
        unfold slC
        rw [List.getElem?_toArray, List.getElem?_append_right (by rw [List.length_map, HKK.out]; exact Nat.le_refl _), List.length_map, HKK.out, Nat.sub_self, List.getElem?_replicate, if_pos (by omega)]
      have gf := hbk.frozen k
      have hb2' : b2 < wr.heap.size := Nat.lt_of_lt_of_le hb2 HI.out.bel.size
      have hb2G : b2 ≠ w.heap.size := by omega
      obtain ⟨xA, xn, xc, xys⟩ := x
      dsimp only at *
      have HOLD : Hid (∀ x ∈ xs, x.1 < wr.heap.size ∧ x.1 ≠ w.heap.size) := Lib.hid (fun x hx => ⟨(HI.out.each x hx).2.1.lt, fun e => by
        have h1 := (HI.out.each x hx).2.1
        rw [e] at h1
        have h2 := HI.out.blk
        unfold Bk at h1 h2
        rw [h1] at h2
        injection h2 with h2
        injection h2 with _ h3
        exact absurd h3 (by decide)⟩)
      obtain ⟨W2, hW2⟩ : ∃ W2, W2 = (((wr.setCell ⟨w.heap.size, k, none⟩ (.slice (some ⟨wr.heap.size + 1, 0, none⟩) q q)).alloc (.cells #[.int .i64 (q : Int), .int .i64 kd, .bool sec] 29)).alloc (.cells (us (List.replicate q 0)) 31)) := ⟨_, rfl⟩
      have hsz2 : W2.heap.size = wr.heap.size + 2 := by rw [hW2, World.size_alloc, World.size_alloc, size_set]
      have HB2 : Hid (Below w.heap.size w W2) := Lib.hid (by rw [hW2]; exact bel_al' (bel_al' (HI.out.bel.setCell (p := ⟨w.heap.size, k, none⟩) (Nat.le_refl _) _) _) _)
      have HC2 : Hid (Bk W2 w.heap.size 43 (slC (xs ++ [(wr.heap.size + 1, row0 ⟨(q : Int), kd, sec⟩ xys)]) n)) := Lib.hid (by
        rw [hW2, ← slC_set (by rw [HKK.out]; exact hlt), HKK.out]
        refine Bk.alloc (Bk.alloc ?_ _) _
        have e : slv (wr.heap.size + 1, row0 ⟨(q : Int), kd, sec⟩ xys) = .slice (some ⟨wr.heap.size + 1, 0, none⟩) q q := by
          unfold slv
          dsimp only
          rw [row0_len HFL.out]
          rfl
        rw [e]
        exact hbk.set_ k _)
      have HN2 : Hid (Bk W2 (wr.heap.size + 1) 31 (us (List.replicate q 0))) := Lib.hid (by rw [hW2]; exact Bk.new' (by rw [World.size_alloc, size_set]))
      have HE2 : Hid (∀ x ∈ xs, Bk W2 x.1 31 (us x.2)) := Lib.hid (fun x hx => by
        rw [hW2]
        exact Bk.alloc (Bk.alloc ((HI.out.each x hx).2.1.far (p := ⟨w.heap.size, k, none⟩) (HOLD.out x hx).2 _) _) _)
      have HRD2 := Lib.hid ((HXE.out.1.below HB2.out).drewN 1)
      obtain ⟨w5, hcp, hk5, hg5⟩ := copy_run (w := W2.drew) (dLen := q) (dCap := q) (c := xc) 43 43 3 Tryd.underlying43 HN2.out.drew (by simp) HRD2.out (by have := HFL.out; have h2 := HXE.out.1.len; rw [show (((q : Int)).toNat) = q from Int.toNat_natCast q] at this; omega)
      have HN5 : Hid (Bk w5 (wr.heap.size + 1) 31 (us (row0 ⟨(q : Int), kd, sec⟩ xys))) := Lib.hid (by
        rw [row0_eq HFL.out, HXE.out.1.len]
        exact hk5)
      have HI5 : Hid (MkR w w5 w.heap.size n bufs (hrYs hs) (xs ++ [(wr.heap.size + 1, row0 ⟨(q : Int), kd, sec⟩ xys)])) := Lib.hid (by
        refine ⟨(hg5.block _ (by show w.heap.size < W2.heap.size; omega) (by intro e; injection e with e; omega)).trans HC2.out, Nat.le_refl _, fun x hx => ?_, ?_, ?_, ?_⟩
        · rcases List.mem_append.1 hx with hx | hx
          · have h1 := HOLD.out x hx
            exact ⟨(HI.out.each x hx).1, (hg5.block _ (by show x.1 < W2.heap.size; omega) (by intro e; injection e with e; omega)).trans (HE2.out x hx), (HI.out.each x hx).2.2⟩
          · obtain rfl := List.mem_singleton.1 hx
            refine ⟨by show w.heap.size ≤ wr.heap.size + 1; omega, HN5.out, ?_⟩
            show Ws (row0 _ _)
            rw [row0_eq HFL.out]
            exact HXE.out.1.ws.append ((Ws.zeros _).drop _)
        · rw [List.map_append]
          refine List.nodup_append.2 ⟨HI.out.nd, by simp, ?_⟩
          intro a ha b hb
          obtain ⟨x, hx, rfl⟩ := List.mem_map.1 ha
          simp at hb
          have := (HOLD.out x hx).1
          omega
        · rw [List.map_append, HI.out.val, List.length_append, HKK.out]
          show _ = (rows0 bufs (hrYs hs)).take (k + 1)
          rw [List.take_add_one, HGET.out]
          rfl
        · exact HB2.out.trans ⟨hg5.os, hg5.tape, hg5.output, hg5.size, fun j hj => (hg5.block j (by show j < W2.heap.size; omega) (by intro e; injection e with e; omega)).trans rfl⟩)
      have HLL : Hid ((xs ++ [(wr.heap.size + 1, row0 ⟨(q : Int), kd, sec⟩ xys)]).length = k + 1) := Lib.hid (by rw [List.length_append, HKK.out]; rfl)
      have l0 : W2.drew.cell? ⟨w.heap.size, k, none⟩ = some (.slice (some ⟨wr.heap.size + 1, 0, none⟩) q q) := by
        rw [HC2.out.drew.cell]
        rw [← slC_set (by rw [HKK.out]; exact hlt), HKK.out, Array.getElem?_setIfInBounds_self_of_lt]
        · congr 1
          unfold slv
          dsimp only
          rw [row0_len HFL.out]
          rfl
        · have h := gk
          rw [hbk.cell] at h
          exact (Array.getElem?_eq_some_iff.1 h).1
      have l1 : W2.drew.cell? ⟨b2, o2 + k, none⟩ = some (.slice xA xn xc) := by
        obtain ⟨b3, o3, e3, _, x3⟩ := hr_at (HH.out.rd.below HB2.out) (show hs[k]? = some ⟨xA, xn, xc, xys⟩ from hx)
        cases e3
        exact x3
      have HW2 := Lib.hid hW2
      generalize row0 ⟨(q : Int), kd, sec⟩ xys = rw0 at *
      clear hbk hx hW2 HC2 HN2 HE2 HRD2 hk5 hg5 HN5
      go_wp2_with fail
      rw [← HW2.out]
      refine wp_region_still_tail 8 (by kernel_rfl) (by kernel_rfl) ?_
      simp only [List.take_succ_cons, List.take_zero, List.drop_succ_cons, List.drop_zero]
      iterate 8 still_step
      refine wpStill_nil ?_
      go_wp2_with (at_builtin; refine wpList_cpy rfl _ _ 43 rfl _ _ rfl rfl _ _ hcp ?_)
      go_roundw
      case rel => exact ⟨_, by rw [HLL.out]; omega, by rw [HLL.out]; go_num, HI5⟩
      case measure => (simp [intOf] <;> omega)
    · obtain rfl : k = n := by omega
      have HV := Lib.hid HI.out
      have hC := HI.out.blk
      go_wp2_with fail
      go_ret
      refine ⟨w.heap.size, xs, rfl, HKK.out, ?_, ⟨?_, Nat.le_refl _, HV.out.each, HV.out.nd⟩, HV.out.bel⟩
      · rw [HV.out.val, HKK.out, List.take_of_length_le (by rw [HG0.out, HL.out]; exact Nat.le_refl _)]
      · have h := HV.out.blk
        rw [← HKK.out, slC_full] at h
        exact h
end Lb
end Go.Proofs.YtbdhibgljaelbaaDoor
