/- The landed package limb: ends. -/
import Derived.Test.YtbdhibgljaelbaaDoorM3
import Derived.Laws.MakeOwn
namespace Go.Proofs.YtbdhibgljaelbaaDoor
open Go Go.RowKit Go.Sort Go.Shelf
namespace Lb
open Wd Nt Gr
set_option linter.unusedVariables false
set_option linter.unusedSimpArgs false
def nAt (ops : List Op) (k : Nat) : List Int × List Nat := enF (ops.take k)
theorem nAt_succ {ops : List Op} {k : Nat} {o : Op} (h : ops[k]? = some o) : nAt ops (k + 1) = enO (nAt ops k) o := by
  unfold nAt enF
  rw [take_op h, List.foldl_append]
  rfl
structure NOk (p : Pg) (k : Nat) : Prop where
  l1 : (nAt p.op k).1.length = k
  l2 : (nAt p.op k).2.length = (sAt p.op k).lp.length
  lt : ∀ x ∈ (nAt p.op k).2, x < k
theorem getLast_mem {xs : List Nat} (h : xs ≠ []) : xs.getLast?.getD 0 ∈ xs := by
  rw [List.getLast?_eq_some_getLast h]
  exact List.getLast_mem h
theorem Ok.nok {p : Pg} (H : Ok p) : ∀ k, k ≤ p.op.length → NOk p k
  | 0, _ => ⟨rfl, rfl, fun x hx => by cases hx⟩
  | k + 1, h => by
    obtain ⟨o, ho⟩ : ∃ o, p.op[k]? = some o := ⟨_, List.getElem?_eq_getElem (by omega)⟩
    obtain ⟨h1, h2, h3⟩ := Ok.nok H k (by omega)
    have had := adv_dep (s := sAt p.op k) (o := o) (fun e => H.lpne ho e)
    have hne := H.lpne ho
    constructor
    · rw [nAt_succ ho]
      unfold enO
      split
      · simp [h1]
      · split
        · simp [h1]
        · simp [h1]
    · rw [nAt_succ ho, sAt_succ ho, had]
      unfold enO
      split
      · simp [h2]
      · split
        · simp [h2]
        · exact h2
    · rw [nAt_succ ho]
      intro x hx
      unfold enO at hx
      split at hx
      · rcases List.mem_append.1 hx with hx | hx
        · have := h3 x hx; omega
        · obtain rfl := List.mem_singleton.1 hx
          omega
      · split at hx
        · have := h3 x (List.dropLast_subset _ hx); omega
        · have := h3 x hx; omega
/-- the row of ends after k operations, the rest noughts -/
def nRow (p : Pg) (k : Nat) : List Int := (nAt p.op k).1 ++ List.replicate (p.op.length - k) 0
theorem nRow_len {p : Pg} {k : Nat} (h : NOk p k) (hk : k ≤ p.op.length) : (nRow p k).length = p.op.length := by
  unfold nRow
  rw [List.length_append, h.l1, List.length_replicate]
  omega
theorem nRow_at {p : Pg} {k : Nat} (h : NOk p k) (hk : k < p.op.length) : (nRow p k)[k]? = some 0 := by
  unfold nRow
  rw [List.getElem?_append_right (by rw [h.l1]; exact Nat.le_refl _), h.l1, Nat.sub_self, List.getElem?_replicate, if_pos (by omega)]
theorem nRow_set {p : Pg} {k : Nat} (h : NOk p k) (hk : k < p.op.length) (z : Int) : (nRow p k).set k z = (nAt p.op k).1 ++ [z] ++ List.replicate (p.op.length - (k + 1)) 0 := by
  unfold nRow
  rw [List.set_append_right _ _ (by rw [h.l1]; exact Nat.le_refl _), h.l1, Nat.sub_self, List.append_assoc]
  congr 1
  obtain ⟨m, hm⟩ : ∃ m, p.op.length - k = m + 1 := ⟨p.op.length - k - 1, by omega⟩
  rw [hm, List.replicate_succ, List.set_cons_zero, show p.op.length - (k + 1) = m by omega]
  rfl
theorem enO_16 {s : List Int × List Nat} {o : Op} (h : o.k = 16) : enO s o = (s.1 ++ [-1], s.2 ++ [s.1.length]) := by unfold enO; rw [if_pos h]
theorem enO_17 {s : List Int × List Nat} {o : Op} (h : o.k = 17) : enO s o = ((s.1 ++ [((s.2.getLast?.getD 0 : Nat) : Int)]).set (s.2.getLast?.getD 0) ((s.1.length : Nat) : Int), s.2.dropLast) := by unfold enO; rw [if_neg (by omega), if_pos h]
theorem enO_pl {s : List Int × List Nat} {o : Op} (h : o.k ≠ 16) (h' : o.k ≠ 17) : enO s o = (s.1 ++ [-1], s.2) := by unfold enO; rw [if_neg h, if_neg h']
theorem nRow_pl {p : Pg} {k : Nat} {o : Op} (h : NOk p k) (ho : p.op[k]? = some o) (h17 : o.k ≠ 17) : nRow p (k + 1) = (nRow p k).set k (-1) := by
  have hk := (List.getElem?_eq_some_iff.1 ho).1
  rw [nRow_set h hk]
  unfold nRow
  rw [nAt_succ ho]
  by_cases h16 : o.k = 16
  · rw [enO_16 h16]
  · rw [enO_pl h16 h17]
theorem nRow_17 {p : Pg} {k q : Nat} {o : Op} (h : NOk p k) (ho : p.op[k]? = some o) (h17 : o.k = 17) (hq : (nAt p.op k).2.getLast?.getD 0 = q) (hqk : q < k) : nRow p (k + 1) = (((nRow p k).set k (-1)).set k (q : Int)).set q (k : Int) := by
  have hk := (List.getElem?_eq_some_iff.1 ho).1
  rw [List.set_set, nRow_set h hk, List.set_append_left _ _ (by rw [List.length_append, h.l1]; simp; omega)]
  unfold nRow
  rw [nAt_succ ho, enO_17 h17, hq, h.l1]
def ints (xs : List Nat) : List Int := xs.map fun (x : Nat) => (x : Int)
theorem ints_app (xs ys : List Nat) : ints (xs ++ ys) = ints xs ++ ints ys := List.map_append
theorem ints_len (xs : List Nat) : (ints xs).length = xs.length := List.length_map ..
/-- the loops without an end, in a row of one's own that is not block gl -/
structure OpW (w : World) (B gl : Nat) (v : Value) (xs : List Nat) : Prop where
  own : Rws 3 B v (ints xs) w
  ne : ∀ g, v.ownBlock = some g → g ≠ gl
theorem OpW.below {w w' : World} {B gl : Nat} {v : Value} {xs : List Nat} (h : OpW w B gl v xs) (hb : Below w.heap.size w w') : OpW w' B gl v xs := ⟨own_below h.own hb, h.ne⟩
theorem OpW.far {w : World} {B gl i : Nat} {v u : Value} {xs : List Nat} (h : OpW w B gl v xs) : OpW (w.setCell ⟨gl, i, none⟩ u) B gl v xs :=
  ⟨h.own.kept (row := some gl) (only_setCell _ _ _ _) (by
    cases hv : v.ownBlock with
    | none => exact .inl rfl
    | some g => exact .inr (fun e => h.ne g hv (Option.some.inj e))), h.ne⟩
theorem OpW.last {w : World} {B gl : Nat} {v : Value} {xs : List Nat} (h : OpW w B gl v xs) (hne : xs ≠ []) : ∃ g c m, v = .slice (some ⟨g, 0, none⟩) (m + 1) c ∧ xs.length = m + 1 ∧ m + 1 ≤ c ∧ g < w.heap.size ∧ w.cell? ⟨g, m, none⟩ = some (.int .i64 ((xs.getLast?.getD 0 : Nat) : Int)) ∧ OpW w B gl (.slice (some ⟨g, 0, none⟩) m c) xs.dropLast ∧ g ≠ gl := by
  obtain ⟨A, c, rfl, hc⟩ := rws_form h.own
  rw [ints_len] at hc
  obtain ⟨m, hm⟩ : ∃ m, xs.length = m + 1 := ⟨xs.length - 1, by have := List.length_pos_iff.2 hne; omega⟩
  obtain ⟨g, rfl, h1, h2, h3, h4⟩ := own_blk h.own (by rw [ints_len]; omega)
  have hx : (ints xs)[m]? = some ((xs.getLast?.getD 0 : Nat) : Int) := by
    unfold ints
    rw [List.getElem?_map, List.getLast?_eq_getElem?, hm, show m + 1 - 1 = m from rfl, List.getElem?_eq_getElem (by omega)]
    rfl
  obtain ⟨b, o, e1, _, k0⟩ := int_at (rws_rd h.own).2.1 hx
  cases e1
  rw [Nat.zero_add] at k0
  have hi := own_init (m := m) h.own (by rw [ints_len, hm])
  have e2 : (ints xs).dropLast = ints xs.dropLast := by unfold ints; rw [List.map_dropLast]
  rw [e2] at hi
  have hg := h.ne g rfl
  exact ⟨g, c, m, by rw [ints_len, hm], hm, by omega, h2, k0, ⟨hi, fun g' e' => by cases e'; exact hg⟩, hg⟩
theorem OpW.push {W : World} {B gl g2 x : Nat} {v : Value} {xs : List Nat} (ho : OpW W B gl v xs) (hs : Bk W g2 3 #[.int .i64 (x : Int)]) (hk : xs.length ≤ 100000) (hB : B ≤ W.heap.size) (hgl : gl < W.heap.size) :
    ∃ A c w', (Builtin.append_ #[49, 49] 49 #[v, .slice (some ⟨g2, 0, none⟩) 1 1]).run Tryd.prog W = .ok (.slice A (xs.length + 1) c) w' ∧ OpW w' B gl (.slice A (xs.length + 1) c) (xs ++ [x]) ∧ W.grownBy w' v.ownBlock := by
  obtain ⟨i, hi, hz, h2, h3⟩ := info_parts info_int
  have hl := ints_len xs
  obtain ⟨A, c, w', h4, h5, h6, h7⟩ := app_one (z := ((x : Nat) : Int)) 49 49 i _ 8 Tryd.underlying49 hi hz h2 h3 rfl ho.own hs (by rw [hl]; omega) (by rw [hl]; simp only [maxLen]; omega) hB
  rw [hl] at h4 h5 h7
  refine ⟨A, c, w', h4, ⟨?_, fun g e => ?_⟩, h6⟩
  · rw [ints_app]; exact h5
  · rcases h7 with h7 | h7
    · exact ho.ne g (by rw [← h7]; exact e)
    · rw [h7] at e
      cases e
      omega
theorem own_putI {w : World} {B gl n c j : Nat} {e : TypeId} {xs : List Int} {x y : Int} (h : Rws e B (.slice (some ⟨gl, 0, none⟩) n c) xs w) (hn : n = xs.length) (hx : xs[j]? = some x) : Rws e B (.slice (some ⟨gl, 0, none⟩) n c) (xs.set j y) (w.setCell ⟨gl, j, none⟩ (.int .i64 y)) := by
  have h1 := own_put (d := 0) (y := y) (u := .int .i64 y) h hn hx (by decide) rfl
  rw [show j * Sh.k Int + 0 = j from by show j * 1 + 0 = j; omega] at h1
  exact h1
theorem size_set (w : World) (a : Addr) (u : Value) : (w.setCell a u).heap.size = w.heap.size := by simp [World.setCell]
theorem row_zeros (n : Nat) : (row (List.replicate n (0 : Int))).toArray = Array.replicate n (Value.int .i64 0) := by
  apply Array.ext'
  rw [Array.toList_replicate]
  show row (List.replicate n (0 : Int)) = _
  induction n with
  | zero => rfl
  | succ n ih => rw [List.replicate_succ, List.replicate_succ, ← ih]; rfl
theorem make_int (n : Nat) (hn : n ≤ 1000000) (w : World) :
    (Instr.makeSlice 49 (.int .i64 (n : Int)) (.int .i64 (n : Int))).run Tryd.prog w = .ok (.slice (some ⟨w.heap.size, 0, none⟩) n n) (w.alloc (.cells (row (List.replicate n (0 : Int))).toArray 3)) := by
  obtain ⟨i, hi, hz, h1, h2⟩ := info_parts info_int
  have hr := run_make (P := Tryd.prog) w 49 3 i (.int .i64 0) Tryd.underlying49 hi hz .i64 .i64 (n : Int) (n : Int) (by omega) (by omega) (by rw [h2]; omega) (by omega)
  simp only [Int.toNat_natCast] at hr
  rw [hr, row_zeros, h1]
  have e : madeCells (Value.int .i64 0).cells (n * 1) = Array.replicate n (Value.int .i64 0) := by
    apply Array.ext <;> simp [madeCells, Value.cells, Nat.mod_one]
  rw [e]
theorem int_made (w : World) {B : Nat} (n : Nat) (hn : n ≤ 1000000) (hB : B ≤ w.heap.size) : Rws 3 B (.slice (some ⟨w.heap.size, 0, none⟩) n n) (List.replicate n (0 : Int)) (w.alloc (.cells (row (List.replicate n (0 : Int))).toArray 3)) := by
  unfold Rws
  rw [List.length_replicate]
  have h := World.ownsRow_lit (base := B) (e := 3) (size := 1) w (row (List.replicate n (0 : Int))).toArray n hB (by simp only [maxLen]; omega) (by rw [row_zeros]; simp)
  exact h
set_option maxRecDepth 100000 in
set_option maxHeartbeats 8000000 in
theorem ends_l (p : Pg) (H : Ok p) (hp : p.wf) (X : Option Addr) (d : Nat) (w : World) (hX : Rdr w w.heap.size X p.op.length p.op) :
    Calls Tryd.prog 38 #[.slice X p.op.length d] w fun e w' => (∃ v, e = .returned v ∧ Rws 3 w.heap.size v (enP p.op) w') ∧ Below w.heap.size w w' := by
  have HZ := Lib.hid (ref_zero H.ref)
  have hml : (p.op.length : Int) ≤ 65536 := by have := HZ.out.2.2.1; omega
  have HX := Lib.hid hX
  have HP := Lib.hid H
  clear hX H
  obtain ⟨n, hn⟩ : ∃ n, p.op.length = n := ⟨_, rfl⟩
  have HN := Lib.hid hn
  rw [hn] at hml ⊢
  have hn6 : n ≤ 65536 := by omega
  have hmk := fun W => make_int n (by omega) W
  have HR0 : Hid (Rws 3 w.heap.size (.slice (some ⟨w.heap.size, 0, none⟩) n n) (nRow p 0) (w.alloc (.cells (row (List.replicate n (0 : Int))).toArray 3))) := Lib.hid (by
    have h := int_made w (B := w.heap.size) n (by omega) (Nat.le_refl _)
    unfold nRow
    rw [hn]
    exact h)
  have HB0 := Lib.hid (bel_al (w := w) (.cells (row (List.replicate n (0 : Int))).toArray 3))
  have HLT0 : Hid (w.heap.size < (w.alloc (.cells (row (List.replicate n (0 : Int))).toArray 3)).heap.size) := Lib.hid (by rw [World.size_alloc]; exact Nat.lt_succ_self _)
  obtain ⟨zs, hzs⟩ : ∃ zs, (row (List.replicate n (0 : Int))).toArray = zs := ⟨_, rfl⟩
  simp only [hzs] at hmk
  rw [hzs] at HR0 HB0 HLT0
  clear hzs
  go_enter Tryd.func38, Tryd.ntmps38
  go_wp2_with fail
  go_loopw [13, 4] (fun i v W => ∃ (k : Nat), k ≤ n ∧ i = .int .i64 (k : Int) ∧ Hid (Rws 3 w.heap.size (.slice (some ⟨w.heap.size, 0, none⟩) n n) (nRow p k) W) ∧ Hid (OpW W w.heap.size w.heap.size v (nAt p.op k).2) ∧ Hid (Below w.heap.size w W) ∧ Hid (w.heap.size < W.heap.size)) (fun i _ _ => n - (intOf i).toNat)
  case atStart => exact ⟨0, Nat.zero_le _, rfl, HR0, Lib.hid ⟨World.ownsRow_nil _ _ _ _, fun g e => by cases e⟩, HB0, HLT0⟩
  case round =>
    obtain ⟨k, hk, rfl, HR, HO, HB, HLT⟩ := hrel
    clear HR0 HB0 HLT0 hmk
    rcases Nat.lt_or_ge k n with hlt | hge
    · have hki : (k : Int) < (n : Int) := by omega
      have hk0 : (0 : Int) ≤ (k : Int) := by omega
      have hkl : k < p.op.length := by rw [HN.out]; exact hlt
      obtain ⟨oo, hoo⟩ : ∃ o, p.op[k]? = some o := ⟨_, List.getElem?_eq_getElem hkl⟩
      have HS1 := Lib.hid (nAt_succ hoo)
      have HLP := Lib.hid (fun h => HP.out.lpne hoo h)
      have HNK := Lib.hid (HP.out.nok k (Nat.le_of_lt hkl))
      have HD8 := Lib.hid (HP.out.dep8 k (Nat.le_of_lt hkl))
      have HRP := Lib.hid (fun h17 => nRow_pl HNK.out hoo h17)
      have HR17 := Lib.hid (fun q h17 h1 h2 => nRow_17 (q := q) HNK.out hoo h17 h1 h2)
      have HO16 := Lib.hid (fun (h : oo.k = 16) => (show (nAt p.op (k + 1)).2 = (nAt p.op k).2 ++ [k] by rw [HS1.out, enO_16 h, HNK.out.l1]))
      have HO17 := Lib.hid (fun (h : oo.k = 17) => (show (nAt p.op (k + 1)).2 = (nAt p.op k).2.dropLast by rw [HS1.out, enO_17 h]))
      have HOPL := Lib.hid (fun (h : oo.k ≠ 16) (h' : oo.k ≠ 17) => (show (nAt p.op (k + 1)).2 = (nAt p.op k).2 by rw [HS1.out, enO_pl h h']))
      obtain ⟨bx, ox, hX, hbx, o0, o1, o2, o3, o4, o5, o6, o7⟩ := op_at (HX.out.below HB.out) hoo
      subst hX
      clear hoo HS1
      have hgl := HLT.out
      have HBS := Lib.hid HB.out.size
      have hz := (rws_rd HR.out).1
      have hfk : wr.frozen? ⟨w.heap.size, k, none⟩ = false := by
        have h := HR.out
        rw [hz] at h
        exact World.ownsRow.frozenAt h _
      have hck : wr.cell? ⟨w.heap.size, k, none⟩ = some (.int .i64 0) := by
        obtain ⟨b, o, e1, _, k0⟩ := int_at (rws_rd HR.out).2.1 (nRow_at HNK.out hkl)
        cases e1
        rw [Nat.zero_add] at k0
        exact k0
      have HRA : Hid (Rws 3 w.heap.size (.slice (some ⟨w.heap.size, 0, none⟩) n n) ((nRow p k).set k (-1)) (wr.setCell ⟨w.heap.size, k, none⟩ (.int .i64 (-1)))) := Lib.hid (own_putI (j := k) (y := (-1 : Int)) HR.out hz (nRow_at HNK.out hkl))
      have HOA := Lib.hid (HO.out.far (i := k) (u := .int .i64 (-1)))
      have HBA := Lib.hid (HB.out.setCell (p := ⟨w.heap.size, k, none⟩) (Nat.le_refl _) (.int .i64 (-1)))
      have HSA : Hid (w.heap.size < (wr.setCell ⟨w.heap.size, k, none⟩ (.int .i64 (-1))).heap.size) := Lib.hid (by rw [show (wr.setCell ⟨w.heap.size, k, none⟩ (.int .i64 (-1))).heap.size = wr.heap.size from size_set _ _ _]; exact hgl)
      have HZN := Lib.hid (nRow_len HNK.out (Nat.le_of_lt hkl))
      have HLQ := Lib.hid (fun h => HNK.out.lt _ (getLast_mem h))
      have HL2 := Lib.hid HNK.out.l2
      have HNE : Hid (oo.k = 17 → (nAt p.op k).2 ≠ []) := Lib.hid (fun h e => by
        have h1 := List.length_pos_iff.2 (HLP.out h)
        have h2 := HL2.out
        rw [e] at h2
        simp at h2
        omega)
      clear HLP HNK hz HR
      generalize oo.k = ok at *
      generalize oo.d = od at *
      generalize oo.e = oe at *
      generalize oo.a = oa at *
      generalize oo.b = ob at *
      generalize oo.c = oc at *
      generalize oo.bf = obf at *
      generalize oo.im = oim at *
      by_cases h16 : ok = 16
      · subst h16
        have HE2 := Lib.hid (HO16.out (by first | exact rfl | trivial))
        have HE1 := Lib.hid (HRP.out (by decide))
        have hz0 : w.heap.size ≤ ((wr.setCell ⟨w.heap.size, k, none⟩ (.int .i64 (-1))).alloc (.cells #[.int .i64 16, .int .i64 od, .int .i64 oe, .int .i64 oa, .int .i64 ob, .int .i64 oc, .int .i64 obf, .int .u64 oim] 33)).heap.size := by rw [World.size_alloc]; have := HSA.out; omega
        obtain ⟨A, c2, w5, hap, hown5, hgr5⟩ := OpW.push (W := ((wr.setCell ⟨w.heap.size, k, none⟩ (.int .i64 (-1))).alloc (.cells #[.int .i64 16, .int .i64 od, .int .i64 oe, .int .i64 oa, .int .i64 ob, .int .i64 oc, .int .i64 obf, .int .u64 oim] 33)).alloc (.cells #[.int .i64 (k : Int)] 3)) (g2 := wr.heap.size + 1) (x := k) ((HOA.out.below (bel_al _)).below (bel_al _)) (Bk.new' (by rw [World.size_alloc, size_set])) (by have := HL2.out; have := HD8.out; omega) (by rw [World.size_alloc]; omega) (by rw [World.size_alloc, World.size_alloc]; have := HSA.out; omega)
        have HB5 : Hid (Below w.heap.size w w5) := Lib.hid (own_grown ((HOA.out.below (bel_al _)).below (bel_al (.cells #[.int .i64 (k : Int)] 3))).own hgr5 (bel_al' (bel_al' HBA.out _) _) (Nat.le_refl _) (by rw [World.size_alloc]; omega))
        have HR5 : Hid (Rws 3 w.heap.size (.slice (some ⟨w.heap.size, 0, none⟩) n n) ((nRow p k).set k (-1)) w5) := Lib.hid ((own_below (own_below HRA.out (bel_al _)) (bel_al (.cells #[.int .i64 (k : Int)] 3))).kept hgr5 (.inr (fun e => HO.out.ne w.heap.size e.symm rfl)))
        have HO5 := Lib.hid hown5
        have HS5 : Hid (w.heap.size < w5.heap.size) := Lib.hid (by have h1 := hgr5.size; rw [World.size_alloc] at h1; omega)
        clear hown5 hgr5 hz0
        go_wp2_with (first | (at_builtin; refine wpList_append_eq rfl _ _ 49 rfl _ _ rfl rfl _ _ hap ?_) | fail)
        go_roundw
        case rel =>
          refine ⟨k + 1, by omega, by go_num, Lib.hid ?_, Lib.hid ?_, HB5, HS5⟩
          · rw [HE1.out]; exact HR5.out
          · rw [HE2.out]; exact HO5.out
        case measure => (simp [intOf] <;> omega)
      have n16 : (ok == 16) = false := by rw [beq_eq_false_iff_ne]; exact h16
      by_cases h17 : ok = 17
      · subst h17
        have HE2 := Lib.hid (HO17.out (by first | exact rfl | trivial))
        have hne2 := HNE.out (by first | exact rfl | trivial)
        have hqk := HLQ.out hne2
        have HE1 := Lib.hid (HR17.out _ (by first | exact rfl | trivial) rfl hqk)
        have HOB : Hid (OpW ((wr.setCell ⟨w.heap.size, k, none⟩ (.int .i64 (-1))).alloc (.cells #[.int .i64 17, .int .i64 od, .int .i64 oe, .int .i64 oa, .int .i64 ob, .int .i64 oc, .int .i64 obf, .int .u64 oim] 33)) w.heap.size w.heap.size u4 (nAt p.op k).2) := Lib.hid (HOA.out.below (bel_al _))
        have HRB : Hid (Rws 3 w.heap.size (.slice (some ⟨w.heap.size, 0, none⟩) n n) ((nRow p k).set k (-1)) ((wr.setCell ⟨w.heap.size, k, none⟩ (.int .i64 (-1))).alloc (.cells #[.int .i64 17, .int .i64 od, .int .i64 oe, .int .i64 oa, .int .i64 ob, .int .i64 oc, .int .i64 obf, .int .u64 oim] 33))) := Lib.hid (own_below HRA.out (bel_al _))
        have HBB := Lib.hid (bel_al' HBA.out (.cells #[.int .i64 17, .int .i64 od, .int .i64 oe, .int .i64 oa, .int .i64 ob, .int .i64 oc, .int .i64 obf, .int .u64 oim] 33))
        obtain ⟨g, c, m, hv, hlen, hmc, hgw, hcl, hOD, hgne⟩ := HO.out.last hne2
        subst hv
        obtain ⟨g', c', m', hv', hlen', hmc', hgw', hcl', hOD', hgne'⟩ := HOB.out.last hne2
        have e1 : m' = m := by omega
        subst e1
        cases hv'
        have hm8 : (m' : Int) ≤ 8 := by have := HL2.out; have := HD8.out; omega
        have HOD := Lib.hid hOD'
        rw [← HE2.out] at HOD
        generalize (nAt p.op k).2.getLast?.getD 0 = q at *
        have hqn : q < n := by omega
        have hqn4 : (q : Int) < (n : Int) := by omega
        have hq0 : (0 : Int) ≤ (q : Int) := by omega
        have hm0 : (0 : Int) ≤ (m' : Int) := by omega
        have hm1 : (m' : Int) < (m' : Int) + 1 := by omega
        have hmcc : (m' : Int) ≤ (c : Int) := by omega
        have ew : IntKind.i64.wrap ((m' : Int) + 1 - 1) = (m' : Int) := by rw [show (m' : Int) + 1 - 1 = (m' : Int) by omega]; exact i64n (by omega)
        have ew5 : IntKind.i64.wrap (m' : Int) = (m' : Int) := i64n (by omega)
        obtain ⟨W1, hW1⟩ : ∃ W1, W1 = (wr.setCell ⟨w.heap.size, k, none⟩ (.int .i64 (-1))).alloc (.cells #[.int .i64 17, .int .i64 od, .int .i64 oe, .int .i64 oa, .int .i64 ob, .int .i64 oc, .int .i64 obf, .int .u64 oim] 33) := ⟨_, rfl⟩
        rw [← hW1] at HOD HRB HBB hcl'
        have hS1 : w.heap.size < W1.heap.size := by rw [hW1, World.size_alloc, size_set]; omega
        have HW1 := Lib.hid hW1
        clear hW1 hOD hcl hgw HOB HNE HLQ HE2
        have HX1 := Lib.hid (own_putI (j := k) (y := (q : Int)) (w := W1.drew) (World.ownsRow.drew HRB.out) (by rw [List.length_set, HZN.out, HN.out]) (by rw [List.getElem?_set_self (by rw [HZN.out]; exact hkl)]))
        have HX2 := Lib.hid (own_putI (j := q) (y := (k : Int)) HX1.out (by rw [List.length_set, List.length_set, HZN.out, HN.out]) (List.getElem?_eq_getElem (by rw [List.length_set, List.length_set, HZN.out]; omega)))
        rw [← HE1.out] at HX2
        have HB2 : Hid (Below w.heap.size w ((W1.drew.setCell ⟨w.heap.size, k, none⟩ (.int .i64 (q : Int))).setCell ⟨w.heap.size, q, none⟩ (.int .i64 (k : Int)))) := Lib.hid (((below_drewN HBB.out 1).setCell (p := ⟨w.heap.size, k, none⟩) (Nat.le_refl _) _).setCell (p := ⟨w.heap.size, q, none⟩) (Nat.le_refl _) _)
        have HO2 : Hid (OpW ((W1.drew.setCell ⟨w.heap.size, k, none⟩ (.int .i64 (q : Int))).setCell ⟨w.heap.size, q, none⟩ (.int .i64 (k : Int))) w.heap.size w.heap.size (.slice (some ⟨g, 0, none⟩) m' c) (nAt p.op (k + 1)).2) := Lib.hid (OpW.far (OpW.far (OpW.below HOD.out (below_drewN (Below.refl _ _) 1))))
        have hrow : W1.ownsRow w.heap.size 3 1 (.slice (some ⟨w.heap.size, 0, none⟩) n n) n (row ((nRow p k).set k (-1))) := by
          have h := HRB.out
          unfold Rws at h
          rw [List.length_set, HZN.out, HN.out] at h
          exact h
        have fz : ∀ i, W1.frozen? ⟨w.heap.size, i, none⟩ = false := fun i => World.ownsRow.frozenAt hrow i
        have cz : ∀ i, i < n → ∃ z, W1.cell? ⟨w.heap.size, i, none⟩ = some (.int .i64 z) := fun i hi => by
          obtain ⟨b, o, e1, _, k0⟩ := int_at (rws_rd HRB.out).2.1 (List.getElem?_eq_getElem (show i < ((nRow p k).set k (-1)).length by rw [List.length_set, HZN.out, HN.out]; exact hi))
          cases e1
          rw [Nat.zero_add] at k0
          exact ⟨_, k0⟩
        obtain ⟨z1, x1⟩ := cz k hlt
        obtain ⟨z2, x2⟩ := cz q hqn
        have y1 := fz k
        have y2 := fz q
        have x1d : W1.drew.cell? ⟨w.heap.size, k, none⟩ = some (.int .i64 z1) := x1
        have x2d : W1.drew.cell? ⟨w.heap.size, q, none⟩ = some (.int .i64 z2) := x2
        have y1d : W1.drew.frozen? ⟨w.heap.size, k, none⟩ = false := y1
        have y2d : W1.drew.frozen? ⟨w.heap.size, q, none⟩ = false := y2
        have cld : W1.drew.cell? ⟨g, m', none⟩ = some (.int .i64 (q : Int)) := hcl'
        clear fz cz hrow HOD HX1 HRB
        go_wp2_with fail
        rw [← HW1.out]
        go_region_law (fail)
        all_goals (
          go_wp2_with fail
          go_roundw
          case rel =>
            refine ⟨k + 1, by omega, by go_num, Lib.hid ?_, Lib.hid ?_, Lib.hid ?_, Lib.hid ?_⟩
            · exact HX2.out
            · exact HO2.out
            · exact HB2.out
            · show w.heap.size < ((W1.setCell _ _).setCell _ _).heap.size
              rw [size_set, size_set]
              exact hS1
          case measure => (simp [intOf] <;> omega))
      have n17 : (ok == 17) = false := by rw [beq_eq_false_iff_ne]; exact h17
      have HE2 := Lib.hid (HOPL.out h16 h17)
      have HE1 := Lib.hid (HRP.out h17)
      clear h16 h17
      go_wp2_with fail
      go_roundw
      case rel =>
        refine ⟨k + 1, by omega, by go_num, Lib.hid ?_, Lib.hid ?_, Lib.hid (bel_al' HBA.out _), Lib.hid ?_⟩
        · rw [HE1.out]; exact own_below HRA.out (bel_al _)
        · rw [HE2.out]; exact HOA.out.below (bel_al _)
        · rw [World.size_alloc]; exact Nat.lt_succ_of_lt HSA.out
      case measure => (simp [intOf] <;> omega)
    · obtain rfl : k = n := by omega
      have HV : Hid (nRow p k = enP p.op) := Lib.hid (by
        unfold nRow enP nAt
        rw [← HN.out, Nat.sub_self, List.take_length]
        exact List.append_nil _)
      have HR2 := HR
      rw [HV.out] at HR2
      go_wp2_with fail
      go_ret
      exact ⟨⟨_, rfl, HR2.out⟩, HB.out⟩
end Lb
end Go.Proofs.YtbdhibgljaelbaaDoor
