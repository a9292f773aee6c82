/- Regions that one owns: a row in a block, its bytes in blocks of their own; append to such. -/
import Derived.Test.YtikbnfhnimjmmaaGreatDoorA4
import Derived.Maps.AppendAt
import Derived.Laws.AppendOwn
import Derived.Laws.OwnMore
import Derived.OwnWalk
namespace Go.Proofs.YtikbnfhnimjmmaaGreatDoor
open Go Go.RowKit
namespace Mm
open Wd Nt
set_option linter.unusedVariables false
/-- a region, the block that its bytes lie in, and their room -/
structure OReg where
  r : Reg
  g : Nat
  c : Nat
def OReg.sl (o : OReg) : Value := .slice (some ⟨o.g, 0, none⟩) o.r.bytes.length o.c
def OReg.cells (o : OReg) : List Value := [.int .u64 o.r.base, o.sl, .bool o.r.write]
def rowOf (os : List OReg) : List Value := os.flatMap OReg.cells
def b8 (bs : List Int) : List Value := bs.map (Value.int .u8)
structure OwnR (w : World) (B : Nat) (v : Value) (os : List OReg) : Prop where
  row : w.ownsRow B 106 3 v os.length (rowOf os)
  each : ∀ o ∈ os, w.ownsRow B 5 1 o.sl o.r.bytes.length (b8 o.r.bytes)
  apart : (os.map (·.g)).Nodup
  oks : ∀ o ∈ os, o.r.ok
theorem rowOf_nil : rowOf [] = [] := rfl
theorem rowOf_append (os ps : List OReg) : rowOf (os ++ ps) = rowOf os ++ rowOf ps := List.flatMap_append
theorem rowOf_one (o : OReg) : rowOf [o] = o.cells := by unfold rowOf; simp
theorem rowOf_len (os : List OReg) : (rowOf os).length = os.length * 3 := by
  induction os with
  | nil => rfl
  | cons o os ih =>
    show (o.cells ++ rowOf os).length = _
    rw [List.length_append, ih, List.length_cons]
    show 3 + os.length * 3 = _
    omega
theorem rowOf_get {os : List OReg} {j d : Nat} {o : OReg} (h : os[j]? = some o) (hd : d < 3) : (rowOf os)[j * 3 + d]? = o.cells[d]? := by
  induction os generalizing j with
  | nil => cases h
  | cons p os ih =>
    show (p.cells ++ rowOf os)[j * 3 + d]? = _
    cases j with
    | zero =>
      obtain rfl : p = o := by simpa using h
      rw [Nat.zero_mul, Nat.zero_add, List.getElem?_append_left (by show d < 3; exact hd)]
    | succ j =>
      have h' : os[j]? = some o := by simpa using h
      rw [List.getElem?_append_right (by show 3 ≤ _; omega)]
      show (rowOf os)[(j + 1) * 3 + d - 3]? = _
      rw [show (j + 1) * 3 + d - 3 = j * 3 + d by omega]
      exact ih h'
theorem b8_len (bs : List Int) : (b8 bs).length = bs.length := List.length_map ..
theorem b8_get {bs : List Int} {k : Nat} (h : k < bs.length) : (b8 bs)[k]? = some (.int .u8 (bt bs k)) := by
  unfold b8
  rw [List.getElem?_map, bt_lt h]; rfl
theorem b8_set (bs : List Int) (k : Nat) (v : Int) : (b8 bs).set k (.int .u8 v) = b8 (bs.set k v) := by unfold b8; rw [List.map_set]
theorem own_type {w : World} {B B' : Nat} {e e' : TypeId} {s s' n n' : Nat} {v v' : Value} {xs xs' : List Value} (h : w.ownsRow B e s v n xs) (g : w.ownsRow B' e' s' v' n' xs') (hne : e ≠ e') {k : Nat} (hv : v.ownBlock = some k) : v'.ownBlock ≠ some k := by
  intro hv'
  rcases h.2 with ⟨rfl, _⟩ | ⟨g1, c1, cur1, rfl, _, h1, _⟩
  · cases hv
  rcases g.2 with ⟨rfl, _⟩ | ⟨g2, c2, cur2, rfl, _, h2, _⟩
  · cases hv'
  simp only [Value.ownBlock, Option.some.injEq] at hv hv'
  subst hv
  subst hv'
  rw [h1] at h2
  simp only [Option.some.injEq, Obj.cells.injEq] at h2
  exact hne h2.2.1
theorem own_of_bk {w : World} {B g n : Nat} {e : TypeId} {cs : Array Value} (h : Bk w g e cs) (hB : B ≤ g) {s : Nat} (hs : cs.size = n * s) (hn : n ≤ maxLen) : w.ownsRow B e s (.slice (some ⟨g, 0, none⟩) n n) n cs.toList :=
  ⟨by simpa using hs, .inr ⟨g, n, cs, rfl, hB, h, Nat.le_refl _, hn, hs, List.take_of_length_le (by rw [Array.length_toList, hs]; exact Nat.le_refl _)⟩⟩
theorem ownsRow_base {w : World} {B B' : Nat} {e : TypeId} {s n : Nat} {v : Value} {xs : List Value} (h : w.ownsRow B e s v n xs) (hB : B' ≤ B) : w.ownsRow B' e s v n xs := by
  refine ⟨h.1, ?_⟩
  rcases h.2 with h1 | ⟨g, c, cur, h1, h2, h3⟩
  · exact .inl h1
  · exact .inr ⟨g, c, cur, h1, Nat.le_trans hB h2, h3⟩
theorem grown_of_below {w w' : World} (h : Below w.heap.size w w') (row : Option Nat) : w.grownBy w' row := ⟨h.os, h.tape, h.output, h.size, fun k hk _ => h.block k hk⟩
section
variable {w w' : World} {B : Nat} {v : Value} {os : List OReg}
theorem OwnR.kept {row : Option Nat} (h : OwnR w B v os) (hg : w.grownBy w' row) (h1 : v.ownBlock = none ∨ v.ownBlock ≠ row) (h2 : ∀ o ∈ os, some o.g ≠ row) : OwnR w' B v os :=
  ⟨h.row.kept hg h1, fun o ho => (h.each o ho).kept hg (.inr (h2 o ho)), h.apart, h.oks⟩
theorem OwnR.below (h : OwnR w B v os) (hb : Below w.heap.size w w') : OwnR w' B v os :=
  h.kept (grown_of_below hb none) (by cases hv : v.ownBlock <;> simp) (fun o ho => by simp)
theorem OwnR.base {B' : Nat} (h : OwnR w B v os) (hB : B' ≤ B) : OwnR w B' v os := ⟨ownsRow_base h.row hB, fun o ho => ownsRow_base (h.each o ho) hB, h.apart, h.oks⟩
theorem OwnR.lt (h : OwnR w B v os) {o : OReg} (ho : o ∈ os) : B ≤ o.g ∧ o.g < w.heap.size := (h.each o ho).lt o.g rfl
theorem OwnR.rowlt (h : OwnR w B v os) {k : Nat} (hk : v.ownBlock = some k) : B ≤ k ∧ k < w.heap.size := h.row.lt k hk
theorem OwnR.nil : OwnR w B (.slice none 0 0) [] := ⟨World.ownsRow_nil _ _ _ _, (fun o h => by cases h), List.nodup_nil, (fun o h => by cases h)⟩
/-- its shape -/
theorem OwnR.shape (h : OwnR w B v os) : (v = .slice none 0 0 ∧ os = []) ∨ ∃ g c, v = .slice (some ⟨g, 0, none⟩) os.length c ∧ B ≤ g ∧ g < w.heap.size ∧ os.length ≤ c ∧ c ≤ 9223372036854775807 := by
  have h3 := h.row.lt
  rcases h.row.2 with ⟨h1, h2⟩ | ⟨g, c, cur, h1, h2, hh, h4, h5, _⟩
  · exact .inl ⟨h1, List.eq_nil_of_length_eq_zero h2⟩
  · subst h1
    exact .inr ⟨g, c, rfl, h2, (h3 g rfl).2, h4, by simpa [maxLen] using h5⟩
theorem sl_room {o : OReg} (h : w.ownsRow B 5 1 o.sl o.r.bytes.length (b8 o.r.bytes)) : o.r.bytes.length ≤ o.c ∧ o.c ≤ 9223372036854775807 := by
  rcases h.2 with ⟨h1, h2⟩ | ⟨g, c, cur, h1, h2, hh, h4, h5, _⟩
  · cases h1
  · unfold OReg.sl at h1
    simp only [Value.slice.injEq, Option.some.injEq, Addr.mk.injEq, and_true, true_and] at h1
    obtain ⟨rfl, rfl⟩ := h1
    exact ⟨h4, by simpa [maxLen] using h5⟩
theorem OwnR.rd8 (h : OwnR w B v os) {o : OReg} (ho : o ∈ os) : Rd8 w w.heap.size (some ⟨o.g, 0, none⟩) o.r.bytes.length o.r.bytes := by
  have he := h.each o ho
  refine ⟨rfl, (h.oks o ho).bytes, fun h0 => ⟨_, rfl, (h.lt ho).2, fun j hj => ?_⟩⟩
  exact he.cells rfl j _ (b8_get hj)
theorem OwnR.cell (h : OwnR w B v os) {g : Nat} (hv : v.ownBlock = some g) {j d : Nat} {o : OReg} (hj : os[j]? = some o) (hd : d < 3) : w.cell? ⟨g, j * 3 + d, none⟩ = o.cells[d]? := by
  have h1 := rowOf_get (d := d) hj hd
  have h3 : o.cells[d]? = some (o.cells[d]'(by show d < 3; exact hd)) := List.getElem?_eq_getElem _
  rw [h3] at h1 ⊢
  have h2 := h.row.cells hv (j * 3 + d) _ h1
  have e : (⟨g, 0, none⟩ : Addr).add (j * 3 + d) = ⟨g, j * 3 + d, none⟩ := by
    unfold Addr.add; split
    · rename_i e; rw [e]
    · simp
  rwa [e] at h2
theorem OwnR.rdR (h : OwnR w B v os) : ∃ A n c, v = .slice A n c ∧ RdR w w.heap.size A n (os.map (·.r)) ∧ n ≤ c ∧ c ≤ 9223372036854775807 := by
  rcases h.shape with ⟨rfl, rfl⟩ | ⟨g, c, rfl, h1, h2, h3, h4⟩
  · exact ⟨none, 0, 0, rfl, RdR.nil, Nat.le_refl _, by omega⟩
  · refine ⟨_, _, _, rfl, ⟨by rw [List.length_map], ?_, fun h0 => ⟨_, rfl, h2, fun j r hj => ?_⟩⟩, h3, h4⟩
    · intro r hr
      obtain ⟨o, ho, rfl⟩ := List.mem_map.1 hr
      exact h.oks o ho
    · rw [List.getElem?_map] at hj
      obtain ⟨o, ho, rfl⟩ := Option.map_eq_some_iff.1 hj
      have hm : o ∈ os := List.mem_of_getElem? ho
      have c0 := h.cell (g := g) rfl ho (d := 0) (by omega)
      have c1 := h.cell (g := g) rfl ho (d := 1) (by omega)
      have c2 := h.cell (g := g) rfl ho (d := 2) (by omega)
      have e : (⟨g, 0, none⟩ : Addr).add (j * 3) = ⟨g, j * 3, none⟩ := by
        unfold Addr.add; split
        · rename_i e; rw [e]
        · simp
      have hr := sl_room (h.each o hm)
      rw [e]
      exact ⟨_, _, o.c, c0, c1, c2, h.rd8 hm, hr.1, hr.2⟩
end
/-! ### append -/
theorem info_u8 : (Tryz.prog.info? 5).map (fun i => (i.zero, i.size, i.bytes)) = some (some (.int .u8 0), 1, 1) := by kernel_rfl
theorem info_reg : (Tryz.prog.info? 106).map (fun i => (i.zero, i.size, i.bytes)) = some (some (.agg #[.int .u64 0, .slice none 0 0, .bool false]), 3, 40) := by kernel_rfl
theorem run_app_none {w : World} (t ty e : TypeId) (i : TypeInfo) (ht : Tryz.prog.underlying t = some (.slice e)) (hi : Tryz.prog.info? e = some i)
    (v : Value) (n : Nat) (xs : List Value) (base size : Nat) (hown : w.ownsRow base e size v n xs) (c : Nat) : (Builtin.append_ #[t, t] ty #[v, .slice none 0 c]).run Tryz.prog w = .ok v w := by
  rcases hown.2 with ⟨rfl, rfl⟩ | ⟨g, cap, cur, rfl, _, _, hnc, _⟩
  · simp [Builtin.append_, run_underlying ht, sizeOf, typeInfo, hi, Builtin.lenOf, Builtin.firstCells]
  · simp [Builtin.append_, run_underlying ht, sizeOf, typeInfo, hi, Builtin.lenOf, Builtin.firstCells, hnc, storeCells]
/-- bytes of one's own, behind an empty row -/
theorem app8 {w : World} (ty : TypeId) {Y m cc B : Nat} {A : Option Addr} {bs : List Int} (hY : Bk w Y 5 #[]) (hB : B ≤ Y) (h : Rd8 w w.heap.size A m bs) (hm : m ≤ 1099511627776) :
    ∃ g c w', (Builtin.append_ #[104, 104] ty #[.slice (some ⟨Y, 0, none⟩) 0 0, .slice A m cc]).run Tryz.prog w = .ok (.slice (some ⟨g, 0, none⟩) m c) w' ∧
      w'.ownsRow B 5 1 (.slice (some ⟨g, 0, none⟩) m c) m (b8 bs) ∧ Below Y w w' ∧ w.grownBy w' (some Y) ∧ (g = Y ∨ g = w.heap.size) := by
  obtain ⟨i, hi, hz, h1, h2⟩ := info_parts info_u8
  have hown : w.ownsRow B 5 1 (.slice (some ⟨Y, 0, none⟩) 0 0) 0 [] := own_of_bk hY hB rfl (by simp [maxLen])
  have hYl := hY.lt
  rcases A with _ | ad
  · have hm0 : m = 0 := by
      rcases Nat.eq_zero_or_pos m with h0 | h0
      · exact h0
      · obtain ⟨ad, e, _⟩ := h.rd h0; cases e
    subst hm0
    obtain rfl : bs = [] := List.eq_nil_of_length_eq_zero h.len
    exact ⟨Y, 0, w, run_app_none _ ty 5 i Tryz.underlying104 hi _ _ _ _ _ hown cc, hown, Below.refl _ _, grown_of_below (Below.refl _ _) _, .inl rfl⟩
  · have hcells : ∀ j u, (b8 bs)[j]? = some u → w.cell? (ad.add j) = some u := by
      intro j u hu
      have hj : j < bs.length := by rw [← b8_len]; exact (List.getElem?_eq_some_iff.1 hu).1
      obtain ⟨ad', he, _, hc⟩ := h.rd (by rw [← h.len]; omega)
      cases he
      rw [b8_get hj] at hu
      rw [← hu]
      exact hc j (by rw [← h.len]; exact hj)
    obtain ⟨v', w', hrun, h3, h4, h5, h6⟩ := run_append_own_at (P := Tryz.prog) (w := w) B 104 ty 5 i (.int .u8 0) 1 1 Tryz.underlying104 hi hz h1 h2 rfl (by omega) _ 0 _ hown ad m cc (b8 bs) (by rw [b8_len, h.len, Nat.mul_one]) hcells
      (fun u hu => by obtain ⟨x, _, rfl⟩ := List.mem_map.1 hu; simp [Value.oneCell']) (by simp only [maxLen]; omega) (by omega) (by omega)
    rw [List.nil_append, Nat.zero_add] at h3
    have hne : v' ≠ .slice none 0 0 := fun e => by
      have := (h5.1 e).1
      cases this
    rcases h3.2 with ⟨e, _⟩ | ⟨g, c, cur, rfl, hg⟩
    · exact absurd e hne
    · refine ⟨g, c, w', hrun, h3, (Below.refl _ w).grown h4 (by omega) (fun k e => by simp [Value.ownBlock] at e; omega), h4, ?_⟩
      rcases h6 with h6 | h6
      · left; simpa [Value.ownBlock] using h6
      · right; simpa [Value.ownBlock] using h6
/-- one region more, from a row of one -/
theorem appR {w : World} (ty : TypeId) {Z n B : Nat} {v c0 c1 c2 : Value} {xs : List Value} (hZ : Bk w Z 106 #[c0, c1, c2]) (hv : w.ownsRow B 106 3 v n xs) (h1 : c0.oneCell' = true ∧ c1.oneCell' = true ∧ c2.oneCell' = true) (hn : n ≤ 1000000) (hB : B ≤ w.heap.size) :
    ∃ v' w', (Builtin.append_ #[53, 53] ty #[v, .slice (some ⟨Z, 0, none⟩) 1 1]).run Tryz.prog w = .ok v' w' ∧ w'.ownsRow B 106 3 v' (n + 1) (xs ++ [c0, c1, c2]) ∧ w.grownBy w' v.ownBlock ∧
      (v'.ownBlock = v.ownBlock ∨ v'.ownBlock = some w.heap.size) := by
  obtain ⟨i, hi, hz, h2, h3⟩ := info_parts info_reg
  obtain ⟨v', w', hrun, h4, h5, h6, h7⟩ := run_append_own_at (P := Tryz.prog) (w := w) B 53 ty 106 i _ 3 40 Tryz.underlying53 hi hz h2 h3 rfl (by omega) v n xs hv ⟨Z, 0, none⟩ 1 1 [c0, c1, c2] rfl (fun j u hu => by
      have e : (⟨Z, 0, none⟩ : Addr).add j = ⟨Z, j, none⟩ := by
        unfold Addr.add; split
        · rename_i e; rw [e]
        · simp
      rw [e, hZ.cell]
      rw [← hu]; simp)
      (fun u hu => by simp at hu; rcases hu with rfl | rfl | rfl; exact h1.1; exact h1.2.1; exact h1.2.2) (by simp only [maxLen]; omega) (by omega) hB
  exact ⟨v', w', hrun, h4, h5, h7⟩
theorem wpList_app {P : Program} {w : World} {ops : Array Oper} {rest : List Oper} {o : Oper} {a : Act} {Q : Exit → Act → World → Prop} (hgd : o.guard = none) (s x : Operand) (t : TypeId)
    (ho : o.op = .call { callee := .builtin .append, args := #[s, x], argTypes := #[t, t] }) (v sx : Value) (hs : a.eval s = v) (hx : a.eval x = sx) (v' : Value) (w' : World)
    (hrun : (Builtin.append_ #[t, t] o.type #[v, sx]).run P w = .ok v' w') (h : wpList P ops Q rest (a.put o.dst v') w') : wpList P ops Q (o :: rest) a w :=
  wpList_plain hgd fun _ hK => by
    unfold Oper.wp execOp
    simp only [ho, resolve, invoke, builtin, Sem.run_bind, Sem.run_pure, Result.andThen_ok, List.map_toArray, List.map_cons, List.map_nil, hs, hx, hrun]
    exact hK _ _ h
end Mm
end Go.Proofs.YtikbnfhnimjmmaaGreatDoor
