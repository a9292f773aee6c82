/- Rows of regions that share their bytes; Same of rows of one's own. | OwnRegions of the statements' kit: regions in memory of their own. | OwnRegions of the statements' kit, whole. -/
import Derived.Test.YtmiphnocgepdgaaGreatDoorA11
namespace Go.Proofs.YtmiphnocgepdgaaGreatDoor
open Go Go.RowKit
namespace Mm
open Wd Nt
set_option linter.unusedVariables false
theorem pos_of {M : List Reg} (h : Good M) : ∀ r ∈ M, 0 < r.bytes.length := fun r hr => by
  obtain ⟨i, hi⟩ := getElem?_of_mem hr
  have := h.pos i r hi
  unfold Reg.len at this; omega
theorem same_t {w : World} {B1 E1 B2 E2 : Nat} {v1 v2 : Value} {os1 os2 : List OReg} {M : List Reg} (h1 : OwnI w B1 E1 v1 os1) (h2 : OwnI w B2 E2 v2 os2) (e1 : os1.map (·.r) = M) (e2 : os2.map (·.r) = M) (g : Good M) :
    Calls Tryz.prog 19 #[v1, v2] w fun e w' => e = .returned (.bool true) ∧ Below w.heap.size w w' := by
  obtain ⟨A1, n1, c1, rfl, r1, _, _⟩ := h1.own.rdR
  obtain ⟨A2, n2, c2, rfl, r2, _, _⟩ := h2.own.rdR
  rw [e1] at r1
  rw [e2] at r2
  refine (rsame_c A1 A2 n1 c1 n2 c2 M M w (Lib.hid r1) (Lib.hid r2) (by have := g.few; have := r1.len; omega) (by have := g.few; have := r2.len; omega) (pos_of g) (pos_of g)).mono ?_
  rintro e w' ⟨⟨q, rfl⟩, ⟨_, rfl⟩ | ⟨h, _⟩⟩
  · exact ⟨rfl, below_drewN (Below.refl _ _) q⟩
  · exact absurd rfl h
/-- a row of regions of one's own, whose bytes lie below block B -/
def RowR (w : World) (B : Nat) (v : Value) (rs : List Reg) : Prop :=
  ∃ xs, w.ownsRow B 66 3 v rs.length xs ∧ ∀ (j : Nat) (r : Reg), rs[j]? = some r → r.ok ∧ ∃ A n c, xs[j * 3]? = some (.int .u64 r.base) ∧ xs[j * 3 + 1]? = some (.slice A n c) ∧ xs[j * 3 + 2]? = some (.bool r.write) ∧ Rd8 w B A n r.bytes ∧ n ≤ c ∧ c ≤ 9223372036854775807
theorem RowR.rdR {w : World} {B : Nat} {v : Value} {rs : List Reg} (h : RowR w B v rs) (hB : B ≤ w.heap.size) : ∃ A n c, v = .slice A n c ∧ RdR w w.heap.size A n rs ∧ n ≤ c ∧ c ≤ 9223372036854775807 := by
  obtain ⟨xs, ho, hc⟩ := h
  have hlt := ho.lt
  have hcell : ∀ g, v.ownBlock = some g → ∀ j u, xs[j]? = some u → w.cell? ((⟨g, 0, none⟩ : Addr).add j) = some u := fun g hg => ho.cells hg
  have hoks : Oks rs := fun r hr => by
    obtain ⟨i, hi⟩ := getElem?_of_mem hr
    exact (hc i r hi).1
  rcases ho.2 with ⟨rfl, hn⟩ | ⟨g, c, cur, rfl, _, _, h1, h2, _⟩
  · obtain rfl := List.eq_nil_of_length_eq_zero hn
    exact ⟨none, 0, 0, rfl, RdR.nil, Nat.le_refl _, by omega⟩
  · refine ⟨_, _, _, rfl, ⟨rfl, hoks, fun h0 => ⟨_, rfl, (hlt g rfl).2, fun j r hj => ?_⟩⟩, h1, by simpa [maxLen] using h2⟩
    obtain ⟨_, A, n, c', k1, k2, k3, k4, k5, k6⟩ := hc j r hj
    have e : ∀ d, (⟨g, 0, none⟩ : Addr).add d = ⟨g, d, none⟩ := fun d => by
      unfold Addr.add; split
      · rename_i e; rw [e]
      · simp
    have c0 := hcell g rfl (j * 3) _ k1
    have c1 := hcell g rfl (j * 3 + 1) _ k2
    have c2 := hcell g rfl (j * 3 + 2) _ k3
    rw [e] at c0 c1 c2
    rw [e]
    exact ⟨A, n, c', c0, c1, c2, k4.more hB, k5, k6⟩
theorem RowR.below {w w' : World} {B : Nat} {v : Value} {rs : List Reg} (h : RowR w B v rs) (hb : Below w.heap.size w w') (hB : B ≤ w.heap.size) : RowR w' B v rs := by
  obtain ⟨xs, ho, hc⟩ := h
  refine ⟨xs, ho.kept (grown_of_below hb none) (by cases hv : v.ownBlock <;> simp), fun j r hj => ?_⟩
  obtain ⟨ok, A, n, c', k1, k2, k3, k4, k5, k6⟩ := hc j r hj
  exact ⟨ok, A, n, c', k1, k2, k3, k4.keep (fun p hp => hb.cell (by omega)), k5, k6⟩
/-- one region more -/
theorem RowR.more {w w5 w6 : World} {B : Nat} {v v' : Value} {rs : List Reg} {r : Reg} {A : Option Addr} {n c : Nat} {xs : List Value} (ho : w5.ownsRow B 66 3 v rs.length xs)
    (hc : ∀ (j : Nat) (r : Reg), rs[j]? = some r → r.ok ∧ ∃ A n c, xs[j * 3]? = some (.int .u64 r.base) ∧ xs[j * 3 + 1]? = some (.slice A n c) ∧ xs[j * 3 + 2]? = some (.bool r.write) ∧ Rd8 w B A n r.bytes ∧ n ≤ c ∧ c ≤ 9223372036854775807)
    (hr : w6.ownsRow B 66 3 v' (rs.length + 1) (xs ++ [.int .u64 r.base, .slice A n c, .bool r.write])) (hb : Below B w w6) (hd : Rd8 w B A n r.bytes) (hn : n ≤ c) (hm : c ≤ 9223372036854775807) (hok : r.ok) : RowR w6 B v' (rs ++ [r]) := by
  refine ⟨_, by rw [List.length_append]; exact hr, fun j s hj => ?_⟩
  have hxl : xs.length = rs.length * 3 := ho.1
  rcases Nat.lt_or_ge j rs.length with h1 | h1
  · rw [List.getElem?_append_left h1] at hj
    obtain ⟨ok, A', n', c', k1, k2, k3, k4, k5, k6⟩ := hc j s hj
    refine ⟨ok, A', n', c', ?_, ?_, ?_, k4.keep (fun p hp => hb.cell hp), k5, k6⟩
    · rw [List.getElem?_append_left (by omega)]; exact k1
    · rw [List.getElem?_append_left (by omega)]; exact k2
    · rw [List.getElem?_append_left (by omega)]; exact k3
  · rw [List.getElem?_append_right h1] at hj
    have hj0 : j - rs.length = 0 := by
      have h2 := (List.getElem?_eq_some_iff.1 hj).1
      simp at h2; omega
    rw [hj0] at hj
    obtain rfl : r = s := by simpa using hj
    have hje : j = rs.length := by omega
    subst hje
    refine ⟨hok, A, n, c, ?_, ?_, ?_, hd.keep (fun p hp => hb.cell hp), hn, hm⟩
    · rw [List.getElem?_append_right (by omega), show rs.length * 3 - xs.length = 0 by omega]; rfl
    · rw [List.getElem?_append_right (by omega), show rs.length * 3 + 1 - xs.length = 1 by omega]; rfl
    · rw [List.getElem?_append_right (by omega), show rs.length * 3 + 2 - xs.length = 2 by omega]; rfl
end Mm
end Go.Proofs.YtmiphnocgepdgaaGreatDoor
namespace Go.Proofs.YtmiphnocgepdgaaGreatDoor
open Go Go.RowKit
namespace Mm
open Wd Nt
set_option linter.unusedVariables false
/-- bytes that are one's own, in a new block -/
def Own8P (bs : List Int) (w : World) (e : Ending) (w' : World) : Prop :=
  Below w.heap.size w w' ∧ ∃ g c, e = .returned (.slice (some ⟨g, 0, none⟩) bs.length c) ∧ w.heap.size ≤ g ∧ Rd8 w' w'.heap.size (some ⟨g, 0, none⟩) bs.length bs ∧ bs.length ≤ c ∧ c ≤ 9223372036854775807
theorem own_rd8 {w : World} {B g n c : Nat} {bs : List Int} (h : w.ownsRow B 5 1 (.slice (some ⟨g, 0, none⟩) n c) n (b8 bs)) (hb : Bs bs) : Rd8 w w.heap.size (some ⟨g, 0, none⟩) bs.length bs := by
  have hn : bs.length = n := by have := h.1; rw [b8_len] at this; omega
  refine ⟨rfl, hb, fun _ => ⟨_, rfl, (h.lt g rfl).2, fun j hj => ?_⟩⟩
  exact h.cells (g := g) rfl j _ (by rw [b8_get hj])
theorem own_room {w : World} {B e s g n c m : Nat} {xs : List Value} (h : w.ownsRow B e s (.slice (some ⟨g, 0, none⟩) n c) m xs) : m ≤ c ∧ c ≤ 9223372036854775807 := by
  rcases h.2 with ⟨h1, _⟩ | ⟨g', c', cur, h1, _, _, h2, h3, _⟩
  · cases h1
  · simp only [Value.slice.injEq] at h1
    obtain ⟨_, rfl, rfl⟩ := h1
    exact ⟨h2, by simpa [maxLen] using h3⟩
theorem kown8_c (A : Option Addr) (n c : Nat) (bs : List Int) (w : World) (h : Hid (Rd8 w w.heap.size A n bs)) (hn : n ≤ 1099511627776) :
    Calls Tryz.prog 57 #[.slice A n c] w (Own8P bs w) := by
  obtain ⟨W2, hW2⟩ : ∃ W2, W2 = w.alloc (.cells #[] 5) := ⟨_, rfl⟩
  have hY : Bk W2 w.heap.size 5 #[] := by rw [hW2]; exact Bk.new _ _ _
  have hb2 : Below w.heap.size w W2 := by rw [hW2]; exact bel_alloc _
  have hlen := h.out.len
  obtain ⟨g, c', w3, hap, hown, hb3, hg3, hgY⟩ := app8 (w := W2) 64 (cc := c) (B := w.heap.size) hY (Nat.le_refl _) ((h.out.keep (fun p hp => hb2.cell hp)).more hb2.size) hn
  have hrm := own_room hown
  have hP : Hid (Own8P bs w (.returned (.slice (some ⟨g, 0, none⟩) n c')) w3) := Lib.hid ⟨hb2.trans hb3, g, c', by rw [hlen], (hown.lt g rfl).1, own_rd8 hown h.out.ok, by rw [hlen]; exact hrm.1, hrm.2⟩
  rw [hW2] at hap
  clear hY hb2 hlen hown hb3 hg3 hgY hrm hW2
  go_enter Tryz.func57, Tryz.ntmps57
  go_wp2_with (at_builtin; refine wpList_app rfl (.tmp 3) (.tmp 4) 64 rfl _ _ rfl rfl _ _ hap ?_)
  go_ret
  exact hP.out
/-! ### a row of regions that share their bytes -/
structure ShR where
  r : Reg
  A : Option Addr
  n : Nat
  c : Nat
def ShR.cells (x : ShR) : List Value := [.int .u64 x.r.base, .slice x.A x.n x.c, .bool x.r.write]
def shCells (xs : List ShR) : List Value := xs.flatMap ShR.cells
theorem sh_len (xs : List ShR) : (shCells xs).length = xs.length * 3 := by
  induction xs with
  | nil => rfl
  | cons x xs ih =>
    show (x.cells ++ shCells xs).length = _
    rw [List.length_append, ih, List.length_cons]
    show 3 + xs.length * 3 = _
    omega
theorem sh_get {xs : List ShR} {j d : Nat} {x : ShR} (hj : xs[j]? = some x) (hd : d < 3) : (shCells xs)[j * 3 + d]? = x.cells[d]? := by
  induction xs generalizing j with
  | nil => simp at hj
  | cons y xs ih =>
    rcases j with _ | j
    · obtain rfl : y = x := by simpa using hj
      show (y.cells ++ shCells xs)[0 * 3 + d]? = _
      rw [List.getElem?_append_left (by show 0 * 3 + d < 3; omega)]
      congr 1; omega
    · show (y.cells ++ shCells xs)[(j + 1) * 3 + d]? = _
      rw [List.getElem?_append_right (by show 3 ≤ _; omega)]
      rw [← ih (j := j) (by simpa using hj)]
      congr 1
      show (j + 1) * 3 + d - 3 = _
      omega
theorem sh_of {w : World} {B : Nat} {ad : Addr} (rs : List Reg) (h : ∀ (j : Nat) (r : Reg), rs[j]? = some r → RegAt w B (ad.add (j * 3)) r) :
    ∃ xs : List ShR, xs.map (·.r) = rs ∧ (∀ x ∈ xs, Rd8 w B x.A x.n x.r.bytes ∧ x.n ≤ x.c ∧ x.c ≤ 9223372036854775807) ∧ ∀ j u, (shCells xs)[j]? = some u → w.cell? (ad.add j) = some u := by
  have hx : ∀ k, k ≤ rs.length → ∃ xs : List ShR, xs.map (·.r) = rs.take k ∧ (∀ x ∈ xs, Rd8 w B x.A x.n x.r.bytes ∧ x.n ≤ x.c ∧ x.c ≤ 9223372036854775807) ∧
      ∀ (j : Nat) (x : ShR), xs[j]? = some x → w.cell? (ad.add (j * 3)) = some (.int .u64 x.r.base) ∧ w.cell? (ad.add (j * 3 + 1)) = some (.slice x.A x.n x.c) ∧ w.cell? (ad.add (j * 3 + 2)) = some (.bool x.r.write) := by
    intro k
    induction k with
    | zero => exact fun _ => ⟨[], rfl, (fun x hx => by cases hx), (fun j x hj => by simp at hj)⟩
    | succ k ih =>
      intro hk
      obtain ⟨xs, h1, h2, h3⟩ := ih (by omega)
      obtain ⟨r, hr⟩ := get_lt (rs := rs) (j := k) (by omega)
      obtain ⟨A, n, c, c0, c1, c2, h8, hn, hc⟩ := h k r hr
      have hxl : xs.length = k := by have := congrArg List.length h1; rw [List.length_map, List.length_take] at this; omega
      refine ⟨xs ++ [(⟨r, A, n, c⟩ : ShR)], ?_, fun x hx => ?_, fun j x hj => ?_⟩
      · rw [List.map_append, h1, List.take_add_one, hr]; rfl
      · rcases List.mem_append.1 hx with hx | hx
        · exact h2 x hx
        · obtain rfl := List.mem_singleton.1 hx
          exact ⟨h8, hn, hc⟩
      · rcases Nat.lt_or_ge j k with hjk | hjk
        · rw [List.getElem?_append_left (by omega)] at hj; exact h3 j x hj
        · rw [List.getElem?_append_right (by omega)] at hj
          have h4 := (List.getElem?_eq_some_iff.1 hj).1
          simp at h4
          obtain rfl : j = k := by omega
          rw [hxl, Nat.sub_self] at hj
          obtain rfl : (⟨r, A, n, c⟩ : ShR) = x := by simpa using hj
          have e : ∀ d, d ≠ 0 → ad.add (j * 3 + d) = ⟨(ad.add (j * 3)).block, (ad.add (j * 3)).off + d, none⟩ := fun d hd => by
            unfold Addr.add
            rcases Nat.eq_zero_or_pos (j * 3) with h0 | h0
            · rw [h0]; simp [hd]
            · simp [hd, Nat.ne_of_gt h0]; omega
          rw [e 1 (by omega), e 2 (by omega)]
          exact ⟨c0, c1, c2⟩
  obtain ⟨xs, h1, h2, h3⟩ := hx rs.length (Nat.le_refl _)
  rw [List.take_length] at h1
  refine ⟨xs, h1, h2, fun j u hu => ?_⟩
  have hj := (List.getElem?_eq_some_iff.1 hu).1
  rw [sh_len] at hj
  obtain ⟨x, hx⟩ : ∃ x, xs[j / 3]? = some x := ⟨_, List.getElem?_eq_getElem (by omega)⟩
  obtain ⟨c0, c1, c2⟩ := h3 _ _ hx
  have hd : j % 3 = 0 ∨ j % 3 = 1 ∨ j % 3 = 2 := by omega
  have hg := sh_get (d := j % 3) hx (by omega)
  rw [show j / 3 * 3 + j % 3 = j by omega, hu] at hg
  rcases hd with hd | hd | hd
  · rw [hd] at hg
    rw [show j = j / 3 * 3 by omega, c0]
    exact hg.symm
  · rw [hd] at hg
    rw [show j = j / 3 * 3 + 1 by omega, c1]
    exact hg.symm
  · rw [hd] at hg
    rw [show j = j / 3 * 3 + 2 by omega, c2]
    exact hg.symm
theorem sh_set {xs : List ShR} {k : Nat} {x : ShR} (hk : xs[k]? = some x) (A : Option Addr) (n c : Nat) : (shCells xs).set (k * 3 + 1) (.slice A n c) = shCells (xs.set k ⟨x.r, A, n, c⟩) := by
  have hkl := (List.getElem?_eq_some_iff.1 hk).1
  apply List.ext_getElem?
  intro j
  rcases Nat.lt_or_ge j (xs.length * 3) with hj | hj
  · obtain ⟨y, hy⟩ : ∃ y, xs[j / 3]? = some y := ⟨_, List.getElem?_eq_getElem (by omega)⟩
    have hg := sh_get (d := j % 3) hy (by omega)
    rw [show j / 3 * 3 + j % 3 = j by omega] at hg
    by_cases hjk : j / 3 = k
    · subst hjk
      obtain rfl : x = y := by rw [hk] at hy; exact Option.some.inj hy
      have hg2 := sh_get (xs := xs.set (j / 3) ⟨x.r, A, n, c⟩) (j := j / 3) (d := j % 3) (x := ⟨x.r, A, n, c⟩) (List.getElem?_set_self hkl) (by omega)
      rw [show j / 3 * 3 + j % 3 = j by omega] at hg2
      rw [hg2]
      have hd : j % 3 = 0 ∨ j % 3 = 1 ∨ j % 3 = 2 := by omega
      rcases hd with hd | hd | hd
      · rw [List.getElem?_set_ne (by omega), hg, hd]; rfl
      · rw [show j / 3 * 3 + 1 = j by omega, List.getElem?_set_self (by rw [sh_len]; exact hj), hd]; rfl
      · rw [List.getElem?_set_ne (by omega), hg, hd]; rfl
    · have hg2 := sh_get (xs := xs.set k ⟨x.r, A, n, c⟩) (j := j / 3) (d := j % 3) (x := y) (by rw [List.getElem?_set_ne (fun e => hjk e.symm)]; exact hy) (by omega)
      rw [show j / 3 * 3 + j % 3 = j by omega] at hg2
      rw [hg2, List.getElem?_set_ne (by omega), hg]
  · rw [List.getElem?_eq_none (by rw [List.length_set, sh_len]; exact hj), List.getElem?_eq_none (by rw [sh_len, List.length_set]; exact hj)]
/-- the row itself in a new block, its bytes elsewhere -/
structure ShO (w : World) (B g n c : Nat) (rs : List Reg) (xs : List ShR) : Prop where
  row : w.ownsRow B 66 3 (.slice (some ⟨g, 0, none⟩) n c) n (shCells xs)
  regs : xs.map (·.r) = rs
  each : ∀ x ∈ xs, Rd8 w w.heap.size x.A x.n x.r.bytes ∧ (∀ ad, x.A = some ad → 0 < x.n → ad.block ≠ g) ∧ x.n ≤ x.c ∧ x.c ≤ 9223372036854775807
  oks : Oks rs
theorem ShO.below {w w' : World} {B g n c : Nat} {rs : List Reg} {xs : List ShR} (h : ShO w B g n c rs xs) (hb : Below w.heap.size w w') : ShO w' B g n c rs xs := by
  refine ⟨own_kp (B := w.heap.size) (E := w.heap.size) (Kp.of hb) h.row fun k hk => .inl (h.row.lt k hk).2, h.regs, fun x hx => ?_, h.oks⟩
  obtain ⟨h1, h2, h3⟩ := h.each x hx
  exact ⟨(h1.keep fun p hp => hb.cell hp).more hb.size, h2, h3⟩
theorem ShO.put {w : World} {B g n c k g2 m c2 : Nat} {rs : List Reg} {xs : List ShR} {x : ShR} (h : ShO w B g n c rs xs) (hk : xs[k]? = some x) (h8 : Rd8 w w.heap.size (some ⟨g2, 0, none⟩) m x.r.bytes) (hg : g2 ≠ g) (hm : m ≤ c2 ∧ c2 ≤ 9223372036854775807) :
    ShO (w.setCell ⟨g, k * 3 + 1, none⟩ (.slice (some ⟨g2, 0, none⟩) m c2)) B g n c rs (xs.set k ⟨x.r, some ⟨g2, 0, none⟩, m, c2⟩) := by
  obtain ⟨h1, h2⟩ := h.row.stored (k * 3 + 1) (.slice (some ⟨g2, 0, none⟩) m c2)
  rw [sh_set hk] at h1
  have hsz := h2.size
  have far : ∀ {A : Option Addr} {l : Nat} {bs : List Int}, Rd8 w w.heap.size A l bs → (∀ ad, A = some ad → 0 < l → ad.block ≠ g) → Rd8 (w.setCell ⟨g, k * 3 + 1, none⟩ (.slice (some ⟨g2, 0, none⟩) m c2)) (w.setCell ⟨g, k * 3 + 1, none⟩ (.slice (some ⟨g2, 0, none⟩) m c2)).heap.size A l bs := by
    intro A l bs hr hn
    refine ⟨hr.len, hr.ok, fun h0 => ?_⟩
    obtain ⟨ad, e, hb, hc⟩ := hr.rd h0
    refine ⟨ad, e, by omega, fun j hj => ?_⟩
    rw [← hc j hj]
    exact (h2.cell_far _ (by rw [Nt.block_add]; exact hb) (by rw [Nt.block_add]; intro e2; exact hn ad e h0 (Option.some.inj e2)))
  refine ⟨h1, ?_, fun y hy => ?_, h.oks⟩
  · rw [← h.regs]
    apply List.ext_getElem?
    intro j
    rw [List.getElem?_map, List.getElem?_map]
    by_cases hj : k = j
    · subst hj
      rw [List.getElem?_set_self (List.getElem?_eq_some_iff.1 hk).1, hk]; rfl
    · rw [List.getElem?_set_ne hj]
  · rcases List.mem_or_eq_of_mem_set hy with hy | rfl
    · obtain ⟨h3, h4, h5⟩ := h.each y hy
      exact ⟨far h3 h4, h4, h5⟩
    · exact ⟨far h8 (fun ad e _ => by cases e; exact hg), (fun ad e _ => by cases e; exact hg), hm⟩
theorem ShO.atR {w : World} {B g n c : Nat} {rs : List Reg} {xs : List ShR} (h : ShO w B g n c rs xs) : AtR w (some ⟨g, 0, none⟩) n rs := by
  have hl : xs.length = n := by have := h.row.1; rw [sh_len] at this; omega
  refine ⟨by rw [← h.regs, List.length_map, hl], h.oks, fun _ => ⟨_, rfl, (h.row.lt g rfl).2, fun j r hj => ?_⟩⟩
  rw [← h.regs, List.getElem?_map] at hj
  obtain ⟨x, hx, rfl⟩ := Option.map_eq_some_iff.1 hj
  obtain ⟨h1, _, h2, h3⟩ := h.each x (List.mem_of_getElem? hx)
  have hjl := (List.getElem?_eq_some_iff.1 hx).1
  have e : (⟨g, 0, none⟩ : Addr).add (j * 3) = ⟨g, j * 3, none⟩ := by
    unfold Addr.add; split
    · rename_i e; rw [e]
    · simp
  rw [e]
  have hc : ∀ d, d < 3 → w.cell? ⟨g, j * 3 + d, none⟩ = x.cells[d]? := fun d hd => by rw [h.row.cellAt _ (by omega), sh_get hx hd]
  exact ⟨_, _, _, hc 0 (by omega), hc 1 (by omega), hc 2 (by omega), h1, h2, h3⟩
def OwnGP (rs : List Reg) (w : World) (e : Ending) (w' : World) : Prop := Below w.heap.size w w' ∧ ∃ g c xs, e = .returned (.slice (some ⟨g, 0, none⟩) rs.length c) ∧ Hid (ShO w' w.heap.size g rs.length c rs xs)
theorem kownR_c (A : Option Addr) (n c : Nat) (rs : List Reg) (w : World) (h : Hid (AtR w A n rs)) (hn : n ≤ 1000000) :
    Calls Tryz.prog 56 #[.slice A n c] w (OwnGP rs w) := by
  obtain ⟨W2, hW2⟩ : ∃ W2, W2 = w.alloc (.cells #[] 66) := ⟨_, rfl⟩
  have hY : Bk W2 w.heap.size 66 #[] := by rw [hW2]; exact Bk.new _ _ _
  have hb2 : Below w.heap.size w W2 := by rw [hW2]; exact bel_alloc _
  have hlen := h.out.len
  have hoks := h.out.oks
  obtain ⟨i, hi, hz, h2, h3⟩ := info_parts info_reg
  have hown : W2.ownsRow w.heap.size 66 3 (.slice (some ⟨w.heap.size, 0, none⟩) 0 0) 0 [] := own_of_bk hY (Nat.le_refl _) rfl (by simp [maxLen])
  have key : ∃ g c' xs w3, (Builtin.append_ #[42, 42] 42 #[.slice (some ⟨w.heap.size, 0, none⟩) 0 0, .slice A n c]).run Tryz.prog W2 = .ok (.slice (some ⟨g, 0, none⟩) n c') w3 ∧ Below w.heap.size w w3 ∧ ShO w3 w.heap.size g n c' rs xs := by
    rcases Nat.eq_zero_or_pos n with h0 | h0
    · subst h0
      obtain rfl : rs = [] := List.eq_nil_of_length_eq_zero hlen
      rcases A with _ | ad
      · exact ⟨w.heap.size, 0, [], W2, run_app_none _ 42 66 i Tryz.underlying42 hi _ _ _ _ _ hown c, hb2, hown, rfl, (fun x hx => by cases hx), hoks⟩
      · obtain ⟨v', w3, hrun, h4, h5, h6, h7⟩ := run_append_own_at (P := Tryz.prog) (w := W2) w.heap.size 42 42 66 i _ 3 40 Tryz.underlying42 hi hz h2 h3 rfl (by omega) _ 0 _ hown ad 0 c [] rfl (fun j u hu => by simp at hu) (fun u hu => by cases hu) (by simp [maxLen]) (by omega) (by have := hb2.size; omega)
        rcases h4.2 with ⟨e, _⟩ | ⟨g, c', cur, rfl, _⟩
        · exact absurd (h6.1 e).1 (by intro e; cases e)
        · exact ⟨g, c', [], w3, hrun, hb2.trans (Below.grown (Below.refl _ _) h5 (by have := hb2.size; omega) (fun k e => by simp [Value.ownBlock] at e; omega)), h4, rfl, (fun x hx => by cases hx), hoks⟩
    · obtain ⟨ad, rfl, hbad, hat⟩ := h.out.rd h0
      obtain ⟨xs, hx1, hx2, hx3⟩ := sh_of rs hat
      have hxl : xs.length = n := by rw [← hlen, ← hx1, List.length_map]
      obtain ⟨v', w3, hrun, h4, h5, h6, h7⟩ := run_append_own_at (P := Tryz.prog) (w := W2) w.heap.size 42 42 66 i _ 3 40 Tryz.underlying42 hi hz h2 h3 rfl (by omega) _ 0 _ hown ad n c (shCells xs) (by rw [sh_len, hxl]) (fun j u hu => by rw [hb2.cell (by rw [Nt.block_add]; exact hbad)]; exact hx3 j u hu)
        (fun u hu => by
          obtain ⟨x, _, hx⟩ := List.mem_flatMap.1 hu
          simp [ShR.cells] at hx
          rcases hx with rfl | rfl | rfl <;> rfl) (by simp only [maxLen]; omega) (by omega) (by have := hb2.size; omega)
      have hb3 : Below w.heap.size w w3 := hb2.trans (Below.grown (Below.refl _ _) h5 (by have := hb2.size; omega) (fun k e => by simp [Value.ownBlock] at e; omega))
      rw [List.nil_append, Nat.zero_add] at h4
      rcases h4.2 with ⟨e, _⟩ | ⟨g, c', cur, rfl, _⟩
      · exact absurd (h6.1 e).1 (by intro e; cases e)
      · refine ⟨g, c', xs, w3, hrun, hb3, h4, hx1, fun x hx => ?_, hoks⟩
        obtain ⟨k1, k2, k3⟩ := hx2 x hx
        have hgw := (h4.lt g rfl).1
        refine ⟨(k1.keep fun p hp => hb3.cell hp).more hb3.size, fun ad' e h0' => ?_, k2, k3⟩
        obtain ⟨ad2, e2, hlt, _⟩ := k1.rd h0'
        rw [e] at e2
        cases e2
        omega
  obtain ⟨g, c', xs, w3, hap, hb3, hS⟩ := key
  have hP : Hid (OwnGP rs w (.returned (.slice (some ⟨g, 0, none⟩) n c')) w3) := Lib.hid ⟨hb3, g, c', xs, by rw [hlen], Lib.hid (by rw [hlen]; exact hS)⟩
  rw [hW2] at hap
  clear hY hb2 hlen hoks hown hi hz h2 h3 hb3 hS hW2
  go_enter Tryz.func56, Tryz.ntmps56
  go_wp2_with (at_builtin; refine wpList_app rfl (.tmp 3) (.tmp 4) 42 rfl _ _ rfl rfl _ _ hap ?_)
  go_ret
  exact hP.out
end Mm
end Go.Proofs.YtmiphnocgepdgaaGreatDoor
namespace Go.Proofs.YtmiphnocgepdgaaGreatDoor
open Go Go.RowKit
namespace Mm
open Wd Nt
set_option linter.unusedVariables false
def OwnRegP (rs : List Reg) (w : World) (e : Ending) (w' : World) : Prop := Below w.heap.size w w' ∧ ∃ g c, e = .returned (.slice (some ⟨g, 0, none⟩) rs.length c) ∧ Hid (AtR w' (some ⟨g, 0, none⟩) rs.length rs)
set_option maxRecDepth 100000 in
set_option maxHeartbeats 4000000 in
theorem kregs_c (A : Option Addr) (n c : Nat) (rs : List Reg) (w : World) (h : Hid (AtR w A n rs)) (hL : Lite rs) :
    Calls Tryz.prog 29 #[.slice A n c] w (OwnRegP rs w) := by
  obtain ⟨n', hn'⟩ : ∃ n', n' = rs.length := ⟨_, rfl⟩
  have H1 := Lib.hid (kownR_c A n c rs w h (by have := hL.1; have := h.out.len; omega))
  have HL := Lib.hid hL
  have HN := Lib.hid hn'
  have hn10 : n' ≤ 10 := by rw [hn']; exact hL.1
  clear hL hn'
  go_enter Tryz.func29, Tryz.ntmps29
  go_wp2_with fail
  go_at_call 56
  refine H1.out.mono ?_
  rintro e w1 ⟨hb1, g, c', xs, rfl, hS⟩
  rw [← HN.out] at hS ⊢
  have HB1 := Lib.hid hb1
  clear H1 hb1
  go_wp2_with fail
  go_loopw [4] (fun i W => ∃ (k : Nat) (xs : List ShR), k ≤ n' ∧ i = .int .i64 (k : Int) ∧ Hid (ShO W w.heap.size g n' c' rs xs) ∧ Hid (Below w.heap.size w W)) (fun i _ => n' - (intOf i).toNat)
  case atStart => exact ⟨0, xs, Nat.zero_le _, rfl, hS, HB1⟩
  case round =>
    obtain ⟨k, xs, hk, rfl, hS, HW⟩ := hrel
    rcases Nat.lt_or_ge k n' with hkn | hkn
    · have hkni : (k : Int) < (n' : Int) := by omega
      have hk0 : (0 : Int) ≤ (k : Int) := by omega
      have hxl : xs.length = n' := by rw [HN.out, ← hS.out.regs, List.length_map]
      obtain ⟨x, hx⟩ : ∃ x, xs[k]? = some x := ⟨_, List.getElem?_eq_getElem (by omega)⟩
      obtain ⟨h8, hne, hxc, hxm⟩ := hS.out.each x (List.mem_of_getElem? hx)
      have hx3 : x.n ≤ 300 := by
        have hr : rs[k]? = some x.r := by rw [← hS.out.regs, List.getElem?_map, hx]; rfl
        have h1 := HL.out.2 k x.r hr
        have h2 := h8.len
        unfold Reg.len at h1
        omega
      have c1 : wr.cell? ⟨g, k * 3 + 1, none⟩ = some (.slice x.A x.n x.c) := by
        rw [hS.out.row.cellAt _ (by omega), sh_get hx (by omega)]; rfl
      have H2 := fun W hW => Lib.hid (kown8_c x.A x.n x.c x.r.bytes W hW (by omega))
      have H8 := Lib.hid h8
      have HX := Lib.hid hx
      have hgl := (hS.out.row.lt g rfl).2
      clear h8 hne hx hxl
      go_wp2_with fail
      go_at_call 57
      refine (H2 wr H8).out.mono ?_
      rintro e w2 ⟨hb2, g2, c2, rfl, hg2, h82, hm1, hm2⟩
      have hS2 := hS.out.below hb2
      have hgw := (hS.out.row.lt g rfl).1
      have hs2 := hb2.size
      have hws := HW.out.size
      have f1 : w2.frozen? ⟨g, k * 3 + 1, none⟩ = false := hS2.row.frozenAt _
      have d1 : w2.cell? ⟨g, k * 3 + 1, none⟩ = some (.slice x.A x.n x.c) := by rw [hb2.cell (by exact hgl)]; exact c1
      have hS3 := Lib.hid (hS2.put (g2 := g2) (c2 := c2) HX.out h82 (by omega) ⟨hm1, hm2⟩)
      have HW3 := Lib.hid ((HW.out.trans (hb2.mono hws)).setCell (p := ⟨g, k * 3 + 1, none⟩) (show w.heap.size ≤ g by exact hgw) (.slice (some ⟨g2, 0, none⟩) x.r.bytes.length c2))
      clear hS hb2 h82 hS2 hgw H2 H8 HX hm1 hm2 c1
      go_wp2_with fail
      go_roundw
      case rel => exact ⟨k + 1, _, by omega, by go_num, hS3, HW3⟩
      case measure => (simp [intOf] <;> omega)
    · obtain rfl : k = n' := by omega
      have HA : Hid (AtR wr (some ⟨g, 0, none⟩) rs.length rs) := Lib.hid (by have := hS.out.atR; rw [HN.out] at this; exact this)
      clear hS
      go_wp2_with fail
      go_ret
      exact ⟨HW.out, g, c', by rw [HN.out]; rfl, HA⟩
end Mm
end Go.Proofs.YtmiphnocgepdgaaGreatDoor
