/- The landed package's from: where an address lies. -/
import Derived.Test.YtikbnfhnimjmmaaGreatDoorQ8
namespace Go.Proofs.YtikbnfhnimjmmaaGreatDoor
open Go Go.RowKit Go.Shelf Go.Sort
namespace Mm
open Wd Nt
set_option linter.unusedVariables false
theorem count_mono (p : Nat → Bool) (n : Nat) (hm : ∀ a b, a ≤ b → b < n → p a = true → p b = true) :
    (List.range n).countP (fun i => !p i) ≤ n ∧ (∀ i, i < (List.range n).countP (fun i => !p i) → p i = false) ∧ ∀ i, (List.range n).countP (fun i => !p i) ≤ i → i < n → p i = true := by
  induction n with
  | zero => exact ⟨Nat.le_refl _, fun i h => absurd h (by simp), fun i _ h => absurd h (by omega)⟩
  | succ n ih =>
    obtain ⟨h1, h2, h3⟩ := ih (fun a b hab hb ha => hm a b hab (by omega) ha)
    rw [List.range_succ, List.countP_append]
    generalize (List.range n).countP (fun i => !p i) = k at *
    cases hp : p n with
    | true =>
      have e : List.countP (fun i => !p i) [n] = 0 := by simp [hp]
      rw [e, Nat.add_zero]
      exact ⟨by omega, h2, fun i hi hn => by
        rcases Nat.eq_or_lt_of_le (Nat.le_of_lt_succ hn) with rfl | h
        · exact hp
        · exact h3 i hi h⟩
    | false =>
      have e : List.countP (fun i => !p i) [n] = 1 := by simp [hp]
      have hkn : k = n := by
        rcases Nat.eq_or_lt_of_le h1 with h | h
        · exact h
        · have h4 := h3 k (Nat.le_refl _) h
          have h5 := hm k n (by omega) (by omega) h4
          rw [hp] at h5; cases h5
      rw [e]
      refine ⟨by omega, fun i hi => ?_, fun i hi hn => by omega⟩
      rcases Nat.eq_or_lt_of_le (Nat.le_of_lt_succ (show i < k + 1 from hi)) with rfl | h
      · rw [hkn]; exact hp
      · exact h2 i h
def baseAt (M : List Reg) (i : Nat) : Int := (M[i]?.map (·.base)).getD 0
theorem baseAt_eq {M : List Reg} {i : Nat} {r : Reg} (h : M[i]? = some r) : baseAt M i = r.base := by unfold baseAt; rw [h]; rfl
theorem base_mono {M : List Reg} (h : Rising M) {a b : Nat} (hab : a ≤ b) (hb : b < M.length) : baseAt M a ≤ baseAt M b := by
  obtain ⟨r, hr⟩ := get_lt (rs := M) (j := a) (by omega)
  obtain ⟨s, hs⟩ := get_lt (rs := M) (j := b) hb
  rw [baseAt_eq hr, baseAt_eq hs]
  rcases Nat.eq_or_lt_of_le hab with rfl | h1
  · rw [hr] at hs; cases hs; exact Int.le_refl _
  · exact pairwise_get.1 h a b r s hr hs h1
set_option maxRecDepth 100000 in
set_option maxHeartbeats 1000000 in
/-- the closure that from hands to sort.Search -/
theorem from1_c {W : World} {D B0 B1 n c : Nat} {A : Option Addr} {M : List Reg} (p : Int) (h0 : W.cell? ⟨B0, 0, none⟩ = some (.pointer (some ⟨D, 0, none⟩))) (h1 : W.cell? ⟨D, 1, none⟩ = some (.slice A n c)) (h2 : W.cell? ⟨B1, 0, none⟩ = some (.int .u64 p))
    (hR : AtR W A n M) (hn : n ≤ 8) (i : Nat) (hi : i < n) :
    Calls Tryz.prog 256 #[.int .i64 i, .pointer (some ⟨B0, 0, none⟩), .pointer (some ⟨B1, 0, none⟩)] W fun e w' => e = .returned (.bool (decide (p < baseAt M i))) ∧ ∃ q, w' = W.drewN q := by
  obtain ⟨r, hr⟩ := get_lt (rs := M) (j := i) (by rw [hR.len]; exact hi)
  obtain ⟨ad, rfl, hb, A1, n1, c1, k1, k2, k3, k4, k5, k6⟩ := hR.at_ hr
  rw [baseAt_eq hr]
  have hii : (i : Int) < (n : Int) := by omega
  have hi0 : (0 : Int) ≤ (i : Int) := by omega
  have hit : (i : Int).toNat = i := by omega
  clear hR hr k2 k3 k4
  go_enter Tryz.func256, Tryz.ntmps256
  go_wp2_with fail
  go_quiet (fail)
  go_wp2_with fail
  go_ret
  exact ⟨rfl, _, rfl⟩
/-- how many regions begin at that address or ahead of it -/
def SrcP (M : List Reg) (n : Nat) (p : Int) (w : World) (e : Ending) (w' : World) : Prop := ∃ k : Nat, e = .returned (.int .i64 (k : Int)) ∧ k ≤ n ∧ (∀ i, i < k → baseAt M i ≤ p) ∧ (∀ i, k ≤ i → i < n → p < baseAt M i) ∧ Below w.heap.size w w'
theorem search_c {W : World} {D B0 B1 n c : Nat} {A : Option Addr} {M : List Reg} (p : Int) (h0 : W.cell? ⟨B0, 0, none⟩ = some (.pointer (some ⟨D, 0, none⟩))) (h1 : W.cell? ⟨D, 1, none⟩ = some (.slice A n c)) (h2 : W.cell? ⟨B1, 0, none⟩ = some (.int .u64 p))
    (hR : AtR W A n M) (hn : n ≤ 8) (hri : Rising M) (hB0 : B0 < W.heap.size) (hB1 : B1 < W.heap.size) (hD : D < W.heap.size) :
    Calls Tryz.prog 255 #[.int .i64 n, .func (.func 256) #[] #[.pointer (some ⟨B0, 0, none⟩), .pointer (some ⟨B1, 0, none⟩)]] W (SrcP M n p W) := by
  have hmono : ∀ a b, a ≤ b → b < n → decide (p < baseAt M a) = true → decide (p < baseAt M b) = true := by
    intro a b hab hb ha
    have h3 := base_mono hri hab (by rw [hR.len]; exact hb)
    have h4 : p < baseAt M a := by simpa using ha
    simp; omega
  have hcon := Any.sort_Search Tryz.search 256 #[.pointer (some ⟨B0, 0, none⟩), .pointer (some ⟨B1, 0, none⟩)] n (fun i => decide (p < baseAt M i)) W (enters_of Tryz.func256 (by kernel_rfl) rfl) (by omega)
    (fun m os i hi => by
      have hbl := below_grow W m os
      refine Calls.mono (from1_c (D := D) (A := A) (n := n) (c := c) (M := M) p (cell_grown hB0 h0 m os) (cell_grown hD h1 m os) (cell_grown hB1 h2 m os) (AtR.step (Lib.hid hR) hbl).out hn i hi) ?_
      rintro e w' ⟨h3, q, rfl⟩
      exact ⟨h3, q, #[], by rw [grow_empty]⟩) hmono
  refine Calls.mono hcon ?_
  rintro e w' ⟨rfl, q, os, rfl⟩
  obtain ⟨h3, h4, h5⟩ := count_mono (fun i => decide (p < baseAt M i)) n hmono
  exact ⟨_, rfl, h3, fun i hi => by have := h4 i hi; simp at this; exact this, fun i hi hin => by have := h5 i hi hin; simp at this; exact this, below_grow _ _ _⟩
/-- the bytes from that address on, or none -/
def FromP (os : List OReg) (p : Int) (w : World) (e : Ending) (w' : World) : Prop := Below w.heap.size w w' ∧
  (((∀ (i : Nat) (o : OReg), os[i]? = some o → ¬ (o.r.base ≤ p ∧ p < o.r.base + o.r.len)) ∧ e = .returned (.tuple #[.slice none 0 0, .bool false])) ∨
   ∃ (i : Nat) (o : OReg) (d : Nat), os[i]? = some o ∧ p - o.r.base = (d : Int) ∧ d < o.r.bytes.length ∧ e = .returned (.tuple #[.slice (some ⟨o.g, d, none⟩) (o.r.bytes.length - d) (o.c - d), .bool o.r.write]))
set_option maxRecDepth 100000 in
set_option maxHeartbeats 4000000 in
theorem from_c {w : World} {B E D : Nat} {v : Value} {os : List OReg} (p : Int) (hp : W p) (hO : Hid (OwnI w B E v os)) (hDb : Hid (Bk w D 118 #[.pointer (some ⟨D, 0, none⟩), v])) (hG : Hid (Good (os.map (·.r)) ∧ Rising (os.map (·.r)))) :
    Calls Tryz.prog 186 #[.pointer (some ⟨D, 0, none⟩), .int .u64 p] w (FromP os p w) := by
  obtain ⟨A, n, c, rfl, hR, hmc, hcm⟩ := hO.out.own.rdR
  have hn8 : n ≤ 8 := by rw [← hR.len]; exact hG.out.1.few
  have HL := Lib.hid (show os.length = n by have := hR.len; rwa [List.length_map] at this)
  obtain ⟨W2, hW2⟩ : ∃ W2, W2 = (w.alloc (.cells #[.pointer (some ⟨D, 0, none⟩)] 43)).alloc (.cells #[.int .u64 p] 39) := ⟨_, rfl⟩
  have hb2 : Below w.heap.size w W2 := by rw [hW2]; exact ((Below.refl _ w).alloc (Nat.le_refl _) _).alloc (by simp) _
  have hs2 : W2.heap.size = w.heap.size + 2 := by rw [hW2]; simp
  have hDl := hDb.out.lt
  have c0 : W2.cell? ⟨w.heap.size, 0, none⟩ = some (.pointer (some ⟨D, 0, none⟩)) := by rw [hW2]; exact ((Bk.new _ _ _).alloc _).cell 0
  have c1 : W2.cell? ⟨w.heap.size + 1, 0, none⟩ = some (.int .u64 p) := by rw [hW2]; exact (Bk.new' (by simp) : Bk _ _ 39 #[.int .u64 p]).cell 0
  have cD : W2.cell? ⟨D, 1, none⟩ = some (.slice A n c) := (hb2.cell (p := ⟨D, 1, none⟩) hDl).trans (hDb.out.cell 1)
  have H1 := Lib.hid (search_c (D := D) (B0 := w.heap.size) (B1 := w.heap.size + 1) (c := c) p c0 cD c1 (RdR.more (hR.below hb2) hb2.size) hn8 hG.out.2 (by omega) (by omega) (by omega))
  have HB2 := Lib.hid hb2
  have HC0 := Lib.hid c0
  have HC1 := Lib.hid c1
  have HCD := Lib.hid cD
  have HW2 := Lib.hid hW2
  have HS2 := Lib.hid hs2
  have HW2' := Lib.hid (show w.heap.size + 1 < W2.heap.size ∧ w.heap.size < W2.heap.size ∧ D < W2.heap.size by omega)
  have cDD : w.cell? ⟨D, 1, none⟩ = some (.slice A n c) := hDb.out.cell 1
  have HDl := Lib.hid hDl
  rw [hW2] at H1 cD
  clear hb2 hs2 c0 c1 hR hW2 hDl cDD
  go_enter Tryz.func186, Tryz.ntmps186
  go_wp2_with fail
  go_at_call 255
  refine H1.out.mono ?_
  rw [← HW2.out]
  rintro e w3 ⟨k, rfl, hk, hlow, hhigh, hb3⟩
  have HB3 := Lib.hid (bel_trans HB2.out hb3)
  have d0 : w3.cell? ⟨w.heap.size, 0, none⟩ = some (.pointer (some ⟨D, 0, none⟩)) := (hb3.cell (p := ⟨w.heap.size, 0, none⟩) HW2'.out.2.1).trans HC0.out
  have d1 : w3.cell? ⟨w.heap.size + 1, 0, none⟩ = some (.int .u64 p) := (hb3.cell (p := ⟨w.heap.size + 1, 0, none⟩) HW2'.out.1).trans HC1.out
  have dD : w3.cell? ⟨D, 1, none⟩ = some (.slice A n c) := (hb3.cell (p := ⟨D, 1, none⟩) HW2'.out.2.2).trans HCD.out
  clear cD
  have HLO := Lib.hid hlow
  have HHI := Lib.hid hhigh
  have HO3 := Lib.hid (hO.out.below HB3.out)
  clear hlow hhigh hb3 H1
  rcases Nat.eq_zero_or_pos k with rfl | hk0
  · have HNO : Hid (∀ (i : Nat) (o : OReg), os[i]? = some o → ¬ (o.r.base ≤ p ∧ p < o.r.base + o.r.len)) := Lib.hid (by
      rintro i o ho ⟨h1, h2⟩
      have hl := (List.getElem?_eq_some_iff.1 ho).1
      have h3 := HHI.out i (Nat.zero_le _) (by rw [← HL.out]; exact hl)
      rw [baseAt_eq (r := o.r) (by rw [List.getElem?_map, ho]; rfl)] at h3
      omega)
    go_wp2_with fail
    go_ret2
    exact ⟨HB3.out, .inl ⟨HNO.out, rfl⟩⟩
  · obtain ⟨j, rfl⟩ : ∃ j, k = j + 1 := ⟨k - 1, by omega⟩
    obtain ⟨o, ho⟩ : ∃ o, os[j]? = some o := ⟨_, List.getElem?_eq_getElem (by rw [HL.out]; omega)⟩
    have hm := List.mem_of_getElem? ho
    have hor : (os.map (·.r))[j]? = some o.r := by rw [List.getElem?_map, ho]; rfl
    have hbase := HLO.out j (by omega)
    rw [baseAt_eq hor] at hbase
    have HNX : Hid (∀ (i : Nat) (q : OReg), os[i]? = some q → i ≠ j → ¬ (q.r.base ≤ p ∧ p < q.r.base + q.r.len)) := Lib.hid (by
      rintro i q hq hij ⟨h1, h2⟩
      have hqr : (os.map (·.r))[i]? = some q.r := by rw [List.getElem?_map, hq]; rfl
      have hl := (List.getElem?_eq_some_iff.1 hq).1
      rcases Nat.lt_or_ge i (j + 1) with h3 | h3
      · have h4 := pairwise_get.1 hG.out.2 i j _ _ hqr hor (by omega)
        have h5 := hG.out.1.pos j _ hor
        rcases hG.out.1.apart i j _ _ hqr hor hij with h6 | h6 <;> omega
      · have h4 := HHI.out i h3 (by rw [← HL.out]; exact hl)
        rw [baseAt_eq hqr] at h4
        omega)
    obtain ⟨G, rfl⟩ : ∃ G, A = some ⟨G, 0, none⟩ := by
      rcases HO3.out.own.shape with ⟨e1, e2⟩ | ⟨g, c', e1, _⟩
      · rw [e2] at ho; cases ho
      · simp only [Value.slice.injEq] at e1; exact ⟨g, e1.1⟩
    have hrm := sl_room (HO3.out.own.each o hm)
    have hfit := hG.out.1.fits j _ hor
    have hsh := hG.out.1.short j _ hor
    have hob := (HO3.out.own.oks o hm).base
    unfold W at hob
    obtain ⟨n1, hn1⟩ : ∃ n1, n1 = o.r.bytes.length := ⟨_, rfl⟩
    have hlr : o.r.len = n1 := by unfold Reg.len; rw [hn1]
    rw [hlr] at hfit hsh
    rw [← hn1] at hrm
    obtain ⟨hrm1, hrm2⟩ := hrm
    have x0 : w3.cell? ⟨G, j * 3, none⟩ = some (.int .u64 o.r.base) := HO3.out.own.cell (g := G) rfl ho (d := 0) (by omega)
    have x1 : w3.cell? ⟨G, j * 3 + 1, none⟩ = some (.slice (some ⟨o.g, 0, none⟩) n1 o.c) := by rw [hn1]; exact HO3.out.own.cell (g := G) rfl ho (d := 1) (by omega)
    have x2 : w3.cell? ⟨G, j * 3 + 2, none⟩ = some (.bool o.r.write) := HO3.out.own.cell (g := G) rfl ho (d := 2) (by omega)
    obtain ⟨d, hd⟩ : ∃ d : Nat, p - o.r.base = (d : Int) := ⟨(p - o.r.base).toNat, by omega⟩
    have s1 : IntKind.i64.wrap ((j : Int) + 1 - 1) = (j : Int) := by rw [show (j : Int) + 1 - 1 = j by omega]; exact IntWalk.i64_in _ (by omega)
    have s2 : IntKind.i64.wrap (j : Int) = (j : Int) := IntWalk.i64_in _ (by omega)
    have s3 : (0 : Int) ≤ (j : Int) := by omega
    have s4 : (j : Int) < (n : Int) := by omega
    have s5 : ((j : Int)).toNat = j := by omega
    have s6 : ¬ ((j : Int) + 1 = 0) := by omega
    have s7 : IntKind.u64.wrap (p - o.r.base) = (d : Int) := by unfold W at hp; rw [IntKind.wrap_u64, hd]; omega
    have s8 : IntKind.u64.wrap (n1 : Int) = (n1 : Int) := by rw [IntKind.wrap_u64]; omega
    have dq : (w3.alloc (.cells #[.int .u64 o.r.base, .slice (some ⟨o.g, 0, none⟩) n1 o.c, .bool o.r.write] 106)).cell? ⟨w.heap.size + 1, 0, none⟩ = some (.int .u64 p) := (World.cell?_alloc_past _ _ _ (World.block_lt_of_cell? _ _ d1)).trans d1
    have HJ := Lib.hid ho
    have HD := Lib.hid hd
    have HN1 := Lib.hid hn1
    have HLR := Lib.hid hlr
    have HBA := Lib.hid hbase
    clear ho hm hor hd hn1 hlr hbase hob hfit
    rcases Nat.lt_or_ge d n1 with hdn | hdn
    · have e1 : (d : Int) < (n1 : Int) := by omega
      have e2 : ¬ ((n1 : Int) ≤ (d : Int)) := by omega
      have e3 : (d : Int) ≤ (n1 : Int) := by omega
      have e4 : (0 : Int) ≤ (d : Int) := by omega
      have e5 : (d : Int) ≤ 1048576 := by omega
      have e6 : (d : Int) < (o.c : Int) := by omega
      have e7 : IntKind.i64.wrap (d : Int) = (d : Int) := IntWalk.i64_in _ (by omega)
      go_wp2_with fail
      go_quiet (fail)
      go_wp2_with fail
      go_ret2
      refine ⟨?_, .inr ⟨j, o, d, HJ.out, HD.out, by rw [← HN1.out]; exact hdn, by rw [← HN1.out]; rfl⟩⟩
      exact below_drewN (HB3.out.alloc HB3.out.size _) _
    · have e1 : (n1 : Int) ≤ (d : Int) := by omega
      have HNO : Hid (∀ (i : Nat) (o : OReg), os[i]? = some o → ¬ (o.r.base ≤ p ∧ p < o.r.base + o.r.len)) := Lib.hid (by
        intro i q hq
        by_cases hij : i = j
        · subst hij
          rw [HJ.out] at hq
          cases hq
          rintro ⟨h1, h2⟩
          rw [HLR.out] at h2
          have := HD.out
          omega
        · exact HNX.out i q hq hij)
      go_wp2_with fail
      go_ret2
      refine ⟨?_, .inl ⟨HNO.out, rfl⟩⟩
      exact HB3.out.alloc HB3.out.size _
end Mm
end Go.Proofs.YtikbnfhnimjmmaaGreatDoor
