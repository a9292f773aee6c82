/- The landed package's from: where an address lies. | The landed package's words: join, split. | The landed package's Load and Bytes. | The landed package's Store. | The landed package memory meets what step asks of it. -/
import Derived.Test.YtmiphnocgepdgaaGreatDoorQ1
import Derived.Test.YtmiphnocgepdgaaGreatDoorS0
import Derived.Laws.IdiomCopy
namespace Go.Proofs.YtmiphnocgepdgaaGreatDoor
open Go Go.RowKit Go.Shelf Go.Sort
namespace Mm
open Wd Nt
set_option linter.unusedVariables false
theorem count_mono (p : Nat → Bool) (n : Nat) (hm : ∀ a b, a ≤ b → b < n → p a = true → p b = true) :
    (List.range n).countP (fun i => !p i) ≤ n ∧ (∀ i, i < (List.range n).countP (fun i => !p i) → p i = false) ∧ ∀ i, (List.range n).countP (fun i => !p i) ≤ i → i < n → p i = true := by
  induction n with
  | zero => exact ⟨Nat.le_refl _, fun i h => absurd h (by simp), fun i _ h => absurd h (by omega)⟩
  | succ n ih =>
    obtain ⟨h1, h2, h3⟩ := ih (fun a b hab hb ha => hm a b hab (by omega) ha)
    rw [List.range_succ, List.countP_append]
    generalize (List.range n).countP (fun i => !p i) = k at *
    cases hp : p n with
    | true =>
      have e : List.countP (fun i => !p i) [n] = 0 := by simp [hp]
      rw [e, Nat.add_zero]
      exact ⟨by omega, h2, fun i hi hn => by
        rcases Nat.eq_or_lt_of_le (Nat.le_of_lt_succ hn) with rfl | h
        · exact hp
        · exact h3 i hi h⟩
    | false =>
      have e : List.countP (fun i => !p i) [n] = 1 := by simp [hp]
      have hkn : k = n := by
        rcases Nat.eq_or_lt_of_le h1 with h | h
        · exact h
        · have h4 := h3 k (Nat.le_refl _) h
          have h5 := hm k n (by omega) (by omega) h4
          rw [hp] at h5; cases h5
      rw [e]
      refine ⟨by omega, fun i hi => ?_, fun i hi hn => by omega⟩
      rcases Nat.eq_or_lt_of_le (Nat.le_of_lt_succ (show i < k + 1 from hi)) with rfl | h
      · rw [hkn]; exact hp
      · exact h2 i h
def baseAt (M : List Reg) (i : Nat) : Int := (M[i]?.map (·.base)).getD 0
theorem baseAt_eq {M : List Reg} {i : Nat} {r : Reg} (h : M[i]? = some r) : baseAt M i = r.base := by unfold baseAt; rw [h]; rfl
theorem base_mono {M : List Reg} (h : Rising M) {a b : Nat} (hab : a ≤ b) (hb : b < M.length) : baseAt M a ≤ baseAt M b := by
  obtain ⟨r, hr⟩ := get_lt (rs := M) (j := a) (by omega)
  obtain ⟨s, hs⟩ := get_lt (rs := M) (j := b) hb
  rw [baseAt_eq hr, baseAt_eq hs]
  rcases Nat.eq_or_lt_of_le hab with rfl | h1
  · rw [hr] at hs; cases hs; exact Int.le_refl _
  · exact pairwise_get.1 h a b r s hr hs h1
set_option maxRecDepth 100000 in
set_option maxHeartbeats 1000000 in
/-- the closure that from hands to sort.Search -/
theorem from1_c {W : World} {D B0 B1 n c : Nat} {A : Option Addr} {M : List Reg} (p : Int) (h0 : W.cell? ⟨B0, 0, none⟩ = some (.pointer (some ⟨D, 0, none⟩))) (h1 : W.cell? ⟨D, 1, none⟩ = some (.slice A n c)) (h2 : W.cell? ⟨B1, 0, none⟩ = some (.int .u64 p))
    (hR : AtR W A n M) (hn : n ≤ 8) (i : Nat) (hi : i < n) :
    Calls Tryz.prog 81 #[.int .i64 i, .pointer (some ⟨B0, 0, none⟩), .pointer (some ⟨B1, 0, none⟩)] W fun e w' => e = .returned (.bool (decide (p < baseAt M i))) ∧ ∃ q, w' = W.drewN q := by
  obtain ⟨r, hr⟩ := get_lt (rs := M) (j := i) (by rw [hR.len]; exact hi)
  obtain ⟨ad, rfl, hb, A1, n1, c1, k1, k2, k3, k4, k5, k6⟩ := hR.at_ hr
  rw [baseAt_eq hr]
  have hii : (i : Int) < (n : Int) := by omega
  have hi0 : (0 : Int) ≤ (i : Int) := by omega
  have hit : (i : Int).toNat = i := by omega
  clear hR hr k2 k3 k4
  go_enter Tryz.func81, Tryz.ntmps81
  go_wp2_with fail
  go_quiet (fail)
  go_wp2_with fail
  go_ret
  exact ⟨rfl, _, rfl⟩
/-- how many regions begin at that address or ahead of it -/
def SrcP (M : List Reg) (n : Nat) (p : Int) (w : World) (e : Ending) (w' : World) : Prop := ∃ k : Nat, e = .returned (.int .i64 (k : Int)) ∧ k ≤ n ∧ (∀ i, i < k → baseAt M i ≤ p) ∧ (∀ i, k ≤ i → i < n → p < baseAt M i) ∧ Below w.heap.size w w'
theorem search_c {W : World} {D B0 B1 n c : Nat} {A : Option Addr} {M : List Reg} (p : Int) (h0 : W.cell? ⟨B0, 0, none⟩ = some (.pointer (some ⟨D, 0, none⟩))) (h1 : W.cell? ⟨D, 1, none⟩ = some (.slice A n c)) (h2 : W.cell? ⟨B1, 0, none⟩ = some (.int .u64 p))
    (hR : AtR W A n M) (hn : n ≤ 8) (hri : Rising M) (hB0 : B0 < W.heap.size) (hB1 : B1 < W.heap.size) (hD : D < W.heap.size) :
    Calls Tryz.prog 80 #[.int .i64 n, .func (.func 81) #[] #[.pointer (some ⟨B0, 0, none⟩), .pointer (some ⟨B1, 0, none⟩)]] W (SrcP M n p W) := by
  have hmono : ∀ a b, a ≤ b → b < n → decide (p < baseAt M a) = true → decide (p < baseAt M b) = true := by
    intro a b hab hb ha
    have h3 := base_mono hri hab (by rw [hR.len]; exact hb)
    have h4 : p < baseAt M a := by simpa using ha
    simp; omega
  have hcon := Any.sort_Search Tryz.search 81 #[.pointer (some ⟨B0, 0, none⟩), .pointer (some ⟨B1, 0, none⟩)] n (fun i => decide (p < baseAt M i)) W (enters_of Tryz.func81 (by kernel_rfl) rfl) (by omega)
    (fun m os i hi => by
      have hbl := below_grow W m os
      refine Calls.mono (from1_c (D := D) (A := A) (n := n) (c := c) (M := M) p (cell_grown hB0 h0 m os) (cell_grown hD h1 m os) (cell_grown hB1 h2 m os) (AtR.step (Lib.hid hR) hbl).out hn i hi) ?_
      rintro e w' ⟨h3, q, rfl⟩
      exact ⟨h3, q, #[], by rw [grow_empty]⟩) hmono
  refine Calls.mono hcon ?_
  rintro e w' ⟨rfl, q, os, rfl⟩
  obtain ⟨h3, h4, h5⟩ := count_mono (fun i => decide (p < baseAt M i)) n hmono
  exact ⟨_, rfl, h3, fun i hi => by have := h4 i hi; simp at this; exact this, fun i hi hin => by have := h5 i hi hin; simp at this; exact this, below_grow _ _ _⟩
/-- the bytes from that address on, or none -/
def FromP (os : List OReg) (p : Int) (w : World) (e : Ending) (w' : World) : Prop := Below w.heap.size w w' ∧
  (((∀ (i : Nat) (o : OReg), os[i]? = some o → ¬ (o.r.base ≤ p ∧ p < o.r.base + o.r.len)) ∧ e = .returned (.tuple #[.slice none 0 0, .bool false])) ∨
   ∃ (i : Nat) (o : OReg) (d : Nat), os[i]? = some o ∧ p - o.r.base = (d : Int) ∧ d < o.r.bytes.length ∧ e = .returned (.tuple #[.slice (some ⟨o.g, d, none⟩) (o.r.bytes.length - d) (o.c - d), .bool o.r.write]))
set_option maxRecDepth 100000 in
set_option maxHeartbeats 4000000 in
theorem from_c {w : World} {B E D : Nat} {v : Value} {os : List OReg} (p : Int) (hp : W p) (hO : Hid (OwnI w B E v os)) (hDb : Hid (Bk w D 82 #[.pointer (some ⟨D, 0, none⟩), v])) (hG : Hid (Good (os.map (·.r)) ∧ Rising (os.map (·.r)))) :
    Calls Tryz.prog 58 #[.pointer (some ⟨D, 0, none⟩), .int .u64 p] w (FromP os p w) := by
  obtain ⟨A, n, c, rfl, hR, hmc, hcm⟩ := hO.out.own.rdR
  have hn8 : n ≤ 8 := by rw [← hR.len]; exact hG.out.1.few
  have HL := Lib.hid (show os.length = n by have := hR.len; rwa [List.length_map] at this)
  obtain ⟨W2, hW2⟩ : ∃ W2, W2 = (w.alloc (.cells #[.pointer (some ⟨D, 0, none⟩)] 27)).alloc (.cells #[.int .u64 p] 23) := ⟨_, rfl⟩
  have hb2 : Below w.heap.size w W2 := by rw [hW2]; exact ((Below.refl _ w).alloc (Nat.le_refl _) _).alloc (by simp) _
  have hs2 : W2.heap.size = w.heap.size + 2 := by rw [hW2]; simp
  have hDl := hDb.out.lt
  have c0 : W2.cell? ⟨w.heap.size, 0, none⟩ = some (.pointer (some ⟨D, 0, none⟩)) := by rw [hW2]; exact ((Bk.new _ _ _).alloc _).cell 0
  have c1 : W2.cell? ⟨w.heap.size + 1, 0, none⟩ = some (.int .u64 p) := by rw [hW2]; exact (Bk.new' (by simp) : Bk _ _ 23 #[.int .u64 p]).cell 0
  have cD : W2.cell? ⟨D, 1, none⟩ = some (.slice A n c) := (hb2.cell (p := ⟨D, 1, none⟩) hDl).trans (hDb.out.cell 1)
  have H1 := Lib.hid (search_c (D := D) (B0 := w.heap.size) (B1 := w.heap.size + 1) (c := c) p c0 cD c1 (RdR.more (hR.below hb2) hb2.size) hn8 hG.out.2 (by omega) (by omega) (by omega))
  have HB2 := Lib.hid hb2
  have HC0 := Lib.hid c0
  have HC1 := Lib.hid c1
  have HCD := Lib.hid cD
  have HW2 := Lib.hid hW2
  have HS2 := Lib.hid hs2
  have HW2' := Lib.hid (show w.heap.size + 1 < W2.heap.size ∧ w.heap.size < W2.heap.size ∧ D < W2.heap.size by omega)
  have cDD : w.cell? ⟨D, 1, none⟩ = some (.slice A n c) := hDb.out.cell 1
  have HDl := Lib.hid hDl
  rw [hW2] at H1 cD
  clear hb2 hs2 c0 c1 hR hW2 hDl cDD
  go_enter Tryz.func58, Tryz.ntmps58
  go_wp2_with fail
  go_at_call 80
  refine H1.out.mono ?_
  rw [← HW2.out]
  rintro e w3 ⟨k, rfl, hk, hlow, hhigh, hb3⟩
  have HB3 := Lib.hid (bel_trans HB2.out hb3)
  have d0 : w3.cell? ⟨w.heap.size, 0, none⟩ = some (.pointer (some ⟨D, 0, none⟩)) := (hb3.cell (p := ⟨w.heap.size, 0, none⟩) HW2'.out.2.1).trans HC0.out
  have d1 : w3.cell? ⟨w.heap.size + 1, 0, none⟩ = some (.int .u64 p) := (hb3.cell (p := ⟨w.heap.size + 1, 0, none⟩) HW2'.out.1).trans HC1.out
  have dD : w3.cell? ⟨D, 1, none⟩ = some (.slice A n c) := (hb3.cell (p := ⟨D, 1, none⟩) HW2'.out.2.2).trans HCD.out
  clear cD
  have HLO := Lib.hid hlow
  have HHI := Lib.hid hhigh
  have HO3 := Lib.hid (hO.out.below HB3.out)
  clear hlow hhigh hb3 H1
  rcases Nat.eq_zero_or_pos k with rfl | hk0
  · have HNO : Hid (∀ (i : Nat) (o : OReg), os[i]? = some o → ¬ (o.r.base ≤ p ∧ p < o.r.base + o.r.len)) := Lib.hid (by
      rintro i o ho ⟨h1, h2⟩
      have hl := (List.getElem?_eq_some_iff.1 ho).1
      have h3 := HHI.out i (Nat.zero_le _) (by rw [← HL.out]; exact hl)
      rw [baseAt_eq (r := o.r) (by rw [List.getElem?_map, ho]; rfl)] at h3
      omega)
    go_wp2_with fail
    go_ret2
    exact ⟨HB3.out, .inl ⟨HNO.out, rfl⟩⟩
  · obtain ⟨j, rfl⟩ : ∃ j, k = j + 1 := ⟨k - 1, by omega⟩
    obtain ⟨o, ho⟩ : ∃ o, os[j]? = some o := ⟨_, List.getElem?_eq_getElem (by rw [HL.out]; omega)⟩
    have hm := List.mem_of_getElem? ho
    have hor : (os.map (·.r))[j]? = some o.r := by rw [List.getElem?_map, ho]; rfl
    have hbase := HLO.out j (by omega)
    rw [baseAt_eq hor] at hbase
    have HNX : Hid (∀ (i : Nat) (q : OReg), os[i]? = some q → i ≠ j → ¬ (q.r.base ≤ p ∧ p < q.r.base + q.r.len)) := Lib.hid (by
      rintro i q hq hij ⟨h1, h2⟩
      have hqr : (os.map (·.r))[i]? = some q.r := by rw [List.getElem?_map, hq]; rfl
      have hl := (List.getElem?_eq_some_iff.1 hq).1
      rcases Nat.lt_or_ge i (j + 1) with h3 | h3
      · have h4 := pairwise_get.1 hG.out.2 i j _ _ hqr hor (by omega)
        have h5 := hG.out.1.pos j _ hor
        rcases hG.out.1.apart i j _ _ hqr hor hij with h6 | h6 <;> omega
      · have h4 := HHI.out i h3 (by rw [← HL.out]; exact hl)
        rw [baseAt_eq hqr] at h4
        omega)
    obtain ⟨G, rfl⟩ : ∃ G, A = some ⟨G, 0, none⟩ := by
      rcases HO3.out.own.shape with ⟨e1, e2⟩ | ⟨g, c', e1, _⟩
      · rw [e2] at ho; cases ho
      · simp only [Value.slice.injEq] at e1; exact ⟨g, e1.1⟩
    have hrm := sl_room (HO3.out.own.each o hm)
    have hfit := hG.out.1.fits j _ hor
    have hsh := hG.out.1.short j _ hor
    have hob := (HO3.out.own.oks o hm).base
    unfold W at hob
    obtain ⟨n1, hn1⟩ : ∃ n1, n1 = o.r.bytes.length := ⟨_, rfl⟩
    have hlr : o.r.len = n1 := by unfold Reg.len; rw [hn1]
    rw [hlr] at hfit hsh
    rw [← hn1] at hrm
    obtain ⟨hrm1, hrm2⟩ := hrm
    have x0 : w3.cell? ⟨G, j * 3, none⟩ = some (.int .u64 o.r.base) := HO3.out.own.cell (g := G) rfl ho (d := 0) (by omega)
    have x1 : w3.cell? ⟨G, j * 3 + 1, none⟩ = some (.slice (some ⟨o.g, 0, none⟩) n1 o.c) := by rw [hn1]; exact HO3.out.own.cell (g := G) rfl ho (d := 1) (by omega)
    have x2 : w3.cell? ⟨G, j * 3 + 2, none⟩ = some (.bool o.r.write) := HO3.out.own.cell (g := G) rfl ho (d := 2) (by omega)
    obtain ⟨d, hd⟩ : ∃ d : Nat, p - o.r.base = (d : Int) := ⟨(p - o.r.base).toNat, by omega⟩
    have s1 : IntKind.i64.wrap ((j : Int) + 1 - 1) = (j : Int) := by rw [show (j : Int) + 1 - 1 = j by omega]; exact IntWalk.i64_in _ (by omega)
    have s2 : IntKind.i64.wrap (j : Int) = (j : Int) := IntWalk.i64_in _ (by omega)
    have s3 : (0 : Int) ≤ (j : Int) := by omega
    have s4 : (j : Int) < (n : Int) := by omega
    have s5 : ((j : Int)).toNat = j := by omega
    have s6 : ¬ ((j : Int) + 1 = 0) := by omega
    have s7 : IntKind.u64.wrap (p - o.r.base) = (d : Int) := by unfold W at hp; rw [IntKind.wrap_u64, hd]; omega
    have s8 : IntKind.u64.wrap (n1 : Int) = (n1 : Int) := by rw [IntKind.wrap_u64]; omega
    have dq : (w3.alloc (.cells #[.int .u64 o.r.base, .slice (some ⟨o.g, 0, none⟩) n1 o.c, .bool o.r.write] 66)).cell? ⟨w.heap.size + 1, 0, none⟩ = some (.int .u64 p) := (World.cell?_alloc_past _ _ _ (World.block_lt_of_cell? _ _ d1)).trans d1
    have HJ := Lib.hid ho
    have HD := Lib.hid hd
    have HN1 := Lib.hid hn1
    have HLR := Lib.hid hlr
    have HBA := Lib.hid hbase
    clear ho hm hor hd hn1 hlr hbase hob hfit
    rcases Nat.lt_or_ge d n1 with hdn | hdn
    · have e1 : (d : Int) < (n1 : Int) := by omega
      have e2 : ¬ ((n1 : Int) ≤ (d : Int)) := by omega
      have e3 : (d : Int) ≤ (n1 : Int) := by omega
      have e4 : (0 : Int) ≤ (d : Int) := by omega
      have e5 : (d : Int) ≤ 1048576 := by omega
      have e6 : (d : Int) < (o.c : Int) := by omega
      have e7 : IntKind.i64.wrap (d : Int) = (d : Int) := IntWalk.i64_in _ (by omega)
      go_wp2_with fail
      go_quiet (fail)
      go_wp2_with fail
      go_ret2
      refine ⟨?_, .inr ⟨j, o, d, HJ.out, HD.out, by rw [← HN1.out]; exact hdn, by rw [← HN1.out]; rfl⟩⟩
      exact below_drewN (HB3.out.alloc HB3.out.size _) _
    · have e1 : (n1 : Int) ≤ (d : Int) := by omega
      have HNO : Hid (∀ (i : Nat) (o : OReg), os[i]? = some o → ¬ (o.r.base ≤ p ∧ p < o.r.base + o.r.len)) := Lib.hid (by
        intro i q hq
        by_cases hij : i = j
        · subst hij
          rw [HJ.out] at hq
          cases hq
          rintro ⟨h1, h2⟩
          rw [HLR.out] at h2
          have := HD.out
          omega
        · exact HNX.out i q hq hij)
      go_wp2_with fail
      go_ret2
      refine ⟨?_, .inl ⟨HNO.out, rfl⟩⟩
      exact HB3.out.alloc HB3.out.size _
end Mm
end Go.Proofs.YtmiphnocgepdgaaGreatDoor
namespace Go.Proofs.YtmiphnocgepdgaaGreatDoor
open Go Go.RowKit Go.Shelf Go.Sort
namespace Mm
open Wd Nt
set_option linter.unusedVariables false
theorem wordN_last (bs : List Int) (k n : Nat) : wordN bs k (n + 1) = wordN bs k n + bt bs (k + n) * B256 n := by
  induction n generalizing k with
  | zero => show bt bs k + 256 * 0 = 0 + bt bs (k + 0) * 1; rw [Nat.add_zero]; omega
  | succ n ih =>
    show bt bs k + 256 * wordN bs (k + 1) (n + 1) = (bt bs k + 256 * wordN bs (k + 1) n) + bt bs (k + (n + 1)) * (256 * B256 n)
    rw [ih, show k + 1 + n = k + (n + 1) by omega, Int.mul_add, ← Int.mul_assoc 256 (bt bs _), Int.mul_comm 256 (bt bs _), Int.mul_assoc]
    omega
theorem wordN_cong {xs ys : List Int} {i j n : Nat} (h : ∀ t, t < n → bt xs (i + t) = bt ys (j + t)) : wordN xs i n = wordN ys j n := by
  induction n generalizing i j with
  | zero => rfl
  | succ n ih =>
    show bt xs i + 256 * wordN xs (i + 1) n = bt ys j + 256 * wordN ys (j + 1) n
    rw [ih (i := i + 1) (j := j + 1) (fun t ht => by have := h (t + 1) (by omega); rw [show i + 1 + t = i + (t + 1) by omega, show j + 1 + t = j + (t + 1) by omega]; exact this)]
    have := h 0 (by omega)
    simp only [Nat.add_zero] at this
    rw [this]
theorem pow_B256 (n : Nat) : (2 : Int) ^ (n * 8) = B256 n := by rw [Nat.mul_comm]; exact two_B256 n
theorem or_word {v b : Int} {t : Nat} (ht : t < 8) (hv : 0 ≤ v) (hv' : v < B256 t) (hb : 0 ≤ b) (hb' : b ≤ 255) : bits .or .u64 v (b * B256 t) = v + b * B256 t ∧ 0 ≤ b * B256 t ∧ b * B256 t ≤ 18446744073709551615 := by
  have h7 := B256_le (show t ≤ 7 by omega)
  rw [B256_7] at h7
  have hp := B256_pos t
  have h1 : 0 ≤ b * B256 t := Int.mul_nonneg hb (by omega)
  have h2 : b * B256 t ≤ 255 * B256 t := Int.mul_le_mul_of_nonneg_right hb' (by omega)
  refine ⟨?_, h1, by omega⟩
  obtain ⟨m, rfl⟩ := Int.eq_ofNat_of_zero_le hv
  obtain ⟨k, hk⟩ := Int.eq_ofNat_of_zero_le h1
  have h3 := or_add (b * B256 t) (m : Int) (t * 8) h1 (by omega) (by rw [pow_B256]; exact Int.mul_emod_left _ _) hv (by rw [pow_B256]; exact hv') (by omega)
  rw [hk] at h3 ⊢
  rw [u64_or_nat k m (by omega) (by omega)] at h3
  rw [u64_or_nat m k (by omega) (by omega), Nat.or_comm, h3]
  omega
set_option maxRecDepth 100000 in
set_option maxHeartbeats 2000000 in
theorem join_c {w : World} {B g o n c : Nat} {ys : List Int} (h : Hid (Rd8 w B (some ⟨g, o, none⟩) n ys)) (h8 : 8 ≤ n) (hc : n ≤ c) (hcm : c ≤ 9223372036854775807) :
    Calls Tryz.prog 59 #[.slice (some ⟨g, o, none⟩) n c] w fun e w' => e = .returned (.int .u64 (wordN ys 0 8)) ∧ w' = w := by
  have HN := Lib.hid h8
  have e1 : (8 : Int) ≤ (n : Int) := by omega
  have e2 : (8 : Int) ≤ (c : Int) := by omega
  go_enter Tryz.func59, Tryz.ntmps59
  go_wp2_with fail
  go_loopw [3, 9] (fun v i W => ∃ (t : Nat), t ≤ 8 ∧ v = .int .u64 (wordN ys 0 t) ∧ i = .int .i64 (t : Int) ∧ Hid (W = w)) (fun _ i _ => 8 - (intOf i).toNat)
  case atStart => exact ⟨0, by omega, rfl, rfl, Lib.hid rfl⟩
  case round =>
    obtain ⟨t, ht, rfl, rfl, hW⟩ := hrel
    obtain rfl := hW.out
    rcases Nat.lt_or_ge t 8 with ht8 | ht8
    · obtain ⟨ad, hA, _, hcell⟩ := h.out.at_ (k := t) (by omega)
      cases hA
      have hbt := h.out.ok.bt t
      have hwd := wordN_bd h.out.ok 0 t
      have hlast := wordN_last ys 0 t
      rw [Nat.zero_add] at hlast
      rw [add_at] at hcell
      obtain ⟨hor, hs0, hs1⟩ := or_word ht8 hwd.1 hwd.2 hbt.1 hbt.2
      have HLA := Lib.hid hlast
      generalize bt ys t = b at *
      generalize wordN ys 0 t = v at *
      have e3 : (t : Int) < 8 := by omega
      have e4 : (0 : Int) ≤ (t : Int) := by omega
      have e5 : IntKind.i64.wrap ((t : Int) * 8) = (t : Int) * 8 := IntWalk.i64_in _ (by omega)
      have e6 : (0 : Int) ≤ (t : Int) * 8 := by omega
      have e7 : ((t : Int) * 8).toNat = t * 8 := by omega
      have e8 := pow_B256 t
      have e9 : IntKind.u64.wrap (b * B256 t) = b * B256 t := by rw [IntKind.wrap_u64]; omega
      have e10 : IntKind.u64.wrap b = b := by rw [IntKind.wrap_u64]; omega
      have e11 : (t : Int) * 8 < 64 := by omega
      clear hlast hwd hs0 hs1
      go_wp2_with fail
      go_roundw
      case rel => exact ⟨t + 1, by omega, by rw [HLA.out], by go_num, Lib.hid trivial⟩
      case measure => (simp [intOf] <;> omega)
    · obtain rfl : t = 8 := by omega
      go_wp2_with fail
      go_ret
      exact ⟨rfl, rfl⟩
/-! ### split -/
/-- a word's first bytes, noughts behind them -/
def spl (v : Int) (t : Nat) : Array Value := ((List.range 8).map fun j => if j < t then Value.int .u8 (byteOf v j) else .int .u8 0).toArray
theorem spl_set (v : Int) {t : Nat} (ht : t < 8) : (spl v t).setIfInBounds t (.int .u8 (byteOf v t)) = spl v (t + 1) := by
  unfold spl
  apply Array.ext_getElem?
  intro i
  rw [Array.getElem?_setIfInBounds]
  simp only [List.size_toArray, List.length_map, List.length_range, List.getElem?_toArray, List.getElem?_map]
  by_cases hi : t = i
  · subst hi
    rw [if_pos rfl, if_pos ht, List.getElem?_range ht]
    simp
  · rw [if_neg hi]
    rcases Nat.lt_or_ge i 8 with h8 | h8
    · rw [List.getElem?_range h8]
      simp only [Option.map_some]
      by_cases h1 : i < t
      · rw [if_pos h1, if_pos (by omega)]
      · rw [if_neg h1, if_neg (by omega)]
    · rw [List.getElem?_eq_none (by simpa using h8)]; rfl
theorem spl_get (v : Int) {t : Nat} (ht : t < 8) : (spl v t)[t]? = some (.int .u8 0) := by
  unfold spl
  rw [List.getElem?_toArray, List.getElem?_map, List.getElem?_range ht]
  simp
theorem spl_eight (v : Int) : spl v 8 = #[.int .u8 (byteOf v 0), .int .u8 (byteOf v 1), .int .u8 (byteOf v 2), .int .u8 (byteOf v 3), .int .u8 (byteOf v 4), .int .u8 (byteOf v 5), .int .u8 (byteOf v 6), .int .u8 (byteOf v 7)] := by
  unfold spl
  simp [List.range, List.range.loop]
theorem byte_at' (v : Int) (n : Nat) : v / 2 ^ (n * 8) % 256 = byteOf v n := by rw [pow_B256]; rfl
def wordAgg (v : Int) : Value := .agg #[.int .u8 (byteOf v 0), .int .u8 (byteOf v 1), .int .u8 (byteOf v 2), .int .u8 (byteOf v 3), .int .u8 (byteOf v 4), .int .u8 (byteOf v 5), .int .u8 (byteOf v 6), .int .u8 (byteOf v 7)]
set_option maxRecDepth 100000 in
set_option maxHeartbeats 2000000 in
theorem split_c (v : Int) (hv : W v) (w : World) : Calls Tryz.prog 84 #[.int .u64 v] w fun e w' => e = .returned (wordAgg v) ∧ Below w.heap.size w w' := by
  unfold W at hv
  obtain ⟨hv0, hv1⟩ := hv
  go_enter Tryz.func84, Tryz.ntmps84
  go_wp2_with fail
  go_loopw [5] (fun i W => ∃ (t : Nat), t ≤ 8 ∧ i = .int .i64 (t : Int) ∧ Hid (Bk W (w.heap.size + 1) 130 (spl v t)) ∧ Hid (Below w.heap.size w W ∧ w.heap.size + 1 < W.heap.size) ∧ Hid (Bk W w.heap.size 130 (spl v 0))) (fun i _ => 8 - (intOf i).toNat)
  case atStart =>
    refine ⟨0, by omega, rfl, Lib.hid (Bk.new' (by simp)), Lib.hid ⟨((Below.refl _ w).alloc (Nat.le_refl _) _).alloc (by simp) _, by simp⟩, Lib.hid ((Bk.new _ _ _).alloc _)⟩
  case round =>
    obtain ⟨t, ht, rfl, hL, hB, hR⟩ := hrel
    rcases Nat.lt_or_ge t 8 with ht8 | ht8
    · have e3 : (t : Int) < 8 := by omega
      have e4 : (0 : Int) ≤ (t : Int) := by omega
      have e5 : IntKind.i64.wrap ((t : Int) * 8) = (t : Int) * 8 := IntWalk.i64_in _ (by omega)
      have e6 : (0 : Int) ≤ (t : Int) * 8 := by omega
      have e7 : ((t : Int) * 8).toNat = t * 8 := by omega
      have e8 := pow_B256 t
      have e11 : (t : Int) * 8 < 64 := by omega
      have e12 : ((t : Int)).toNat = t := by omega
      have c0 : wr.cell? ⟨w.heap.size + 1, t, none⟩ = some (.int .u8 0) := (hL.out.cell t).trans (spl_get v ht8)
      have f0 : wr.frozen? ⟨w.heap.size + 1, t, none⟩ = false := hL.out.frozen t
      go_wp2_with fail
      go_roundw
      case rel =>
        refine ⟨t + 1, by omega, by go_num, ?_, ?_, ?_⟩
        · have h1 := hL.out.set_ t (.int .u8 (byteOf v t))
          rw [spl_set v ht8] at h1
          exact Lib.hid h1
        · exact Lib.hid ⟨hB.out.1.setCell (p := ⟨w.heap.size + 1, t, none⟩) (by simp) _, by simp [World.setCell]; exact hB.out.2⟩
        · exact Lib.hid (hR.out.far (p := ⟨w.heap.size + 1, t, none⟩) (by simp) _)
      case measure => (simp [intOf] <;> omega)
    · obtain rfl : t = 8 := by omega
      have r : ∀ i, wr.cell? ⟨w.heap.size, i, none⟩ = (spl v 0)[i]? := fun i => hR.out.cell i
      have l : ∀ i, wr.cell? ⟨w.heap.size + 1, i, none⟩ = (spl v 8)[i]? := fun i => hL.out.cell i
      have r0 : wr.cell? ⟨w.heap.size, 0, none⟩ = some (.int .u8 0) := r 0
      have r1 : wr.cell? ⟨w.heap.size, 1, none⟩ = some (.int .u8 0) := r 1
      have r2 : wr.cell? ⟨w.heap.size, 2, none⟩ = some (.int .u8 0) := r 2
      have r3 : wr.cell? ⟨w.heap.size, 3, none⟩ = some (.int .u8 0) := r 3
      have r4 : wr.cell? ⟨w.heap.size, 4, none⟩ = some (.int .u8 0) := r 4
      have r5 : wr.cell? ⟨w.heap.size, 5, none⟩ = some (.int .u8 0) := r 5
      have r6 : wr.cell? ⟨w.heap.size, 6, none⟩ = some (.int .u8 0) := r 6
      have r7 : wr.cell? ⟨w.heap.size, 7, none⟩ = some (.int .u8 0) := r 7
      have g0 : ∀ i, wr.frozen? ⟨w.heap.size, i, none⟩ = false := fun i => hR.out.frozen i
      have l0 : wr.cell? ⟨w.heap.size + 1, 0, none⟩ = some (.int .u8 (byteOf v 0)) := l 0
      have l1 : wr.cell? ⟨w.heap.size + 1, 1, none⟩ = some (.int .u8 (byteOf v 1)) := l 1
      have l2 : wr.cell? ⟨w.heap.size + 1, 2, none⟩ = some (.int .u8 (byteOf v 2)) := l 2
      have l3 : wr.cell? ⟨w.heap.size + 1, 3, none⟩ = some (.int .u8 (byteOf v 3)) := l 3
      have l4 : wr.cell? ⟨w.heap.size + 1, 4, none⟩ = some (.int .u8 (byteOf v 4)) := l 4
      have l5 : wr.cell? ⟨w.heap.size + 1, 5, none⟩ = some (.int .u8 (byteOf v 5)) := l 5
      have l6 : wr.cell? ⟨w.heap.size + 1, 6, none⟩ = some (.int .u8 (byteOf v 6)) := l 6
      have l7 : wr.cell? ⟨w.heap.size + 1, 7, none⟩ = some (.int .u8 (byteOf v 7)) := l 7
      have hbk := ((((((((hR.out.set_ 0 (.int .u8 (byteOf v 0))).set_ 1 (.int .u8 (byteOf v 1))).set_ 2 (.int .u8 (byteOf v 2))).set_ 3 (.int .u8 (byteOf v 3))).set_ 4 (.int .u8 (byteOf v 4))).set_ 5 (.int .u8 (byteOf v 5))).set_ 6 (.int .u8 (byteOf v 6))).set_ 7 (.int .u8 (byteOf v 7)))
      rw [spl_set v (t := 0) (by omega), spl_set v (t := 1) (by omega), spl_set v (t := 2) (by omega), spl_set v (t := 3) (by omega), spl_set v (t := 4) (by omega), spl_set v (t := 5) (by omega), spl_set v (t := 6) (by omega), spl_set v (t := 7) (by omega), spl_eight] at hbk
      have HBk := Lib.hid hbk
      clear hbk
      have HBl := Lib.hid ((((((((hB.out.1.setCell (p := ⟨w.heap.size, 0, none⟩) (by simp) (.int .u8 (byteOf v 0))).setCell (p := ⟨w.heap.size, 1, none⟩) (by simp) (.int .u8 (byteOf v 1))).setCell (p := ⟨w.heap.size, 2, none⟩) (by simp) (.int .u8 (byteOf v 2))).setCell (p := ⟨w.heap.size, 3, none⟩) (by simp) (.int .u8 (byteOf v 3))).setCell (p := ⟨w.heap.size, 4, none⟩) (by simp) (.int .u8 (byteOf v 4))).setCell (p := ⟨w.heap.size, 5, none⟩) (by simp) (.int .u8 (byteOf v 5))).setCell (p := ⟨w.heap.size, 6, none⟩) (by simp) (.int .u8 (byteOf v 6))).setCell (p := ⟨w.heap.size, 7, none⟩) (by simp) (.int .u8 (byteOf v 7)))
      clear r l
      go_wp2_with fail
      refine bodyPost_ret (v := wordAgg v) (results_cell_row rfl _ _ w.heap.size 130 #[.int .u8 (byteOf v 0), .int .u8 (byteOf v 1), .int .u8 (byteOf v 2), .int .u8 (byteOf v 3), .int .u8 (byteOf v 4), .int .u8 (byteOf v 5), .int .u8 (byteOf v 6), .int .u8 (byteOf v 7)] (0, 0) _ rfl HBk.out Tryz.underlying130 rfl (by kernel_rfl)) rfl ⟨rfl, ?_⟩
      exact HBl.out
end Mm
end Go.Proofs.YtmiphnocgepdgaaGreatDoor
namespace Go.Proofs.YtmiphnocgepdgaaGreatDoor
open Go Go.RowKit Go.Shelf Go.Sort
namespace Mm
open Wd Nt
set_option linter.unusedVariables false
/-- its parts, as a call goes by them -/
theorem LndM.parts {w : World} {B E : Nat} {P : Value} {M : List Reg} (h : LndM w B E P M) : ∃ D v os, P = .pointer (some ⟨D, 0, none⟩) ∧ Bk w D 82 #[.pointer (some ⟨D, 0, none⟩), v] ∧ OwnI w B E v os ∧ (Good (os.map (·.r)) ∧ Rising (os.map (·.r))) ∧ os.map (·.r) = M := by
  obtain ⟨D, v, os, h1, h2, h3, h4, h5, h6⟩ := h.ex
  exact ⟨D, v, os, h1, h2, h5, by rw [h6]; exact ⟨h.good, h.rise⟩, h6⟩
theorem none_hits {M : List Reg} {os : List OReg} {p n : Int} (hM : os.map (·.r) = M) (h : ∀ (i : Nat) (o : OReg), os[i]? = some o → ¬ (o.r.base ≤ p ∧ p < o.r.base + o.r.len)) (i : Nat) (r : Reg) : ¬ Hits M p n i r := by
  rintro ⟨h1, h2, h3, _⟩
  rw [← hM, List.getElem?_map] at h1
  obtain ⟨o, ho, rfl⟩ := Option.map_eq_some_iff.1 h1
  exact h i o ho ⟨h2, h3⟩
theorem some_hits {M : List Reg} {os : List OReg} {p n : Int} {i d : Nat} {o : OReg} (hM : os.map (·.r) = M) (ho : os[i]? = some o) (hd : p - o.r.base = (d : Int)) (hl : d < o.r.bytes.length) (hn : n ≤ (o.r.bytes.length : Int) - d) : Hits M p n i o.r := by
  have e : o.r.len = o.r.bytes.length := rfl
  exact ⟨by rw [← hM, List.getElem?_map, ho]; rfl, by omega, by omega, by omega⟩
theorem few_hits {M : List Reg} {os : List OReg} {p n : Int} {i d : Nat} {o : OReg} (hG : Good M) (hM : os.map (·.r) = M) (ho : os[i]? = some o) (hd : p - o.r.base = (d : Int)) (hl : d < o.r.bytes.length) (hn : (o.r.bytes.length : Int) - d < n) (j : Nat) (r : Reg) : ¬ Hits M p n j r := by
  intro h
  have h0 := some_hits (n := 0) hM ho hd hl (by omega)
  obtain ⟨rfl, rfl⟩ := h.uniq hG h0
  have e : o.r.len = o.r.bytes.length := rfl
  have := h.2.2.2
  omega
set_option maxRecDepth 100000 in
set_option maxHeartbeats 2000000 in
theorem load_c {w : World} {B E : Nat} {P : Value} {M : List Reg} (p : Int) (h : Hid (LndM w B E P M)) (hp : W p) :
    Calls Tryz.prog 31 #[P, .int .u64 p] w (LoadP M p w) := by
  obtain ⟨D, v, os, rfl, hD, hO, hG, hM⟩ := h.out.parts
  have HM := Lib.hid hM
  have HG := Lib.hid h.out.good
  have HMD := Lib.hid (made_c (hD.cell 0))
  have H1 := Lib.hid (from_c p hp (Lib.hid hO) (Lib.hid hD) (Lib.hid hG))
  have HO := Lib.hid hO
  clear hD hO hG hM hp
  go_enter Tryz.func31, Tryz.ntmps31
  go_wp2_with fail
  go_at_call 50
  refine HMD.out.mono ?_
  rintro e w1 ⟨rfl, rfl⟩
  go_wp2_with fail
  go_at_call 58
  refine H1.out.mono ?_
  rintro e w2 ⟨hb2, ⟨hno, rfl⟩ | ⟨i, o, d, ho, hd, hdl, rfl⟩⟩
  · have HNO := Lib.hid hno
    have HB := Lib.hid hb2
    clear hno hb2 H1 HMD
    go_wp2_with fail
    go_ret2
    exact ⟨HB.out, _, _, rfl, .inr ⟨fun i r => none_hits HM.out HNO.out i r, rfl, rfl⟩⟩
  · have HB := Lib.hid hb2
    have hm := List.mem_of_getElem? ho
    have hrm := sl_room (HO.out.own.each o hm)
    have hrd := (HO.out.below hb2).own.rd8 hm
    have hsh := HG.out.short i o.r (by rw [← HM.out, List.getElem?_map, ho]; rfl)
    have hsh' : o.r.bytes.length ≤ 1048576 := by unfold Reg.len at hsh; omega
    have HOI := Lib.hid ho
    have HD := Lib.hid hd
    have HDL := Lib.hid hdl
    obtain ⟨m, hm1⟩ : ∃ m, m = o.r.bytes.length - d := ⟨_, rfl⟩
    obtain ⟨c, hc1⟩ : ∃ c, c = o.c - d := ⟨_, rfl⟩
    have hcut := hrd.cut d m (by omega)
    rw [Nat.zero_add] at hcut
    rw [← hm1, ← hc1]
    have hmc : m ≤ c := by omega
    have hcm : c ≤ 9223372036854775807 := by omega
    have HM1 := Lib.hid hm1
    rcases Nat.lt_or_ge m 8 with hlt | hge
    · have HNH : Hid (∀ i r, ¬ Hits M p 8 i r) := Lib.hid (few_hits HG.out HM.out HOI.out HD.out HDL.out (by omega))
      have hlti : (m : Int) < 8 := by omega
      clear hb2 hm hrm hrd hsh hsh' ho hd hdl hcut hm1 hc1 H1 HMD
      go_wp2_with fail
      go_ret2
      exact ⟨HB.out, _, _, rfl, .inr ⟨HNH.out, rfl, rfl⟩⟩
    · have H3 := Lib.hid (join_c (c := c) (Lib.hid hcut) hge hmc hcm)
      have HV : Hid (LoadO M p (wordN ((o.r.bytes.drop d).take m) 0 8) 0) := Lib.hid (.inl ⟨i, o.r, some_hits HM.out HOI.out HD.out HDL.out (by omega), by
        rw [HD.out, Int.toNat_natCast]
        refine wordN_cong (fun t ht => ?_)
        unfold bt
        rw [List.getElem?_take, if_pos (by omega), List.getElem?_drop, Nat.zero_add], rfl⟩)
      have hgei : (8 : Int) ≤ (m : Int) := by omega
      clear hb2 hm hrm hrd hsh hsh' ho hd hdl hcut hm1 hc1 H1 HMD
      go_wp2_with fail
      go_at_call 59
      refine H3.out.mono ?_
      rintro e w3 ⟨rfl, rfl⟩
      go_wp2_with fail
      go_ret2
      exact ⟨HB.out, _, _, rfl, HV.out⟩
set_option maxRecDepth 100000 in
set_option maxHeartbeats 2000000 in
theorem bytes_c {w : World} {B E : Nat} {P : Value} {M : List Reg} (p n : Int) (h : Hid (LndM w B E P M)) (hp : W p) (hn : (Lit.int .i64 n).wf = true) :
    Calls Tryz.prog 61 #[P, .int .u64 p, .int .i64 n] w (BytesP M p n w) := by
  have hk' : -9223372036854775808 ≤ n ∧ n ≤ 9223372036854775807 := by
    simp [Lit.wf, IntKind.min, IntKind.max, IntKind.signed, IntKind.bits] at hn; omega
  obtain ⟨D, v, os, rfl, hD, hO, hG, hM⟩ := h.out.parts
  have HM := Lib.hid hM
  have HG := Lib.hid h.out.good
  have HMD := Lib.hid (made_c (hD.cell 0))
  have H1 := Lib.hid (from_c p hp (Lib.hid hO) (Lib.hid hD) (Lib.hid hG))
  have HO := Lib.hid hO
  clear hD hO hG hM hp hn
  rcases Int.lt_or_le n 0 with hneg | hpos
  · have HN := Lib.hid hneg
    clear hk' H1
    go_enter Tryz.func61, Tryz.ntmps61
    go_wp2_with fail
    go_at_call 50
    refine HMD.out.mono ?_
    rintro e w1 ⟨rfl, rfl⟩
    go_wp2_with fail
    go_ret2
    exact ⟨Below.refl _ _, [], 2, rfl, .inl ⟨HN.out, rfl, rfl⟩⟩
  · obtain ⟨k, rfl⟩ : ∃ k : Nat, n = (k : Int) := ⟨n.toNat, by omega⟩
    have hk0 : (0 : Int) ≤ (k : Int) := by omega
    have hk2 : (k : Int) ≤ 9223372036854775807 := hk'.2
    clear hk' hpos
    go_enter Tryz.func61, Tryz.ntmps61
    go_wp2_with fail
    go_at_call 50
    refine HMD.out.mono ?_
    rintro e w1 ⟨rfl, rfl⟩
    go_wp2_with fail
    go_at_call 58
    refine H1.out.mono ?_
    rintro e w2 ⟨hb2, ⟨hno, rfl⟩ | ⟨i, o, d, ho, hd, hdl, rfl⟩⟩
    · have HNO := Lib.hid hno
      have HB := Lib.hid hb2
      have hmx : (0 : Int) < max (k : Int) 1 := by omega
      clear hno hb2 H1 HMD
      go_wp2_with fail
      go_ret2
      exact ⟨HB.out, [], 11, rfl, .inr (.inr ⟨by omega, fun i r => none_hits HM.out HNO.out i r, rfl, rfl⟩)⟩
    · have HB := Lib.hid hb2
      have hm := List.mem_of_getElem? ho
      have hrm := sl_room (HO.out.own.each o hm)
      have hrd := (HO.out.below hb2).own.rd8 hm
      have hsh := HG.out.short i o.r (by rw [← HM.out, List.getElem?_map, ho]; rfl)
      have hsh' : o.r.bytes.length ≤ 1048576 := by unfold Reg.len at hsh; omega
      have HOI := Lib.hid ho
      have HD := Lib.hid hd
      have HDL := Lib.hid hdl
      obtain ⟨m, hm1⟩ : ∃ m, m = o.r.bytes.length - d := ⟨_, rfl⟩
      obtain ⟨c, hc1⟩ : ∃ c, c = o.c - d := ⟨_, rfl⟩
      rw [← hm1, ← hc1]
      have hmc : m ≤ c := by omega
      have hcm : c ≤ 9223372036854775807 := by omega
      have hm1' : 1 ≤ m := by omega
      have HM1 := Lib.hid hm1
      rcases Nat.lt_or_ge m k with hlt | hge
      · have HNH : Hid (∀ i r, ¬ Hits M p (k : Int) i r) := Lib.hid (few_hits HG.out HM.out HOI.out HD.out HDL.out (by omega))
        have hmx : (m : Int) < max (k : Int) 1 := by omega
        clear hb2 hm hrm hrd hsh hsh' ho hd hdl hm1 hc1 H1 HMD
        go_wp2_with fail
        go_ret2
        exact ⟨HB.out, [], 11, rfl, .inr (.inr ⟨by omega, HNH.out, rfl, rfl⟩)⟩
      · have hcut := hrd.cut d k (by omega)
        rw [Nat.zero_add] at hcut
        have hst := run_str (w := w2) c hcut
        have HS : Hid (BytesO M p (k : Int) ((o.r.bytes.drop d).take k) 0) := Lib.hid (.inr (.inl ⟨by omega, i, o.r, some_hits HM.out HOI.out HD.out HDL.out (by omega), by rw [HD.out]; rfl, rfl⟩))
        generalize (o.r.bytes.drop d).take k = bs at *
        have hmx : ¬ ((m : Int) < max (k : Int) 1) := by omega
        have hmx2 : max (k : Int) 1 ≤ (m : Int) := by omega
        have hki : (k : Int) ≤ (m : Int) := by omega
        have hkc : (k : Int) ≤ (c : Int) := by omega
        have hkc2 : k ≤ c := by omega
        clear hb2 hm hrm hrd hsh hsh' ho hd hdl hm1 hc1 H1 HMD hcut
        go_wp2_with fail
        go_ret2
        exact ⟨HB.out, bs, 0, rfl, HS.out⟩
end Mm
end Go.Proofs.YtmiphnocgepdgaaGreatDoor
namespace Go.Proofs.YtmiphnocgepdgaaGreatDoor
open Go Go.RowKit Go.Shelf Go.Sort
namespace Mm
open Wd Nt
set_option linter.unusedVariables false
theorem wpList_cpy {P : Program} {w : World} {ops : Array Oper} {rest : List Oper} {o : Oper} {a : Act} {Q : Exit → Act → World → Prop} (hgd : o.guard = none) (s x : Operand) (t : TypeId)
    (ho : o.op = .call { callee := .builtin .copy, args := #[s, x], argTypes := #[t, t] }) (v sx : Value) (hs : a.eval s = v) (hx : a.eval x = sx) (v' : Value) (w' : World)
    (hrun : (Builtin.copy_ #[t, t] o.type #[v, sx]).run P w = .ok v' w') (h : wpList P ops Q rest (a.put o.dst v') w') : wpList P ops Q (o :: rest) a w :=
  wpList_plain hgd fun _ hK => by
    unfold Oper.wp execOp
    simp only [ho, resolve, invoke, builtin, Sem.run_bind, Sem.run_pure, Result.andThen_ok, List.map_toArray, List.map_cons, List.map_nil, hs, hx, hrun]
    exact hK _ _ h
def setL (xs : List Value) : Nat → List Value → List Value
  | _, [] => xs
  | s, v :: r => setL (xs.set s v) (s + 1) r
theorem own_cells {B g n c : Nat} {e : TypeId} : ∀ (vs : List Value) (s : Nat) (w : World) (xs : List Value), w.ownsRow B e 1 (.slice (some ⟨g, 0, none⟩) n c) n xs →
    (w.setCells g s vs).ownsRow B e 1 (.slice (some ⟨g, 0, none⟩) n c) n (setL xs s vs) ∧ w.grownBy (w.setCells g s vs) (some g)
  | [], s, w, xs, h => ⟨h, grown_of_below (Below.refl _ _) _⟩
  | v :: r, s, w, xs, h => by
    obtain ⟨h1, h2⟩ := h.stored s v
    obtain ⟨h3, h4⟩ := own_cells r (s + 1) _ _ h1
    exact ⟨h3, grown_trans h2 h4⟩
def wordCells (v : Int) : List Value := [.int .u8 (byteOf v 0), .int .u8 (byteOf v 1), .int .u8 (byteOf v 2), .int .u8 (byteOf v 3), .int .u8 (byteOf v 4), .int .u8 (byteOf v 5), .int .u8 (byteOf v 6), .int .u8 (byteOf v 7)]
theorem setL_word (bs : List Int) (d : Nat) (v : Int) : setL (b8 bs) d (wordCells v) = b8 (putN bs d v 8) := by
  unfold wordCells
  simp only [setL, b8_set, putN, Nat.add_zero, Nat.add_assoc, Nat.reduceAdd]
theorem rising_put {M : List Reg} {i : Nat} {r s : Reg} (h : Rising M) (hi : M[i]? = some r) (hb : s.base = r.base) : Rising (M.set i s) := by
  unfold Rising at *
  rw [pairwise_get] at h ⊢
  intro a b x y hx hy hab
  have key : ∀ (j : Nat) (z : Reg), (M.set i s)[j]? = some z → ∃ u, M[j]? = some u ∧ z.base = u.base := by
    intro j z hj
    rcases set_get hi hj with ⟨rfl, rfl⟩ | ⟨_, h⟩
    · exact ⟨r, hi, hb⟩
    · exact ⟨z, h, rfl⟩
  obtain ⟨u, g1, g2⟩ := key a x hx
  obtain ⟨u', g3, g4⟩ := key b y hy
  rw [g2, g4]; exact h a b u u' g1 g3 hab
/-- a word laid into a region's bytes -/
theorem LndM.put {w : World} {B E D i d n c : Nat} {v : Value} {os : List OReg} {o : OReg} {M : List Reg} {p x : Int} (hO : OwnI w B E v os) (hD : Bk w D 82 #[.pointer (some ⟨D, 0, none⟩), v]) (hB : B ≤ D) (hE : D < E) (hM : os.map (·.r) = M)
    (ho : os[i]? = some o) (hd : p - o.r.base = (d : Int)) (hs : StoreO M p x (M.set i (o.r.put p x)) 0) (hG : Good M) (hR : Rising M) :
    Kp B E w (w.setCells o.g d (wordCells x)) ∧ LndM (w.setCells o.g d (wordCells x)) B E (.pointer (some ⟨D, 0, none⟩)) (M.set i (o.r.put p x)) := by
  have hm := List.mem_of_getElem? ho
  have hrow := hO.own.each o hm
  obtain ⟨h1, h2⟩ := own_cells (wordCells x) d w _ hrow
  rw [setL_word] at h1
  have hlt := hO.own.lt hm
  have hT := hO.turn ho (bs := putN o.r.bytes d x 8) (putN_len _ _ _ _) (putN_bs (hO.own.oks o hm).bytes _ _ _) h1 h2
  have hne : D ≠ o.g := bk_ne (g := o.g) hD hrow rfl (by decide)
  refine ⟨Kp.grown h2 hlt.1 (hO.each o hm), ⟨⟨D, v, _, rfl, (h2.block D hD.lt (fun e => hne (by cases e; rfl))).trans hD, hB, hE, hT, ?_⟩, hs.good hG, rising_put (r := o.r) hR (by rw [← hM, List.getElem?_map, ho]; rfl) rfl⟩⟩
  rw [List.map_set, hM]
  unfold Reg.put
  rw [hd, Int.toNat_natCast]
set_option maxRecDepth 100000 in
set_option maxHeartbeats 2000000 in
theorem store_c {w : World} {B E : Nat} {P : Value} {M : List Reg} (p x : Int) (h : Hid (LndM w B E P M)) (hp : W p) (hx : W x) :
    Calls Tryz.prog 62 #[P, .int .u64 p, .int .u64 x] w (StoreP LndM B E P M p x w) := by
  obtain ⟨D, v, os, rfl, hD, hBD, hDE, hO, hM⟩ := h.out.ex
  have hG : Good (os.map (·.r)) ∧ Rising (os.map (·.r)) := by rw [hM]; exact ⟨h.out.good, h.out.rise⟩
  have HM := Lib.hid hM
  have HG := Lib.hid h.out.good
  have HRI := Lib.hid h.out.rise
  have HMD := Lib.hid (made_c (hD.cell 0))
  have H1 := Lib.hid (from_c p hp (Lib.hid hO) (Lib.hid hD) (Lib.hid hG))
  have HS := Lib.hid (fun W => split_c x hx W)
  have HO := Lib.hid hO
  have HDB := Lib.hid hD
  have HBD := Lib.hid (And.intro hBD hDE)
  clear hD hO hG hM hp hx hBD hDE
  go_enter Tryz.func62, Tryz.ntmps62
  go_wp2_with fail
  go_at_call 50
  refine HMD.out.mono ?_
  rintro e w1 ⟨rfl, rfl⟩
  go_wp2_with fail
  go_at_call 58
  refine H1.out.mono ?_
  rintro e w2 ⟨hb2, ⟨hno, rfl⟩ | ⟨i, o, d, ho, hd, hdl, rfl⟩⟩
  · have HNO := Lib.hid hno
    have HB := Lib.hid hb2
    clear hno hb2 H1 HMD
    go_wp2_with fail
    go_ret
    exact ⟨Kp.of HB.out, M, 11, rfl, .inr ⟨fun i r hh => absurd hh (none_hits HM.out HNO.out i r), rfl, rfl⟩, h.out.below HB.out⟩
  · have HB := Lib.hid hb2
    have hm := List.mem_of_getElem? ho
    have hrm := sl_room (HO.out.own.each o hm)
    have hsh := HG.out.short i o.r (by rw [← HM.out, List.getElem?_map, ho]; rfl)
    have hsh' : o.r.bytes.length ≤ 1048576 := by unfold Reg.len at hsh; omega
    have HOI := Lib.hid ho
    have HD := Lib.hid hd
    have HDL := Lib.hid hdl
    obtain ⟨m, hm1⟩ : ∃ m, m = o.r.bytes.length - d := ⟨_, rfl⟩
    obtain ⟨c, hc1⟩ : ∃ c, c = o.c - d := ⟨_, rfl⟩
    rw [← hm1, ← hc1]
    have hmc : m ≤ c := by omega
    have hcm : c ≤ 9223372036854775807 := by omega
    have HM1 := Lib.hid hm1
    rcases Nat.lt_or_ge m 8 with hlt | hge
    · have HNH : Hid (∀ i r, ¬ Hits M p 8 i r) := Lib.hid (few_hits HG.out HM.out HOI.out HD.out HDL.out (by omega))
      have hlti : (m : Int) < 8 := by omega
      clear hb2 hm hrm hsh hsh' ho hd hdl hm1 hc1 H1 HMD
      go_wp2_with fail
      go_ret
      exact ⟨Kp.of HB.out, M, 11, rfl, .inr ⟨fun i r hh => absurd hh (HNH.out i r), rfl, rfl⟩, h.out.below HB.out⟩
    · have hgei : (8 : Int) ≤ (m : Int) := by omega
      have HH : Hid (Hits M p 8 i o.r) := Lib.hid (some_hits HM.out HOI.out HD.out HDL.out (by omega))
      cases hw : o.r.write with
      | false =>
        have HNW : Hid (∀ j s, Hits M p 8 j s → s.write = false) := Lib.hid (fun j s hs => by
          obtain ⟨_, rfl⟩ := HH.out.uniq HG.out hs; exact hw)
        clear hb2 hm hrm hsh hsh' ho hd hdl hm1 hc1 H1 HMD hw
        go_wp2_with fail
        go_ret
        exact ⟨Kp.of HB.out, M, 11, rfl, .inr ⟨HNW.out, rfl, rfl⟩, h.out.below HB.out⟩
      | true =>
        have HST : Hid (StoreO M p x (M.set i (o.r.put p x)) 0) := Lib.hid (.inl ⟨i, o.r, HH.out, hw, rfl, rfl⟩)
        clear hb2 hm hrm hsh hsh' ho hd hdl hc1 H1 HMD hw hm1
        go_wp2_with fail
        go_at_call 84
        refine (HS.out _).mono ?_
        rintro e w3 ⟨rfl, hb3⟩
        unfold wordAgg
        have HB3 : Hid (Below w1.heap.size w1 (w3.alloc (.cells (wordCells x).toArray 130))) := Lib.hid (by
          have h1 := bel_trans HB.out hb3
          exact h1.alloc h1.size _)
        have HO4 := Lib.hid (HO.out.below HB3.out)
        have HD4 := Lib.hid (HDB.out.below HB3.out HDB.out.lt)
        have hP := HO4.out.own.each o (List.mem_of_getElem? HOI.out)
        have hcp := run_copy_cells (P := Tryz.prog) (w3.alloc (.cells (wordCells x).toArray 130)) 64 64 3 5 o.g d m c ⟨w3.heap.size, 0, none⟩ 8 8 (wordCells x) Tryz.underlying64 (by kernel_rfl) (by show 8 = min 8 m; omega)
          (fun j v hv => by rw [add_at, Nat.zero_add, World.cell?_alloc_at _ _ _ _ (by simp)]; simpa using hv)
          (fun j hj => by
            have hj8 : j < 8 := hj
            have h1 := HM1.out
            have h2 := HDL.out
            unfold OReg.sl at hP
            rw [hP.cellAt (d + j) (by omega), b8_get (by omega)]; rfl)
          (fun j hj => by unfold OReg.sl at hP; exact hP.frozenAt (d + j))
          (fun v hv => by unfold wordCells at hv; simp only [List.mem_cons, List.not_mem_nil, or_false] at hv; rcases hv with rfl | rfl | rfl | rfl | rfl | rfl | rfl | rfl <;> rfl)
        have HF := Lib.hid (LndM.put (n := 0) (c := 0) HO4.out HD4.out HBD.out.1 HBD.out.2 HM.out HOI.out HD.out HST.out HG.out HRI.out)
        have HKB : Hid (Kp B E w1 (w3.alloc (.cells (wordCells x).toArray 130))) := Lib.hid (Kp.of HB3.out)
        clear hP hb3
        unfold wordCells at hcp
        go_wp2_with (at_builtin; refine wpList_cpy rfl _ _ 64 rfl _ _ rfl rfl _ _ hcp ?_)
        go_ret
        exact ⟨HKB.out.trans HF.out.1, _, 0, rfl, HST.out, HF.out.2⟩
end Mm
end Go.Proofs.YtmiphnocgepdgaaGreatDoor
namespace Go.Proofs.YtmiphnocgepdgaaGreatDoor
open Go Go.RowKit
namespace Mm
open Wd Nt
set_option linter.unusedVariables false
theorem memD : MemD LndM := {
  keep := fun h hk ho => h.keep hk ho
  shape := fun h => h.shape
  new := fun A n c rs w h hc => new_c A n c rs w h hc
  load := fun p h hp => load_c p h hp
  store := fun p v h hp hv => store_c p v h hp hv
  bytes := fun p n h hp hn => bytes_c p n h hp hn
  bytesN := fun w p n _ _ => bytesN_c w p n
  regions := fun h => regions_c h }
end Mm
end Go.Proofs.YtmiphnocgepdgaaGreatDoor
