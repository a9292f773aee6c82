/- The landed package's words: join, split. | The landed package's Load and Bytes. -/
import Derived.Test.YtikbnfhnimjmmaaGreatDoorQ10
namespace Go.Proofs.YtikbnfhnimjmmaaGreatDoor
open Go Go.RowKit Go.Shelf Go.Sort
namespace Mm
open Wd Nt
set_option linter.unusedVariables false
theorem wordN_last (bs : List Int) (k n : Nat) : wordN bs k (n + 1) = wordN bs k n + bt bs (k + n) * B256 n := by
  induction n generalizing k with
  | zero => show bt bs k + 256 * 0 = 0 + bt bs (k + 0) * 1; rw [Nat.add_zero]; omega
  | succ n ih =>
    show bt bs k + 256 * wordN bs (k + 1) (n + 1) = (bt bs k + 256 * wordN bs (k + 1) n) + bt bs (k + (n + 1)) * (256 * B256 n)
    rw [ih, show k + 1 + n = k + (n + 1) by omega, Int.mul_add, ← Int.mul_assoc 256 (bt bs _), Int.mul_comm 256 (bt bs _), Int.mul_assoc]
    omega
theorem wordN_cong {xs ys : List Int} {i j n : Nat} (h : ∀ t, t < n → bt xs (i + t) = bt ys (j + t)) : wordN xs i n = wordN ys j n := by
  induction n generalizing i j with
  | zero => rfl
  | succ n ih =>
    show bt xs i + 256 * wordN xs (i + 1) n = bt ys j + 256 * wordN ys (j + 1) n
    rw [ih (i := i + 1) (j := j + 1) (fun t ht => by have := h (t + 1) (by omega); rw [show i + 1 + t = i + (t + 1) by omega, show j + 1 + t = j + (t + 1) by omega]; exact this)]
    have := h 0 (by omega)
    simp only [Nat.add_zero] at this
    rw [this]
theorem pow_B256 (n : Nat) : (2 : Int) ^ (n * 8) = B256 n := by rw [Nat.mul_comm]; exact two_B256 n
theorem or_word {v b : Int} {t : Nat} (ht : t < 8) (hv : 0 ≤ v) (hv' : v < B256 t) (hb : 0 ≤ b) (hb' : b ≤ 255) : bits .or .u64 v (b * B256 t) = v + b * B256 t ∧ 0 ≤ b * B256 t ∧ b * B256 t ≤ 18446744073709551615 := by
  have h7 := B256_le (show t ≤ 7 by omega)
  rw [B256_7] at h7
  have hp := B256_pos t
  have h1 : 0 ≤ b * B256 t := Int.mul_nonneg hb (by omega)
  have h2 : b * B256 t ≤ 255 * B256 t := Int.mul_le_mul_of_nonneg_right hb' (by omega)
  refine ⟨?_, h1, by omega⟩
  obtain ⟨m, rfl⟩ := Int.eq_ofNat_of_zero_le hv
  obtain ⟨k, hk⟩ := Int.eq_ofNat_of_zero_le h1
  have h3 := or_add (b * B256 t) (m : Int) (t * 8) h1 (by omega) (by rw [pow_B256]; exact Int.mul_emod_left _ _) hv (by rw [pow_B256]; exact hv') (by omega)
  rw [hk] at h3 ⊢
  rw [u64_or_nat k m (by omega) (by omega)] at h3
  rw [u64_or_nat m k (by omega) (by omega), Nat.or_comm, h3]
  omega
set_option maxRecDepth 100000 in
set_option maxHeartbeats 2000000 in
theorem join_c {w : World} {B g o n c : Nat} {ys : List Int} (h : Hid (Rd8 w B (some ⟨g, o, none⟩) n ys)) (h8 : 8 ≤ n) (hc : n ≤ c) (hcm : c ≤ 9223372036854775807) :
    Calls Tryz.prog 187 #[.slice (some ⟨g, o, none⟩) n c] w fun e w' => e = .returned (.int .u64 (wordN ys 0 8)) ∧ w' = w := by
  have HN := Lib.hid h8
  have e1 : (8 : Int) ≤ (n : Int) := by omega
  have e2 : (8 : Int) ≤ (c : Int) := by omega
  go_enter Tryz.func187, Tryz.ntmps187
  go_wp2_with fail
  go_loopw [3, 9] (fun v i W => ∃ (t : Nat), t ≤ 8 ∧ v = .int .u64 (wordN ys 0 t) ∧ i = .int .i64 (t : Int) ∧ Hid (W = w)) (fun _ i _ => 8 - (intOf i).toNat)
  case atStart => exact ⟨0, by omega, rfl, rfl, Lib.hid rfl⟩
  case round =>
    obtain ⟨t, ht, rfl, rfl, hW⟩ := hrel
    obtain rfl := hW.out
    rcases Nat.lt_or_ge t 8 with ht8 | ht8
    · obtain ⟨ad, hA, _, hcell⟩ := h.out.at_ (k := t) (by omega)
      cases hA
      have hbt := h.out.ok.bt t
      have hwd := wordN_bd h.out.ok 0 t
      have hlast := wordN_last ys 0 t
      rw [Nat.zero_add] at hlast
      rw [add_at] at hcell
      obtain ⟨hor, hs0, hs1⟩ := or_word ht8 hwd.1 hwd.2 hbt.1 hbt.2
      have HLA := Lib.hid hlast
      generalize bt ys t = b at *
      generalize wordN ys 0 t = v at *
      have e3 : (t : Int) < 8 := by omega
      have e4 : (0 : Int) ≤ (t : Int) := by omega
      have e5 : IntKind.i64.wrap ((t : Int) * 8) = (t : Int) * 8 := IntWalk.i64_in _ (by omega)
      have e6 : (0 : Int) ≤ (t : Int) * 8 := by omega
      have e7 : ((t : Int) * 8).toNat = t * 8 := by omega
      have e8 := pow_B256 t
      have e9 : IntKind.u64.wrap (b * B256 t) = b * B256 t := by rw [IntKind.wrap_u64]; omega
      have e10 : IntKind.u64.wrap b = b := by rw [IntKind.wrap_u64]; omega
      have e11 : (t : Int) * 8 < 64 := by omega
      clear hlast hwd hs0 hs1
      go_wp2_with fail
      go_roundw
      case rel => exact ⟨t + 1, by omega, by rw [HLA.out], by go_num, Lib.hid trivial⟩
      case measure => (simp [intOf] <;> omega)
    · obtain rfl : t = 8 := by omega
      go_wp2_with fail
      go_ret
      exact ⟨rfl, rfl⟩
/-! ### split -/
/-- a word's first bytes, noughts behind them -/
def spl (v : Int) (t : Nat) : Array Value := ((List.range 8).map fun j => if j < t then Value.int .u8 (byteOf v j) else .int .u8 0).toArray
theorem spl_set (v : Int) {t : Nat} (ht : t < 8) : (spl v t).setIfInBounds t (.int .u8 (byteOf v t)) = spl v (t + 1) := by
  unfold spl
  apply Array.ext_getElem?
  intro i
  rw [Array.getElem?_setIfInBounds]
  simp only [List.size_toArray, List.length_map, List.length_range, List.getElem?_toArray, List.getElem?_map]
  by_cases hi : t = i
  · subst hi
    rw [if_pos rfl, if_pos ht, List.getElem?_range ht]
    simp
  · rw [if_neg hi]
    rcases Nat.lt_or_ge i 8 with h8 | h8
    · rw [List.getElem?_range h8]
      simp only [Option.map_some]
      by_cases h1 : i < t
      · rw [if_pos h1, if_pos (by omega)]
      · rw [if_neg h1, if_neg (by omega)]
    · rw [List.getElem?_eq_none (by simpa using h8)]; rfl
theorem spl_get (v : Int) {t : Nat} (ht : t < 8) : (spl v t)[t]? = some (.int .u8 0) := by
  unfold spl
  rw [List.getElem?_toArray, List.getElem?_map, List.getElem?_range ht]
  simp
theorem spl_eight (v : Int) : spl v 8 = #[.int .u8 (byteOf v 0), .int .u8 (byteOf v 1), .int .u8 (byteOf v 2), .int .u8 (byteOf v 3), .int .u8 (byteOf v 4), .int .u8 (byteOf v 5), .int .u8 (byteOf v 6), .int .u8 (byteOf v 7)] := by
  unfold spl
  simp [List.range, List.range.loop]
theorem byte_at' (v : Int) (n : Nat) : v / 2 ^ (n * 8) % 256 = byteOf v n := by rw [pow_B256]; rfl
def wordAgg (v : Int) : Value := .agg #[.int .u8 (byteOf v 0), .int .u8 (byteOf v 1), .int .u8 (byteOf v 2), .int .u8 (byteOf v 3), .int .u8 (byteOf v 4), .int .u8 (byteOf v 5), .int .u8 (byteOf v 6), .int .u8 (byteOf v 7)]
set_option maxRecDepth 100000 in
set_option maxHeartbeats 2000000 in
theorem split_c (v : Int) (hv : W v) (w : World) : Calls Tryz.prog 188 #[.int .u64 v] w fun e w' => e = .returned (wordAgg v) ∧ Below w.heap.size w w' := by
  unfold W at hv
  obtain ⟨hv0, hv1⟩ := hv
  go_enter Tryz.func188, Tryz.ntmps188
  go_wp2_with fail
  go_loopw [5] (fun i W => ∃ (t : Nat), t ≤ 8 ∧ i = .int .i64 (t : Int) ∧ Hid (Bk W (w.heap.size + 1) 243 (spl v t)) ∧ Hid (Below w.heap.size w W ∧ w.heap.size + 1 < W.heap.size) ∧ Hid (Bk W w.heap.size 243 (spl v 0))) (fun i _ => 8 - (intOf i).toNat)
  case atStart =>
    refine ⟨0, by omega, rfl, Lib.hid (Bk.new' (by simp)), Lib.hid ⟨((Below.refl _ w).alloc (Nat.le_refl _) _).alloc (by simp) _, by simp⟩, Lib.hid ((Bk.new _ _ _).alloc _)⟩
  case round =>
    obtain ⟨t, ht, rfl, hL, hB, hR⟩ := hrel
    rcases Nat.lt_or_ge t 8 with ht8 | ht8
    · have e3 : (t : Int) < 8 := by omega
      have e4 : (0 : Int) ≤ (t : Int) := by omega
      have e5 : IntKind.i64.wrap ((t : Int) * 8) = (t : Int) * 8 := IntWalk.i64_in _ (by omega)
      have e6 : (0 : Int) ≤ (t : Int) * 8 := by omega
      have e7 : ((t : Int) * 8).toNat = t * 8 := by omega
      have e8 := pow_B256 t
      have e11 : (t : Int) * 8 < 64 := by omega
      have e12 : ((t : Int)).toNat = t := by omega
      have c0 : wr.cell? ⟨w.heap.size + 1, t, none⟩ = some (.int .u8 0) := (hL.out.cell t).trans (spl_get v ht8)
      have f0 : wr.frozen? ⟨w.heap.size + 1, t, none⟩ = false := hL.out.frozen t
      go_wp2_with fail
      go_roundw
      case rel =>
        refine ⟨t + 1, by omega, by go_num, ?_, ?_, ?_⟩
        · have h1 := hL.out.set_ t (.int .u8 (byteOf v t))
          rw [spl_set v ht8] at h1
          exact Lib.hid h1
        · exact Lib.hid ⟨hB.out.1.setCell (p := ⟨w.heap.size + 1, t, none⟩) (by simp) _, by simp [World.setCell]; exact hB.out.2⟩
        · exact Lib.hid (hR.out.far (p := ⟨w.heap.size + 1, t, none⟩) (by simp) _)
      case measure => (simp [intOf] <;> omega)
    · obtain rfl : t = 8 := by omega
      have r : ∀ i, wr.cell? ⟨w.heap.size, i, none⟩ = (spl v 0)[i]? := fun i => hR.out.cell i
      have l : ∀ i, wr.cell? ⟨w.heap.size + 1, i, none⟩ = (spl v 8)[i]? := fun i => hL.out.cell i
      have r0 : wr.cell? ⟨w.heap.size, 0, none⟩ = some (.int .u8 0) := r 0
      have r1 : wr.cell? ⟨w.heap.size, 1, none⟩ = some (.int .u8 0) := r 1
      have r2 : wr.cell? ⟨w.heap.size, 2, none⟩ = some (.int .u8 0) := r 2
      have r3 : wr.cell? ⟨w.heap.size, 3, none⟩ = some (.int .u8 0) := r 3
      have r4 : wr.cell? ⟨w.heap.size, 4, none⟩ = some (.int .u8 0) := r 4
      have r5 : wr.cell? ⟨w.heap.size, 5, none⟩ = some (.int .u8 0) := r 5
      have r6 : wr.cell? ⟨w.heap.size, 6, none⟩ = some (.int .u8 0) := r 6
      have r7 : wr.cell? ⟨w.heap.size, 7, none⟩ = some (.int .u8 0) := r 7
      have g0 : ∀ i, wr.frozen? ⟨w.heap.size, i, none⟩ = false := fun i => hR.out.frozen i
      have l0 : wr.cell? ⟨w.heap.size + 1, 0, none⟩ = some (.int .u8 (byteOf v 0)) := l 0
      have l1 : wr.cell? ⟨w.heap.size + 1, 1, none⟩ = some (.int .u8 (byteOf v 1)) := l 1
      have l2 : wr.cell? ⟨w.heap.size + 1, 2, none⟩ = some (.int .u8 (byteOf v 2)) := l 2
      have l3 : wr.cell? ⟨w.heap.size + 1, 3, none⟩ = some (.int .u8 (byteOf v 3)) := l 3
      have l4 : wr.cell? ⟨w.heap.size + 1, 4, none⟩ = some (.int .u8 (byteOf v 4)) := l 4
      have l5 : wr.cell? ⟨w.heap.size + 1, 5, none⟩ = some (.int .u8 (byteOf v 5)) := l 5
      have l6 : wr.cell? ⟨w.heap.size + 1, 6, none⟩ = some (.int .u8 (byteOf v 6)) := l 6
      have l7 : wr.cell? ⟨w.heap.size + 1, 7, none⟩ = some (.int .u8 (byteOf v 7)) := l 7
      have hbk := ((((((((hR.out.set_ 0 (.int .u8 (byteOf v 0))).set_ 1 (.int .u8 (byteOf v 1))).set_ 2 (.int .u8 (byteOf v 2))).set_ 3 (.int .u8 (byteOf v 3))).set_ 4 (.int .u8 (byteOf v 4))).set_ 5 (.int .u8 (byteOf v 5))).set_ 6 (.int .u8 (byteOf v 6))).set_ 7 (.int .u8 (byteOf v 7)))
      rw [spl_set v (t := 0) (by omega), spl_set v (t := 1) (by omega), spl_set v (t := 2) (by omega), spl_set v (t := 3) (by omega), spl_set v (t := 4) (by omega), spl_set v (t := 5) (by omega), spl_set v (t := 6) (by omega), spl_set v (t := 7) (by omega), spl_eight] at hbk
      have HBk := Lib.hid hbk
      clear hbk
      have HBl := Lib.hid ((((((((hB.out.1.setCell (p := ⟨w.heap.size, 0, none⟩) (by simp) (.int .u8 (byteOf v 0))).setCell (p := ⟨w.heap.size, 1, none⟩) (by simp) (.int .u8 (byteOf v 1))).setCell (p := ⟨w.heap.size, 2, none⟩) (by simp) (.int .u8 (byteOf v 2))).setCell (p := ⟨w.heap.size, 3, none⟩) (by simp) (.int .u8 (byteOf v 3))).setCell (p := ⟨w.heap.size, 4, none⟩) (by simp) (.int .u8 (byteOf v 4))).setCell (p := ⟨w.heap.size, 5, none⟩) (by simp) (.int .u8 (byteOf v 5))).setCell (p := ⟨w.heap.size, 6, none⟩) (by simp) (.int .u8 (byteOf v 6))).setCell (p := ⟨w.heap.size, 7, none⟩) (by simp) (.int .u8 (byteOf v 7)))
      clear r l
      go_wp2_with fail
      refine bodyPost_ret (v := wordAgg v) (results_cell_row rfl _ _ w.heap.size 243 #[.int .u8 (byteOf v 0), .int .u8 (byteOf v 1), .int .u8 (byteOf v 2), .int .u8 (byteOf v 3), .int .u8 (byteOf v 4), .int .u8 (byteOf v 5), .int .u8 (byteOf v 6), .int .u8 (byteOf v 7)] (0, 0) _ rfl HBk.out Tryz.underlying243 rfl (by kernel_rfl)) rfl ⟨rfl, ?_⟩
      exact HBl.out
end Mm
end Go.Proofs.YtikbnfhnimjmmaaGreatDoor
namespace Go.Proofs.YtikbnfhnimjmmaaGreatDoor
open Go Go.RowKit Go.Shelf Go.Sort
namespace Mm
open Wd Nt
set_option linter.unusedVariables false
/-- its parts, as a call goes by them -/
theorem LndM.parts {w : World} {B E : Nat} {P : Value} {M : List Reg} (h : LndM w B E P M) : ∃ D v os, P = .pointer (some ⟨D, 0, none⟩) ∧ Bk w D 118 #[.pointer (some ⟨D, 0, none⟩), v] ∧ OwnI w B E v os ∧ (Good (os.map (·.r)) ∧ Rising (os.map (·.r))) ∧ os.map (·.r) = M := by
  obtain ⟨D, v, os, h1, h2, h3, h4, h5, h6⟩ := h.ex
  exact ⟨D, v, os, h1, h2, h5, by rw [h6]; exact ⟨h.good, h.rise⟩, h6⟩
theorem none_hits {M : List Reg} {os : List OReg} {p n : Int} (hM : os.map (·.r) = M) (h : ∀ (i : Nat) (o : OReg), os[i]? = some o → ¬ (o.r.base ≤ p ∧ p < o.r.base + o.r.len)) (i : Nat) (r : Reg) : ¬ Hits M p n i r := by
  rintro ⟨h1, h2, h3, _⟩
  rw [← hM, List.getElem?_map] at h1
  obtain ⟨o, ho, rfl⟩ := Option.map_eq_some_iff.1 h1
  exact h i o ho ⟨h2, h3⟩
theorem some_hits {M : List Reg} {os : List OReg} {p n : Int} {i d : Nat} {o : OReg} (hM : os.map (·.r) = M) (ho : os[i]? = some o) (hd : p - o.r.base = (d : Int)) (hl : d < o.r.bytes.length) (hn : n ≤ (o.r.bytes.length : Int) - d) : Hits M p n i o.r := by
  have e : o.r.len = o.r.bytes.length := rfl
  exact ⟨by rw [← hM, List.getElem?_map, ho]; rfl, by omega, by omega, by omega⟩
theorem few_hits {M : List Reg} {os : List OReg} {p n : Int} {i d : Nat} {o : OReg} (hG : Good M) (hM : os.map (·.r) = M) (ho : os[i]? = some o) (hd : p - o.r.base = (d : Int)) (hl : d < o.r.bytes.length) (hn : (o.r.bytes.length : Int) - d < n) (j : Nat) (r : Reg) : ¬ Hits M p n j r := by
  intro h
  have h0 := some_hits (n := 0) hM ho hd hl (by omega)
  obtain ⟨rfl, rfl⟩ := h.uniq hG h0
  have e : o.r.len = o.r.bytes.length := rfl
  have := h.2.2.2
  omega
set_option maxRecDepth 100000 in
set_option maxHeartbeats 2000000 in
theorem load_c {w : World} {B E : Nat} {P : Value} {M : List Reg} (p : Int) (h : Hid (LndM w B E P M)) (hp : W p) :
    Calls Tryz.prog 115 #[P, .int .u64 p] w (LoadP M p w) := by
  obtain ⟨D, v, os, rfl, hD, hO, hG, hM⟩ := h.out.parts
  have HM := Lib.hid hM
  have HG := Lib.hid h.out.good
  have HMD := Lib.hid (made_c (hD.cell 0))
  have H1 := Lib.hid (from_c p hp (Lib.hid hO) (Lib.hid hD) (Lib.hid hG))
  have HO := Lib.hid hO
  clear hD hO hG hM hp
  go_enter Tryz.func115, Tryz.ntmps115
  go_wp2_with fail
  go_at_call 81
  refine HMD.out.mono ?_
  rintro e w1 ⟨rfl, rfl⟩
  go_wp2_with fail
  go_at_call 186
  refine H1.out.mono ?_
  rintro e w2 ⟨hb2, ⟨hno, rfl⟩ | ⟨i, o, d, ho, hd, hdl, rfl⟩⟩
  · have HNO := Lib.hid hno
    have HB := Lib.hid hb2
    clear hno hb2 H1 HMD
    go_wp2_with fail
    go_ret2
    exact ⟨HB.out, _, _, rfl, .inr ⟨fun i r => none_hits HM.out HNO.out i r, rfl, rfl⟩⟩
  · have HB := Lib.hid hb2
    have hm := List.mem_of_getElem? ho
    have hrm := sl_room (HO.out.own.each o hm)
    have hrd := (HO.out.below hb2).own.rd8 hm
    have hsh := HG.out.short i o.r (by rw [← HM.out, List.getElem?_map, ho]; rfl)
    have hsh' : o.r.bytes.length ≤ 1048576 := by unfold Reg.len at hsh; omega
    have HOI := Lib.hid ho
    have HD := Lib.hid hd
    have HDL := Lib.hid hdl
    obtain ⟨m, hm1⟩ : ∃ m, m = o.r.bytes.length - d := ⟨_, rfl⟩
    obtain ⟨c, hc1⟩ : ∃ c, c = o.c - d := ⟨_, rfl⟩
    have hcut := hrd.cut d m (by omega)
    rw [Nat.zero_add] at hcut
    rw [← hm1, ← hc1]
    have hmc : m ≤ c := by omega
    have hcm : c ≤ 9223372036854775807 := by omega
    have HM1 := Lib.hid hm1
    rcases Nat.lt_or_ge m 8 with hlt | hge
    · have HNH : Hid (∀ i r, ¬ Hits M p 8 i r) := Lib.hid (few_hits HG.out HM.out HOI.out HD.out HDL.out (by omega))
      have hlti : (m : Int) < 8 := by omega
      clear hb2 hm hrm hrd hsh hsh' ho hd hdl hcut hm1 hc1 H1 HMD
      go_wp2_with fail
      go_ret2
      exact ⟨HB.out, _, _, rfl, .inr ⟨HNH.out, rfl, rfl⟩⟩
    · have H3 := Lib.hid (join_c (c := c) (Lib.hid hcut) hge hmc hcm)
      have HV : Hid (LoadO M p (wordN ((o.r.bytes.drop d).take m) 0 8) 0) := Lib.hid (.inl ⟨i, o.r, some_hits HM.out HOI.out HD.out HDL.out (by omega), by
        rw [HD.out, Int.toNat_natCast]
        refine wordN_cong (fun t ht => ?_)
        unfold bt
        rw [List.getElem?_take, if_pos (by omega), List.getElem?_drop, Nat.zero_add], rfl⟩)
      have hgei : (8 : Int) ≤ (m : Int) := by omega
      clear hb2 hm hrm hrd hsh hsh' ho hd hdl hcut hm1 hc1 H1 HMD
      go_wp2_with fail
      go_at_call 187
      refine H3.out.mono ?_
      rintro e w3 ⟨rfl, rfl⟩
      go_wp2_with fail
      go_ret2
      exact ⟨HB.out, _, _, rfl, HV.out⟩
set_option maxRecDepth 100000 in
set_option maxHeartbeats 2000000 in
theorem bytes_c {w : World} {B E : Nat} {P : Value} {M : List Reg} (p n : Int) (h : Hid (LndM w B E P M)) (hp : W p) (hn : (Lit.int .i64 n).wf = true) :
    Calls Tryz.prog 114 #[P, .int .u64 p, .int .i64 n] w (BytesP M p n w) := by
  have hk' : -9223372036854775808 ≤ n ∧ n ≤ 9223372036854775807 := by
    simp [Lit.wf, IntKind.min, IntKind.max, IntKind.signed, IntKind.bits] at hn; omega
  obtain ⟨D, v, os, rfl, hD, hO, hG, hM⟩ := h.out.parts
  have HM := Lib.hid hM
  have HG := Lib.hid h.out.good
  have HMD := Lib.hid (made_c (hD.cell 0))
  have H1 := Lib.hid (from_c p hp (Lib.hid hO) (Lib.hid hD) (Lib.hid hG))
  have HO := Lib.hid hO
  clear hD hO hG hM hp hn
  rcases Int.lt_or_le n 0 with hneg | hpos
  · have HN := Lib.hid hneg
    clear hk' H1
    go_enter Tryz.func114, Tryz.ntmps114
    go_wp2_with fail
    go_at_call 81
    refine HMD.out.mono ?_
    rintro e w1 ⟨rfl, rfl⟩
    go_wp2_with fail
    go_ret2
    exact ⟨Below.refl _ _, [], 2, rfl, .inl ⟨HN.out, rfl, rfl⟩⟩
  · obtain ⟨k, rfl⟩ : ∃ k : Nat, n = (k : Int) := ⟨n.toNat, by omega⟩
    have hk0 : (0 : Int) ≤ (k : Int) := by omega
    have hk2 : (k : Int) ≤ 9223372036854775807 := hk'.2
    clear hk' hpos
    go_enter Tryz.func114, Tryz.ntmps114
    go_wp2_with fail
    go_at_call 81
    refine HMD.out.mono ?_
    rintro e w1 ⟨rfl, rfl⟩
    go_wp2_with fail
    go_at_call 186
    refine H1.out.mono ?_
    rintro e w2 ⟨hb2, ⟨hno, rfl⟩ | ⟨i, o, d, ho, hd, hdl, rfl⟩⟩
    · have HNO := Lib.hid hno
      have HB := Lib.hid hb2
      have hmx : (0 : Int) < max (k : Int) 1 := by omega
      clear hno hb2 H1 HMD
      go_wp2_with fail
      go_ret2
      exact ⟨HB.out, [], 11, rfl, .inr (.inr ⟨by omega, fun i r => none_hits HM.out HNO.out i r, rfl, rfl⟩)⟩
    · have HB := Lib.hid hb2
      have hm := List.mem_of_getElem? ho
      have hrm := sl_room (HO.out.own.each o hm)
      have hrd := (HO.out.below hb2).own.rd8 hm
      have hsh := HG.out.short i o.r (by rw [← HM.out, List.getElem?_map, ho]; rfl)
      have hsh' : o.r.bytes.length ≤ 1048576 := by unfold Reg.len at hsh; omega
      have HOI := Lib.hid ho
      have HD := Lib.hid hd
      have HDL := Lib.hid hdl
      obtain ⟨m, hm1⟩ : ∃ m, m = o.r.bytes.length - d := ⟨_, rfl⟩
      obtain ⟨c, hc1⟩ : ∃ c, c = o.c - d := ⟨_, rfl⟩
      rw [← hm1, ← hc1]
      have hmc : m ≤ c := by omega
      have hcm : c ≤ 9223372036854775807 := by omega
      have hm1' : 1 ≤ m := by omega
      have HM1 := Lib.hid hm1
      rcases Nat.lt_or_ge m k with hlt | hge
      · have HNH : Hid (∀ i r, ¬ Hits M p (k : Int) i r) := Lib.hid (few_hits HG.out HM.out HOI.out HD.out HDL.out (by omega))
        have hmx : (m : Int) < max (k : Int) 1 := by omega
        clear hb2 hm hrm hrd hsh hsh' ho hd hdl hm1 hc1 H1 HMD
        go_wp2_with fail
        go_ret2
        exact ⟨HB.out, [], 11, rfl, .inr (.inr ⟨by omega, HNH.out, rfl, rfl⟩)⟩
      · have hcut := hrd.cut d k (by omega)
        rw [Nat.zero_add] at hcut
        have hst := run_str (w := w2) c hcut
        have HS : Hid (BytesO M p (k : Int) ((o.r.bytes.drop d).take k) 0) := Lib.hid (.inr (.inl ⟨by omega, i, o.r, some_hits HM.out HOI.out HD.out HDL.out (by omega), by rw [HD.out]; rfl, rfl⟩))
        generalize (o.r.bytes.drop d).take k = bs at *
        have hmx : ¬ ((m : Int) < max (k : Int) 1) := by omega
        have hmx2 : max (k : Int) 1 ≤ (m : Int) := by omega
        have hki : (k : Int) ≤ (m : Int) := by omega
        have hkc : (k : Int) ≤ (c : Int) := by omega
        have hkc2 : k ≤ c := by omega
        clear hb2 hm hrm hrd hsh hsh' ho hd hdl hm1 hc1 H1 HMD hcut
        go_wp2_with fail
        go_ret2
        exact ⟨HB.out, bs, 0, rfl, HS.out⟩
end Mm
end Go.Proofs.YtikbnfhnimjmmaaGreatDoor
