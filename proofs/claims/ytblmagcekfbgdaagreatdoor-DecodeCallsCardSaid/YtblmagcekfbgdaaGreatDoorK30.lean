/- The document's own bytes: a place's, without a displacement. -/
import Derived.Test.YtblmagcekfbgdaaGreatDoorK1
namespace Go.Proofs.YtblmagcekfbgdaaGreatDoor
open Go Go.RowKit
namespace Is
open Nt
set_option linter.unusedVariables false
set_option linter.unusedSimpArgs false
set_option maxRecDepth 100000 in
set_option maxHeartbeats 4000000 in
theorem place_0n (op d s t m b im : Int) (hm : R16 m) (hb : R16 b) (h5 : b % 8 ≠ 5) (h4 : b % 8 ≠ 4) (w : World) : Calls Tryz.prog 56 #[.int .i64 m, .agg #[.int .i64 b, .int .i64 (-1), .int .i64 1, .int .i64 0]] w (RowB (plcL m ⟨op, d, s, t, b, (-1), 1, 0, im⟩) w) := by
  obtain ⟨i0, hi, hz, q1, q2⟩ := info_parts info_u8
  obtain ⟨m1, m2⟩ := hm
  obtain ⟨b1, b2⟩ := hb
  have hmd : mdI ⟨op, d, s, t, b, (-1), 1, 0, im⟩ = 0 := by unfold mdI; dsimp only; rw [if_pos (show (0 : Int) = 0 ∧ b % 8 ≠ 5 from ⟨rfl, h5⟩)]
  have hdn : dnI ⟨op, d, s, t, b, (-1), 1, 0, im⟩ = 0 := by unfold dnI; dsimp only; rw [if_pos (show (0 : Int) = 0 ∧ b % 8 ≠ 5 from ⟨rfl, h5⟩)]
  have hsb : sibL ⟨op, d, s, t, b, (-1), 1, 0, im⟩ = [] := by unfold sibL; dsimp only; rw [if_pos (show (-1 : Int) = -1 ∧ b % 8 ≠ 4 from ⟨rfl, h4⟩)]
  have HE : Hid (plcL m ⟨op, d, s, t, b, (-1), 1, 0, im⟩ = ((64 * 0 + 8 * (m % 8) + b % 8) :: ([] ++ ltl 0 0))) := Lib.hid (by unfold plcL; rw [hmd, hdn, hsb]; dsimp only; rw [if_pos (show (-1 : Int) = -1 ∧ b % 8 ≠ 4 from ⟨rfl, h4⟩)])
  clear hmd hdn hsb
  have g1 : (b % 8 == 5) = false := by rw [beq_eq_false_iff_ne]; exact h5
  have g2 : (b % 8 != 5) = true := by rw [bne, g1]; rfl
  have g6 : (b % 8 == 4) = false := by rw [beq_eq_false_iff_ne]; exact h4
  have HH4 := Lib.hid h4
  go_enter Tryz.func56, Tryz.ntmps56
  go_wp2_with fail
  generalize hW : (w.alloc _).alloc _ = W1
  have HB3 : Below w.heap.size w W1 := by rw [← hW]; exact ((Below.refl _ w).alloc (Nat.le_refl _) _).alloc (by simp) _
  have HL1 : Bk W1 (w.heap.size + 1) 5 (bv [64 * 0 + 8 * (m % 8) + b % 8]).toArray := by
    rw [← hW]
    have h := Bk.new (w.alloc (.cells #[.int .i64 b, .int .i64 (-1), .int .i64 1, .int .i64 0] 24)) 5 #[.int .u8 (64 * 0 + 8 * (m % 8) + b % 8)]
    rw [show (w.alloc (.cells #[.int .i64 b, .int .i64 (-1), .int .i64 1, .int .i64 0] 24)).heap.size = w.heap.size + 1 by simp] at h
    first | exact h | (simpa [bv] using h)
  clear hW
  have o2 := own_lit8 (B := w.heap.size) HL1 (by omega) (by simp)
  go_at_call 55
  refine (little_c 0 0 (by decide) _).mono ?_
  rintro e w5 ⟨v5, rfl, o5, hb5⟩
  have o2' : w5.ownsRow w.heap.size 5 1 _ [64 * 0 + 8 * (m % 8) + b % 8].length (bv [64 * 0 + 8 * (m % 8) + b % 8]) := own_keep o2 hb5
  obtain ⟨v6, w6, hap, o6, hg6⟩ := own_app8 63 o2' o5 (by simp [ltl_len]) (Nat.le_trans HB3.size hb5.size)
  have HB6 : Below w.heap.size w w6 := ((HB3.trans (hb5.mono HB3.size)).grown hg6 (Nat.le_trans HB3.size hb5.size) (fun g e => (o2'.lt g e).1))
  go_wp2_with (at_builtin; refine wpList_append_eq rfl _ _ 63 rfl _ _ rfl rfl _ _ hap ?_)
  go_ret
  exact ⟨_, rfl, by rw [HE.out]; first | exact o6 | (simpa using o6), HB6⟩

set_option maxRecDepth 100000 in
set_option maxHeartbeats 4000000 in
theorem place_0m (op d s t m b im : Int) (hm : R16 m) (hb : R16 b) (h5 : b % 8 ≠ 5) (h4 : b % 8 = 4) (w : World) : Calls Tryz.prog 56 #[.int .i64 m, .agg #[.int .i64 b, .int .i64 (-1), .int .i64 1, .int .i64 0]] w (RowB (plcL m ⟨op, d, s, t, b, (-1), 1, 0, im⟩) w) := by
  obtain ⟨i0, hi, hz, q1, q2⟩ := info_parts info_u8
  obtain ⟨m1, m2⟩ := hm
  obtain ⟨b1, b2⟩ := hb
  have hmd : mdI ⟨op, d, s, t, b, (-1), 1, 0, im⟩ = 0 := by unfold mdI; dsimp only; rw [if_pos (show (0 : Int) = 0 ∧ b % 8 ≠ 5 from ⟨rfl, h5⟩)]
  have hdn : dnI ⟨op, d, s, t, b, (-1), 1, 0, im⟩ = 0 := by unfold dnI; dsimp only; rw [if_pos (show (0 : Int) = 0 ∧ b % 8 ≠ 5 from ⟨rfl, h5⟩)]
  have hsb : sibL ⟨op, d, s, t, b, (-1), 1, 0, im⟩ = [64 * 0 + 8 * 4 + b % 8] := by unfold sibL; dsimp only; rw [if_neg (show ¬ ((-1 : Int) = -1 ∧ b % 8 ≠ 4) by omega)]; first | rfl | (unfold xiI; rfl)
  have HE : Hid (plcL m ⟨op, d, s, t, b, (-1), 1, 0, im⟩ = ((64 * 0 + 8 * (m % 8) + 4) :: ([64 * 0 + 8 * 4 + b % 8] ++ ltl 0 0))) := Lib.hid (by unfold plcL; rw [hmd, hdn, hsb]; dsimp only; rw [if_neg (show ¬ ((-1 : Int) = -1 ∧ b % 8 ≠ 4) by omega)])
  clear hmd hdn hsb
  have g1 : (b % 8 == 5) = false := by rw [beq_eq_false_iff_ne]; exact h5
  have g2 : (b % 8 != 5) = true := by rw [bne, g1]; rfl
  have g6 : (b % 8 == 4) = true := by rw [beq_iff_eq]; exact h4
  have HH4 := Lib.hid h4
  clear h4
  go_enter Tryz.func56, Tryz.ntmps56
  go_wp2_with fail
  generalize hW : (w.alloc _).alloc _ = W1
  have HM1 : Bk W1 w.heap.size 24 #[.int .i64 b, .int .i64 (-1), .int .i64 1, .int .i64 0] := by rw [← hW]; exact (Bk.new w _ _).alloc _
  obtain ⟨v0, HV0, HL1⟩ : ∃ v0, Hid (v0 = 64 * 0 + 8 * (m % 8) + b % 8) ∧ Bk W1 (w.heap.size + 1) 5 #[.int .u8 v0] := by
    refine ⟨_, Lib.hid rfl, ?_⟩
    rw [← hW]
    have h := Bk.new (w.alloc (.cells #[.int .i64 b, .int .i64 (-1), .int .i64 1, .int .i64 0] 24)) 5 #[.int .u8 (64 * 0 + 8 * (m % 8) + b % 8)]
    rw [show (w.alloc (.cells #[.int .i64 b, .int .i64 (-1), .int .i64 1, .int .i64 0] 24)).heap.size = w.heap.size + 1 by simp] at h
    first | exact h | (simpa using h)
  have HB1 : Below w.heap.size w W1 := by rw [← hW]; exact ((Below.refl _ w).alloc (Nat.le_refl _) _).alloc (by simp) _
  have hs1 : W1.heap.size = w.heap.size + 2 := by rw [← hW]; simp
  clear hW
  have r0 : W1.drew.cell? ⟨w.heap.size, 0, none⟩ = some (.int .i64 b) := HM1.drew.cell 0
  have r1 : W1.drew.cell? ⟨w.heap.size + 1, 0, none⟩ = some (.int .u8 v0) := HL1.drew.cell 0
  have r2 : W1.drew.frozen? ⟨w.heap.size + 1, 0, none⟩ = false := HL1.drew.frozen 0
  have v1 : 0 ≤ v0 ∧ v0 ≤ 255 := by have := HV0.out; omega
  have v2 : 0 ≤ v0 - b % 8 ∧ v0 - b % 8 ≤ 251 := by have := HV0.out; omega
  go_region
  all_goals
    generalize hW2 : World.drew (World.setCell _ _ _) = W2
    have HM2 : Bk W2 w.heap.size 24 #[.int .i64 b, .int .i64 (-1), .int .i64 1, .int .i64 0] := by rw [← hW2]; exact (HM1.far (p := ⟨w.heap.size + 1, 0, none⟩) (by show w.heap.size ≠ w.heap.size + 1; omega) _).drew
    have HL2 : Bk W2 (w.heap.size + 1) 5 (bv [64 * 0 + 8 * (m % 8) + 4]).toArray := by
      rw [← hW2]
      have h := (HL1.set_ 0 (.int .u8 (64 * 0 + 8 * (m % 8) + 4))).drew
      have e : v0 - b % 8 + 4 = 64 * 0 + 8 * (m % 8) + 4 := by have := HV0.out; omega
      first | exact h | (rw [e]; exact h) | (simp only [e]; exact h)
    have HB2 : Below w.heap.size w W2 := by rw [← hW2]; exact (HB1.setCell (p := ⟨w.heap.size + 1, 0, none⟩) (by show w.heap.size ≤ w.heap.size + 1; omega) _).drew
    have hs2 : W2.heap.size = w.heap.size + 2 := by rw [← hW2]; simp [hs1]
    clear hW2 r0 r1 r2 HM1 HL1 HB1 hs1 HV0 v1 v2
    have o1 : W2.ownsRow w.heap.size 5 1 (.slice (some ⟨w.heap.size + 1, 0, none⟩) 1 1) 1 (bv [64 * 0 + 8 * (m % 8) + 4]) := own_lit8 (B := w.heap.size) HL2 (by omega) (by simp)
    obtain ⟨A0, n0', c0', hsv⟩ : ∃ A0 n0 c0, Value.slice (some ⟨w.heap.size + 1, 0, none⟩) 1 1 = .slice A0 n0 c0 := ⟨_, _, _, rfl⟩
    have hob : (Value.slice A0 n0' c0').ownBlock = some (w.heap.size + 1) := by rw [← hsv]; rfl
    rw [hsv] at o1 ⊢
    have hle := HB2.size
    clear hsv hs2
    have n0 : W2.cell? ⟨w.heap.size, 0, none⟩ = some (.int .i64 b) := HM2.cell 0
    have n1 : W2.cell? ⟨w.heap.size, 1, none⟩ = some (.int .i64 (-1)) := HM2.cell 1
    have n2 : W2.cell? ⟨w.heap.size, 2, none⟩ = some (.int .i64 1) := HM2.cell 2
    have n3 : W2.cell? ⟨w.heap.size, 3, none⟩ = some (.int .i64 0) := HM2.cell 3
    go_wp2_with (at_builtin; go_loud (refine wpList_append_own _ rfl _ _ 63 rfl w.heap.size 5 i0 _ 1 1 Tryz.underlying63 hi hz q1 q2 rfl (by decide) _ 1 _ rfl (o1.alloc _) ⟨W2.heap.size, 0, none⟩ 1 1 [.int .u8 (32 + b % 8)] rfl rfl (one_new8 W2 (32 + b % 8)) (by simp [Value.oneCell']) (by simp only [maxLen]; omega) (by omega) (by simp; omega) ?_); intro v' w1 hown hgrow hnil; change (W2.alloc (.cells #[.int .u8 (32 + b % 8)] 5)).grownBy w1 (Value.slice A0 n0' c0').ownBlock at hgrow; rw [hob] at hgrow; have HM3 : Bk w1 w.heap.size 24 #[.int .i64 b, .int .i64 (-1), .int .i64 1, .int .i64 0] := (hgrow.block _ (by simp; omega) (by simp)).trans (HM2.alloc _); have n30 := HM3.cell 3; change w1.cell? ⟨w.heap.size, 3, none⟩ = some (.int .i64 0) at n30)
    have HB3 : Below w.heap.size w w1 := (HB2.alloc (by omega) _).grown hgrow (by simp; omega) (fun g e => by simp at e; omega)
    have o2 : w1.ownsRow w.heap.size 5 1 v' [64 * 0 + 8 * (m % 8) + 4, 64 * 0 + 8 * 4 + b % 8].length (bv [64 * 0 + 8 * (m % 8) + 4, 64 * 0 + 8 * 4 + b % 8]) := by first | exact hown | (simpa [bv] using hown) | (have hh4 := HH4.out; rw [hh4]; first | exact hown | (simpa [bv] using hown))
    clear hown hgrow hnil o1 HM2 HL2 HB2 hle n0 n1 n2 n3
    go_at_call 55
    refine (little_c 0 0 (by decide) _).mono ?_
    rintro e w5 ⟨v5, rfl, o5, hb5⟩
    have o2' : w5.ownsRow w.heap.size 5 1 _ [64 * 0 + 8 * (m % 8) + 4, 64 * 0 + 8 * 4 + b % 8].length (bv [64 * 0 + 8 * (m % 8) + 4, 64 * 0 + 8 * 4 + b % 8]) := own_keep o2 hb5
    obtain ⟨v6, w6, hap, o6, hg6⟩ := own_app8 63 o2' o5 (by simp [ltl_len]) (Nat.le_trans HB3.size hb5.size)
    have HB6 : Below w.heap.size w w6 := ((HB3.trans (hb5.mono HB3.size)).grown hg6 (Nat.le_trans HB3.size hb5.size) (fun g e => (o2'.lt g e).1))
    go_wp2_with (at_builtin; refine wpList_append_eq rfl _ _ 63 rfl _ _ rfl rfl _ _ hap ?_)
    go_ret
    exact ⟨_, rfl, by rw [HE.out]; first | exact o6 | (simpa using o6), HB6⟩

set_option maxRecDepth 100000 in
set_option maxHeartbeats 4000000 in
theorem place_0r1 (op d s t m b x im : Int) (hm : R16 m) (hb : R16 b) (h5 : b % 8 ≠ 5) (hx : R16 x) (w : World) : Calls Tryz.prog 56 #[.int .i64 m, .agg #[.int .i64 b, .int .i64 x, .int .i64 1, .int .i64 0]] w (RowB (plcL m ⟨op, d, s, t, b, x, 1, 0, im⟩) w) := by
  obtain ⟨i0, hi, hz, q1, q2⟩ := info_parts info_u8
  obtain ⟨m1, m2⟩ := hm
  obtain ⟨b1, b2⟩ := hb
  obtain ⟨x1, x2⟩ := hx
  have x3 : ¬ (x = -1) := by omega
  have x4 : (x == -1) = false := by rw [beq_eq_false_iff_ne]; exact x3
  have x5 : (x != -1) = true := by rw [bne, x4]; rfl
  have hmd : mdI ⟨op, d, s, t, b, x, 1, 0, im⟩ = 0 := by unfold mdI; dsimp only; rw [if_pos (show (0 : Int) = 0 ∧ b % 8 ≠ 5 from ⟨rfl, h5⟩)]
  have hdn : dnI ⟨op, d, s, t, b, x, 1, 0, im⟩ = 0 := by unfold dnI; dsimp only; rw [if_pos (show (0 : Int) = 0 ∧ b % 8 ≠ 5 from ⟨rfl, h5⟩)]
  have hsb : sibL ⟨op, d, s, t, b, x, 1, 0, im⟩ = [64 * 0 + 8 * (x % 8) + b % 8] := by unfold sibL; dsimp only; rw [if_neg (show ¬ (x = -1 ∧ b % 8 ≠ 4) by omega)]; first | rfl | (unfold xiI; rw [if_neg (show ¬ (x = -1) by omega)]; rfl)
  have HE : Hid (plcL m ⟨op, d, s, t, b, x, 1, 0, im⟩ = ((64 * 0 + 8 * (m % 8) + 4) :: ([64 * 0 + 8 * (x % 8) + b % 8] ++ ltl 0 0))) := Lib.hid (by unfold plcL; rw [hmd, hdn, hsb]; dsimp only; rw [if_neg (show ¬ (x = -1 ∧ b % 8 ≠ 4) by omega)])
  clear hmd hdn hsb
  have g1 : (b % 8 == 5) = false := by rw [beq_eq_false_iff_ne]; exact h5
  have g2 : (b % 8 != 5) = true := by rw [bne, g1]; rfl
  go_enter Tryz.func56, Tryz.ntmps56
  go_wp2_with fail
  generalize hW : (w.alloc _).alloc _ = W1
  have HM1 : Bk W1 w.heap.size 24 #[.int .i64 b, .int .i64 x, .int .i64 1, .int .i64 0] := by rw [← hW]; exact (Bk.new w _ _).alloc _
  obtain ⟨v0, HV0, HL1⟩ : ∃ v0, Hid (v0 = 64 * 0 + 8 * (m % 8) + b % 8) ∧ Bk W1 (w.heap.size + 1) 5 #[.int .u8 v0] := by
    refine ⟨_, Lib.hid rfl, ?_⟩
    rw [← hW]
    have h := Bk.new (w.alloc (.cells #[.int .i64 b, .int .i64 x, .int .i64 1, .int .i64 0] 24)) 5 #[.int .u8 (64 * 0 + 8 * (m % 8) + b % 8)]
    rw [show (w.alloc (.cells #[.int .i64 b, .int .i64 x, .int .i64 1, .int .i64 0] 24)).heap.size = w.heap.size + 1 by simp] at h
    first | exact h | (simpa using h)
  have HB1 : Below w.heap.size w W1 := by rw [← hW]; exact ((Below.refl _ w).alloc (Nat.le_refl _) _).alloc (by simp) _
  have hs1 : W1.heap.size = w.heap.size + 2 := by rw [← hW]; simp
  clear hW
  have r0 : W1.drew.cell? ⟨w.heap.size, 0, none⟩ = some (.int .i64 b) := HM1.drew.cell 0
  have r1 : W1.drew.cell? ⟨w.heap.size + 1, 0, none⟩ = some (.int .u8 v0) := HL1.drew.cell 0
  have r2 : W1.drew.frozen? ⟨w.heap.size + 1, 0, none⟩ = false := HL1.drew.frozen 0
  have v1 : 0 ≤ v0 ∧ v0 ≤ 255 := by have := HV0.out; omega
  have v2 : 0 ≤ v0 - b % 8 ∧ v0 - b % 8 ≤ 251 := by have := HV0.out; omega
  go_region
  all_goals
    generalize hW2 : World.drew (World.setCell _ _ _) = W2
    have HM2 : Bk W2 w.heap.size 24 #[.int .i64 b, .int .i64 x, .int .i64 1, .int .i64 0] := by rw [← hW2]; exact (HM1.far (p := ⟨w.heap.size + 1, 0, none⟩) (by show w.heap.size ≠ w.heap.size + 1; omega) _).drew
    have HL2 : Bk W2 (w.heap.size + 1) 5 (bv [64 * 0 + 8 * (m % 8) + 4]).toArray := by
      rw [← hW2]
      have h := (HL1.set_ 0 (.int .u8 (64 * 0 + 8 * (m % 8) + 4))).drew
      have e : v0 - b % 8 + 4 = 64 * 0 + 8 * (m % 8) + 4 := by have := HV0.out; omega
      first | exact h | (rw [e]; exact h) | (simp only [e]; exact h)
    have HB2 : Below w.heap.size w W2 := by rw [← hW2]; exact (HB1.setCell (p := ⟨w.heap.size + 1, 0, none⟩) (by show w.heap.size ≤ w.heap.size + 1; omega) _).drew
    have hs2 : W2.heap.size = w.heap.size + 2 := by rw [← hW2]; simp [hs1]
    clear hW2 r0 r1 r2 HM1 HL1 HB1 hs1 HV0 v1 v2
    have o1 : W2.ownsRow w.heap.size 5 1 (.slice (some ⟨w.heap.size + 1, 0, none⟩) 1 1) 1 (bv [64 * 0 + 8 * (m % 8) + 4]) := own_lit8 (B := w.heap.size) HL2 (by omega) (by simp)
    obtain ⟨A0, n0', c0', hsv⟩ : ∃ A0 n0 c0, Value.slice (some ⟨w.heap.size + 1, 0, none⟩) 1 1 = .slice A0 n0 c0 := ⟨_, _, _, rfl⟩
    have hob : (Value.slice A0 n0' c0').ownBlock = some (w.heap.size + 1) := by rw [← hsv]; rfl
    rw [hsv] at o1 ⊢
    have hle := HB2.size
    clear hsv hs2
    have n0 : W2.cell? ⟨w.heap.size, 0, none⟩ = some (.int .i64 b) := HM2.cell 0
    have n1 : W2.cell? ⟨w.heap.size, 1, none⟩ = some (.int .i64 x) := HM2.cell 1
    have n2 : W2.cell? ⟨w.heap.size, 2, none⟩ = some (.int .i64 1) := HM2.cell 2
    have n3 : W2.cell? ⟨w.heap.size, 3, none⟩ = some (.int .i64 0) := HM2.cell 3
    go_wp2_with (at_builtin; go_loud (refine wpList_append_own _ rfl _ _ 63 rfl w.heap.size 5 i0 _ 1 1 Tryz.underlying63 hi hz q1 q2 rfl (by decide) _ 1 _ rfl (o1.alloc _) ⟨W2.heap.size, 0, none⟩ 1 1 [.int .u8 (8 * (x % 8) + b % 8)] rfl rfl (one_new8 W2 (8 * (x % 8) + b % 8)) (by simp [Value.oneCell']) (by simp only [maxLen]; omega) (by omega) (by simp; omega) ?_); intro v' w1 hown hgrow hnil; change (W2.alloc (.cells #[.int .u8 (8 * (x % 8) + b % 8)] 5)).grownBy w1 (Value.slice A0 n0' c0').ownBlock at hgrow; rw [hob] at hgrow; have HM3 : Bk w1 w.heap.size 24 #[.int .i64 b, .int .i64 x, .int .i64 1, .int .i64 0] := (hgrow.block _ (by simp; omega) (by simp)).trans (HM2.alloc _); have n30 := HM3.cell 3; change w1.cell? ⟨w.heap.size, 3, none⟩ = some (.int .i64 0) at n30)
    have HB3 : Below w.heap.size w w1 := (HB2.alloc (by omega) _).grown hgrow (by simp; omega) (fun g e => by simp at e; omega)
    have o2 : w1.ownsRow w.heap.size 5 1 v' [64 * 0 + 8 * (m % 8) + 4, 64 * 0 + 8 * (x % 8) + b % 8].length (bv [64 * 0 + 8 * (m % 8) + 4, 64 * 0 + 8 * (x % 8) + b % 8]) := by first | exact hown | (simpa [bv] using hown) | (have hh4 := HH4.out; rw [hh4]; first | exact hown | (simpa [bv] using hown))
    clear hown hgrow hnil o1 HM2 HL2 HB2 hle n0 n1 n2 n3
    go_at_call 55
    refine (little_c 0 0 (by decide) _).mono ?_
    rintro e w5 ⟨v5, rfl, o5, hb5⟩
    have o2' : w5.ownsRow w.heap.size 5 1 _ [64 * 0 + 8 * (m % 8) + 4, 64 * 0 + 8 * (x % 8) + b % 8].length (bv [64 * 0 + 8 * (m % 8) + 4, 64 * 0 + 8 * (x % 8) + b % 8]) := own_keep o2 hb5
    obtain ⟨v6, w6, hap, o6, hg6⟩ := own_app8 63 o2' o5 (by simp [ltl_len]) (Nat.le_trans HB3.size hb5.size)
    have HB6 : Below w.heap.size w w6 := ((HB3.trans (hb5.mono HB3.size)).grown hg6 (Nat.le_trans HB3.size hb5.size) (fun g e => (o2'.lt g e).1))
    go_wp2_with (at_builtin; refine wpList_append_eq rfl _ _ 63 rfl _ _ rfl rfl _ _ hap ?_)
    go_ret
    exact ⟨_, rfl, by rw [HE.out]; first | exact o6 | (simpa using o6), HB6⟩

set_option maxRecDepth 100000 in
set_option maxHeartbeats 4000000 in
theorem place_0r2 (op d s t m b x im : Int) (hm : R16 m) (hb : R16 b) (h5 : b % 8 ≠ 5) (hx : R16 x) (w : World) : Calls Tryz.prog 56 #[.int .i64 m, .agg #[.int .i64 b, .int .i64 x, .int .i64 2, .int .i64 0]] w (RowB (plcL m ⟨op, d, s, t, b, x, 2, 0, im⟩) w) := by
  obtain ⟨i0, hi, hz, q1, q2⟩ := info_parts info_u8
  obtain ⟨m1, m2⟩ := hm
  obtain ⟨b1, b2⟩ := hb
  obtain ⟨x1, x2⟩ := hx
  have x3 : ¬ (x = -1) := by omega
  have x4 : (x == -1) = false := by rw [beq_eq_false_iff_ne]; exact x3
  have x5 : (x != -1) = true := by rw [bne, x4]; rfl
  have hmd : mdI ⟨op, d, s, t, b, x, 2, 0, im⟩ = 0 := by unfold mdI; dsimp only; rw [if_pos (show (0 : Int) = 0 ∧ b % 8 ≠ 5 from ⟨rfl, h5⟩)]
  have hdn : dnI ⟨op, d, s, t, b, x, 2, 0, im⟩ = 0 := by unfold dnI; dsimp only; rw [if_pos (show (0 : Int) = 0 ∧ b % 8 ≠ 5 from ⟨rfl, h5⟩)]
  have hsb : sibL ⟨op, d, s, t, b, x, 2, 0, im⟩ = [64 * 1 + 8 * (x % 8) + b % 8] := by unfold sibL; dsimp only; rw [if_neg (show ¬ (x = -1 ∧ b % 8 ≠ 4) by omega)]; first | rfl | (unfold xiI; rw [if_neg (show ¬ (x = -1) by omega)]; rfl)
  have HE : Hid (plcL m ⟨op, d, s, t, b, x, 2, 0, im⟩ = ((64 * 0 + 8 * (m % 8) + 4) :: ([64 * 1 + 8 * (x % 8) + b % 8] ++ ltl 0 0))) := Lib.hid (by unfold plcL; rw [hmd, hdn, hsb]; dsimp only; rw [if_neg (show ¬ (x = -1 ∧ b % 8 ≠ 4) by omega)])
  clear hmd hdn hsb
  have g1 : (b % 8 == 5) = false := by rw [beq_eq_false_iff_ne]; exact h5
  have g2 : (b % 8 != 5) = true := by rw [bne, g1]; rfl
  go_enter Tryz.func56, Tryz.ntmps56
  go_wp2_with fail
  generalize hW : (w.alloc _).alloc _ = W1
  have HM1 : Bk W1 w.heap.size 24 #[.int .i64 b, .int .i64 x, .int .i64 2, .int .i64 0] := by rw [← hW]; exact (Bk.new w _ _).alloc _
  obtain ⟨v0, HV0, HL1⟩ : ∃ v0, Hid (v0 = 64 * 0 + 8 * (m % 8) + b % 8) ∧ Bk W1 (w.heap.size + 1) 5 #[.int .u8 v0] := by
    refine ⟨_, Lib.hid rfl, ?_⟩
    rw [← hW]
    have h := Bk.new (w.alloc (.cells #[.int .i64 b, .int .i64 x, .int .i64 2, .int .i64 0] 24)) 5 #[.int .u8 (64 * 0 + 8 * (m % 8) + b % 8)]
    rw [show (w.alloc (.cells #[.int .i64 b, .int .i64 x, .int .i64 2, .int .i64 0] 24)).heap.size = w.heap.size + 1 by simp] at h
    first | exact h | (simpa using h)
  have HB1 : Below w.heap.size w W1 := by rw [← hW]; exact ((Below.refl _ w).alloc (Nat.le_refl _) _).alloc (by simp) _
  have hs1 : W1.heap.size = w.heap.size + 2 := by rw [← hW]; simp
  clear hW
  have r0 : W1.drew.cell? ⟨w.heap.size, 0, none⟩ = some (.int .i64 b) := HM1.drew.cell 0
  have r1 : W1.drew.cell? ⟨w.heap.size + 1, 0, none⟩ = some (.int .u8 v0) := HL1.drew.cell 0
  have r2 : W1.drew.frozen? ⟨w.heap.size + 1, 0, none⟩ = false := HL1.drew.frozen 0
  have v1 : 0 ≤ v0 ∧ v0 ≤ 255 := by have := HV0.out; omega
  have v2 : 0 ≤ v0 - b % 8 ∧ v0 - b % 8 ≤ 251 := by have := HV0.out; omega
  go_region
  all_goals
    generalize hW2 : World.drew (World.setCell _ _ _) = W2
    have HM2 : Bk W2 w.heap.size 24 #[.int .i64 b, .int .i64 x, .int .i64 2, .int .i64 0] := by rw [← hW2]; exact (HM1.far (p := ⟨w.heap.size + 1, 0, none⟩) (by show w.heap.size ≠ w.heap.size + 1; omega) _).drew
    have HL2 : Bk W2 (w.heap.size + 1) 5 (bv [64 * 0 + 8 * (m % 8) + 4]).toArray := by
      rw [← hW2]
      have h := (HL1.set_ 0 (.int .u8 (64 * 0 + 8 * (m % 8) + 4))).drew
      have e : v0 - b % 8 + 4 = 64 * 0 + 8 * (m % 8) + 4 := by have := HV0.out; omega
      first | exact h | (rw [e]; exact h) | (simp only [e]; exact h)
    have HB2 : Below w.heap.size w W2 := by rw [← hW2]; exact (HB1.setCell (p := ⟨w.heap.size + 1, 0, none⟩) (by show w.heap.size ≤ w.heap.size + 1; omega) _).drew
    have hs2 : W2.heap.size = w.heap.size + 2 := by rw [← hW2]; simp [hs1]
    clear hW2 r0 r1 r2 HM1 HL1 HB1 hs1 HV0 v1 v2
    have o1 : W2.ownsRow w.heap.size 5 1 (.slice (some ⟨w.heap.size + 1, 0, none⟩) 1 1) 1 (bv [64 * 0 + 8 * (m % 8) + 4]) := own_lit8 (B := w.heap.size) HL2 (by omega) (by simp)
    obtain ⟨A0, n0', c0', hsv⟩ : ∃ A0 n0 c0, Value.slice (some ⟨w.heap.size + 1, 0, none⟩) 1 1 = .slice A0 n0 c0 := ⟨_, _, _, rfl⟩
    have hob : (Value.slice A0 n0' c0').ownBlock = some (w.heap.size + 1) := by rw [← hsv]; rfl
    rw [hsv] at o1 ⊢
    have hle := HB2.size
    clear hsv hs2
    have n0 : W2.cell? ⟨w.heap.size, 0, none⟩ = some (.int .i64 b) := HM2.cell 0
    have n1 : W2.cell? ⟨w.heap.size, 1, none⟩ = some (.int .i64 x) := HM2.cell 1
    have n2 : W2.cell? ⟨w.heap.size, 2, none⟩ = some (.int .i64 2) := HM2.cell 2
    have n3 : W2.cell? ⟨w.heap.size, 3, none⟩ = some (.int .i64 0) := HM2.cell 3
    go_wp2_with (at_builtin; go_loud (refine wpList_append_own _ rfl _ _ 63 rfl w.heap.size 5 i0 _ 1 1 Tryz.underlying63 hi hz q1 q2 rfl (by decide) _ 1 _ rfl (o1.alloc _) ⟨W2.heap.size, 0, none⟩ 1 1 [.int .u8 (64 + 8 * (x % 8) + b % 8)] rfl rfl (one_new8 W2 (64 + 8 * (x % 8) + b % 8)) (by simp [Value.oneCell']) (by simp only [maxLen]; omega) (by omega) (by simp; omega) ?_); intro v' w1 hown hgrow hnil; change (W2.alloc (.cells #[.int .u8 (64 + 8 * (x % 8) + b % 8)] 5)).grownBy w1 (Value.slice A0 n0' c0').ownBlock at hgrow; rw [hob] at hgrow; have HM3 : Bk w1 w.heap.size 24 #[.int .i64 b, .int .i64 x, .int .i64 2, .int .i64 0] := (hgrow.block _ (by simp; omega) (by simp)).trans (HM2.alloc _); have n30 := HM3.cell 3; change w1.cell? ⟨w.heap.size, 3, none⟩ = some (.int .i64 0) at n30)
    have HB3 : Below w.heap.size w w1 := (HB2.alloc (by omega) _).grown hgrow (by simp; omega) (fun g e => by simp at e; omega)
    have o2 : w1.ownsRow w.heap.size 5 1 v' [64 * 0 + 8 * (m % 8) + 4, 64 * 1 + 8 * (x % 8) + b % 8].length (bv [64 * 0 + 8 * (m % 8) + 4, 64 * 1 + 8 * (x % 8) + b % 8]) := by first | exact hown | (simpa [bv] using hown) | (have hh4 := HH4.out; rw [hh4]; first | exact hown | (simpa [bv] using hown))
    clear hown hgrow hnil o1 HM2 HL2 HB2 hle n0 n1 n2 n3
    go_at_call 55
    refine (little_c 0 0 (by decide) _).mono ?_
    rintro e w5 ⟨v5, rfl, o5, hb5⟩
    have o2' : w5.ownsRow w.heap.size 5 1 _ [64 * 0 + 8 * (m % 8) + 4, 64 * 1 + 8 * (x % 8) + b % 8].length (bv [64 * 0 + 8 * (m % 8) + 4, 64 * 1 + 8 * (x % 8) + b % 8]) := own_keep o2 hb5
    obtain ⟨v6, w6, hap, o6, hg6⟩ := own_app8 63 o2' o5 (by simp [ltl_len]) (Nat.le_trans HB3.size hb5.size)
    have HB6 : Below w.heap.size w w6 := ((HB3.trans (hb5.mono HB3.size)).grown hg6 (Nat.le_trans HB3.size hb5.size) (fun g e => (o2'.lt g e).1))
    go_wp2_with (at_builtin; refine wpList_append_eq rfl _ _ 63 rfl _ _ rfl rfl _ _ hap ?_)
    go_ret
    exact ⟨_, rfl, by rw [HE.out]; first | exact o6 | (simpa using o6), HB6⟩

set_option maxRecDepth 100000 in
set_option maxHeartbeats 4000000 in
theorem place_0r4 (op d s t m b x im : Int) (hm : R16 m) (hb : R16 b) (h5 : b % 8 ≠ 5) (hx : R16 x) (w : World) : Calls Tryz.prog 56 #[.int .i64 m, .agg #[.int .i64 b, .int .i64 x, .int .i64 4, .int .i64 0]] w (RowB (plcL m ⟨op, d, s, t, b, x, 4, 0, im⟩) w) := by
  obtain ⟨i0, hi, hz, q1, q2⟩ := info_parts info_u8
  obtain ⟨m1, m2⟩ := hm
  obtain ⟨b1, b2⟩ := hb
  obtain ⟨x1, x2⟩ := hx
  have x3 : ¬ (x = -1) := by omega
  have x4 : (x == -1) = false := by rw [beq_eq_false_iff_ne]; exact x3
  have x5 : (x != -1) = true := by rw [bne, x4]; rfl
  have hmd : mdI ⟨op, d, s, t, b, x, 4, 0, im⟩ = 0 := by unfold mdI; dsimp only; rw [if_pos (show (0 : Int) = 0 ∧ b % 8 ≠ 5 from ⟨rfl, h5⟩)]
  have hdn : dnI ⟨op, d, s, t, b, x, 4, 0, im⟩ = 0 := by unfold dnI; dsimp only; rw [if_pos (show (0 : Int) = 0 ∧ b % 8 ≠ 5 from ⟨rfl, h5⟩)]
  have hsb : sibL ⟨op, d, s, t, b, x, 4, 0, im⟩ = [64 * 2 + 8 * (x % 8) + b % 8] := by unfold sibL; dsimp only; rw [if_neg (show ¬ (x = -1 ∧ b % 8 ≠ 4) by omega)]; first | rfl | (unfold xiI; rw [if_neg (show ¬ (x = -1) by omega)]; rfl)
  have HE : Hid (plcL m ⟨op, d, s, t, b, x, 4, 0, im⟩ = ((64 * 0 + 8 * (m % 8) + 4) :: ([64 * 2 + 8 * (x % 8) + b % 8] ++ ltl 0 0))) := Lib.hid (by unfold plcL; rw [hmd, hdn, hsb]; dsimp only; rw [if_neg (show ¬ (x = -1 ∧ b % 8 ≠ 4) by omega)])
  clear hmd hdn hsb
  have g1 : (b % 8 == 5) = false := by rw [beq_eq_false_iff_ne]; exact h5
  have g2 : (b % 8 != 5) = true := by rw [bne, g1]; rfl
  go_enter Tryz.func56, Tryz.ntmps56
  go_wp2_with fail
  generalize hW : (w.alloc _).alloc _ = W1
  have HM1 : Bk W1 w.heap.size 24 #[.int .i64 b, .int .i64 x, .int .i64 4, .int .i64 0] := by rw [← hW]; exact (Bk.new w _ _).alloc _
  obtain ⟨v0, HV0, HL1⟩ : ∃ v0, Hid (v0 = 64 * 0 + 8 * (m % 8) + b % 8) ∧ Bk W1 (w.heap.size + 1) 5 #[.int .u8 v0] := by
    refine ⟨_, Lib.hid rfl, ?_⟩
    rw [← hW]
    have h := Bk.new (w.alloc (.cells #[.int .i64 b, .int .i64 x, .int .i64 4, .int .i64 0] 24)) 5 #[.int .u8 (64 * 0 + 8 * (m % 8) + b % 8)]
    rw [show (w.alloc (.cells #[.int .i64 b, .int .i64 x, .int .i64 4, .int .i64 0] 24)).heap.size = w.heap.size + 1 by simp] at h
    first | exact h | (simpa using h)
  have HB1 : Below w.heap.size w W1 := by rw [← hW]; exact ((Below.refl _ w).alloc (Nat.le_refl _) _).alloc (by simp) _
  have hs1 : W1.heap.size = w.heap.size + 2 := by rw [← hW]; simp
  clear hW
  have r0 : W1.drew.cell? ⟨w.heap.size, 0, none⟩ = some (.int .i64 b) := HM1.drew.cell 0
  have r1 : W1.drew.cell? ⟨w.heap.size + 1, 0, none⟩ = some (.int .u8 v0) := HL1.drew.cell 0
  have r2 : W1.drew.frozen? ⟨w.heap.size + 1, 0, none⟩ = false := HL1.drew.frozen 0
  have v1 : 0 ≤ v0 ∧ v0 ≤ 255 := by have := HV0.out; omega
  have v2 : 0 ≤ v0 - b % 8 ∧ v0 - b % 8 ≤ 251 := by have := HV0.out; omega
  go_region
  all_goals
    generalize hW2 : World.drew (World.setCell _ _ _) = W2
    have HM2 : Bk W2 w.heap.size 24 #[.int .i64 b, .int .i64 x, .int .i64 4, .int .i64 0] := by rw [← hW2]; exact (HM1.far (p := ⟨w.heap.size + 1, 0, none⟩) (by show w.heap.size ≠ w.heap.size + 1; omega) _).drew
    have HL2 : Bk W2 (w.heap.size + 1) 5 (bv [64 * 0 + 8 * (m % 8) + 4]).toArray := by
      rw [← hW2]
      have h := (HL1.set_ 0 (.int .u8 (64 * 0 + 8 * (m % 8) + 4))).drew
      have e : v0 - b % 8 + 4 = 64 * 0 + 8 * (m % 8) + 4 := by have := HV0.out; omega
      first | exact h | (rw [e]; exact h) | (simp only [e]; exact h)
    have HB2 : Below w.heap.size w W2 := by rw [← hW2]; exact (HB1.setCell (p := ⟨w.heap.size + 1, 0, none⟩) (by show w.heap.size ≤ w.heap.size + 1; omega) _).drew
    have hs2 : W2.heap.size = w.heap.size + 2 := by rw [← hW2]; simp [hs1]
    clear hW2 r0 r1 r2 HM1 HL1 HB1 hs1 HV0 v1 v2
    have o1 : W2.ownsRow w.heap.size 5 1 (.slice (some ⟨w.heap.size + 1, 0, none⟩) 1 1) 1 (bv [64 * 0 + 8 * (m % 8) + 4]) := own_lit8 (B := w.heap.size) HL2 (by omega) (by simp)
    obtain ⟨A0, n0', c0', hsv⟩ : ∃ A0 n0 c0, Value.slice (some ⟨w.heap.size + 1, 0, none⟩) 1 1 = .slice A0 n0 c0 := ⟨_, _, _, rfl⟩
    have hob : (Value.slice A0 n0' c0').ownBlock = some (w.heap.size + 1) := by rw [← hsv]; rfl
    rw [hsv] at o1 ⊢
    have hle := HB2.size
    clear hsv hs2
    have n0 : W2.cell? ⟨w.heap.size, 0, none⟩ = some (.int .i64 b) := HM2.cell 0
    have n1 : W2.cell? ⟨w.heap.size, 1, none⟩ = some (.int .i64 x) := HM2.cell 1
    have n2 : W2.cell? ⟨w.heap.size, 2, none⟩ = some (.int .i64 4) := HM2.cell 2
    have n3 : W2.cell? ⟨w.heap.size, 3, none⟩ = some (.int .i64 0) := HM2.cell 3
    go_wp2_with (at_builtin; go_loud (refine wpList_append_own _ rfl _ _ 63 rfl w.heap.size 5 i0 _ 1 1 Tryz.underlying63 hi hz q1 q2 rfl (by decide) _ 1 _ rfl (o1.alloc _) ⟨W2.heap.size, 0, none⟩ 1 1 [.int .u8 (128 + 8 * (x % 8) + b % 8)] rfl rfl (one_new8 W2 (128 + 8 * (x % 8) + b % 8)) (by simp [Value.oneCell']) (by simp only [maxLen]; omega) (by omega) (by simp; omega) ?_); intro v' w1 hown hgrow hnil; change (W2.alloc (.cells #[.int .u8 (128 + 8 * (x % 8) + b % 8)] 5)).grownBy w1 (Value.slice A0 n0' c0').ownBlock at hgrow; rw [hob] at hgrow; have HM3 : Bk w1 w.heap.size 24 #[.int .i64 b, .int .i64 x, .int .i64 4, .int .i64 0] := (hgrow.block _ (by simp; omega) (by simp)).trans (HM2.alloc _); have n30 := HM3.cell 3; change w1.cell? ⟨w.heap.size, 3, none⟩ = some (.int .i64 0) at n30)
    have HB3 : Below w.heap.size w w1 := (HB2.alloc (by omega) _).grown hgrow (by simp; omega) (fun g e => by simp at e; omega)
    have o2 : w1.ownsRow w.heap.size 5 1 v' [64 * 0 + 8 * (m % 8) + 4, 64 * 2 + 8 * (x % 8) + b % 8].length (bv [64 * 0 + 8 * (m % 8) + 4, 64 * 2 + 8 * (x % 8) + b % 8]) := by first | exact hown | (simpa [bv] using hown) | (have hh4 := HH4.out; rw [hh4]; first | exact hown | (simpa [bv] using hown))
    clear hown hgrow hnil o1 HM2 HL2 HB2 hle n0 n1 n2 n3
    go_at_call 55
    refine (little_c 0 0 (by decide) _).mono ?_
    rintro e w5 ⟨v5, rfl, o5, hb5⟩
    have o2' : w5.ownsRow w.heap.size 5 1 _ [64 * 0 + 8 * (m % 8) + 4, 64 * 2 + 8 * (x % 8) + b % 8].length (bv [64 * 0 + 8 * (m % 8) + 4, 64 * 2 + 8 * (x % 8) + b % 8]) := own_keep o2 hb5
    obtain ⟨v6, w6, hap, o6, hg6⟩ := own_app8 63 o2' o5 (by simp [ltl_len]) (Nat.le_trans HB3.size hb5.size)
    have HB6 : Below w.heap.size w w6 := ((HB3.trans (hb5.mono HB3.size)).grown hg6 (Nat.le_trans HB3.size hb5.size) (fun g e => (o2'.lt g e).1))
    go_wp2_with (at_builtin; refine wpList_append_eq rfl _ _ 63 rfl _ _ rfl rfl _ _ hap ?_)
    go_ret
    exact ⟨_, rfl, by rw [HE.out]; first | exact o6 | (simpa using o6), HB6⟩

set_option maxRecDepth 100000 in
set_option maxHeartbeats 4000000 in
theorem place_0r8 (op d s t m b x im : Int) (hm : R16 m) (hb : R16 b) (h5 : b % 8 ≠ 5) (hx : R16 x) (w : World) : Calls Tryz.prog 56 #[.int .i64 m, .agg #[.int .i64 b, .int .i64 x, .int .i64 8, .int .i64 0]] w (RowB (plcL m ⟨op, d, s, t, b, x, 8, 0, im⟩) w) := by
  obtain ⟨i0, hi, hz, q1, q2⟩ := info_parts info_u8
  obtain ⟨m1, m2⟩ := hm
  obtain ⟨b1, b2⟩ := hb
  obtain ⟨x1, x2⟩ := hx
  have x3 : ¬ (x = -1) := by omega
  have x4 : (x == -1) = false := by rw [beq_eq_false_iff_ne]; exact x3
  have x5 : (x != -1) = true := by rw [bne, x4]; rfl
  have hmd : mdI ⟨op, d, s, t, b, x, 8, 0, im⟩ = 0 := by unfold mdI; dsimp only; rw [if_pos (show (0 : Int) = 0 ∧ b % 8 ≠ 5 from ⟨rfl, h5⟩)]
  have hdn : dnI ⟨op, d, s, t, b, x, 8, 0, im⟩ = 0 := by unfold dnI; dsimp only; rw [if_pos (show (0 : Int) = 0 ∧ b % 8 ≠ 5 from ⟨rfl, h5⟩)]
  have hsb : sibL ⟨op, d, s, t, b, x, 8, 0, im⟩ = [64 * 3 + 8 * (x % 8) + b % 8] := by unfold sibL; dsimp only; rw [if_neg (show ¬ (x = -1 ∧ b % 8 ≠ 4) by omega)]; first | rfl | (unfold xiI; rw [if_neg (show ¬ (x = -1) by omega)]; rfl)
  have HE : Hid (plcL m ⟨op, d, s, t, b, x, 8, 0, im⟩ = ((64 * 0 + 8 * (m % 8) + 4) :: ([64 * 3 + 8 * (x % 8) + b % 8] ++ ltl 0 0))) := Lib.hid (by unfold plcL; rw [hmd, hdn, hsb]; dsimp only; rw [if_neg (show ¬ (x = -1 ∧ b % 8 ≠ 4) by omega)])
  clear hmd hdn hsb
  have g1 : (b % 8 == 5) = false := by rw [beq_eq_false_iff_ne]; exact h5
  have g2 : (b % 8 != 5) = true := by rw [bne, g1]; rfl
  go_enter Tryz.func56, Tryz.ntmps56
  go_wp2_with fail
  generalize hW : (w.alloc _).alloc _ = W1
  have HM1 : Bk W1 w.heap.size 24 #[.int .i64 b, .int .i64 x, .int .i64 8, .int .i64 0] := by rw [← hW]; exact (Bk.new w _ _).alloc _
  obtain ⟨v0, HV0, HL1⟩ : ∃ v0, Hid (v0 = 64 * 0 + 8 * (m % 8) + b % 8) ∧ Bk W1 (w.heap.size + 1) 5 #[.int .u8 v0] := by
    refine ⟨_, Lib.hid rfl, ?_⟩
    rw [← hW]
    have h := Bk.new (w.alloc (.cells #[.int .i64 b, .int .i64 x, .int .i64 8, .int .i64 0] 24)) 5 #[.int .u8 (64 * 0 + 8 * (m % 8) + b % 8)]
    rw [show (w.alloc (.cells #[.int .i64 b, .int .i64 x, .int .i64 8, .int .i64 0] 24)).heap.size = w.heap.size + 1 by simp] at h
    first | exact h | (simpa using h)
  have HB1 : Below w.heap.size w W1 := by rw [← hW]; exact ((Below.refl _ w).alloc (Nat.le_refl _) _).alloc (by simp) _
  have hs1 : W1.heap.size = w.heap.size + 2 := by rw [← hW]; simp
  clear hW
  have r0 : W1.drew.cell? ⟨w.heap.size, 0, none⟩ = some (.int .i64 b) := HM1.drew.cell 0
  have r1 : W1.drew.cell? ⟨w.heap.size + 1, 0, none⟩ = some (.int .u8 v0) := HL1.drew.cell 0
  have r2 : W1.drew.frozen? ⟨w.heap.size + 1, 0, none⟩ = false := HL1.drew.frozen 0
  have v1 : 0 ≤ v0 ∧ v0 ≤ 255 := by have := HV0.out; omega
  have v2 : 0 ≤ v0 - b % 8 ∧ v0 - b % 8 ≤ 251 := by have := HV0.out; omega
  go_region
  all_goals
    generalize hW2 : World.drew (World.setCell _ _ _) = W2
    have HM2 : Bk W2 w.heap.size 24 #[.int .i64 b, .int .i64 x, .int .i64 8, .int .i64 0] := by rw [← hW2]; exact (HM1.far (p := ⟨w.heap.size + 1, 0, none⟩) (by show w.heap.size ≠ w.heap.size + 1; omega) _).drew
    have HL2 : Bk W2 (w.heap.size + 1) 5 (bv [64 * 0 + 8 * (m % 8) + 4]).toArray := by
      rw [← hW2]
      have h := (HL1.set_ 0 (.int .u8 (64 * 0 + 8 * (m % 8) + 4))).drew
      have e : v0 - b % 8 + 4 = 64 * 0 + 8 * (m % 8) + 4 := by have := HV0.out; omega
      first | exact h | (rw [e]; exact h) | (simp only [e]; exact h)
    have HB2 : Below w.heap.size w W2 := by rw [← hW2]; exact (HB1.setCell (p := ⟨w.heap.size + 1, 0, none⟩) (by show w.heap.size ≤ w.heap.size + 1; omega) _).drew
    have hs2 : W2.heap.size = w.heap.size + 2 := by rw [← hW2]; simp [hs1]
    clear hW2 r0 r1 r2 HM1 HL1 HB1 hs1 HV0 v1 v2
    have o1 : W2.ownsRow w.heap.size 5 1 (.slice (some ⟨w.heap.size + 1, 0, none⟩) 1 1) 1 (bv [64 * 0 + 8 * (m % 8) + 4]) := own_lit8 (B := w.heap.size) HL2 (by omega) (by simp)
    obtain ⟨A0, n0', c0', hsv⟩ : ∃ A0 n0 c0, Value.slice (some ⟨w.heap.size + 1, 0, none⟩) 1 1 = .slice A0 n0 c0 := ⟨_, _, _, rfl⟩
    have hob : (Value.slice A0 n0' c0').ownBlock = some (w.heap.size + 1) := by rw [← hsv]; rfl
    rw [hsv] at o1 ⊢
    have hle := HB2.size
    clear hsv hs2
    have n0 : W2.cell? ⟨w.heap.size, 0, none⟩ = some (.int .i64 b) := HM2.cell 0
    have n1 : W2.cell? ⟨w.heap.size, 1, none⟩ = some (.int .i64 x) := HM2.cell 1
    have n2 : W2.cell? ⟨w.heap.size, 2, none⟩ = some (.int .i64 8) := HM2.cell 2
    have n3 : W2.cell? ⟨w.heap.size, 3, none⟩ = some (.int .i64 0) := HM2.cell 3
    go_wp2_with (at_builtin; go_loud (refine wpList_append_own _ rfl _ _ 63 rfl w.heap.size 5 i0 _ 1 1 Tryz.underlying63 hi hz q1 q2 rfl (by decide) _ 1 _ rfl (o1.alloc _) ⟨W2.heap.size, 0, none⟩ 1 1 [.int .u8 (192 + 8 * (x % 8) + b % 8)] rfl rfl (one_new8 W2 (192 + 8 * (x % 8) + b % 8)) (by simp [Value.oneCell']) (by simp only [maxLen]; omega) (by omega) (by simp; omega) ?_); intro v' w1 hown hgrow hnil; change (W2.alloc (.cells #[.int .u8 (192 + 8 * (x % 8) + b % 8)] 5)).grownBy w1 (Value.slice A0 n0' c0').ownBlock at hgrow; rw [hob] at hgrow; have HM3 : Bk w1 w.heap.size 24 #[.int .i64 b, .int .i64 x, .int .i64 8, .int .i64 0] := (hgrow.block _ (by simp; omega) (by simp)).trans (HM2.alloc _); have n30 := HM3.cell 3; change w1.cell? ⟨w.heap.size, 3, none⟩ = some (.int .i64 0) at n30)
    have HB3 : Below w.heap.size w w1 := (HB2.alloc (by omega) _).grown hgrow (by simp; omega) (fun g e => by simp at e; omega)
    have o2 : w1.ownsRow w.heap.size 5 1 v' [64 * 0 + 8 * (m % 8) + 4, 64 * 3 + 8 * (x % 8) + b % 8].length (bv [64 * 0 + 8 * (m % 8) + 4, 64 * 3 + 8 * (x % 8) + b % 8]) := by first | exact hown | (simpa [bv] using hown) | (have hh4 := HH4.out; rw [hh4]; first | exact hown | (simpa [bv] using hown))
    clear hown hgrow hnil o1 HM2 HL2 HB2 hle n0 n1 n2 n3
    go_at_call 55
    refine (little_c 0 0 (by decide) _).mono ?_
    rintro e w5 ⟨v5, rfl, o5, hb5⟩
    have o2' : w5.ownsRow w.heap.size 5 1 _ [64 * 0 + 8 * (m % 8) + 4, 64 * 3 + 8 * (x % 8) + b % 8].length (bv [64 * 0 + 8 * (m % 8) + 4, 64 * 3 + 8 * (x % 8) + b % 8]) := own_keep o2 hb5
    obtain ⟨v6, w6, hap, o6, hg6⟩ := own_app8 63 o2' o5 (by simp [ltl_len]) (Nat.le_trans HB3.size hb5.size)
    have HB6 : Below w.heap.size w w6 := ((HB3.trans (hb5.mono HB3.size)).grown hg6 (Nat.le_trans HB3.size hb5.size) (fun g e => (o2'.lt g e).1))
    go_wp2_with (at_builtin; refine wpList_append_eq rfl _ _ 63 rfl _ _ rfl rfl _ _ hap ?_)
    go_ret
    exact ⟨_, rfl, by rw [HE.out]; first | exact o6 | (simpa using o6), HB6⟩
end Is
end Go.Proofs.YtblmagcekfbgdaaGreatDoor
