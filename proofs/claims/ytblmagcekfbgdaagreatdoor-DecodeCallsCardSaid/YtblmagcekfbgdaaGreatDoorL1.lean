/- The document's own bytes: operations over registers. -/
import Derived.Test.YtblmagcekfbgdaaGreatDoorL0
namespace Go.Proofs.YtblmagcekfbgdaaGreatDoor
open Go Go.RowKit
namespace Is
open Nt
set_option linter.unusedVariables false
set_option linter.unusedSimpArgs false
set_option maxRecDepth 100000 in
set_option maxHeartbeats 4000000 in
theorem bytes_two (d s t b x sc di im : Int) (hd : R16 d) (hs : R16 s) (op : Int) (ho : op = 1 ∨ (6 ≤ op ∧ op ≤ 14)) (w : World) : Calls Tryz.prog 33 #[.agg #[.int .i64 op, .int .i64 d, .int .i64 s, .int .i64 t, .int .i64 b, .int .i64 x, .int .i64 sc, .int .i64 di, .int .i64 im]] w (RowB ([rexI s 0 d, codeI op, rmI s d]) w) := by
  have HX := Lib.hid (fun W => rex_c s 0 d hs.rx rx_0 hd.rx W)
  have HR := Lib.hid (fun W => both_c s d hs hd W)
  have HC := Lib.hid (fun W => code_c op ho W)
  clear hs hd
  have n2 : (op == 2) = false := by rw [beq_eq_false_iff_ne]; omega
  have n3 : (op == 3) = false := by rw [beq_eq_false_iff_ne]; omega
  have n4 : (op == 4) = false := by rw [beq_eq_false_iff_ne]; omega
  have n5 : (op == 5) = false := by rw [beq_eq_false_iff_ne]; omega
  have n15 : (op == 15) = false := by rw [beq_eq_false_iff_ne]; omega
  have n16 : (op == 16) = false := by rw [beq_eq_false_iff_ne]; omega
  have n17 : (op == 17) = false := by rw [beq_eq_false_iff_ne]; omega
  have n18 : (op == 18) = false := by rw [beq_eq_false_iff_ne]; omega
  have n19 : (op == 19) = false := by rw [beq_eq_false_iff_ne]; omega
  have n20 : (op == 20) = false := by rw [beq_eq_false_iff_ne]; omega
  have n21 : (op == 21) = false := by rw [beq_eq_false_iff_ne]; omega
  have n22 : (op == 22) = false := by rw [beq_eq_false_iff_ne]; omega
  have n23 : (op == 23) = false := by rw [beq_eq_false_iff_ne]; omega
  have n24 : (op == 24) = false := by rw [beq_eq_false_iff_ne]; omega
  have n25 : (op == 25) = false := by rw [beq_eq_false_iff_ne]; omega
  have n26 : (op == 26) = false := by rw [beq_eq_false_iff_ne]; omega
  have n27 : (op == 27) = false := by rw [beq_eq_false_iff_ne]; omega
  have n28 : (op == 28) = false := by rw [beq_eq_false_iff_ne]; omega
  have n29 : (op == 29) = false := by rw [beq_eq_false_iff_ne]; omega
  have n30 : (op == 30) = false := by rw [beq_eq_false_iff_ne]; omega
  have n31 : (op == 31) = false := by rw [beq_eq_false_iff_ne]; omega
  have n32 : (op == 32) = false := by rw [beq_eq_false_iff_ne]; omega
  have n33 : (op == 33) = false := by rw [beq_eq_false_iff_ne]; omega
  clear ho
  generalize codeI op = z3 at *
  generalize rexI s 0 d = z1 at *
  generalize rmI s d = z2 at *
  have HI0 := Lib.hid (Bk.new w 26 #[.int .i64 op, .int .i64 d, .int .i64 s, .int .i64 t, .int .i64 b, .int .i64 x, .int .i64 sc, .int .i64 di, .int .i64 im])
  have HB0 := Lib.hid ((Below.refl _ w).alloc (Nat.le_refl _) (.cells #[.int .i64 op, .int .i64 d, .int .i64 s, .int .i64 t, .int .i64 b, .int .i64 x, .int .i64 sc, .int .i64 di, .int .i64 im] 26))
  go_enter Tryz.func33, Tryz.ntmps33
  go_wp2_with fail
  generalize hW : World.alloc w _ = W0 at *
  clear hW
  have K0 := c9 HI0.out.drew
  go_region_held3 (fun w' => w'.cell? ⟨w.heap.size, 0, none⟩ = some (.int .i64 op) ∧ w'.cell? ⟨w.heap.size, 1, none⟩ = some (.int .i64 d) ∧ w'.cell? ⟨w.heap.size, 2, none⟩ = some (.int .i64 s) ∧ w'.cell? ⟨w.heap.size, 3, none⟩ = some (.int .i64 t) ∧ w'.cell? ⟨w.heap.size, 4, none⟩ = some (.int .i64 b) ∧ w'.cell? ⟨w.heap.size, 5, none⟩ = some (.int .i64 x) ∧ w'.cell? ⟨w.heap.size, 6, none⟩ = some (.int .i64 sc) ∧ w'.cell? ⟨w.heap.size, 7, none⟩ = some (.int .i64 di) ∧ w'.cell? ⟨w.heap.size, 8, none⟩ = some (.int .i64 im)) (first | exact K0 | exact c9 (HI0.out.drew.alloc _))
    (first | (go_at_call 54; refine (HX.out _).mono ?_; rintro e y1 ⟨rfl, rfl⟩) | (go_at_call 57; refine (HR.out _).mono ?_; rintro e y2 ⟨rfl, rfl⟩) | (go_at_call 59; refine (HC.out _).mono ?_; rintro e y4 ⟨rfl, rfl⟩))
  all_goals
    go_wp2_with fail
    go_ret
    exact ⟨_, rfl, own_lit8 (xs := [z1, z3, z2]) (Bk.new W0 _ _).drew HB0.out.size (by simp), (HB0.out.alloc HB0.out.size _).drew⟩
set_option maxRecDepth 100000 in
set_option maxHeartbeats 4000000 in
theorem bytes_19 (d s t b x sc di im : Int) (hd : R16 d) (hs : R16 s) (ht : R16 t) (w : World) : Calls Tryz.prog 33 #[.agg #[.int .i64 19, .int .i64 d, .int .i64 s, .int .i64 t, .int .i64 b, .int .i64 x, .int .i64 sc, .int .i64 di, .int .i64 im]] w (RowB ([196, 66 + 128 * (1 - hiR d) + 32 * (1 - hiR t), 131 + 8 * (15 - s), 246, rmI d t]) w) := by
  have HH := Lib.hid (fun W => high_c d hd.rx W)
  have HT := Lib.hid (fun W => high_c t ht.rx W)
  have HR := Lib.hid (fun W => both_c d t hd ht W)
  obtain ⟨p1, p2⟩ := hi_b hd.rx.1 hd.rx.2
  obtain ⟨q1, q2⟩ := hi_b ht.rx.1 ht.rx.2
  obtain ⟨s1, s2⟩ := hs
  clear hd ht
  generalize hiR d = p at *
  generalize hiR t = q at *
  have E1 : Hid (IntKind.u8.wrap (IntKind.u8.wrap (66 + IntKind.u8.wrap (128 * IntKind.u8.wrap (1 - p))) + IntKind.u8.wrap (32 * IntKind.u8.wrap (1 - q))) = 66 + 128 * (1 - p) + 32 * (1 - q)) := Lib.hid (by simp only [IntKind.wrap_u8']; omega)
  have E2 : Hid (IntKind.u8.wrap (131 + IntKind.u8.wrap (8 * IntKind.u8.wrap (IntKind.i64.wrap (15 - s)))) = 131 + 8 * (15 - s)) := Lib.hid (by rw [IntWalk.i64_in _ (by omega)]; simp only [IntKind.wrap_u8']; omega)
  generalize rmI d t = z2 at *
  have HI0 := Lib.hid (Bk.new w 26 #[.int .i64 19, .int .i64 d, .int .i64 s, .int .i64 t, .int .i64 b, .int .i64 x, .int .i64 sc, .int .i64 di, .int .i64 im])
  have HB0 := Lib.hid ((Below.refl _ w).alloc (Nat.le_refl _) (.cells #[.int .i64 19, .int .i64 d, .int .i64 s, .int .i64 t, .int .i64 b, .int .i64 x, .int .i64 sc, .int .i64 di, .int .i64 im] 26))
  go_enter Tryz.func33, Tryz.ntmps33
  go_wp2_with fail
  generalize hW : World.alloc w _ = W0 at *
  clear hW
  have K0 := c9 HI0.out.drew
  go_region_held3 (fun w' => w'.cell? ⟨w.heap.size, 0, none⟩ = some (.int .i64 19) ∧ w'.cell? ⟨w.heap.size, 1, none⟩ = some (.int .i64 d) ∧ w'.cell? ⟨w.heap.size, 2, none⟩ = some (.int .i64 s) ∧ w'.cell? ⟨w.heap.size, 3, none⟩ = some (.int .i64 t) ∧ w'.cell? ⟨w.heap.size, 4, none⟩ = some (.int .i64 b) ∧ w'.cell? ⟨w.heap.size, 5, none⟩ = some (.int .i64 x) ∧ w'.cell? ⟨w.heap.size, 6, none⟩ = some (.int .i64 sc) ∧ w'.cell? ⟨w.heap.size, 7, none⟩ = some (.int .i64 di) ∧ w'.cell? ⟨w.heap.size, 8, none⟩ = some (.int .i64 im)) (first | exact K0 | exact c9 (HI0.out.drew.alloc _))
    (first | (go_at_call 57; refine (HR.out _).mono ?_; rintro e y2 ⟨rfl, rfl⟩) | (go_at_call 58; first | (refine (HH.out _).mono ?_; rintro e y5 ⟨rfl, rfl⟩) | (refine (HT.out _).mono ?_; rintro e y6 ⟨rfl, rfl⟩)))
  all_goals
    go_wp2_with fail
    go_ret
    rw [E1.out, E2.out]
    exact ⟨_, rfl, own_lit8 (xs := [196, 66 + 128 * (1 - p) + 32 * (1 - q), 131 + 8 * (15 - s), 246, z2]) (Bk.new W0 _ _).drew HB0.out.size (by simp), (HB0.out.alloc HB0.out.size _).drew⟩
set_option maxRecDepth 100000 in
set_option maxHeartbeats 4000000 in
theorem bytes_33 (d s t b x sc di im : Int) (w : World) : Calls Tryz.prog 33 #[.agg #[.int .i64 33, .int .i64 d, .int .i64 s, .int .i64 t, .int .i64 b, .int .i64 x, .int .i64 sc, .int .i64 di, .int .i64 im]] w (RowB ([195]) w) := by
  have HB0 := Lib.hid ((Below.refl _ w).alloc (Nat.le_refl _) (.cells #[.int .i64 33, .int .i64 d, .int .i64 s, .int .i64 t, .int .i64 b, .int .i64 x, .int .i64 sc, .int .i64 di, .int .i64 im] 26))
  go_enter Tryz.func33, Tryz.ntmps33
  go_wp2_with fail
  generalize hW : (w.alloc _).alloc _ = W1
  have HB1 : Below w.heap.size w W1 := by rw [← hW]; exact HB0.out.alloc HB0.out.size _
  have HL1 : Bk W1 (w.heap.size + 1) 5 (bv [195]).toArray := by
    rw [← hW]
    have h := Bk.new (w.alloc (.cells #[.int .i64 33, .int .i64 d, .int .i64 s, .int .i64 t, .int .i64 b, .int .i64 x, .int .i64 sc, .int .i64 di, .int .i64 im] 26)) 5 (bv [195]).toArray
    rw [show (w.alloc (.cells #[.int .i64 33, .int .i64 d, .int .i64 s, .int .i64 t, .int .i64 b, .int .i64 x, .int .i64 sc, .int .i64 di, .int .i64 im] 26)).heap.size = w.heap.size + 1 by simp] at h
    exact h
  clear hW
  go_ret
  exact ⟨_, rfl, own_lit8 (B := w.heap.size) (xs := [195]) HL1 (by omega) (by simp), HB1⟩
set_option maxRecDepth 100000 in
set_option maxHeartbeats 4000000 in
theorem bytes_28 (d s t b x sc di im : Int) (hs : R16 s) (w : World) : Calls Tryz.prog 33 #[.agg #[.int .i64 28, .int .i64 d, .int .i64 s, .int .i64 t, .int .i64 b, .int .i64 x, .int .i64 sc, .int .i64 di, .int .i64 im]] w (RowB (if s > 7 then [65, 80 + s % 8] else [80 + s]) w) := by
  obtain ⟨v1, v2⟩ := hs
  have HB0 := Lib.hid ((Below.refl _ w).alloc (Nat.le_refl _) (.cells #[.int .i64 28, .int .i64 d, .int .i64 s, .int .i64 t, .int .i64 b, .int .i64 x, .int .i64 sc, .int .i64 di, .int .i64 im] 26))
  by_cases h7 : s > 7
  · rw [if_pos h7]
    go_enter Tryz.func33, Tryz.ntmps33
    go_wp2_with fail
    generalize hW : (w.alloc _).alloc _ = W1
    have HB1 : Below w.heap.size w W1 := by rw [← hW]; exact HB0.out.alloc HB0.out.size _
    have HL1 : Bk W1 (w.heap.size + 1) 5 (bv [65, 80 + s % 8]).toArray := by
      rw [← hW]
      have h := Bk.new (w.alloc (.cells #[.int .i64 28, .int .i64 d, .int .i64 s, .int .i64 t, .int .i64 b, .int .i64 x, .int .i64 sc, .int .i64 di, .int .i64 im] 26)) 5 (bv [65, 80 + s % 8]).toArray
      rw [show (w.alloc (.cells #[.int .i64 28, .int .i64 d, .int .i64 s, .int .i64 t, .int .i64 b, .int .i64 x, .int .i64 sc, .int .i64 di, .int .i64 im] 26)).heap.size = w.heap.size + 1 by simp] at h
      exact h
    clear hW
    go_ret
    exact ⟨_, rfl, own_lit8 (B := w.heap.size) (xs := [65, 80 + s % 8]) HL1 (by omega) (by simp), HB1⟩
  · have h8 : s ≤ 7 := by omega
    rw [if_neg h7]
    go_enter Tryz.func33, Tryz.ntmps33
    go_wp2_with fail
    generalize hW : (w.alloc _).alloc _ = W1
    have HB1 : Below w.heap.size w W1 := by rw [← hW]; exact HB0.out.alloc HB0.out.size _
    have HL1 : Bk W1 (w.heap.size + 1) 5 (bv [80 + s]).toArray := by
      rw [← hW]
      have h := Bk.new (w.alloc (.cells #[.int .i64 28, .int .i64 d, .int .i64 s, .int .i64 t, .int .i64 b, .int .i64 x, .int .i64 sc, .int .i64 di, .int .i64 im] 26)) 5 (bv [80 + s]).toArray
      rw [show (w.alloc (.cells #[.int .i64 28, .int .i64 d, .int .i64 s, .int .i64 t, .int .i64 b, .int .i64 x, .int .i64 sc, .int .i64 di, .int .i64 im] 26)).heap.size = w.heap.size + 1 by simp] at h
      exact h
    clear hW
    go_ret
    exact ⟨_, rfl, own_lit8 (B := w.heap.size) (xs := [80 + s]) HL1 (by omega) (by simp), HB1⟩
set_option maxRecDepth 100000 in
set_option maxHeartbeats 4000000 in
theorem bytes_29 (d s t b x sc di im : Int) (hd : R16 d) (w : World) : Calls Tryz.prog 33 #[.agg #[.int .i64 29, .int .i64 d, .int .i64 s, .int .i64 t, .int .i64 b, .int .i64 x, .int .i64 sc, .int .i64 di, .int .i64 im]] w (RowB (if d > 7 then [65, 88 + d % 8] else [88 + d]) w) := by
  obtain ⟨v1, v2⟩ := hd
  have HB0 := Lib.hid ((Below.refl _ w).alloc (Nat.le_refl _) (.cells #[.int .i64 29, .int .i64 d, .int .i64 s, .int .i64 t, .int .i64 b, .int .i64 x, .int .i64 sc, .int .i64 di, .int .i64 im] 26))
  by_cases h7 : d > 7
  · rw [if_pos h7]
    go_enter Tryz.func33, Tryz.ntmps33
    go_wp2_with fail
    generalize hW : (w.alloc _).alloc _ = W1
    have HB1 : Below w.heap.size w W1 := by rw [← hW]; exact HB0.out.alloc HB0.out.size _
    have HL1 : Bk W1 (w.heap.size + 1) 5 (bv [65, 88 + d % 8]).toArray := by
      rw [← hW]
      have h := Bk.new (w.alloc (.cells #[.int .i64 29, .int .i64 d, .int .i64 s, .int .i64 t, .int .i64 b, .int .i64 x, .int .i64 sc, .int .i64 di, .int .i64 im] 26)) 5 (bv [65, 88 + d % 8]).toArray
      rw [show (w.alloc (.cells #[.int .i64 29, .int .i64 d, .int .i64 s, .int .i64 t, .int .i64 b, .int .i64 x, .int .i64 sc, .int .i64 di, .int .i64 im] 26)).heap.size = w.heap.size + 1 by simp] at h
      exact h
    clear hW
    go_ret
    exact ⟨_, rfl, own_lit8 (B := w.heap.size) (xs := [65, 88 + d % 8]) HL1 (by omega) (by simp), HB1⟩
  · have h8 : d ≤ 7 := by omega
    rw [if_neg h7]
    go_enter Tryz.func33, Tryz.ntmps33
    go_wp2_with fail
    generalize hW : (w.alloc _).alloc _ = W1
    have HB1 : Below w.heap.size w W1 := by rw [← hW]; exact HB0.out.alloc HB0.out.size _
    have HL1 : Bk W1 (w.heap.size + 1) 5 (bv [88 + d]).toArray := by
      rw [← hW]
      have h := Bk.new (w.alloc (.cells #[.int .i64 29, .int .i64 d, .int .i64 s, .int .i64 t, .int .i64 b, .int .i64 x, .int .i64 sc, .int .i64 di, .int .i64 im] 26)) 5 (bv [88 + d]).toArray
      rw [show (w.alloc (.cells #[.int .i64 29, .int .i64 d, .int .i64 s, .int .i64 t, .int .i64 b, .int .i64 x, .int .i64 sc, .int .i64 di, .int .i64 im] 26)).heap.size = w.heap.size + 1 by simp] at h
      exact h
    clear hW
    go_ret
    exact ⟨_, rfl, own_lit8 (B := w.heap.size) (xs := [88 + d]) HL1 (by omega) (by simp), HB1⟩
set_option maxRecDepth 100000 in
set_option maxHeartbeats 4000000 in
theorem bytes_30 (d s t b x sc di im : Int) (w : World) : Calls Tryz.prog 33 #[.agg #[.int .i64 30, .int .i64 d, .int .i64 s, .int .i64 t, .int .i64 b, .int .i64 x, .int .i64 sc, .int .i64 di, .int .i64 im]] w (RowB ([233] ++ ltl im 4) w) := by
  have HB0 := Lib.hid ((Below.refl _ w).alloc (Nat.le_refl _) (.cells #[.int .i64 30, .int .i64 d, .int .i64 s, .int .i64 t, .int .i64 b, .int .i64 x, .int .i64 sc, .int .i64 di, .int .i64 im] 26))
  go_enter Tryz.func33, Tryz.ntmps33
  go_wp2_with fail
  generalize hW : (w.alloc _).alloc _ = W1
  have HB1 : Below w.heap.size w W1 := by rw [← hW]; exact HB0.out.alloc HB0.out.size _
  have HL1 : Bk W1 (w.heap.size + 1) 5 (bv [233]).toArray := by
    rw [← hW]
    have h := Bk.new (w.alloc (.cells #[.int .i64 30, .int .i64 d, .int .i64 s, .int .i64 t, .int .i64 b, .int .i64 x, .int .i64 sc, .int .i64 di, .int .i64 im] 26)) 5 (bv [233]).toArray
    rw [show (w.alloc (.cells #[.int .i64 30, .int .i64 d, .int .i64 s, .int .i64 t, .int .i64 b, .int .i64 x, .int .i64 sc, .int .i64 di, .int .i64 im] 26)).heap.size = w.heap.size + 1 by simp] at h
    exact h
  clear hW
  have o2 := own_lit8 (B := w.heap.size) HL1 (by omega) (by simp)
  go_at_call 55
  refine (little_c im 4 (by decide) _).mono ?_
  rintro e w5 ⟨v5, rfl, o5, hb5⟩
  have o2' : w5.ownsRow w.heap.size 5 1 _ [233].length (bv [233]) := own_keep o2 hb5
  obtain ⟨v6, w6, hap, o6, hg6⟩ := own_app8 63 o2' o5 (by simp [ltl_len]) (Nat.le_trans HB1.size hb5.size)
  have HB6 : Below w.heap.size w w6 := ((HB1.trans (hb5.mono HB1.size)).grown hg6 (Nat.le_trans HB1.size hb5.size) (fun g e => (o2'.lt g e).1))
  go_wp2_with (at_builtin; refine wpList_append_eq rfl _ _ 63 rfl _ _ rfl rfl _ _ hap ?_)
  go_ret
  exact ⟨_, rfl, o6, HB6⟩
set_option maxRecDepth 100000 in
set_option maxHeartbeats 4000000 in
theorem bytes_31 (d s t b x sc di im : Int) (w : World) : Calls Tryz.prog 33 #[.agg #[.int .i64 31, .int .i64 d, .int .i64 s, .int .i64 t, .int .i64 b, .int .i64 x, .int .i64 sc, .int .i64 di, .int .i64 im]] w (RowB ([15, 133] ++ ltl im 4) w) := by
  have HB0 := Lib.hid ((Below.refl _ w).alloc (Nat.le_refl _) (.cells #[.int .i64 31, .int .i64 d, .int .i64 s, .int .i64 t, .int .i64 b, .int .i64 x, .int .i64 sc, .int .i64 di, .int .i64 im] 26))
  go_enter Tryz.func33, Tryz.ntmps33
  go_wp2_with fail
  generalize hW : (w.alloc _).alloc _ = W1
  have HB1 : Below w.heap.size w W1 := by rw [← hW]; exact HB0.out.alloc HB0.out.size _
  have HL1 : Bk W1 (w.heap.size + 1) 5 (bv [15, 133]).toArray := by
    rw [← hW]
    have h := Bk.new (w.alloc (.cells #[.int .i64 31, .int .i64 d, .int .i64 s, .int .i64 t, .int .i64 b, .int .i64 x, .int .i64 sc, .int .i64 di, .int .i64 im] 26)) 5 (bv [15, 133]).toArray
    rw [show (w.alloc (.cells #[.int .i64 31, .int .i64 d, .int .i64 s, .int .i64 t, .int .i64 b, .int .i64 x, .int .i64 sc, .int .i64 di, .int .i64 im] 26)).heap.size = w.heap.size + 1 by simp] at h
    exact h
  clear hW
  have o2 := own_lit8 (B := w.heap.size) HL1 (by omega) (by simp)
  go_at_call 55
  refine (little_c im 4 (by decide) _).mono ?_
  rintro e w5 ⟨v5, rfl, o5, hb5⟩
  have o2' : w5.ownsRow w.heap.size 5 1 _ [15, 133].length (bv [15, 133]) := own_keep o2 hb5
  obtain ⟨v6, w6, hap, o6, hg6⟩ := own_app8 63 o2' o5 (by simp [ltl_len]) (Nat.le_trans HB1.size hb5.size)
  have HB6 : Below w.heap.size w w6 := ((HB1.trans (hb5.mono HB1.size)).grown hg6 (Nat.le_trans HB1.size hb5.size) (fun g e => (o2'.lt g e).1))
  go_wp2_with (at_builtin; refine wpList_append_eq rfl _ _ 63 rfl _ _ rfl rfl _ _ hap ?_)
  go_ret
  exact ⟨_, rfl, o6, HB6⟩
set_option maxRecDepth 100000 in
set_option maxHeartbeats 4000000 in
theorem bytes_32 (d s t b x sc di im : Int) (w : World) : Calls Tryz.prog 33 #[.agg #[.int .i64 32, .int .i64 d, .int .i64 s, .int .i64 t, .int .i64 b, .int .i64 x, .int .i64 sc, .int .i64 di, .int .i64 im]] w (RowB ([15, 130] ++ ltl im 4) w) := by
  have HB0 := Lib.hid ((Below.refl _ w).alloc (Nat.le_refl _) (.cells #[.int .i64 32, .int .i64 d, .int .i64 s, .int .i64 t, .int .i64 b, .int .i64 x, .int .i64 sc, .int .i64 di, .int .i64 im] 26))
  go_enter Tryz.func33, Tryz.ntmps33
  go_wp2_with fail
  generalize hW : (w.alloc _).alloc _ = W1
  have HB1 : Below w.heap.size w W1 := by rw [← hW]; exact HB0.out.alloc HB0.out.size _
  have HL1 : Bk W1 (w.heap.size + 1) 5 (bv [15, 130]).toArray := by
    rw [← hW]
    have h := Bk.new (w.alloc (.cells #[.int .i64 32, .int .i64 d, .int .i64 s, .int .i64 t, .int .i64 b, .int .i64 x, .int .i64 sc, .int .i64 di, .int .i64 im] 26)) 5 (bv [15, 130]).toArray
    rw [show (w.alloc (.cells #[.int .i64 32, .int .i64 d, .int .i64 s, .int .i64 t, .int .i64 b, .int .i64 x, .int .i64 sc, .int .i64 di, .int .i64 im] 26)).heap.size = w.heap.size + 1 by simp] at h
    exact h
  clear hW
  have o2 := own_lit8 (B := w.heap.size) HL1 (by omega) (by simp)
  go_at_call 55
  refine (little_c im 4 (by decide) _).mono ?_
  rintro e w5 ⟨v5, rfl, o5, hb5⟩
  have o2' : w5.ownsRow w.heap.size 5 1 _ [15, 130].length (bv [15, 130]) := own_keep o2 hb5
  obtain ⟨v6, w6, hap, o6, hg6⟩ := own_app8 63 o2' o5 (by simp [ltl_len]) (Nat.le_trans HB1.size hb5.size)
  have HB6 : Below w.heap.size w w6 := ((HB1.trans (hb5.mono HB1.size)).grown hg6 (Nat.le_trans HB1.size hb5.size) (fun g e => (o2'.lt g e).1))
  go_wp2_with (at_builtin; refine wpList_append_eq rfl _ _ 63 rfl _ _ rfl rfl _ _ hap ?_)
  go_ret
  exact ⟨_, rfl, o6, HB6⟩
end Is
end Go.Proofs.YtblmagcekfbgdaaGreatDoor
