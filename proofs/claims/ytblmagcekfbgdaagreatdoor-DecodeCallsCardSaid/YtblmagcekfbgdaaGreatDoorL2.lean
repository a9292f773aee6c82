/- The document's own bytes: operations with one register, over two behind a prefix. -/
import Derived.Test.YtblmagcekfbgdaaGreatDoorL0
namespace Go.Proofs.YtblmagcekfbgdaaGreatDoor
open Go Go.RowKit
namespace Is
open Nt
set_option linter.unusedVariables false
set_option linter.unusedSimpArgs false
set_option maxRecDepth 100000 in
set_option maxHeartbeats 4000000 in
theorem bytes_22 (d s t b x sc di im : Int) (hd : R16 d) (w : World) : Calls Tryz.prog 33 #[.agg #[.int .i64 22, .int .i64 d, .int .i64 s, .int .i64 t, .int .i64 b, .int .i64 x, .int .i64 sc, .int .i64 di, .int .i64 im]] w (RowB ([rexI 0 0 d, 247, rmI 3 d]) w) := by
  have HX := Lib.hid (fun W => rex_c 0 0 d rx_0 rx_0 hd.rx W)
  have HR := Lib.hid (fun W => both_c 3 d r16_3 hd W)
  clear hd
  generalize rexI 0 0 d = z1 at *
  generalize rmI 3 d = z2 at *
  have HI0 := Lib.hid (Bk.new w 26 #[.int .i64 22, .int .i64 d, .int .i64 s, .int .i64 t, .int .i64 b, .int .i64 x, .int .i64 sc, .int .i64 di, .int .i64 im])
  have HB0 := Lib.hid ((Below.refl _ w).alloc (Nat.le_refl _) (.cells #[.int .i64 22, .int .i64 d, .int .i64 s, .int .i64 t, .int .i64 b, .int .i64 x, .int .i64 sc, .int .i64 di, .int .i64 im] 26))
  go_enter Tryz.func33, Tryz.ntmps33
  go_wp2_with fail
  generalize hW : World.alloc w _ = W0 at *
  clear hW
  have K0 := c9 HI0.out.drew
  go_region_held3 (fun w' => w'.cell? ⟨w.heap.size, 0, none⟩ = some (.int .i64 22) ∧ w'.cell? ⟨w.heap.size, 1, none⟩ = some (.int .i64 d) ∧ w'.cell? ⟨w.heap.size, 2, none⟩ = some (.int .i64 s) ∧ w'.cell? ⟨w.heap.size, 3, none⟩ = some (.int .i64 t) ∧ w'.cell? ⟨w.heap.size, 4, none⟩ = some (.int .i64 b) ∧ w'.cell? ⟨w.heap.size, 5, none⟩ = some (.int .i64 x) ∧ w'.cell? ⟨w.heap.size, 6, none⟩ = some (.int .i64 sc) ∧ w'.cell? ⟨w.heap.size, 7, none⟩ = some (.int .i64 di) ∧ w'.cell? ⟨w.heap.size, 8, none⟩ = some (.int .i64 im)) (first | exact K0 | exact c9 (HI0.out.drew.alloc _))
    (first | (go_at_call 54; refine (HX.out _).mono ?_; rintro e y1 ⟨rfl, rfl⟩) | (go_at_call 57; refine (HR.out _).mono ?_; rintro e y2 ⟨rfl, rfl⟩))
  all_goals
    go_wp2_with fail
    go_ret
    exact ⟨_, rfl, own_lit8 (xs := [z1, 247, z2]) (Bk.new W0 _ _).drew HB0.out.size (by simp), (HB0.out.alloc HB0.out.size _).drew⟩
set_option maxRecDepth 100000 in
set_option maxHeartbeats 4000000 in
theorem bytes_23 (d s t b x sc di im : Int) (hd : R16 d) (w : World) : Calls Tryz.prog 33 #[.agg #[.int .i64 23, .int .i64 d, .int .i64 s, .int .i64 t, .int .i64 b, .int .i64 x, .int .i64 sc, .int .i64 di, .int .i64 im]] w (RowB ([rexI 0 0 d, 247, rmI 2 d]) w) := by
  have HX := Lib.hid (fun W => rex_c 0 0 d rx_0 rx_0 hd.rx W)
  have HR := Lib.hid (fun W => both_c 2 d r16_2 hd W)
  clear hd
  generalize rexI 0 0 d = z1 at *
  generalize rmI 2 d = z2 at *
  have HI0 := Lib.hid (Bk.new w 26 #[.int .i64 23, .int .i64 d, .int .i64 s, .int .i64 t, .int .i64 b, .int .i64 x, .int .i64 sc, .int .i64 di, .int .i64 im])
  have HB0 := Lib.hid ((Below.refl _ w).alloc (Nat.le_refl _) (.cells #[.int .i64 23, .int .i64 d, .int .i64 s, .int .i64 t, .int .i64 b, .int .i64 x, .int .i64 sc, .int .i64 di, .int .i64 im] 26))
  go_enter Tryz.func33, Tryz.ntmps33
  go_wp2_with fail
  generalize hW : World.alloc w _ = W0 at *
  clear hW
  have K0 := c9 HI0.out.drew
  go_region_held3 (fun w' => w'.cell? ⟨w.heap.size, 0, none⟩ = some (.int .i64 23) ∧ w'.cell? ⟨w.heap.size, 1, none⟩ = some (.int .i64 d) ∧ w'.cell? ⟨w.heap.size, 2, none⟩ = some (.int .i64 s) ∧ w'.cell? ⟨w.heap.size, 3, none⟩ = some (.int .i64 t) ∧ w'.cell? ⟨w.heap.size, 4, none⟩ = some (.int .i64 b) ∧ w'.cell? ⟨w.heap.size, 5, none⟩ = some (.int .i64 x) ∧ w'.cell? ⟨w.heap.size, 6, none⟩ = some (.int .i64 sc) ∧ w'.cell? ⟨w.heap.size, 7, none⟩ = some (.int .i64 di) ∧ w'.cell? ⟨w.heap.size, 8, none⟩ = some (.int .i64 im)) (first | exact K0 | exact c9 (HI0.out.drew.alloc _))
    (first | (go_at_call 54; refine (HX.out _).mono ?_; rintro e y1 ⟨rfl, rfl⟩) | (go_at_call 57; refine (HR.out _).mono ?_; rintro e y2 ⟨rfl, rfl⟩))
  all_goals
    go_wp2_with fail
    go_ret
    exact ⟨_, rfl, own_lit8 (xs := [z1, 247, z2]) (Bk.new W0 _ _).drew HB0.out.size (by simp), (HB0.out.alloc HB0.out.size _).drew⟩
set_option maxRecDepth 100000 in
set_option maxHeartbeats 4000000 in
theorem bytes_24 (d s t b x sc di im : Int) (hd : R16 d) (h1 : 1 ≤ im) (h63 : im ≤ 63) (w : World) : Calls Tryz.prog 33 #[.agg #[.int .i64 24, .int .i64 d, .int .i64 s, .int .i64 t, .int .i64 b, .int .i64 x, .int .i64 sc, .int .i64 di, .int .i64 im]] w (RowB ([rexI 0 0 d, 193, rmI 4 d, im]) w) := by
  have HX := Lib.hid (fun W => rex_c 0 0 d rx_0 rx_0 hd.rx W)
  have HR := Lib.hid (fun W => both_c 4 d r16_4 hd W)
  clear hd
  generalize rexI 0 0 d = z1 at *
  generalize rmI 4 d = z2 at *
  have HI0 := Lib.hid (Bk.new w 26 #[.int .i64 24, .int .i64 d, .int .i64 s, .int .i64 t, .int .i64 b, .int .i64 x, .int .i64 sc, .int .i64 di, .int .i64 im])
  have HB0 := Lib.hid ((Below.refl _ w).alloc (Nat.le_refl _) (.cells #[.int .i64 24, .int .i64 d, .int .i64 s, .int .i64 t, .int .i64 b, .int .i64 x, .int .i64 sc, .int .i64 di, .int .i64 im] 26))
  go_enter Tryz.func33, Tryz.ntmps33
  go_wp2_with fail
  generalize hW : World.alloc w _ = W0 at *
  clear hW
  have K0 := c9 HI0.out.drew
  have E1 : Hid (IntKind.u8.wrap im = im) := Lib.hid (by rw [IntKind.wrap_u8']; omega)
  clear h1 h63
  go_region_held3 (fun w' => w'.cell? ⟨w.heap.size, 0, none⟩ = some (.int .i64 24) ∧ w'.cell? ⟨w.heap.size, 1, none⟩ = some (.int .i64 d) ∧ w'.cell? ⟨w.heap.size, 2, none⟩ = some (.int .i64 s) ∧ w'.cell? ⟨w.heap.size, 3, none⟩ = some (.int .i64 t) ∧ w'.cell? ⟨w.heap.size, 4, none⟩ = some (.int .i64 b) ∧ w'.cell? ⟨w.heap.size, 5, none⟩ = some (.int .i64 x) ∧ w'.cell? ⟨w.heap.size, 6, none⟩ = some (.int .i64 sc) ∧ w'.cell? ⟨w.heap.size, 7, none⟩ = some (.int .i64 di) ∧ w'.cell? ⟨w.heap.size, 8, none⟩ = some (.int .i64 im)) (first | exact K0 | exact c9 (HI0.out.drew.alloc _))
    (first | (go_at_call 54; refine (HX.out _).mono ?_; rintro e y1 ⟨rfl, rfl⟩) | (go_at_call 57; refine (HR.out _).mono ?_; rintro e y2 ⟨rfl, rfl⟩))
  all_goals
    go_wp2_with fail
    go_ret
    rw [E1.out]
    exact ⟨_, rfl, own_lit8 (xs := [z1, 193, z2, im]) (Bk.new W0 _ _).drew HB0.out.size (by simp), (HB0.out.alloc HB0.out.size _).drew⟩
set_option maxRecDepth 100000 in
set_option maxHeartbeats 4000000 in
theorem bytes_25 (d s t b x sc di im : Int) (hd : R16 d) (h1 : 1 ≤ im) (h63 : im ≤ 63) (w : World) : Calls Tryz.prog 33 #[.agg #[.int .i64 25, .int .i64 d, .int .i64 s, .int .i64 t, .int .i64 b, .int .i64 x, .int .i64 sc, .int .i64 di, .int .i64 im]] w (RowB ([rexI 0 0 d, 193, rmI 5 d, im]) w) := by
  have HX := Lib.hid (fun W => rex_c 0 0 d rx_0 rx_0 hd.rx W)
  have HR := Lib.hid (fun W => both_c 5 d r16_5 hd W)
  clear hd
  generalize rexI 0 0 d = z1 at *
  generalize rmI 5 d = z2 at *
  have HI0 := Lib.hid (Bk.new w 26 #[.int .i64 25, .int .i64 d, .int .i64 s, .int .i64 t, .int .i64 b, .int .i64 x, .int .i64 sc, .int .i64 di, .int .i64 im])
  have HB0 := Lib.hid ((Below.refl _ w).alloc (Nat.le_refl _) (.cells #[.int .i64 25, .int .i64 d, .int .i64 s, .int .i64 t, .int .i64 b, .int .i64 x, .int .i64 sc, .int .i64 di, .int .i64 im] 26))
  go_enter Tryz.func33, Tryz.ntmps33
  go_wp2_with fail
  generalize hW : World.alloc w _ = W0 at *
  clear hW
  have K0 := c9 HI0.out.drew
  have E1 : Hid (IntKind.u8.wrap im = im) := Lib.hid (by rw [IntKind.wrap_u8']; omega)
  clear h1 h63
  go_region_held3 (fun w' => w'.cell? ⟨w.heap.size, 0, none⟩ = some (.int .i64 25) ∧ w'.cell? ⟨w.heap.size, 1, none⟩ = some (.int .i64 d) ∧ w'.cell? ⟨w.heap.size, 2, none⟩ = some (.int .i64 s) ∧ w'.cell? ⟨w.heap.size, 3, none⟩ = some (.int .i64 t) ∧ w'.cell? ⟨w.heap.size, 4, none⟩ = some (.int .i64 b) ∧ w'.cell? ⟨w.heap.size, 5, none⟩ = some (.int .i64 x) ∧ w'.cell? ⟨w.heap.size, 6, none⟩ = some (.int .i64 sc) ∧ w'.cell? ⟨w.heap.size, 7, none⟩ = some (.int .i64 di) ∧ w'.cell? ⟨w.heap.size, 8, none⟩ = some (.int .i64 im)) (first | exact K0 | exact c9 (HI0.out.drew.alloc _))
    (first | (go_at_call 54; refine (HX.out _).mono ?_; rintro e y1 ⟨rfl, rfl⟩) | (go_at_call 57; refine (HR.out _).mono ?_; rintro e y2 ⟨rfl, rfl⟩))
  all_goals
    go_wp2_with fail
    go_ret
    rw [E1.out]
    exact ⟨_, rfl, own_lit8 (xs := [z1, 193, z2, im]) (Bk.new W0 _ _).drew HB0.out.size (by simp), (HB0.out.alloc HB0.out.size _).drew⟩
set_option maxRecDepth 100000 in
set_option maxHeartbeats 4000000 in
theorem bytes_20 (d s t b x sc di im : Int) (hd : R16 d) (hs : R16 s) (w : World) : Calls Tryz.prog 33 #[.agg #[.int .i64 20, .int .i64 d, .int .i64 s, .int .i64 t, .int .i64 b, .int .i64 x, .int .i64 sc, .int .i64 di, .int .i64 im]] w (RowB ([102, rexI d 0 s, 15, 56, 246, rmI d s]) w) := by
  have HX := Lib.hid (fun W => rex_c d 0 s hd.rx rx_0 hs.rx W)
  have HR := Lib.hid (fun W => both_c d s hd hs W)
  clear hd
  clear hs
  generalize rexI d 0 s = z1 at *
  generalize rmI d s = z2 at *
  have HI0 := Lib.hid (Bk.new w 26 #[.int .i64 20, .int .i64 d, .int .i64 s, .int .i64 t, .int .i64 b, .int .i64 x, .int .i64 sc, .int .i64 di, .int .i64 im])
  have HB0 := Lib.hid ((Below.refl _ w).alloc (Nat.le_refl _) (.cells #[.int .i64 20, .int .i64 d, .int .i64 s, .int .i64 t, .int .i64 b, .int .i64 x, .int .i64 sc, .int .i64 di, .int .i64 im] 26))
  go_enter Tryz.func33, Tryz.ntmps33
  go_wp2_with fail
  generalize hW : World.alloc w _ = W0 at *
  clear hW
  have K0 := c9 HI0.out.drew
  go_region_held3 (fun w' => w'.cell? ⟨w.heap.size, 0, none⟩ = some (.int .i64 20) ∧ w'.cell? ⟨w.heap.size, 1, none⟩ = some (.int .i64 d) ∧ w'.cell? ⟨w.heap.size, 2, none⟩ = some (.int .i64 s) ∧ w'.cell? ⟨w.heap.size, 3, none⟩ = some (.int .i64 t) ∧ w'.cell? ⟨w.heap.size, 4, none⟩ = some (.int .i64 b) ∧ w'.cell? ⟨w.heap.size, 5, none⟩ = some (.int .i64 x) ∧ w'.cell? ⟨w.heap.size, 6, none⟩ = some (.int .i64 sc) ∧ w'.cell? ⟨w.heap.size, 7, none⟩ = some (.int .i64 di) ∧ w'.cell? ⟨w.heap.size, 8, none⟩ = some (.int .i64 im)) (first | exact K0 | exact c9 (HI0.out.drew.alloc _))
    (first | (go_at_call 54; refine (HX.out _).mono ?_; rintro e y1 ⟨rfl, rfl⟩) | (go_at_call 57; refine (HR.out _).mono ?_; rintro e y2 ⟨rfl, rfl⟩))
  all_goals
    go_wp2_with fail
    go_ret
    exact ⟨_, rfl, own_lit8 (xs := [102, z1, 15, 56, 246, z2]) (Bk.new W0 _ _).drew HB0.out.size (by simp), (HB0.out.alloc HB0.out.size _).drew⟩
set_option maxRecDepth 100000 in
set_option maxHeartbeats 4000000 in
theorem bytes_21 (d s t b x sc di im : Int) (hd : R16 d) (hs : R16 s) (w : World) : Calls Tryz.prog 33 #[.agg #[.int .i64 21, .int .i64 d, .int .i64 s, .int .i64 t, .int .i64 b, .int .i64 x, .int .i64 sc, .int .i64 di, .int .i64 im]] w (RowB ([243, rexI d 0 s, 15, 56, 246, rmI d s]) w) := by
  have HX := Lib.hid (fun W => rex_c d 0 s hd.rx rx_0 hs.rx W)
  have HR := Lib.hid (fun W => both_c d s hd hs W)
  clear hd
  clear hs
  generalize rexI d 0 s = z1 at *
  generalize rmI d s = z2 at *
  have HI0 := Lib.hid (Bk.new w 26 #[.int .i64 21, .int .i64 d, .int .i64 s, .int .i64 t, .int .i64 b, .int .i64 x, .int .i64 sc, .int .i64 di, .int .i64 im])
  have HB0 := Lib.hid ((Below.refl _ w).alloc (Nat.le_refl _) (.cells #[.int .i64 21, .int .i64 d, .int .i64 s, .int .i64 t, .int .i64 b, .int .i64 x, .int .i64 sc, .int .i64 di, .int .i64 im] 26))
  go_enter Tryz.func33, Tryz.ntmps33
  go_wp2_with fail
  generalize hW : World.alloc w _ = W0 at *
  clear hW
  have K0 := c9 HI0.out.drew
  go_region_held3 (fun w' => w'.cell? ⟨w.heap.size, 0, none⟩ = some (.int .i64 21) ∧ w'.cell? ⟨w.heap.size, 1, none⟩ = some (.int .i64 d) ∧ w'.cell? ⟨w.heap.size, 2, none⟩ = some (.int .i64 s) ∧ w'.cell? ⟨w.heap.size, 3, none⟩ = some (.int .i64 t) ∧ w'.cell? ⟨w.heap.size, 4, none⟩ = some (.int .i64 b) ∧ w'.cell? ⟨w.heap.size, 5, none⟩ = some (.int .i64 x) ∧ w'.cell? ⟨w.heap.size, 6, none⟩ = some (.int .i64 sc) ∧ w'.cell? ⟨w.heap.size, 7, none⟩ = some (.int .i64 di) ∧ w'.cell? ⟨w.heap.size, 8, none⟩ = some (.int .i64 im)) (first | exact K0 | exact c9 (HI0.out.drew.alloc _))
    (first | (go_at_call 54; refine (HX.out _).mono ?_; rintro e y1 ⟨rfl, rfl⟩) | (go_at_call 57; refine (HR.out _).mono ?_; rintro e y2 ⟨rfl, rfl⟩))
  all_goals
    go_wp2_with fail
    go_ret
    exact ⟨_, rfl, own_lit8 (xs := [243, z1, 15, 56, 246, z2]) (Bk.new W0 _ _).drew HB0.out.size (by simp), (HB0.out.alloc HB0.out.size _).drew⟩
set_option maxRecDepth 100000 in
set_option maxHeartbeats 4000000 in
theorem bytes_26 (d s t b x sc di im : Int) (hd : R16 d) (hs : R16 s) (w : World) : Calls Tryz.prog 33 #[.agg #[.int .i64 26, .int .i64 d, .int .i64 s, .int .i64 t, .int .i64 b, .int .i64 x, .int .i64 sc, .int .i64 di, .int .i64 im]] w (RowB ([rexI d 0 s, 15, 66, rmI d s]) w) := by
  have HX := Lib.hid (fun W => rex_c d 0 s hd.rx rx_0 hs.rx W)
  have HR := Lib.hid (fun W => both_c d s hd hs W)
  clear hd
  clear hs
  generalize rexI d 0 s = z1 at *
  generalize rmI d s = z2 at *
  have HI0 := Lib.hid (Bk.new w 26 #[.int .i64 26, .int .i64 d, .int .i64 s, .int .i64 t, .int .i64 b, .int .i64 x, .int .i64 sc, .int .i64 di, .int .i64 im])
  have HB0 := Lib.hid ((Below.refl _ w).alloc (Nat.le_refl _) (.cells #[.int .i64 26, .int .i64 d, .int .i64 s, .int .i64 t, .int .i64 b, .int .i64 x, .int .i64 sc, .int .i64 di, .int .i64 im] 26))
  go_enter Tryz.func33, Tryz.ntmps33
  go_wp2_with fail
  generalize hW : World.alloc w _ = W0 at *
  clear hW
  have K0 := c9 HI0.out.drew
  go_region_held3 (fun w' => w'.cell? ⟨w.heap.size, 0, none⟩ = some (.int .i64 26) ∧ w'.cell? ⟨w.heap.size, 1, none⟩ = some (.int .i64 d) ∧ w'.cell? ⟨w.heap.size, 2, none⟩ = some (.int .i64 s) ∧ w'.cell? ⟨w.heap.size, 3, none⟩ = some (.int .i64 t) ∧ w'.cell? ⟨w.heap.size, 4, none⟩ = some (.int .i64 b) ∧ w'.cell? ⟨w.heap.size, 5, none⟩ = some (.int .i64 x) ∧ w'.cell? ⟨w.heap.size, 6, none⟩ = some (.int .i64 sc) ∧ w'.cell? ⟨w.heap.size, 7, none⟩ = some (.int .i64 di) ∧ w'.cell? ⟨w.heap.size, 8, none⟩ = some (.int .i64 im)) (first | exact K0 | exact c9 (HI0.out.drew.alloc _))
    (first | (go_at_call 54; refine (HX.out _).mono ?_; rintro e y1 ⟨rfl, rfl⟩) | (go_at_call 57; refine (HR.out _).mono ?_; rintro e y2 ⟨rfl, rfl⟩))
  all_goals
    go_wp2_with fail
    go_ret
    exact ⟨_, rfl, own_lit8 (xs := [z1, 15, 66, z2]) (Bk.new W0 _ _).drew HB0.out.size (by simp), (HB0.out.alloc HB0.out.size _).drew⟩
set_option maxRecDepth 100000 in
set_option maxHeartbeats 4000000 in
theorem bytes_27 (d s t b x sc di im : Int) (hd : R16 d) (hs : R16 s) (w : World) : Calls Tryz.prog 33 #[.agg #[.int .i64 27, .int .i64 d, .int .i64 s, .int .i64 t, .int .i64 b, .int .i64 x, .int .i64 sc, .int .i64 di, .int .i64 im]] w (RowB ([rexI d 0 s, 15, 69, rmI d s]) w) := by
  have HX := Lib.hid (fun W => rex_c d 0 s hd.rx rx_0 hs.rx W)
  have HR := Lib.hid (fun W => both_c d s hd hs W)
  clear hd
  clear hs
  generalize rexI d 0 s = z1 at *
  generalize rmI d s = z2 at *
  have HI0 := Lib.hid (Bk.new w 26 #[.int .i64 27, .int .i64 d, .int .i64 s, .int .i64 t, .int .i64 b, .int .i64 x, .int .i64 sc, .int .i64 di, .int .i64 im])
  have HB0 := Lib.hid ((Below.refl _ w).alloc (Nat.le_refl _) (.cells #[.int .i64 27, .int .i64 d, .int .i64 s, .int .i64 t, .int .i64 b, .int .i64 x, .int .i64 sc, .int .i64 di, .int .i64 im] 26))
  go_enter Tryz.func33, Tryz.ntmps33
  go_wp2_with fail
  generalize hW : World.alloc w _ = W0 at *
  clear hW
  have K0 := c9 HI0.out.drew
  go_region_held3 (fun w' => w'.cell? ⟨w.heap.size, 0, none⟩ = some (.int .i64 27) ∧ w'.cell? ⟨w.heap.size, 1, none⟩ = some (.int .i64 d) ∧ w'.cell? ⟨w.heap.size, 2, none⟩ = some (.int .i64 s) ∧ w'.cell? ⟨w.heap.size, 3, none⟩ = some (.int .i64 t) ∧ w'.cell? ⟨w.heap.size, 4, none⟩ = some (.int .i64 b) ∧ w'.cell? ⟨w.heap.size, 5, none⟩ = some (.int .i64 x) ∧ w'.cell? ⟨w.heap.size, 6, none⟩ = some (.int .i64 sc) ∧ w'.cell? ⟨w.heap.size, 7, none⟩ = some (.int .i64 di) ∧ w'.cell? ⟨w.heap.size, 8, none⟩ = some (.int .i64 im)) (first | exact K0 | exact c9 (HI0.out.drew.alloc _))
    (first | (go_at_call 54; refine (HX.out _).mono ?_; rintro e y1 ⟨rfl, rfl⟩) | (go_at_call 57; refine (HR.out _).mono ?_; rintro e y2 ⟨rfl, rfl⟩))
  all_goals
    go_wp2_with fail
    go_ret
    exact ⟨_, rfl, own_lit8 (xs := [z1, 15, 69, z2]) (Bk.new W0 _ _).drew HB0.out.size (by simp), (HB0.out.alloc HB0.out.size _).drew⟩
end Is
end Go.Proofs.YtblmagcekfbgdaaGreatDoor
