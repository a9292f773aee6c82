/- The document's own bytes: operations with places. -/
import Derived.Test.YtblmagcekfbgdaaGreatDoorL0
namespace Go.Proofs.YtblmagcekfbgdaaGreatDoor
open Go Go.RowKit
namespace Is
open Nt
set_option linter.unusedVariables false
set_option linter.unusedSimpArgs false
set_option maxRecDepth 100000 in
set_option maxHeartbeats 4000000 in
theorem bytes_3 (d s t b x sc di im : Int) (hd : R16 d) (hp : Pl ⟨3, d, s, t, b, x, sc, di, im⟩) (w : World) : Calls Tryz.prog 33 #[.agg #[.int .i64 3, .int .i64 d, .int .i64 s, .int .i64 t, .int .i64 b, .int .i64 x, .int .i64 sc, .int .i64 di, .int .i64 im]] w (RowB ([rexI d x b, 139] ++ plcL d ⟨3, d, s, t, b, x, sc, di, im⟩) w) := by
  have HX := Lib.hid (fun W => rex_c d x b hd.rx (Pl.rxx hp) (R16.rx hp.1) W)
  have HS := Lib.hid (fun W => plc_c ⟨3, d, s, t, b, x, sc, di, im⟩ d hd hp W)
  have HLN : Hid ((plcL d ⟨3, d, s, t, b, x, sc, di, im⟩).length ≤ 8) := Lib.hid (by first | (rw [ltl_len]; decide) | exact plc_len _ _)
  clear hd
  clear hp
  generalize plcL d ⟨3, d, s, t, b, x, sc, di, im⟩ = src at *
  dsimp only at HS
  generalize rexI d x b = z1 at *
  have HI0 := Lib.hid (Bk.new w 26 #[.int .i64 3, .int .i64 d, .int .i64 s, .int .i64 t, .int .i64 b, .int .i64 x, .int .i64 sc, .int .i64 di, .int .i64 im])
  have HB0 := Lib.hid ((Below.refl _ w).alloc (Nat.le_refl _) (.cells #[.int .i64 3, .int .i64 d, .int .i64 s, .int .i64 t, .int .i64 b, .int .i64 x, .int .i64 sc, .int .i64 di, .int .i64 im] 26))
  go_enter Tryz.func33, Tryz.ntmps33
  go_wp2_with fail
  generalize hW : World.alloc w _ = W0 at *
  clear hW
  have K0 := c9 HI0.out.drew
  have HL0 := Lib.hid (show Bk (W0.alloc (.cells #[.int .u8 (z1), .int .u8 (139)] 5)).drew W0.heap.size 5 (bv [z1, 139]).toArray from (Bk.new W0 _ _).drew)
  have HID := Lib.hid HI0.out.drew
  have HBD := Lib.hid HB0.out.drew
  have HI1 := Lib.hid (HI0.out.alloc (.cells #[.int .u8 (z1), .int .u8 (139)] 5)).drew
  have HB1 := Lib.hid (HB0.out.alloc HB0.out.size (.cells #[.int .u8 (z1), .int .u8 (139)] 5)).drew
  go_region_held3 (fun w' => w'.cell? ⟨w.heap.size, 0, none⟩ = some (.int .i64 3) ∧ w'.cell? ⟨w.heap.size, 1, none⟩ = some (.int .i64 d) ∧ w'.cell? ⟨w.heap.size, 2, none⟩ = some (.int .i64 s) ∧ w'.cell? ⟨w.heap.size, 3, none⟩ = some (.int .i64 t) ∧ w'.cell? ⟨w.heap.size, 4, none⟩ = some (.int .i64 b) ∧ w'.cell? ⟨w.heap.size, 5, none⟩ = some (.int .i64 x) ∧ w'.cell? ⟨w.heap.size, 6, none⟩ = some (.int .i64 sc) ∧ w'.cell? ⟨w.heap.size, 7, none⟩ = some (.int .i64 di) ∧ w'.cell? ⟨w.heap.size, 8, none⟩ = some (.int .i64 im)) (first | exact K0 | exact K6 | exact K3 | exact c9 (HI3.out.alloc _) | exact c9 (HI0.out.drew.alloc _))
    (first | (go_at_call 54; refine (HX.out _).mono ?_; rintro e y1 ⟨rfl, rfl⟩) | (go_at_call 56; refine (HS.out _).mono ?_; rintro e y3 ⟨v3, rfl, o3, hb3⟩; have HI3 : Hid (Bk y3 w.heap.size 26 #[.int .i64 3, .int .i64 d, .int .i64 s, .int .i64 t, .int .i64 b, .int .i64 x, .int .i64 sc, .int .i64 di, .int .i64 im]) := Lib.hid (by first | with_reducible exact HID.out.below hb3 HID.out.lt | with_reducible exact HI1.out.below hb3 HI1.out.lt); have K3 := c9 HI3.out; have HB3 : Hid (Below w.heap.size w y3) := Lib.hid (by first | with_reducible exact HBD.out.trans (hb3.mono HBD.out.size) | with_reducible exact HB1.out.trans (hb3.mono HB1.out.size)); (first | (have HL3 : Hid (Bk y3 W0.heap.size 5 (bv [z1, 139]).toArray) := Lib.hid (by with_reducible exact HL0.out.below hb3 HL0.out.lt)) | skip)) | (have o1 := own_lit8 (B := w.heap.size) (xs := [z1, 139]) HL3.out HB0.out.size (by simp); obtain ⟨v6, w6, hap, o6, hg6⟩ := own_app8 63 o1 o3 (by have := HLN.out; simp; omega) HB3.out.size; refine step_append_eq rfl (.tmp 31) (.tmp 36) 63 rfl _ _ rfl rfl _ _ hap ?_; have HI6 : Hid (Bk w6 w.heap.size 26 #[.int .i64 3, .int .i64 d, .int .i64 s, .int .i64 t, .int .i64 b, .int .i64 x, .int .i64 sc, .int .i64 di, .int .i64 im]) := Lib.hid ((hg6.block _ HI3.out.lt (fun e => by have h1 := HI0.out.lt; simp [Value.ownBlock] at e; omega)).trans HI3.out); have K6 := c9 HI6.out; have HR6 : Hid (RowB ([z1, 139] ++ src) w (.returned v6) w6) := Lib.hid ⟨_, rfl, o6, HB3.out.grown hg6 HB3.out.size (fun g e => (o1.lt g e).1)⟩) | (have o1 := own_lit8 (B := w.heap.size) (xs := [z1, 139]) (show Bk (y3.alloc (.cells #[.int .u8 (z1), .int .u8 (139)] 5)) y3.heap.size 5 (bv [z1, 139]).toArray from Bk.new y3 _ _) HB3.out.size (by simp); obtain ⟨v6, w6, hap, o6, hg6⟩ := own_app8 63 o1 (o3.alloc _) (by have := HLN.out; simp; omega) (by have := HB3.out.size; simp; omega); refine step_append_eq rfl (.tmp 31) (.tmp 36) 63 rfl _ _ rfl rfl _ _ hap ?_; have HI6 : Hid (Bk w6 w.heap.size 26 #[.int .i64 3, .int .i64 d, .int .i64 s, .int .i64 t, .int .i64 b, .int .i64 x, .int .i64 sc, .int .i64 di, .int .i64 im]) := Lib.hid ((hg6.block _ (by have := HI3.out.lt; simp; omega) (fun e => by have h1 := HI3.out.lt; simp [Value.ownBlock] at e; omega)).trans (HI3.out.alloc _)); have K6 := c9 HI6.out; have HR6 : Hid (RowB ([z1, 139] ++ src) w (.returned v6) w6) := Lib.hid ⟨_, rfl, o6, (HB3.out.alloc HB3.out.size _).grown hg6 (by have := HB3.out.size; simp; omega) (fun g e => (o1.lt g e).1)⟩) | fail)
  all_goals
    go_wp2_with fail
    go_ret
    exact HR6.out
set_option maxRecDepth 100000 in
set_option maxHeartbeats 4000000 in
theorem bytes_4 (d s t b x sc di im : Int) (hs : R16 s) (hp : Pl ⟨4, d, s, t, b, x, sc, di, im⟩) (w : World) : Calls Tryz.prog 33 #[.agg #[.int .i64 4, .int .i64 d, .int .i64 s, .int .i64 t, .int .i64 b, .int .i64 x, .int .i64 sc, .int .i64 di, .int .i64 im]] w (RowB ([rexI s x b, 137] ++ plcL s ⟨4, d, s, t, b, x, sc, di, im⟩) w) := by
  have HX := Lib.hid (fun W => rex_c s x b hs.rx (Pl.rxx hp) (R16.rx hp.1) W)
  have HS := Lib.hid (fun W => plc_c ⟨4, d, s, t, b, x, sc, di, im⟩ s hs hp W)
  have HLN : Hid ((plcL s ⟨4, d, s, t, b, x, sc, di, im⟩).length ≤ 8) := Lib.hid (by first | (rw [ltl_len]; decide) | exact plc_len _ _)
  clear hs
  clear hp
  generalize plcL s ⟨4, d, s, t, b, x, sc, di, im⟩ = src at *
  dsimp only at HS
  generalize rexI s x b = z1 at *
  have HI0 := Lib.hid (Bk.new w 26 #[.int .i64 4, .int .i64 d, .int .i64 s, .int .i64 t, .int .i64 b, .int .i64 x, .int .i64 sc, .int .i64 di, .int .i64 im])
  have HB0 := Lib.hid ((Below.refl _ w).alloc (Nat.le_refl _) (.cells #[.int .i64 4, .int .i64 d, .int .i64 s, .int .i64 t, .int .i64 b, .int .i64 x, .int .i64 sc, .int .i64 di, .int .i64 im] 26))
  go_enter Tryz.func33, Tryz.ntmps33
  go_wp2_with fail
  generalize hW : World.alloc w _ = W0 at *
  clear hW
  have K0 := c9 HI0.out.drew
  have HL0 := Lib.hid (show Bk (W0.alloc (.cells #[.int .u8 (z1), .int .u8 (137)] 5)).drew W0.heap.size 5 (bv [z1, 137]).toArray from (Bk.new W0 _ _).drew)
  have HID := Lib.hid HI0.out.drew
  have HBD := Lib.hid HB0.out.drew
  have HI1 := Lib.hid (HI0.out.alloc (.cells #[.int .u8 (z1), .int .u8 (137)] 5)).drew
  have HB1 := Lib.hid (HB0.out.alloc HB0.out.size (.cells #[.int .u8 (z1), .int .u8 (137)] 5)).drew
  go_region_held3 (fun w' => w'.cell? ⟨w.heap.size, 0, none⟩ = some (.int .i64 4) ∧ w'.cell? ⟨w.heap.size, 1, none⟩ = some (.int .i64 d) ∧ w'.cell? ⟨w.heap.size, 2, none⟩ = some (.int .i64 s) ∧ w'.cell? ⟨w.heap.size, 3, none⟩ = some (.int .i64 t) ∧ w'.cell? ⟨w.heap.size, 4, none⟩ = some (.int .i64 b) ∧ w'.cell? ⟨w.heap.size, 5, none⟩ = some (.int .i64 x) ∧ w'.cell? ⟨w.heap.size, 6, none⟩ = some (.int .i64 sc) ∧ w'.cell? ⟨w.heap.size, 7, none⟩ = some (.int .i64 di) ∧ w'.cell? ⟨w.heap.size, 8, none⟩ = some (.int .i64 im)) (first | exact K0 | exact K6 | exact K3 | exact c9 (HI3.out.alloc _) | exact c9 (HI0.out.drew.alloc _))
    (first | (go_at_call 54; refine (HX.out _).mono ?_; rintro e y1 ⟨rfl, rfl⟩) | (go_at_call 56; refine (HS.out _).mono ?_; rintro e y3 ⟨v3, rfl, o3, hb3⟩; have HI3 : Hid (Bk y3 w.heap.size 26 #[.int .i64 4, .int .i64 d, .int .i64 s, .int .i64 t, .int .i64 b, .int .i64 x, .int .i64 sc, .int .i64 di, .int .i64 im]) := Lib.hid (by first | with_reducible exact HID.out.below hb3 HID.out.lt | with_reducible exact HI1.out.below hb3 HI1.out.lt); have K3 := c9 HI3.out; have HB3 : Hid (Below w.heap.size w y3) := Lib.hid (by first | with_reducible exact HBD.out.trans (hb3.mono HBD.out.size) | with_reducible exact HB1.out.trans (hb3.mono HB1.out.size)); (first | (have HL3 : Hid (Bk y3 W0.heap.size 5 (bv [z1, 137]).toArray) := Lib.hid (by with_reducible exact HL0.out.below hb3 HL0.out.lt)) | skip)) | (have o1 := own_lit8 (B := w.heap.size) (xs := [z1, 137]) HL3.out HB0.out.size (by simp); obtain ⟨v6, w6, hap, o6, hg6⟩ := own_app8 63 o1 o3 (by have := HLN.out; simp; omega) HB3.out.size; refine step_append_eq rfl (.tmp 49) (.tmp 54) 63 rfl _ _ rfl rfl _ _ hap ?_; have HI6 : Hid (Bk w6 w.heap.size 26 #[.int .i64 4, .int .i64 d, .int .i64 s, .int .i64 t, .int .i64 b, .int .i64 x, .int .i64 sc, .int .i64 di, .int .i64 im]) := Lib.hid ((hg6.block _ HI3.out.lt (fun e => by have h1 := HI0.out.lt; simp [Value.ownBlock] at e; omega)).trans HI3.out); have K6 := c9 HI6.out; have HR6 : Hid (RowB ([z1, 137] ++ src) w (.returned v6) w6) := Lib.hid ⟨_, rfl, o6, HB3.out.grown hg6 HB3.out.size (fun g e => (o1.lt g e).1)⟩) | (have o1 := own_lit8 (B := w.heap.size) (xs := [z1, 137]) (show Bk (y3.alloc (.cells #[.int .u8 (z1), .int .u8 (137)] 5)) y3.heap.size 5 (bv [z1, 137]).toArray from Bk.new y3 _ _) HB3.out.size (by simp); obtain ⟨v6, w6, hap, o6, hg6⟩ := own_app8 63 o1 (o3.alloc _) (by have := HLN.out; simp; omega) (by have := HB3.out.size; simp; omega); refine step_append_eq rfl (.tmp 49) (.tmp 54) 63 rfl _ _ rfl rfl _ _ hap ?_; have HI6 : Hid (Bk w6 w.heap.size 26 #[.int .i64 4, .int .i64 d, .int .i64 s, .int .i64 t, .int .i64 b, .int .i64 x, .int .i64 sc, .int .i64 di, .int .i64 im]) := Lib.hid ((hg6.block _ (by have := HI3.out.lt; simp; omega) (fun e => by have h1 := HI3.out.lt; simp [Value.ownBlock] at e; omega)).trans (HI3.out.alloc _)); have K6 := c9 HI6.out; have HR6 : Hid (RowB ([z1, 137] ++ src) w (.returned v6) w6) := Lib.hid ⟨_, rfl, o6, (HB3.out.alloc HB3.out.size _).grown hg6 (by have := HB3.out.size; simp; omega) (fun g e => (o1.lt g e).1)⟩) | fail)
  all_goals
    go_wp2_with fail
    go_ret
    exact HR6.out
set_option maxRecDepth 100000 in
set_option maxHeartbeats 4000000 in
theorem bytes_5 (d s t b x sc di im : Int) (hd : R16 d) (hp : Pl ⟨5, d, s, t, b, x, sc, di, im⟩) (w : World) : Calls Tryz.prog 33 #[.agg #[.int .i64 5, .int .i64 d, .int .i64 s, .int .i64 t, .int .i64 b, .int .i64 x, .int .i64 sc, .int .i64 di, .int .i64 im]] w (RowB ([rexI d x b, 141] ++ plcL d ⟨5, d, s, t, b, x, sc, di, im⟩) w) := by
  have HX := Lib.hid (fun W => rex_c d x b hd.rx (Pl.rxx hp) (R16.rx hp.1) W)
  have HS := Lib.hid (fun W => plc_c ⟨5, d, s, t, b, x, sc, di, im⟩ d hd hp W)
  have HLN : Hid ((plcL d ⟨5, d, s, t, b, x, sc, di, im⟩).length ≤ 8) := Lib.hid (by first | (rw [ltl_len]; decide) | exact plc_len _ _)
  clear hd
  clear hp
  generalize plcL d ⟨5, d, s, t, b, x, sc, di, im⟩ = src at *
  dsimp only at HS
  generalize rexI d x b = z1 at *
  have HI0 := Lib.hid (Bk.new w 26 #[.int .i64 5, .int .i64 d, .int .i64 s, .int .i64 t, .int .i64 b, .int .i64 x, .int .i64 sc, .int .i64 di, .int .i64 im])
  have HB0 := Lib.hid ((Below.refl _ w).alloc (Nat.le_refl _) (.cells #[.int .i64 5, .int .i64 d, .int .i64 s, .int .i64 t, .int .i64 b, .int .i64 x, .int .i64 sc, .int .i64 di, .int .i64 im] 26))
  go_enter Tryz.func33, Tryz.ntmps33
  go_wp2_with fail
  generalize hW : World.alloc w _ = W0 at *
  clear hW
  have K0 := c9 HI0.out.drew
  have HL0 := Lib.hid (show Bk (W0.alloc (.cells #[.int .u8 (z1), .int .u8 (141)] 5)).drew W0.heap.size 5 (bv [z1, 141]).toArray from (Bk.new W0 _ _).drew)
  have HID := Lib.hid HI0.out.drew
  have HBD := Lib.hid HB0.out.drew
  have HI1 := Lib.hid (HI0.out.alloc (.cells #[.int .u8 (z1), .int .u8 (141)] 5)).drew
  have HB1 := Lib.hid (HB0.out.alloc HB0.out.size (.cells #[.int .u8 (z1), .int .u8 (141)] 5)).drew
  go_region_held3 (fun w' => w'.cell? ⟨w.heap.size, 0, none⟩ = some (.int .i64 5) ∧ w'.cell? ⟨w.heap.size, 1, none⟩ = some (.int .i64 d) ∧ w'.cell? ⟨w.heap.size, 2, none⟩ = some (.int .i64 s) ∧ w'.cell? ⟨w.heap.size, 3, none⟩ = some (.int .i64 t) ∧ w'.cell? ⟨w.heap.size, 4, none⟩ = some (.int .i64 b) ∧ w'.cell? ⟨w.heap.size, 5, none⟩ = some (.int .i64 x) ∧ w'.cell? ⟨w.heap.size, 6, none⟩ = some (.int .i64 sc) ∧ w'.cell? ⟨w.heap.size, 7, none⟩ = some (.int .i64 di) ∧ w'.cell? ⟨w.heap.size, 8, none⟩ = some (.int .i64 im)) (first | exact K0 | exact K6 | exact K3 | exact c9 (HI3.out.alloc _) | exact c9 (HI0.out.drew.alloc _))
    (first | (go_at_call 54; refine (HX.out _).mono ?_; rintro e y1 ⟨rfl, rfl⟩) | (go_at_call 56; refine (HS.out _).mono ?_; rintro e y3 ⟨v3, rfl, o3, hb3⟩; have HI3 : Hid (Bk y3 w.heap.size 26 #[.int .i64 5, .int .i64 d, .int .i64 s, .int .i64 t, .int .i64 b, .int .i64 x, .int .i64 sc, .int .i64 di, .int .i64 im]) := Lib.hid (by first | with_reducible exact HID.out.below hb3 HID.out.lt | with_reducible exact HI1.out.below hb3 HI1.out.lt); have K3 := c9 HI3.out; have HB3 : Hid (Below w.heap.size w y3) := Lib.hid (by first | with_reducible exact HBD.out.trans (hb3.mono HBD.out.size) | with_reducible exact HB1.out.trans (hb3.mono HB1.out.size)); (first | (have HL3 : Hid (Bk y3 W0.heap.size 5 (bv [z1, 141]).toArray) := Lib.hid (by with_reducible exact HL0.out.below hb3 HL0.out.lt)) | skip)) | (have o1 := own_lit8 (B := w.heap.size) (xs := [z1, 141]) HL3.out HB0.out.size (by simp); obtain ⟨v6, w6, hap, o6, hg6⟩ := own_app8 63 o1 o3 (by have := HLN.out; simp; omega) HB3.out.size; refine step_append_eq rfl (.tmp 67) (.tmp 72) 63 rfl _ _ rfl rfl _ _ hap ?_; have HI6 : Hid (Bk w6 w.heap.size 26 #[.int .i64 5, .int .i64 d, .int .i64 s, .int .i64 t, .int .i64 b, .int .i64 x, .int .i64 sc, .int .i64 di, .int .i64 im]) := Lib.hid ((hg6.block _ HI3.out.lt (fun e => by have h1 := HI0.out.lt; simp [Value.ownBlock] at e; omega)).trans HI3.out); have K6 := c9 HI6.out; have HR6 : Hid (RowB ([z1, 141] ++ src) w (.returned v6) w6) := Lib.hid ⟨_, rfl, o6, HB3.out.grown hg6 HB3.out.size (fun g e => (o1.lt g e).1)⟩) | (have o1 := own_lit8 (B := w.heap.size) (xs := [z1, 141]) (show Bk (y3.alloc (.cells #[.int .u8 (z1), .int .u8 (141)] 5)) y3.heap.size 5 (bv [z1, 141]).toArray from Bk.new y3 _ _) HB3.out.size (by simp); obtain ⟨v6, w6, hap, o6, hg6⟩ := own_app8 63 o1 (o3.alloc _) (by have := HLN.out; simp; omega) (by have := HB3.out.size; simp; omega); refine step_append_eq rfl (.tmp 67) (.tmp 72) 63 rfl _ _ rfl rfl _ _ hap ?_; have HI6 : Hid (Bk w6 w.heap.size 26 #[.int .i64 5, .int .i64 d, .int .i64 s, .int .i64 t, .int .i64 b, .int .i64 x, .int .i64 sc, .int .i64 di, .int .i64 im]) := Lib.hid ((hg6.block _ (by have := HI3.out.lt; simp; omega) (fun e => by have h1 := HI3.out.lt; simp [Value.ownBlock] at e; omega)).trans (HI3.out.alloc _)); have K6 := c9 HI6.out; have HR6 : Hid (RowB ([z1, 141] ++ src) w (.returned v6) w6) := Lib.hid ⟨_, rfl, o6, (HB3.out.alloc HB3.out.size _).grown hg6 (by have := HB3.out.size; simp; omega) (fun g e => (o1.lt g e).1)⟩) | fail)
  all_goals
    go_wp2_with fail
    go_ret
    exact HR6.out
end Is
end Go.Proofs.YtblmagcekfbgdaaGreatDoor
