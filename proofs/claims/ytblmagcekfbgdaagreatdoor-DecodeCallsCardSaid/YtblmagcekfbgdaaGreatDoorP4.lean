/- The landed package encode: operations with a digit; the return. | The landed package encode: push, pop. | The landed package encode: mulx. -/
import Derived.Test.YtblmagcekfbgdaaGreatDoorP2
import Derived.BigQuiet
import Derived.Deep.QuietTactic
namespace Go.Proofs.YtblmagcekfbgdaaGreatDoor
open Go Go.RowKit Go.Sort
namespace Is
open Nt
set_option linter.unusedVariables false
set_option linter.unusedSimpArgs false
set_option maxRecDepth 100000 in
set_option maxHeartbeats 8000000 in
theorem digit_l {w : World} {B : Nat} {v : Value} {xs : List Int} (k : Nat) (hk34 : k < 34) (d s t b x sc di im : Int) (hd : R16 d) (how : R16 (ownAt k)) (f : Int) (hT : TabE w) (hG : G3 B) (ho : Rw B v xs w) (hk : xs.length ≤ 800000) (hB : B ≤ w.heap.size) :
    Calls Tryz.prog 88 #[v, .int .u8 f, .agg #[.int .i64 (k : Int), .int .i64 d, .int .i64 s, .int .i64 t, .int .i64 b, .int .i64 x, .int .i64 sc, .int .i64 di, .int .i64 im]] w (OutF B v (xs ++ ([rexI 0 (-1) d, f, rmI (ownAt k) d])) w) := by
  obtain ⟨A, c, rfl⟩ := slice_of ho
  have HX := Lib.hid (fun W => rex_l 0 (-1) d r16_0'.rx rx_m1 hd.rx W)
  have HN := Lib.hid (fun (W : World) (v' : Value) (ys : List Int) (h : Rw B v' ys W) (h1 : ys.length + 1 ≤ 1048576) (h2 : B ≤ W.heap.size) => register_l (ownAt k) d how hd h h1 h2)
  have o1 := how.1
  have o2 := how.2
  have HWR : Hid (IntKind.i64.wrap (ownAt k) = ownAt k) := Lib.hid (IntWalk.i64_in _ (by omega))
  generalize rmI (ownAt k) d = z2 at *
  have HO0 := Lib.hid (own_keep ho ((Below.refl w.heap.size w).alloc (Nat.le_refl _) (.cells #[.int .i64 (k : Int), .int .i64 d, .int .i64 s, .int .i64 t, .int .i64 b, .int .i64 x, .int .i64 sc, .int .i64 di, .int .i64 im] 26)))
  have HS0 := Lib.hid (St.new (cs := #[.int .i64 (k : Int), .int .i64 d, .int .i64 s, .int .i64 t, .int .i64 b, .int .i64 x, .int .i64 sc, .int .i64 di, .int .i64 im]) hT hG ho hB)
  have HK0 := Lib.hid ((Kp.refl w (.slice A xs.length c)).alloc (.cells #[.int .i64 (k : Int), .int .i64 d, .int .i64 s, .int .i64 t, .int .i64 b, .int .i64 x, .int .i64 sc, .int .i64 di, .int .i64 im] 26))
  have HKL := Lib.hid hk
  have HK34 := Lib.hid hk34
  have e0 : (0 : Int) ≤ (k : Int) := by omega
  have e1 : (k : Int) < 34 := by omega
  clear hT hG ho hk hB hk34
  clear hd how
  generalize hOW : ownAt k = ow at *
  have HOW := Lib.hid hOW
  clear hOW
  generalize rexI 0 (-1) d = z1 at *
  have hwr := HWR.out
  go_enter Tryz.func88, Tryz.ntmps88
  go_wp2_with fail
  generalize hW : World.alloc w _ = W0 at *
  clear hW
  have HSD := Lib.hid HS0.out.drew
  have HKD := Lib.hid HK0.out.drew
  have HOD : Hid (Rw B (.slice A xs.length c) xs W0.drew) := HO0
  have K0 := by have h := St.ten HSD.out HK34.out; rw [HOW.out] at h; exact h
  have K1 := by have h := St.ten (HSD.out.alloc (.cells #[.int .u8 z1, .int .u8 f] 5)) HK34.out; rw [HOW.out] at h; exact h
  have HPUT := Lib.hid (show Calls Tryz.prog 82 #[.slice A xs.length c, .slice (some ⟨W0.heap.size, 0, none⟩) 2 2] (W0.drew.alloc (.cells #[.int .u8 z1, .int .u8 f] 5)) (OutF B (.slice A xs.length c) (xs ++ [z1, f]) W0.drew) from put_new [z1, f] 2 rfl HOD.out (by have := HKL.out; omega) HSD.out.hB)
  go_region_held3 (fun w' => w'.cell? ⟨w.heap.size, 0, none⟩ = some (.int .i64 (k : Int)) ∧ w'.cell? ⟨w.heap.size, 1, none⟩ = some (.int .i64 d) ∧ w'.cell? ⟨w.heap.size, 2, none⟩ = some (.int .i64 s) ∧ w'.cell? ⟨w.heap.size, 3, none⟩ = some (.int .i64 t) ∧ w'.cell? ⟨w.heap.size, 4, none⟩ = some (.int .i64 b) ∧ w'.cell? ⟨w.heap.size, 5, none⟩ = some (.int .i64 x) ∧ w'.cell? ⟨w.heap.size, 6, none⟩ = some (.int .i64 sc) ∧ w'.cell? ⟨w.heap.size, 7, none⟩ = some (.int .i64 di) ∧ w'.cell? ⟨w.heap.size, 8, none⟩ = some (.int .i64 im) ∧ w'.cell? ⟨1, k, none⟩ = some (.int .u8 ow)) (first | exact K0 | exact K3 | exact K2 | exact K1)
    (first | (go_at_call 83; refine (HX.out _).mono ?_; rintro e y1 ⟨rfl, rfl⟩) | (go_at_call 82; refine HPUT.out.mono ?_; rintro e y2 ⟨v2, rfl, o2, k2⟩; have HS2 := Lib.hid (HSD.out.kp k2); have K2 := (by have h := St.ten HS2.out HK34.out; rw [HOW.out] at h; exact h); have HO2 := Lib.hid o2; have HK2 := Lib.hid (HKD.out.trans k2); clear o2 k2) | (go_at_call 84; refine (HN.out _ _ _ HO2.out (by have := HKL.out; simp; omega) HS2.out.hB).mono ?_; rintro e y3 ⟨v3, rfl, o3, k3⟩; have HS3 := Lib.hid (HS2.out.kp k3); have K3 := (by have h := St.ten HS3.out HK34.out; rw [HOW.out] at h; exact h); have HO3 := Lib.hid o3; have HK3 := Lib.hid (HK2.out.trans k3); clear o3 k3) | fail)
  all_goals
    go_wp2_with fail
    go_ret
    exact ⟨_, rfl, by (have h := HO3.out; rw [List.append_assoc] at h; exact h), HK3.out⟩
set_option maxRecDepth 100000 in
set_option maxHeartbeats 8000000 in
theorem withNumber_l {w : World} {B : Nat} {v : Value} {xs : List Int} (k : Nat) (hk34 : k < 34) (d s t b x sc di im : Int) (hd : R16 d) (how : R16 (ownAt k)) (hT : TabE w) (hG : G3 B) (ho : Rw B v xs w) (hk : xs.length ≤ 800000) (hB : B ≤ w.heap.size) :
    Calls Tryz.prog 64 #[v, .agg #[.int .i64 (k : Int), .int .i64 d, .int .i64 s, .int .i64 t, .int .i64 b, .int .i64 x, .int .i64 sc, .int .i64 di, .int .i64 im]] w (OutF B v (xs ++ ([rexI 0 (-1) d, 129, rmI (ownAt k) d] ++ ltl im 4)) w) := by
  obtain ⟨A, c, rfl⟩ := slice_of ho
  have HDG := Lib.hid (fun (W : World) (hT : TabE W) (hG : G3 B) (v' : Value) (h : Rw B v' xs W) (h1 : xs.length ≤ 800000) (h2 : B ≤ W.heap.size) => digit_l k hk34 d s t b x sc di im hd how 129 hT hG h h1 h2)
  have HN := Lib.hid (fun (W : World) (v' : Value) (ys : List Int) (h : Rw B v' ys W) (h1 : ys.length ≤ 1000000) (h2 : B ≤ W.heap.size) => number_l im 4 (by decide) h h1 h2)
  generalize ltl im 4 = z3 at *
  generalize rexI 0 (-1) d = z1 at *
  generalize rmI (ownAt k) d = z2 at *
  have HO0 := Lib.hid (own_keep ho ((Below.refl w.heap.size w).alloc (Nat.le_refl _) (.cells #[.int .i64 (k : Int), .int .i64 d, .int .i64 s, .int .i64 t, .int .i64 b, .int .i64 x, .int .i64 sc, .int .i64 di, .int .i64 im] 26)))
  have HS0 := Lib.hid (St.new (cs := #[.int .i64 (k : Int), .int .i64 d, .int .i64 s, .int .i64 t, .int .i64 b, .int .i64 x, .int .i64 sc, .int .i64 di, .int .i64 im]) hT hG ho hB)
  have HK0 := Lib.hid ((Kp.refl w (.slice A xs.length c)).alloc (.cells #[.int .i64 (k : Int), .int .i64 d, .int .i64 s, .int .i64 t, .int .i64 b, .int .i64 x, .int .i64 sc, .int .i64 di, .int .i64 im] 26))
  have HKL := Lib.hid hk
  have HK34 := Lib.hid hk34
  have e0 : (0 : Int) ≤ (k : Int) := by omega
  have e1 : (k : Int) < 34 := by omega
  clear hT hG ho hk hB hk34
  clear hd how
  generalize hOW : ownAt k = ow at *
  have HOW := Lib.hid hOW
  clear hOW
  go_enter Tryz.func64, Tryz.ntmps64
  go_wp2_with fail
  generalize hW : World.alloc w _ = W0 at *
  clear hW
  have HSD := Lib.hid HS0.out.drew
  have HKD := Lib.hid HK0.out.drew
  have HOD : Hid (Rw B (.slice A xs.length c) xs W0.drew) := HO0
  have K0 := by have h := St.ten HSD.out HK34.out; rw [HOW.out] at h; exact h
  go_region_held3 (fun w' => w'.cell? ⟨w.heap.size, 0, none⟩ = some (.int .i64 (k : Int)) ∧ w'.cell? ⟨w.heap.size, 1, none⟩ = some (.int .i64 d) ∧ w'.cell? ⟨w.heap.size, 2, none⟩ = some (.int .i64 s) ∧ w'.cell? ⟨w.heap.size, 3, none⟩ = some (.int .i64 t) ∧ w'.cell? ⟨w.heap.size, 4, none⟩ = some (.int .i64 b) ∧ w'.cell? ⟨w.heap.size, 5, none⟩ = some (.int .i64 x) ∧ w'.cell? ⟨w.heap.size, 6, none⟩ = some (.int .i64 sc) ∧ w'.cell? ⟨w.heap.size, 7, none⟩ = some (.int .i64 di) ∧ w'.cell? ⟨w.heap.size, 8, none⟩ = some (.int .i64 im) ∧ w'.cell? ⟨1, k, none⟩ = some (.int .u8 ow)) (first | exact K0 | exact K3 | exact K2)
    (first | (go_at_call 88; refine (HDG.out _ HSD.out.tab HSD.out.g3 _ HOD.out HKL.out HSD.out.hB).mono ?_; rintro e y2 ⟨v2, rfl, o2, k2⟩; have HS2 := Lib.hid (HSD.out.kp k2); have K2 := (by have h := St.ten HS2.out HK34.out; rw [HOW.out] at h; exact h); have HO2 := Lib.hid o2; have HK2 := Lib.hid (HKD.out.trans k2); clear o2 k2) | (go_at_call 86; refine (HN.out _ _ _ HO2.out (by have := HKL.out; simp; omega) HS2.out.hB).mono ?_; rintro e y3 ⟨v3, rfl, o3, k3⟩; have HS3 := Lib.hid (HS2.out.kp k3); have K3 := (by have h := St.ten HS3.out HK34.out; rw [HOW.out] at h; exact h); have HO3 := Lib.hid o3; have HK3 := Lib.hid (HK2.out.trans k3); clear o3 k3) | fail)
  all_goals
    go_wp2_with fail
    go_ret
    exact ⟨_, rfl, by (have h := HO3.out; rw [List.append_assoc] at h; exact h), HK3.out⟩
set_option maxRecDepth 100000 in
set_option maxHeartbeats 8000000 in
theorem shift_l {w : World} {B : Nat} {v : Value} {xs : List Int} (k : Nat) (hk34 : k < 34) (d s t b x sc di im : Int) (hd : R16 d) (how : R16 (ownAt k)) (hT : TabE w) (hG : G3 B) (ho : Rw B v xs w) (hk : xs.length ≤ 800000) (hB : B ≤ w.heap.size) :
    Calls Tryz.prog 68 #[v, .agg #[.int .i64 (k : Int), .int .i64 d, .int .i64 s, .int .i64 t, .int .i64 b, .int .i64 x, .int .i64 sc, .int .i64 di, .int .i64 im]] w (OutF B v (xs ++ ([rexI 0 (-1) d, 193, rmI (ownAt k) d] ++ ltl im 1)) w) := by
  obtain ⟨A, c, rfl⟩ := slice_of ho
  have HDG := Lib.hid (fun (W : World) (hT : TabE W) (hG : G3 B) (v' : Value) (h : Rw B v' xs W) (h1 : xs.length ≤ 800000) (h2 : B ≤ W.heap.size) => digit_l k hk34 d s t b x sc di im hd how 193 hT hG h h1 h2)
  have HN := Lib.hid (fun (W : World) (v' : Value) (ys : List Int) (h : Rw B v' ys W) (h1 : ys.length ≤ 1000000) (h2 : B ≤ W.heap.size) => number_l im 1 (by decide) h h1 h2)
  generalize ltl im 1 = z3 at *
  generalize rexI 0 (-1) d = z1 at *
  generalize rmI (ownAt k) d = z2 at *
  have HO0 := Lib.hid (own_keep ho ((Below.refl w.heap.size w).alloc (Nat.le_refl _) (.cells #[.int .i64 (k : Int), .int .i64 d, .int .i64 s, .int .i64 t, .int .i64 b, .int .i64 x, .int .i64 sc, .int .i64 di, .int .i64 im] 26)))
  have HS0 := Lib.hid (St.new (cs := #[.int .i64 (k : Int), .int .i64 d, .int .i64 s, .int .i64 t, .int .i64 b, .int .i64 x, .int .i64 sc, .int .i64 di, .int .i64 im]) hT hG ho hB)
  have HK0 := Lib.hid ((Kp.refl w (.slice A xs.length c)).alloc (.cells #[.int .i64 (k : Int), .int .i64 d, .int .i64 s, .int .i64 t, .int .i64 b, .int .i64 x, .int .i64 sc, .int .i64 di, .int .i64 im] 26))
  have HKL := Lib.hid hk
  have HK34 := Lib.hid hk34
  have e0 : (0 : Int) ≤ (k : Int) := by omega
  have e1 : (k : Int) < 34 := by omega
  clear hT hG ho hk hB hk34
  clear hd how
  generalize hOW : ownAt k = ow at *
  have HOW := Lib.hid hOW
  clear hOW
  go_enter Tryz.func68, Tryz.ntmps68
  go_wp2_with fail
  generalize hW : World.alloc w _ = W0 at *
  clear hW
  have HSD := Lib.hid HS0.out.drew
  have HKD := Lib.hid HK0.out.drew
  have HOD : Hid (Rw B (.slice A xs.length c) xs W0.drew) := HO0
  have K0 := by have h := St.ten HSD.out HK34.out; rw [HOW.out] at h; exact h
  go_region_held3 (fun w' => w'.cell? ⟨w.heap.size, 0, none⟩ = some (.int .i64 (k : Int)) ∧ w'.cell? ⟨w.heap.size, 1, none⟩ = some (.int .i64 d) ∧ w'.cell? ⟨w.heap.size, 2, none⟩ = some (.int .i64 s) ∧ w'.cell? ⟨w.heap.size, 3, none⟩ = some (.int .i64 t) ∧ w'.cell? ⟨w.heap.size, 4, none⟩ = some (.int .i64 b) ∧ w'.cell? ⟨w.heap.size, 5, none⟩ = some (.int .i64 x) ∧ w'.cell? ⟨w.heap.size, 6, none⟩ = some (.int .i64 sc) ∧ w'.cell? ⟨w.heap.size, 7, none⟩ = some (.int .i64 di) ∧ w'.cell? ⟨w.heap.size, 8, none⟩ = some (.int .i64 im) ∧ w'.cell? ⟨1, k, none⟩ = some (.int .u8 ow)) (first | exact K0 | exact K3 | exact K2)
    (first | (go_at_call 88; refine (HDG.out _ HSD.out.tab HSD.out.g3 _ HOD.out HKL.out HSD.out.hB).mono ?_; rintro e y2 ⟨v2, rfl, o2, k2⟩; have HS2 := Lib.hid (HSD.out.kp k2); have K2 := (by have h := St.ten HS2.out HK34.out; rw [HOW.out] at h; exact h); have HO2 := Lib.hid o2; have HK2 := Lib.hid (HKD.out.trans k2); clear o2 k2) | (go_at_call 86; refine (HN.out _ _ _ HO2.out (by have := HKL.out; simp; omega) HS2.out.hB).mono ?_; rintro e y3 ⟨v3, rfl, o3, k3⟩; have HS3 := Lib.hid (HS2.out.kp k3); have K3 := (by have h := St.ten HS3.out HK34.out; rw [HOW.out] at h; exact h); have HO3 := Lib.hid o3; have HK3 := Lib.hid (HK2.out.trans k3); clear o3 k3) | fail)
  all_goals
    go_wp2_with fail
    go_ret
    exact ⟨_, rfl, by (have h := HO3.out; rw [List.append_assoc] at h; exact h), HK3.out⟩
set_option maxRecDepth 100000 in
set_option maxHeartbeats 8000000 in
theorem one_l {w : World} {B : Nat} {v : Value} {xs : List Int} (k : Nat) (hk34 : k < 34) (d s t b x sc di im : Int) (hd : R16 d) (how : R16 (ownAt k)) (hT : TabE w) (hG : G3 B) (ho : Rw B v xs w) (hk : xs.length ≤ 800000) (hB : B ≤ w.heap.size) :
    Calls Tryz.prog 67 #[v, .agg #[.int .i64 (k : Int), .int .i64 d, .int .i64 s, .int .i64 t, .int .i64 b, .int .i64 x, .int .i64 sc, .int .i64 di, .int .i64 im]] w (OutF B v (xs ++ ([rexI 0 (-1) d, 247, rmI (ownAt k) d])) w) := by
  obtain ⟨A, c, rfl⟩ := slice_of ho
  have HDG := Lib.hid (fun (W : World) (hT : TabE W) (hG : G3 B) (v' : Value) (h : Rw B v' xs W) (h1 : xs.length ≤ 800000) (h2 : B ≤ W.heap.size) => digit_l k hk34 d s t b x sc di im hd how 247 hT hG h h1 h2)
  generalize rexI 0 (-1) d = z1 at *
  generalize rmI (ownAt k) d = z2 at *
  have HO0 := Lib.hid (own_keep ho ((Below.refl w.heap.size w).alloc (Nat.le_refl _) (.cells #[.int .i64 (k : Int), .int .i64 d, .int .i64 s, .int .i64 t, .int .i64 b, .int .i64 x, .int .i64 sc, .int .i64 di, .int .i64 im] 26)))
  have HS0 := Lib.hid (St.new (cs := #[.int .i64 (k : Int), .int .i64 d, .int .i64 s, .int .i64 t, .int .i64 b, .int .i64 x, .int .i64 sc, .int .i64 di, .int .i64 im]) hT hG ho hB)
  have HK0 := Lib.hid ((Kp.refl w (.slice A xs.length c)).alloc (.cells #[.int .i64 (k : Int), .int .i64 d, .int .i64 s, .int .i64 t, .int .i64 b, .int .i64 x, .int .i64 sc, .int .i64 di, .int .i64 im] 26))
  have HKL := Lib.hid hk
  have HK34 := Lib.hid hk34
  have e0 : (0 : Int) ≤ (k : Int) := by omega
  have e1 : (k : Int) < 34 := by omega
  clear hT hG ho hk hB hk34
  clear hd how
  generalize hOW : ownAt k = ow at *
  have HOW := Lib.hid hOW
  clear hOW
  obtain ⟨a0, a1, a2, a3, a4, a5, a6, a7, a8, a9⟩ := St.ten HS0.out HK34.out
  rw [HOW.out] at a9
  go_enter Tryz.func67, Tryz.ntmps67
  go_wp2_with fail
  go_at_call 88
  refine (HDG.out _ HS0.out.tab HS0.out.g3 _ HO0.out HKL.out HS0.out.hB).mono ?_
  rintro e y2 ⟨v2, rfl, o2, k2⟩
  have HO2 := Lib.hid o2
  have HK2 := Lib.hid (HK0.out.trans k2)
  clear o2 k2 a0 a1 a2 a3 a4 a5 a6 a7 a8 a9
  go_wp2_with fail
  go_ret
  exact ⟨_, rfl, HO2.out, HK2.out⟩
set_option maxRecDepth 100000 in
set_option maxHeartbeats 8000000 in
theorem back_l {w : World} {B : Nat} {v : Value} {xs : List Int} (k : Nat) (hk34 : k < 34) (d s t b x sc di im : Int) (hT : TabE w) (hG : G3 B) (ho : Rw B v xs w) (hk : xs.length ≤ 800000) (hB : B ≤ w.heap.size) :
    Calls Tryz.prog 74 #[v, .agg #[.int .i64 (k : Int), .int .i64 d, .int .i64 s, .int .i64 t, .int .i64 b, .int .i64 x, .int .i64 sc, .int .i64 di, .int .i64 im]] w (OutF B v (xs ++ ([ownAt k])) w) := by
  obtain ⟨A, c, rfl⟩ := slice_of ho
  have HO0 := Lib.hid (own_keep ho ((Below.refl w.heap.size w).alloc (Nat.le_refl _) (.cells #[.int .i64 (k : Int), .int .i64 d, .int .i64 s, .int .i64 t, .int .i64 b, .int .i64 x, .int .i64 sc, .int .i64 di, .int .i64 im] 26)))
  have HS0 := Lib.hid (St.new (cs := #[.int .i64 (k : Int), .int .i64 d, .int .i64 s, .int .i64 t, .int .i64 b, .int .i64 x, .int .i64 sc, .int .i64 di, .int .i64 im]) hT hG ho hB)
  have HK0 := Lib.hid ((Kp.refl w (.slice A xs.length c)).alloc (.cells #[.int .i64 (k : Int), .int .i64 d, .int .i64 s, .int .i64 t, .int .i64 b, .int .i64 x, .int .i64 sc, .int .i64 di, .int .i64 im] 26))
  have HKL := Lib.hid hk
  have HK34 := Lib.hid hk34
  have e0 : (0 : Int) ≤ (k : Int) := by omega
  have e1 : (k : Int) < 34 := by omega
  clear hT hG ho hk hB hk34
  generalize hOW : ownAt k = ow at *
  have HOW := Lib.hid hOW
  clear hOW
  have HPUT : Hid (Calls Tryz.prog 82 #[.slice A xs.length c, .slice (some ⟨w.heap.size + 1, 0, none⟩) 1 1] ((w.alloc (.cells #[.int .i64 (k : Int), .int .i64 d, .int .i64 s, .int .i64 t, .int .i64 b, .int .i64 x, .int .i64 sc, .int .i64 di, .int .i64 im] 26)).alloc (.cells #[.int .u8 ow] 5)) (OutF B (.slice A xs.length c) (xs ++ [ow]) (w.alloc (.cells #[.int .i64 (k : Int), .int .i64 d, .int .i64 s, .int .i64 t, .int .i64 b, .int .i64 x, .int .i64 sc, .int .i64 di, .int .i64 im] 26)))) := by
    have hsz : (w.alloc (.cells #[.int .i64 (k : Int), .int .i64 d, .int .i64 s, .int .i64 t, .int .i64 b, .int .i64 x, .int .i64 sc, .int .i64 di, .int .i64 im] 26)).heap.size = w.heap.size + 1 := by simp
    have h := put_new (w := (w.alloc (.cells #[.int .i64 (k : Int), .int .i64 d, .int .i64 s, .int .i64 t, .int .i64 b, .int .i64 x, .int .i64 sc, .int .i64 di, .int .i64 im] 26))) [ow] 1 rfl HO0.out (by have := HKL.out; omega) HS0.out.hB
    rw [hsz] at h
    exact Lib.hid h
  obtain ⟨a0, a1, a2, a3, a4, a5, a6, a7, a8, a9⟩ := St.ten HS0.out HK34.out
  rw [HOW.out] at a9
  go_enter Tryz.func74, Tryz.ntmps74
  go_wp2_with fail
  go_at_call 82
  refine HPUT.out.mono ?_
  rintro e y2 ⟨v2, rfl, o2, k2⟩
  have HO2 := Lib.hid o2
  have HK2 := Lib.hid (HK0.out.trans k2)
  clear o2 k2 a0 a1 a2 a3 a4 a5 a6 a7 a8 a9
  go_wp2_with fail
  go_ret
  exact ⟨_, rfl, HO2.out, HK2.out⟩
end Is
end Go.Proofs.YtblmagcekfbgdaaGreatDoor
namespace Go.Proofs.YtblmagcekfbgdaaGreatDoor
open Go Go.RowKit Go.Sort
namespace Is
open Nt
set_option linter.unusedVariables false
set_option linter.unusedSimpArgs false
set_option maxRecDepth 100000 in
set_option maxHeartbeats 8000000 in
theorem short_l {w : World} {B : Nat} {v : Value} {xs : List Int} (k : Nat) (hk34 : k < 34) (r : Int) (hr : R16 r) (ow : Int) (how : ownAt k = ow) (hor : ∀ q : Int, 0 ≤ q → q ≤ 7 → bits BinOp.or IntKind.u8 ow q = ow + q) (hT : TabE w) (hG : G3 B) (ho : Rw B v xs w) (hk : xs.length ≤ 800000) (hB : B ≤ w.heap.size) :
    Calls Tryz.prog 90 #[v, .int .i64 (k : Int), .int .i64 r] w (OutF B v (xs ++ (if r > 7 then [65, ow + r % 8] else [ow + r % 8])) w) := by
  obtain ⟨A, c, rfl⟩ := slice_of ho
  have HL := Lib.hid (fun W => low_l r hr W)
  have HF := Lib.hid (fun W => from_l r hr.rx W)
  have HOR := Lib.hid (hor (r % 8) (by omega) (by omega))
  have HR := Lib.hid hr
  have HHI : Hid (hiR r = if r > 7 then 1 else 0) := Lib.hid (by have h1 := hr.1; have h2 := hr.2; unfold hiR; split <;> split <;> omega)
  have e0 : (0 : Int) ≤ (k : Int) := by omega
  have e1 : (k : Int) < 34 := by omega
  have HKL := Lib.hid hk
  have HK34 := Lib.hid hk34
  have HOW := Lib.hid how
  have HG := Lib.hid hG
  have HT0 := Lib.hid hT
  have HO0 := Lib.hid ho
  have HBW0 := Lib.hid hB
  have HKD0 : Hid (Kp w (.slice A xs.length c) w.drew (.slice A xs.length c)) := Lib.hid (Kp.refl w (.slice A xs.length c)).drew
  clear hr hor hT hG ho hk hB hk34 how
  generalize r % 8 = q at *
  generalize hiR r = p at *
  by_cases h7 : r > 7
  · rw [if_pos h7] at HHI
    obtain rfl := HHI.out
    rw [if_pos h7]
    clear h7 HR
    go_enter Tryz.func90, Tryz.ntmps90
    go_wp2_with fail
    go_at_call 89
    refine (HF.out _).mono ?_
    rintro e w' ⟨rfl, rfl⟩
    go_wp2_with fail
    go_at_call 82
    refine (put_new [65] 1 rfl HO0.out (by have := HKL.out; omega) HBW0.out).mono ?_
    rintro e w5 ⟨v5, rfl, o5, k5⟩
    have HO5 := Lib.hid o5
    have HT5 := Lib.hid (HT0.out.keepB HG.out (k5.below HBW0.out (fun g h => (own_lt HO0.out g h).1)))
    have HBW5 := Lib.hid (Nat.le_trans HBW0.out k5.grown.size)
    have HKD5 := Lib.hid k5.drew
    clear o5 k5
    go_wp2_with fail
    have HOD5 : Hid (Rw B v5 (xs ++ [65]) w5.drew) := HO5
    have HTD : Hid (TabE w5.drew) := Lib.hid (HT5.out.keep (Below.refl _ w5).drew)
    have K0 : w5.drew.cell? ⟨1, k, none⟩ = some (.int .u8 ow) := (HT5.out.own k HK34.out).trans (by rw [HOW.out])
    have K1 : (w5.drew.alloc (.cells #[.int .u8 (bits BinOp.or IntKind.u8 ow q)] 5)).cell? ⟨1, k, none⟩ = some (.int .u8 ow) := ((HT5.out.keep ((Below.refl _ w5).alloc (Nat.le_refl _) (.cells #[.int .u8 (bits BinOp.or IntKind.u8 ow q)] 5))).own k HK34.out).trans (by rw [HOW.out])
    have HPUT := Lib.hid (show Calls Tryz.prog 82 #[v5, .slice (some ⟨w5.heap.size, 0, none⟩) 1 1] (w5.drew.alloc (.cells #[.int .u8 (bits BinOp.or IntKind.u8 ow q)] 5)) (OutF B v5 ((xs ++ [65]) ++ [bits BinOp.or IntKind.u8 ow q]) w5.drew) from put_new [_] 1 rfl HOD5.out (by have := HKL.out; first | omega | (simp; omega)) HBW5.out)
    go_region_held3 (fun w' => w'.cell? ⟨1, k, none⟩ = some (.int .u8 ow)) (first | exact K0 | exact K2 | exact K1)
      (first | (go_at_call 85; refine (HL.out _).mono ?_; rintro e y1 ⟨rfl, rfl⟩) | (go_at_call 82; refine HPUT.out.mono ?_; rintro e y2 ⟨v2, rfl, o2, k2⟩; have K2 : y2.cell? ⟨1, k, none⟩ = some (.int .u8 ow) := (((HTD.out.keepB HG.out ((k2.below HBW5.out (fun g h => (own_lt HOD5.out g h).1)))).own k HK34.out).trans (by rw [HOW.out])); have HO2 := Lib.hid o2; have HK2 := Lib.hid (HKD5.out.trans k2); clear o2 k2) | fail)
    all_goals
      go_wp2_with fail
      go_ret
      exact ⟨_, rfl, by (have h := HO2.out; rw [HOR.out] at h; first | exact h | (rw [List.append_assoc] at h; exact h)), HK2.out⟩
  · rw [if_neg h7] at HHI
    obtain rfl := HHI.out
    rw [if_neg h7]
    clear h7 HR
    go_enter Tryz.func90, Tryz.ntmps90
    go_wp2_with fail
    go_at_call 89
    refine (HF.out _).mono ?_
    rintro e w' ⟨rfl, hww⟩
    subst hww
    go_wp2_with fail
    have HOD0 : Hid (Rw B (.slice A xs.length c) xs w'.drew) := HO0
    have HTD : Hid (TabE w'.drew) := Lib.hid (HT0.out.keep (Below.refl _ w').drew)
    have K0 : w'.drew.cell? ⟨1, k, none⟩ = some (.int .u8 ow) := (HT0.out.own k HK34.out).trans (by rw [HOW.out])
    have K1 : (w'.drew.alloc (.cells #[.int .u8 (bits BinOp.or IntKind.u8 ow q)] 5)).cell? ⟨1, k, none⟩ = some (.int .u8 ow) := ((HT0.out.keep ((Below.refl _ w').alloc (Nat.le_refl _) (.cells #[.int .u8 (bits BinOp.or IntKind.u8 ow q)] 5))).own k HK34.out).trans (by rw [HOW.out])
    have HPUT := Lib.hid (show Calls Tryz.prog 82 #[(.slice A xs.length c), .slice (some ⟨w'.heap.size, 0, none⟩) 1 1] (w'.drew.alloc (.cells #[.int .u8 (bits BinOp.or IntKind.u8 ow q)] 5)) (OutF B (.slice A xs.length c) (xs ++ [bits BinOp.or IntKind.u8 ow q]) w'.drew) from put_new [_] 1 rfl HOD0.out (by have := HKL.out; first | omega | (simp; omega)) HBW0.out)
    go_region_held3 (fun w' => w'.cell? ⟨1, k, none⟩ = some (.int .u8 ow)) (first | exact K0 | exact K2 | exact K1)
      (first | (go_at_call 85; refine (HL.out _).mono ?_; rintro e y1 ⟨rfl, rfl⟩) | (go_at_call 82; refine HPUT.out.mono ?_; rintro e y2 ⟨v2, rfl, o2, k2⟩; have K2 : y2.cell? ⟨1, k, none⟩ = some (.int .u8 ow) := (((HTD.out.keepB HG.out ((k2.below HBW0.out (fun g h => (own_lt HOD0.out g h).1)))).own k HK34.out).trans (by rw [HOW.out])); have HO2 := Lib.hid o2; have HK2 := Lib.hid (HKD0.out.trans k2); clear o2 k2) | fail)
    all_goals
      go_wp2_with fail
      go_ret
      exact ⟨_, rfl, by (have h := HO2.out; rw [HOR.out] at h; first | exact h | (rw [List.append_assoc] at h; exact h)), HK2.out⟩
set_option maxRecDepth 100000 in
set_option maxHeartbeats 8000000 in
theorem push_l {w : World} {B : Nat} {v : Value} {xs : List Int} (k : Nat) (hk34 : k < 34) (d s t b x sc di im : Int) (hs : R16 s) (how : ownAt k = 80) (hT : TabE w) (hG : G3 B) (ho : Rw B v xs w) (hk : xs.length ≤ 800000) (hB : B ≤ w.heap.size) :
    Calls Tryz.prog 70 #[v, .agg #[.int .i64 (k : Int), .int .i64 d, .int .i64 s, .int .i64 t, .int .i64 b, .int .i64 x, .int .i64 sc, .int .i64 di, .int .i64 im]] w (OutF B v (xs ++ (if s > 7 then [65, 80 + s % 8] else [80 + s % 8])) w) := by
  obtain ⟨A, c, rfl⟩ := slice_of ho
  have HOR : ∀ q : Int, 0 ≤ q → q ≤ 7 → bits BinOp.or IntKind.u8 80 q = 80 + q := fun q q1 q2 => by
    rcases (show q = 0 ∨ q = 1 ∨ q = 2 ∨ q = 3 ∨ q = 4 ∨ q = 5 ∨ q = 6 ∨ q = 7 by omega) with rfl | rfl | rfl | rfl | rfl | rfl | rfl | rfl <;> rfl
  have HDG := Lib.hid (fun (W : World) (hT : TabE W) (hG : G3 B) (v' : Value) (h : Rw B v' xs W) (h1 : xs.length ≤ 800000) (h2 : B ≤ W.heap.size) => short_l k hk34 s hs 80 how HOR hT hG h h1 h2)
  have HO0 := Lib.hid (own_keep ho ((Below.refl w.heap.size w).alloc (Nat.le_refl _) (.cells #[.int .i64 (k : Int), .int .i64 d, .int .i64 s, .int .i64 t, .int .i64 b, .int .i64 x, .int .i64 sc, .int .i64 di, .int .i64 im] 26)))
  have HS0 := Lib.hid (St.new (cs := #[.int .i64 (k : Int), .int .i64 d, .int .i64 s, .int .i64 t, .int .i64 b, .int .i64 x, .int .i64 sc, .int .i64 di, .int .i64 im]) hT hG ho hB)
  have HK0 := Lib.hid ((Kp.refl w (.slice A xs.length c)).alloc (.cells #[.int .i64 (k : Int), .int .i64 d, .int .i64 s, .int .i64 t, .int .i64 b, .int .i64 x, .int .i64 sc, .int .i64 di, .int .i64 im] 26))
  have HKL := Lib.hid hk
  have HK34 := Lib.hid hk34
  have e0 : (0 : Int) ≤ (k : Int) := by omega
  have e1 : (k : Int) < 34 := by omega
  clear hT hG ho hk hB hk34
  clear hs how HOR
  obtain ⟨a0, a1, a2, a3, a4, a5, a6, a7, a8, a9⟩ := St.ten HS0.out HK34.out
  clear a9
  generalize (if s > 7 then [65, 80 + s % 8] else [80 + s % 8]) = L at *
  go_enter Tryz.func70, Tryz.ntmps70
  go_wp2_with fail
  go_at_call 90
  refine (HDG.out _ HS0.out.tab HS0.out.g3 _ HO0.out HKL.out HS0.out.hB).mono ?_
  rintro e y2 ⟨v2, rfl, o2, k2⟩
  have HO2 := Lib.hid o2
  have HK2 := Lib.hid (HK0.out.trans k2)
  clear o2 k2 a0 a1 a2 a3 a4 a5 a6 a7 a8
  go_wp2_with fail
  go_ret
  exact ⟨_, rfl, HO2.out, HK2.out⟩
set_option maxRecDepth 100000 in
set_option maxHeartbeats 8000000 in
theorem pop_l {w : World} {B : Nat} {v : Value} {xs : List Int} (k : Nat) (hk34 : k < 34) (d s t b x sc di im : Int) (hd : R16 d) (how : ownAt k = 88) (hT : TabE w) (hG : G3 B) (ho : Rw B v xs w) (hk : xs.length ≤ 800000) (hB : B ≤ w.heap.size) :
    Calls Tryz.prog 71 #[v, .agg #[.int .i64 (k : Int), .int .i64 d, .int .i64 s, .int .i64 t, .int .i64 b, .int .i64 x, .int .i64 sc, .int .i64 di, .int .i64 im]] w (OutF B v (xs ++ (if d > 7 then [65, 88 + d % 8] else [88 + d % 8])) w) := by
  obtain ⟨A, c, rfl⟩ := slice_of ho
  have HOR : ∀ q : Int, 0 ≤ q → q ≤ 7 → bits BinOp.or IntKind.u8 88 q = 88 + q := fun q q1 q2 => by
    rcases (show q = 0 ∨ q = 1 ∨ q = 2 ∨ q = 3 ∨ q = 4 ∨ q = 5 ∨ q = 6 ∨ q = 7 by omega) with rfl | rfl | rfl | rfl | rfl | rfl | rfl | rfl <;> rfl
  have HDG := Lib.hid (fun (W : World) (hT : TabE W) (hG : G3 B) (v' : Value) (h : Rw B v' xs W) (h1 : xs.length ≤ 800000) (h2 : B ≤ W.heap.size) => short_l k hk34 d hd 88 how HOR hT hG h h1 h2)
  have HO0 := Lib.hid (own_keep ho ((Below.refl w.heap.size w).alloc (Nat.le_refl _) (.cells #[.int .i64 (k : Int), .int .i64 d, .int .i64 s, .int .i64 t, .int .i64 b, .int .i64 x, .int .i64 sc, .int .i64 di, .int .i64 im] 26)))
  have HS0 := Lib.hid (St.new (cs := #[.int .i64 (k : Int), .int .i64 d, .int .i64 s, .int .i64 t, .int .i64 b, .int .i64 x, .int .i64 sc, .int .i64 di, .int .i64 im]) hT hG ho hB)
  have HK0 := Lib.hid ((Kp.refl w (.slice A xs.length c)).alloc (.cells #[.int .i64 (k : Int), .int .i64 d, .int .i64 s, .int .i64 t, .int .i64 b, .int .i64 x, .int .i64 sc, .int .i64 di, .int .i64 im] 26))
  have HKL := Lib.hid hk
  have HK34 := Lib.hid hk34
  have e0 : (0 : Int) ≤ (k : Int) := by omega
  have e1 : (k : Int) < 34 := by omega
  clear hT hG ho hk hB hk34
  clear hd how HOR
  obtain ⟨a0, a1, a2, a3, a4, a5, a6, a7, a8, a9⟩ := St.ten HS0.out HK34.out
  clear a9
  generalize (if d > 7 then [65, 88 + d % 8] else [88 + d % 8]) = L at *
  go_enter Tryz.func71, Tryz.ntmps71
  go_wp2_with fail
  go_at_call 90
  refine (HDG.out _ HS0.out.tab HS0.out.g3 _ HO0.out HKL.out HS0.out.hB).mono ?_
  rintro e y2 ⟨v2, rfl, o2, k2⟩
  have HO2 := Lib.hid o2
  have HK2 := Lib.hid (HK0.out.trans k2)
  clear o2 k2 a0 a1 a2 a3 a4 a5 a6 a7 a8
  go_wp2_with fail
  go_ret
  exact ⟨_, rfl, HO2.out, HK2.out⟩
end Is
end Go.Proofs.YtblmagcekfbgdaaGreatDoor
namespace Go.Proofs.YtblmagcekfbgdaaGreatDoor
open Go Go.RowKit Go.Sort
namespace Is
open Nt
set_option linter.unusedVariables false
set_option linter.unusedSimpArgs false
theorem or_a {p q : Int} (p1 : 0 ≤ p) (p2 : p ≤ 1) (q1 : 0 ≤ q) (q2 : q ≤ 1) : bits BinOp.or IntKind.u8 (bits BinOp.or IntKind.u8 66 ((1 - p) * 128)) ((1 - q) * 32) = 66 + 128 * (1 - p) + 32 * (1 - q) := by
  rcases (show p = 0 ∨ p = 1 by omega) with rfl | rfl <;> rcases (show q = 0 ∨ q = 1 by omega) with rfl | rfl <;> rfl
theorem or_b {s : Int} (s1 : 0 ≤ s) (s2 : s ≤ 15) : bits BinOp.or IntKind.u8 131 ((15 - s) * 8) = 131 + 8 * (15 - s) := by
  rcases (show s = 0 ∨ s = 1 ∨ s = 2 ∨ s = 3 ∨ s = 4 ∨ s = 5 ∨ s = 6 ∨ s = 7 ∨ s = 8 ∨ s = 9 ∨ s = 10 ∨ s = 11 ∨ s = 12 ∨ s = 13 ∨ s = 14 ∨ s = 15 by omega) with rfl | rfl | rfl | rfl | rfl | rfl | rfl | rfl | rfl | rfl | rfl | rfl | rfl | rfl | rfl | rfl <;> rfl
theorem Kp.drewN {w w' : World} {v v' : Value} (h : Kp w v w' v') (n : Nat) : Kp w v (w'.drewN n) v' := ⟨⟨h.grown.os, h.grown.tape, h.grown.output, h.grown.size, h.grown.block⟩, h.own⟩
theorem St.drewN {B I : Nat} {cs : Array Value} {v : Value} {W : World} (h : St B I cs v W) (n : Nat) : St B I cs v (W.drewN n) := h.kp ((Kp.refl W v).drewN n)
set_option maxRecDepth 100000 in
set_option maxHeartbeats 8000000 in
theorem product_l {w : World} {B : Nat} {v : Value} {xs : List Int} (k : Nat) (hk34 : k < 34) (d s t b x sc di im : Int) (hd : R16 d) (hs : R16 s) (ht : R16 t) (hT : TabE w) (hG : G3 B) (ho : Rw B v xs w) (hk : xs.length ≤ 800000) (hB : B ≤ w.heap.size) :
    Calls Tryz.prog 65 #[v, .agg #[.int .i64 (k : Int), .int .i64 d, .int .i64 s, .int .i64 t, .int .i64 b, .int .i64 x, .int .i64 sc, .int .i64 di, .int .i64 im]] w (OutF B v (xs ++ ([196, 66 + 128 * (1 - hiR d) + 32 * (1 - hiR t), 131 + 8 * (15 - s), ownAt k, rmI d t])) w) := by
  obtain ⟨A, c, rfl⟩ := slice_of ho
  have HH := Lib.hid (fun W => from_l d hd.rx W)
  have HT := Lib.hid (fun W => from_l t ht.rx W)
  obtain ⟨p1, p2⟩ := hi_b hd.rx.1 hd.rx.2
  obtain ⟨q1, q2⟩ := hi_b ht.rx.1 ht.rx.2
  obtain ⟨s1, s2⟩ := hs
  have HN := Lib.hid (fun (W : World) (v' : Value) (ys : List Int) (h : Rw B v' ys W) (h1 : ys.length + 1 ≤ 1048576) (h2 : B ≤ W.heap.size) => register_l d t hd ht h h1 h2)
  generalize rmI d t = z2 at *
  have HO0 := Lib.hid (own_keep ho ((Below.refl w.heap.size w).alloc (Nat.le_refl _) (.cells #[.int .i64 (k : Int), .int .i64 d, .int .i64 s, .int .i64 t, .int .i64 b, .int .i64 x, .int .i64 sc, .int .i64 di, .int .i64 im] 26)))
  have HS0 := Lib.hid (St.new (cs := #[.int .i64 (k : Int), .int .i64 d, .int .i64 s, .int .i64 t, .int .i64 b, .int .i64 x, .int .i64 sc, .int .i64 di, .int .i64 im]) hT hG ho hB)
  have HK0 := Lib.hid ((Kp.refl w (.slice A xs.length c)).alloc (.cells #[.int .i64 (k : Int), .int .i64 d, .int .i64 s, .int .i64 t, .int .i64 b, .int .i64 x, .int .i64 sc, .int .i64 di, .int .i64 im] 26))
  have HKL := Lib.hid hk
  have HK34 := Lib.hid hk34
  have e0 : (0 : Int) ≤ (k : Int) := by omega
  have e1 : (k : Int) < 34 := by omega
  clear hT hG ho hk hB hk34
  clear hd ht
  generalize hOW : ownAt k = ow at *
  have HOW := Lib.hid hOW
  clear hOW
  generalize hiR d = p at *
  generalize hiR t = q at *
  have HA := Lib.hid (or_a p1 p2 q1 q2)
  have HB := Lib.hid (or_b s1 s2)
  rw [← HA.out, ← HB.out]
  obtain ⟨a0, a1, a2, a3, a4, a5, a6, a7, a8, a9⟩ := St.ten HS0.out HK34.out
  rw [HOW.out] at a9
  go_enter Tryz.func65, Tryz.ntmps65
  go_wp2_with fail
  go_quiet (first | exact Calls.quiet_of_same (HH.out _) | exact Calls.quiet_of_same (HT.out _))
  go_wp2_with fail
  clear a0 a1 a2 a3 a4 a5 a6 a7 a8 a9 HA HB p1 p2 q1 q2 s1 s2
  generalize bits BinOp.or IntKind.u8 (bits BinOp.or IntKind.u8 66 ((1 - p) * 128)) ((1 - q) * 32) = fa at *
  generalize bits BinOp.or IntKind.u8 131 ((15 - s) * 8) = fb at *
  have HS1 := Lib.hid (HS0.out.drewN nq)
  have HK1 := Lib.hid (HK0.out.drewN nq)
  have HO1 : Hid (Rw B (.slice A xs.length c) xs ((w.alloc (.cells #[.int .i64 (k : Int), .int .i64 d, .int .i64 s, .int .i64 t, .int .i64 b, .int .i64 x, .int .i64 sc, .int .i64 di, .int .i64 im] 26)).drewN nq)) := HO0
  generalize hW : World.drewN _ nq = W0 at *
  clear hW HS0 HK0 HO0
  have HSD := Lib.hid HS1.out.drew
  have HKD := Lib.hid HK1.out.drew
  have HOD : Hid (Rw B (.slice A xs.length c) xs W0.drew) := HO1
  have K0 := by have h := St.ten HSD.out HK34.out; rw [HOW.out] at h; exact h
  have K1 := by have h := St.ten (HSD.out.alloc (.cells #[.int .u8 196, .int .u8 fa, .int .u8 fb, .int .u8 ow] 5)) HK34.out; rw [HOW.out] at h; exact h
  have HPUT := Lib.hid (show Calls Tryz.prog 82 #[.slice A xs.length c, .slice (some ⟨W0.heap.size, 0, none⟩) 4 4] (W0.drew.alloc (.cells #[.int .u8 196, .int .u8 fa, .int .u8 fb, .int .u8 ow] 5)) (OutF B (.slice A xs.length c) (xs ++ [196, fa, fb, ow]) W0.drew) from put_new [196, fa, fb, ow] 4 rfl HOD.out (by have := HKL.out; omega) HSD.out.hB)
  go_region_held3 (fun w' => w'.cell? ⟨w.heap.size, 0, none⟩ = some (.int .i64 (k : Int)) ∧ w'.cell? ⟨w.heap.size, 1, none⟩ = some (.int .i64 d) ∧ w'.cell? ⟨w.heap.size, 2, none⟩ = some (.int .i64 s) ∧ w'.cell? ⟨w.heap.size, 3, none⟩ = some (.int .i64 t) ∧ w'.cell? ⟨w.heap.size, 4, none⟩ = some (.int .i64 b) ∧ w'.cell? ⟨w.heap.size, 5, none⟩ = some (.int .i64 x) ∧ w'.cell? ⟨w.heap.size, 6, none⟩ = some (.int .i64 sc) ∧ w'.cell? ⟨w.heap.size, 7, none⟩ = some (.int .i64 di) ∧ w'.cell? ⟨w.heap.size, 8, none⟩ = some (.int .i64 im) ∧ w'.cell? ⟨1, k, none⟩ = some (.int .u8 ow)) (first | exact K0 | exact K3 | exact K2 | exact K1)
    (first | (go_at_call 82; refine HPUT.out.mono ?_; rintro e y2 ⟨v2, rfl, o2, k2⟩; have HS2 := Lib.hid (HSD.out.kp k2); have K2 := (by have h := St.ten HS2.out HK34.out; rw [HOW.out] at h; exact h); have HO2 := Lib.hid o2; have HK2 := Lib.hid (HKD.out.trans k2); clear o2 k2) | (go_at_call 84; refine (HN.out _ _ _ HO2.out (by have := HKL.out; simp; omega) HS2.out.hB).mono ?_; rintro e y3 ⟨v3, rfl, o3, k3⟩; have HS3 := Lib.hid (HS2.out.kp k3); have K3 := (by have h := St.ten HS3.out HK34.out; rw [HOW.out] at h; exact h); have HO3 := Lib.hid o3; have HK3 := Lib.hid (HK2.out.trans k3); clear o3 k3) | fail)
  all_goals
    go_wp2_with fail
    go_ret
    exact ⟨_, rfl, by (have h := HO3.out; rw [List.append_assoc] at h; exact h), HK3.out⟩
end Is
end Go.Proofs.YtblmagcekfbgdaaGreatDoor
