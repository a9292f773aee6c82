/- The landed package encode: operations over two registers. | The landed package encode: operations with a place. | The landed package encode: operations with a number. -/
import Derived.Test.YtblmagcekfbgdaaGreatDoorP2
namespace Go.Proofs.YtblmagcekfbgdaaGreatDoor
open Go Go.RowKit Go.Sort
namespace Is
open Nt
set_option linter.unusedVariables false
set_option linter.unusedSimpArgs false
set_option maxRecDepth 100000 in
set_option maxHeartbeats 8000000 in
theorem two_l {w : World} {B : Nat} {v : Value} {xs : List Int} (k : Nat) (hk34 : k < 34) (d s t b x sc di im : Int) (hd : R16 d) (hs : R16 s) (hT : TabE w) (hG : G3 B) (ho : Rw B v xs w) (hk : xs.length ≤ 800000) (hB : B ≤ w.heap.size) :
    Calls Tryz.prog 60 #[v, .agg #[.int .i64 (k : Int), .int .i64 d, .int .i64 s, .int .i64 t, .int .i64 b, .int .i64 x, .int .i64 sc, .int .i64 di, .int .i64 im]] w (OutF B v (xs ++ ([rexI s (-1) d, ownAt k] ++ [rmI s d])) w) := by
  obtain ⟨A, c, rfl⟩ := slice_of ho
  have HX := Lib.hid (fun W => rex_l s (-1) d hs.rx rx_m1 hd.rx W)
  have HN := Lib.hid (fun (W : World) (v' : Value) (ys : List Int) (h : Rw B v' ys W) (h1 : ys.length + 1 ≤ 1048576) (h2 : B ≤ W.heap.size) => register_l s d hs hd h h1 h2)
  generalize rmI s d = z2 at *
  have HO0 := Lib.hid (own_keep ho ((Below.refl w.heap.size w).alloc (Nat.le_refl _) (.cells #[.int .i64 (k : Int), .int .i64 d, .int .i64 s, .int .i64 t, .int .i64 b, .int .i64 x, .int .i64 sc, .int .i64 di, .int .i64 im] 26)))
  have HS0 := Lib.hid (St.new (cs := #[.int .i64 (k : Int), .int .i64 d, .int .i64 s, .int .i64 t, .int .i64 b, .int .i64 x, .int .i64 sc, .int .i64 di, .int .i64 im]) hT hG ho hB)
  have HK0 := Lib.hid ((Kp.refl w (.slice A xs.length c)).alloc (.cells #[.int .i64 (k : Int), .int .i64 d, .int .i64 s, .int .i64 t, .int .i64 b, .int .i64 x, .int .i64 sc, .int .i64 di, .int .i64 im] 26))
  have HKL := Lib.hid hk
  have HK34 := Lib.hid hk34
  have e0 : (0 : Int) ≤ (k : Int) := by omega
  have e1 : (k : Int) < 34 := by omega
  clear hT hG ho hk hB hk34
  clear hd
  clear hs
  generalize hOW : ownAt k = ow at *
  have HOW := Lib.hid hOW
  clear hOW
  generalize rexI s (-1) d = z1 at *
  go_enter Tryz.func60, Tryz.ntmps60
  go_wp2_with fail
  generalize hW : World.alloc w _ = W0 at *
  clear hW
  have HSD := Lib.hid HS0.out.drew
  have HKD := Lib.hid HK0.out.drew
  have HOD : Hid (Rw B (.slice A xs.length c) xs W0.drew) := HO0
  have K0 := by have h := St.ten HSD.out HK34.out; rw [HOW.out] at h; exact h
  have K1 := by have h := St.ten (HSD.out.alloc (.cells #[.int .u8 (z1), .int .u8 (ow)] 5)) HK34.out; rw [HOW.out] at h; exact h
  have HPUT := Lib.hid (show Calls Tryz.prog 82 #[.slice A xs.length c, .slice (some ⟨W0.heap.size, 0, none⟩) 2 2] (W0.drew.alloc (.cells #[.int .u8 (z1), .int .u8 (ow)] 5)) (OutF B (.slice A xs.length c) (xs ++ [z1, ow]) W0.drew) from put_new [z1, ow] 2 rfl HOD.out (by have := HKL.out; omega) HSD.out.hB)
  go_region_held3 (fun w' => w'.cell? ⟨w.heap.size, 0, none⟩ = some (.int .i64 (k : Int)) ∧ w'.cell? ⟨w.heap.size, 1, none⟩ = some (.int .i64 d) ∧ w'.cell? ⟨w.heap.size, 2, none⟩ = some (.int .i64 s) ∧ w'.cell? ⟨w.heap.size, 3, none⟩ = some (.int .i64 t) ∧ w'.cell? ⟨w.heap.size, 4, none⟩ = some (.int .i64 b) ∧ w'.cell? ⟨w.heap.size, 5, none⟩ = some (.int .i64 x) ∧ w'.cell? ⟨w.heap.size, 6, none⟩ = some (.int .i64 sc) ∧ w'.cell? ⟨w.heap.size, 7, none⟩ = some (.int .i64 di) ∧ w'.cell? ⟨w.heap.size, 8, none⟩ = some (.int .i64 im) ∧ w'.cell? ⟨1, k, none⟩ = some (.int .u8 ow)) (first | exact K0 | exact K3 | exact K2 | exact K1)
    (first | (go_at_call 83; refine (HX.out _).mono ?_; rintro e y1 ⟨rfl, rfl⟩) | (go_at_call 82; refine HPUT.out.mono ?_; rintro e y2 ⟨v2, rfl, o2, k2⟩; have HS2 := Lib.hid (HSD.out.kp k2); have K2 := (by have h := St.ten HS2.out HK34.out; rw [HOW.out] at h; exact h); have HO2 := Lib.hid o2; have HK2 := Lib.hid (HKD.out.trans k2); clear o2 k2) | (go_at_call 84; refine (HN.out _ _ _ HO2.out (by have := HKL.out; simp; omega) HS2.out.hB).mono ?_; rintro e y3 ⟨v3, rfl, o3, k3⟩; have HS3 := Lib.hid (HS2.out.kp k3); have K3 := (by have h := St.ten HS3.out HK34.out; rw [HOW.out] at h; exact h); have HO3 := Lib.hid o3; have HK3 := Lib.hid (HK2.out.trans k3); clear o3 k3) | fail)
  all_goals
    go_wp2_with fail
    go_ret
    exact ⟨_, rfl, by first | exact HO3.out | (have h := HO3.out; rw [List.append_assoc] at h; exact h), HK3.out⟩
set_option maxRecDepth 100000 in
set_option maxHeartbeats 8000000 in
theorem choice_l {w : World} {B : Nat} {v : Value} {xs : List Int} (k : Nat) (hk34 : k < 34) (d s t b x sc di im : Int) (hd : R16 d) (hs : R16 s) (hT : TabE w) (hG : G3 B) (ho : Rw B v xs w) (hk : xs.length ≤ 800000) (hB : B ≤ w.heap.size) :
    Calls Tryz.prog 69 #[v, .agg #[.int .i64 (k : Int), .int .i64 d, .int .i64 s, .int .i64 t, .int .i64 b, .int .i64 x, .int .i64 sc, .int .i64 di, .int .i64 im]] w (OutF B v (xs ++ ([rexI d (-1) s, 15, ownAt k] ++ [rmI d s])) w) := by
  obtain ⟨A, c, rfl⟩ := slice_of ho
  have HX := Lib.hid (fun W => rex_l d (-1) s hd.rx rx_m1 hs.rx W)
  have HN := Lib.hid (fun (W : World) (v' : Value) (ys : List Int) (h : Rw B v' ys W) (h1 : ys.length + 1 ≤ 1048576) (h2 : B ≤ W.heap.size) => register_l d s hd hs h h1 h2)
  generalize rmI d s = z2 at *
  have HO0 := Lib.hid (own_keep ho ((Below.refl w.heap.size w).alloc (Nat.le_refl _) (.cells #[.int .i64 (k : Int), .int .i64 d, .int .i64 s, .int .i64 t, .int .i64 b, .int .i64 x, .int .i64 sc, .int .i64 di, .int .i64 im] 26)))
  have HS0 := Lib.hid (St.new (cs := #[.int .i64 (k : Int), .int .i64 d, .int .i64 s, .int .i64 t, .int .i64 b, .int .i64 x, .int .i64 sc, .int .i64 di, .int .i64 im]) hT hG ho hB)
  have HK0 := Lib.hid ((Kp.refl w (.slice A xs.length c)).alloc (.cells #[.int .i64 (k : Int), .int .i64 d, .int .i64 s, .int .i64 t, .int .i64 b, .int .i64 x, .int .i64 sc, .int .i64 di, .int .i64 im] 26))
  have HKL := Lib.hid hk
  have HK34 := Lib.hid hk34
  have e0 : (0 : Int) ≤ (k : Int) := by omega
  have e1 : (k : Int) < 34 := by omega
  clear hT hG ho hk hB hk34
  clear hd
  clear hs
  generalize hOW : ownAt k = ow at *
  have HOW := Lib.hid hOW
  clear hOW
  generalize rexI d (-1) s = z1 at *
  go_enter Tryz.func69, Tryz.ntmps69
  go_wp2_with fail
  generalize hW : World.alloc w _ = W0 at *
  clear hW
  have HSD := Lib.hid HS0.out.drew
  have HKD := Lib.hid HK0.out.drew
  have HOD : Hid (Rw B (.slice A xs.length c) xs W0.drew) := HO0
  have K0 := by have h := St.ten HSD.out HK34.out; rw [HOW.out] at h; exact h
  have K1 := by have h := St.ten (HSD.out.alloc (.cells #[.int .u8 (z1), .int .u8 (15), .int .u8 (ow)] 5)) HK34.out; rw [HOW.out] at h; exact h
  have HPUT := Lib.hid (show Calls Tryz.prog 82 #[.slice A xs.length c, .slice (some ⟨W0.heap.size, 0, none⟩) 3 3] (W0.drew.alloc (.cells #[.int .u8 (z1), .int .u8 (15), .int .u8 (ow)] 5)) (OutF B (.slice A xs.length c) (xs ++ [z1, 15, ow]) W0.drew) from put_new [z1, 15, ow] 3 rfl HOD.out (by have := HKL.out; omega) HSD.out.hB)
  go_region_held3 (fun w' => w'.cell? ⟨w.heap.size, 0, none⟩ = some (.int .i64 (k : Int)) ∧ w'.cell? ⟨w.heap.size, 1, none⟩ = some (.int .i64 d) ∧ w'.cell? ⟨w.heap.size, 2, none⟩ = some (.int .i64 s) ∧ w'.cell? ⟨w.heap.size, 3, none⟩ = some (.int .i64 t) ∧ w'.cell? ⟨w.heap.size, 4, none⟩ = some (.int .i64 b) ∧ w'.cell? ⟨w.heap.size, 5, none⟩ = some (.int .i64 x) ∧ w'.cell? ⟨w.heap.size, 6, none⟩ = some (.int .i64 sc) ∧ w'.cell? ⟨w.heap.size, 7, none⟩ = some (.int .i64 di) ∧ w'.cell? ⟨w.heap.size, 8, none⟩ = some (.int .i64 im) ∧ w'.cell? ⟨1, k, none⟩ = some (.int .u8 ow)) (first | exact K0 | exact K3 | exact K2 | exact K1)
    (first | (go_at_call 83; refine (HX.out _).mono ?_; rintro e y1 ⟨rfl, rfl⟩) | (go_at_call 82; refine HPUT.out.mono ?_; rintro e y2 ⟨v2, rfl, o2, k2⟩; have HS2 := Lib.hid (HSD.out.kp k2); have K2 := (by have h := St.ten HS2.out HK34.out; rw [HOW.out] at h; exact h); have HO2 := Lib.hid o2; have HK2 := Lib.hid (HKD.out.trans k2); clear o2 k2) | (go_at_call 84; refine (HN.out _ _ _ HO2.out (by have := HKL.out; simp; omega) HS2.out.hB).mono ?_; rintro e y3 ⟨v3, rfl, o3, k3⟩; have HS3 := Lib.hid (HS2.out.kp k3); have K3 := (by have h := St.ten HS3.out HK34.out; rw [HOW.out] at h; exact h); have HO3 := Lib.hid o3; have HK3 := Lib.hid (HK2.out.trans k3); clear o3 k3) | fail)
  all_goals
    go_wp2_with fail
    go_ret
    exact ⟨_, rfl, by first | exact HO3.out | (have h := HO3.out; rw [List.append_assoc] at h; exact h), HK3.out⟩
set_option maxRecDepth 100000 in
set_option maxHeartbeats 8000000 in
theorem oneFlag_l {w : World} {B : Nat} {v : Value} {xs : List Int} (k : Nat) (hk34 : k < 34) (d s t b x sc di im : Int) (hd : R16 d) (hs : R16 s) (hT : TabE w) (hG : G3 B) (ho : Rw B v xs w) (hk : xs.length ≤ 800000) (hB : B ≤ w.heap.size) :
    Calls Tryz.prog 66 #[v, .agg #[.int .i64 (k : Int), .int .i64 d, .int .i64 s, .int .i64 t, .int .i64 b, .int .i64 x, .int .i64 sc, .int .i64 di, .int .i64 im]] w (OutF B v (xs ++ ([ownAt k, rexI d (-1) s, 15, 56, 246] ++ [rmI d s])) w) := by
  obtain ⟨A, c, rfl⟩ := slice_of ho
  have HX := Lib.hid (fun W => rex_l d (-1) s hd.rx rx_m1 hs.rx W)
  have HN := Lib.hid (fun (W : World) (v' : Value) (ys : List Int) (h : Rw B v' ys W) (h1 : ys.length + 1 ≤ 1048576) (h2 : B ≤ W.heap.size) => register_l d s hd hs h h1 h2)
  generalize rmI d s = z2 at *
  have HO0 := Lib.hid (own_keep ho ((Below.refl w.heap.size w).alloc (Nat.le_refl _) (.cells #[.int .i64 (k : Int), .int .i64 d, .int .i64 s, .int .i64 t, .int .i64 b, .int .i64 x, .int .i64 sc, .int .i64 di, .int .i64 im] 26)))
  have HS0 := Lib.hid (St.new (cs := #[.int .i64 (k : Int), .int .i64 d, .int .i64 s, .int .i64 t, .int .i64 b, .int .i64 x, .int .i64 sc, .int .i64 di, .int .i64 im]) hT hG ho hB)
  have HK0 := Lib.hid ((Kp.refl w (.slice A xs.length c)).alloc (.cells #[.int .i64 (k : Int), .int .i64 d, .int .i64 s, .int .i64 t, .int .i64 b, .int .i64 x, .int .i64 sc, .int .i64 di, .int .i64 im] 26))
  have HKL := Lib.hid hk
  have HK34 := Lib.hid hk34
  have e0 : (0 : Int) ≤ (k : Int) := by omega
  have e1 : (k : Int) < 34 := by omega
  clear hT hG ho hk hB hk34
  clear hd
  clear hs
  generalize hOW : ownAt k = ow at *
  have HOW := Lib.hid hOW
  clear hOW
  generalize rexI d (-1) s = z1 at *
  go_enter Tryz.func66, Tryz.ntmps66
  go_wp2_with fail
  generalize hW : World.alloc w _ = W0 at *
  clear hW
  have HSD := Lib.hid HS0.out.drew
  have HKD := Lib.hid HK0.out.drew
  have HOD : Hid (Rw B (.slice A xs.length c) xs W0.drew) := HO0
  have K0 := by have h := St.ten HSD.out HK34.out; rw [HOW.out] at h; exact h
  have K1 := by have h := St.ten (HSD.out.alloc (.cells #[.int .u8 (ow), .int .u8 (z1), .int .u8 (15), .int .u8 (56), .int .u8 (246)] 5)) HK34.out; rw [HOW.out] at h; exact h
  have HPUT := Lib.hid (show Calls Tryz.prog 82 #[.slice A xs.length c, .slice (some ⟨W0.heap.size, 0, none⟩) 5 5] (W0.drew.alloc (.cells #[.int .u8 (ow), .int .u8 (z1), .int .u8 (15), .int .u8 (56), .int .u8 (246)] 5)) (OutF B (.slice A xs.length c) (xs ++ [ow, z1, 15, 56, 246]) W0.drew) from put_new [ow, z1, 15, 56, 246] 5 rfl HOD.out (by have := HKL.out; omega) HSD.out.hB)
  go_region_held3 (fun w' => w'.cell? ⟨w.heap.size, 0, none⟩ = some (.int .i64 (k : Int)) ∧ w'.cell? ⟨w.heap.size, 1, none⟩ = some (.int .i64 d) ∧ w'.cell? ⟨w.heap.size, 2, none⟩ = some (.int .i64 s) ∧ w'.cell? ⟨w.heap.size, 3, none⟩ = some (.int .i64 t) ∧ w'.cell? ⟨w.heap.size, 4, none⟩ = some (.int .i64 b) ∧ w'.cell? ⟨w.heap.size, 5, none⟩ = some (.int .i64 x) ∧ w'.cell? ⟨w.heap.size, 6, none⟩ = some (.int .i64 sc) ∧ w'.cell? ⟨w.heap.size, 7, none⟩ = some (.int .i64 di) ∧ w'.cell? ⟨w.heap.size, 8, none⟩ = some (.int .i64 im) ∧ w'.cell? ⟨1, k, none⟩ = some (.int .u8 ow)) (first | exact K0 | exact K3 | exact K2 | exact K1)
    (first | (go_at_call 83; refine (HX.out _).mono ?_; rintro e y1 ⟨rfl, rfl⟩) | (go_at_call 82; refine HPUT.out.mono ?_; rintro e y2 ⟨v2, rfl, o2, k2⟩; have HS2 := Lib.hid (HSD.out.kp k2); have K2 := (by have h := St.ten HS2.out HK34.out; rw [HOW.out] at h; exact h); have HO2 := Lib.hid o2; have HK2 := Lib.hid (HKD.out.trans k2); clear o2 k2) | (go_at_call 84; refine (HN.out _ _ _ HO2.out (by have := HKL.out; simp; omega) HS2.out.hB).mono ?_; rintro e y3 ⟨v3, rfl, o3, k3⟩; have HS3 := Lib.hid (HS2.out.kp k3); have K3 := (by have h := St.ten HS3.out HK34.out; rw [HOW.out] at h; exact h); have HO3 := Lib.hid o3; have HK3 := Lib.hid (HK2.out.trans k3); clear o3 k3) | fail)
  all_goals
    go_wp2_with fail
    go_ret
    exact ⟨_, rfl, by first | exact HO3.out | (have h := HO3.out; rw [List.append_assoc] at h; exact h), HK3.out⟩
end Is
end Go.Proofs.YtblmagcekfbgdaaGreatDoor
namespace Go.Proofs.YtblmagcekfbgdaaGreatDoor
open Go Go.RowKit Go.Sort
namespace Is
open Nt
set_option linter.unusedVariables false
set_option linter.unusedSimpArgs false
set_option maxRecDepth 100000 in
set_option maxHeartbeats 8000000 in
theorem fromPlace_l {w : World} {B : Nat} {v : Value} {xs : List Int} (k : Nat) (hk34 : k < 34) (d s t b x sc di im : Int) (hd : R16 d) (hp : Pl ⟨(k : Int), d, s, t, b, x, sc, di, im⟩) (hT : TabE w) (hG : G3 B) (ho : Rw B v xs w) (hk : xs.length ≤ 800000) (hB : B ≤ w.heap.size) :
    Calls Tryz.prog 62 #[v, .agg #[.int .i64 (k : Int), .int .i64 d, .int .i64 s, .int .i64 t, .int .i64 b, .int .i64 x, .int .i64 sc, .int .i64 di, .int .i64 im]] w (OutF B v (xs ++ ([rexI d x b, ownAt k] ++ plcL d ⟨(k : Int), d, s, t, b, x, sc, di, im⟩)) w) := by
  obtain ⟨A, c, rfl⟩ := slice_of ho
  have HX := Lib.hid (fun W => rex_l d x b hd.rx (Pl.rxx hp) (R16.rx hp.1) W)
  have HN := Lib.hid (fun (W : World) (hT : TabE W) (v' : Value) (ys : List Int) (h : Rw B v' ys W) (h1 : ys.length ≤ 900000) (h2 : B ≤ W.heap.size) => place_l ⟨(k : Int), d, s, t, b, x, sc, di, im⟩ d hd hp hT h h1 h2)
  generalize plcL d ⟨(k : Int), d, s, t, b, x, sc, di, im⟩ = z3 at *
  dsimp only at HN
  have HO0 := Lib.hid (own_keep ho ((Below.refl w.heap.size w).alloc (Nat.le_refl _) (.cells #[.int .i64 (k : Int), .int .i64 d, .int .i64 s, .int .i64 t, .int .i64 b, .int .i64 x, .int .i64 sc, .int .i64 di, .int .i64 im] 26)))
  have HS0 := Lib.hid (St.new (cs := #[.int .i64 (k : Int), .int .i64 d, .int .i64 s, .int .i64 t, .int .i64 b, .int .i64 x, .int .i64 sc, .int .i64 di, .int .i64 im]) hT hG ho hB)
  have HK0 := Lib.hid ((Kp.refl w (.slice A xs.length c)).alloc (.cells #[.int .i64 (k : Int), .int .i64 d, .int .i64 s, .int .i64 t, .int .i64 b, .int .i64 x, .int .i64 sc, .int .i64 di, .int .i64 im] 26))
  have HKL := Lib.hid hk
  have HK34 := Lib.hid hk34
  have e0 : (0 : Int) ≤ (k : Int) := by omega
  have e1 : (k : Int) < 34 := by omega
  clear hT hG ho hk hB hk34
  clear hd
  clear hp
  generalize hOW : ownAt k = ow at *
  have HOW := Lib.hid hOW
  clear hOW
  generalize rexI d x b = z1 at *
  go_enter Tryz.func62, Tryz.ntmps62
  go_wp2_with fail
  generalize hW : World.alloc w _ = W0 at *
  clear hW
  have HSD := Lib.hid HS0.out.drew
  have HKD := Lib.hid HK0.out.drew
  have HOD : Hid (Rw B (.slice A xs.length c) xs W0.drew) := HO0
  have K0 := by have h := St.ten HSD.out HK34.out; rw [HOW.out] at h; exact h
  have K1 := by have h := St.ten (HSD.out.alloc (.cells #[.int .u8 (z1), .int .u8 (ow)] 5)) HK34.out; rw [HOW.out] at h; exact h
  have HPUT := Lib.hid (show Calls Tryz.prog 82 #[.slice A xs.length c, .slice (some ⟨W0.heap.size, 0, none⟩) 2 2] (W0.drew.alloc (.cells #[.int .u8 (z1), .int .u8 (ow)] 5)) (OutF B (.slice A xs.length c) (xs ++ [z1, ow]) W0.drew) from put_new [z1, ow] 2 rfl HOD.out (by have := HKL.out; omega) HSD.out.hB)
  go_region_held3 (fun w' => w'.cell? ⟨w.heap.size, 0, none⟩ = some (.int .i64 (k : Int)) ∧ w'.cell? ⟨w.heap.size, 1, none⟩ = some (.int .i64 d) ∧ w'.cell? ⟨w.heap.size, 2, none⟩ = some (.int .i64 s) ∧ w'.cell? ⟨w.heap.size, 3, none⟩ = some (.int .i64 t) ∧ w'.cell? ⟨w.heap.size, 4, none⟩ = some (.int .i64 b) ∧ w'.cell? ⟨w.heap.size, 5, none⟩ = some (.int .i64 x) ∧ w'.cell? ⟨w.heap.size, 6, none⟩ = some (.int .i64 sc) ∧ w'.cell? ⟨w.heap.size, 7, none⟩ = some (.int .i64 di) ∧ w'.cell? ⟨w.heap.size, 8, none⟩ = some (.int .i64 im) ∧ w'.cell? ⟨1, k, none⟩ = some (.int .u8 ow)) (first | exact K0 | exact K3 | exact K2 | exact K1)
    (first | (go_at_call 83; refine (HX.out _).mono ?_; rintro e y1 ⟨rfl, rfl⟩) | (go_at_call 82; refine HPUT.out.mono ?_; rintro e y2 ⟨v2, rfl, o2, k2⟩; have HS2 := Lib.hid (HSD.out.kp k2); have K2 := (by have h := St.ten HS2.out HK34.out; rw [HOW.out] at h; exact h); have HO2 := Lib.hid o2; have HK2 := Lib.hid (HKD.out.trans k2); clear o2 k2) | (go_at_call 87; refine (HN.out _ HS2.out.tab _ _ HO2.out (by have := HKL.out; simp; omega) HS2.out.hB).mono ?_; rintro e y3 ⟨v3, rfl, o3, k3⟩; have HS3 := Lib.hid (HS2.out.kp k3); have K3 := (by have h := St.ten HS3.out HK34.out; rw [HOW.out] at h; exact h); have HO3 := Lib.hid o3; have HK3 := Lib.hid (HK2.out.trans k3); clear o3 k3) | fail)
  all_goals
    go_wp2_with fail
    go_ret
    exact ⟨_, rfl, by first | exact HO3.out | (have h := HO3.out; rw [List.append_assoc] at h; exact h), HK3.out⟩
set_option maxRecDepth 100000 in
set_option maxHeartbeats 8000000 in
theorem toPlace_l {w : World} {B : Nat} {v : Value} {xs : List Int} (k : Nat) (hk34 : k < 34) (d s t b x sc di im : Int) (hs : R16 s) (hp : Pl ⟨(k : Int), d, s, t, b, x, sc, di, im⟩) (hT : TabE w) (hG : G3 B) (ho : Rw B v xs w) (hk : xs.length ≤ 800000) (hB : B ≤ w.heap.size) :
    Calls Tryz.prog 63 #[v, .agg #[.int .i64 (k : Int), .int .i64 d, .int .i64 s, .int .i64 t, .int .i64 b, .int .i64 x, .int .i64 sc, .int .i64 di, .int .i64 im]] w (OutF B v (xs ++ ([rexI s x b, ownAt k] ++ plcL s ⟨(k : Int), d, s, t, b, x, sc, di, im⟩)) w) := by
  obtain ⟨A, c, rfl⟩ := slice_of ho
  have HX := Lib.hid (fun W => rex_l s x b hs.rx (Pl.rxx hp) (R16.rx hp.1) W)
  have HN := Lib.hid (fun (W : World) (hT : TabE W) (v' : Value) (ys : List Int) (h : Rw B v' ys W) (h1 : ys.length ≤ 900000) (h2 : B ≤ W.heap.size) => place_l ⟨(k : Int), d, s, t, b, x, sc, di, im⟩ s hs hp hT h h1 h2)
  generalize plcL s ⟨(k : Int), d, s, t, b, x, sc, di, im⟩ = z3 at *
  dsimp only at HN
  have HO0 := Lib.hid (own_keep ho ((Below.refl w.heap.size w).alloc (Nat.le_refl _) (.cells #[.int .i64 (k : Int), .int .i64 d, .int .i64 s, .int .i64 t, .int .i64 b, .int .i64 x, .int .i64 sc, .int .i64 di, .int .i64 im] 26)))
  have HS0 := Lib.hid (St.new (cs := #[.int .i64 (k : Int), .int .i64 d, .int .i64 s, .int .i64 t, .int .i64 b, .int .i64 x, .int .i64 sc, .int .i64 di, .int .i64 im]) hT hG ho hB)
  have HK0 := Lib.hid ((Kp.refl w (.slice A xs.length c)).alloc (.cells #[.int .i64 (k : Int), .int .i64 d, .int .i64 s, .int .i64 t, .int .i64 b, .int .i64 x, .int .i64 sc, .int .i64 di, .int .i64 im] 26))
  have HKL := Lib.hid hk
  have HK34 := Lib.hid hk34
  have e0 : (0 : Int) ≤ (k : Int) := by omega
  have e1 : (k : Int) < 34 := by omega
  clear hT hG ho hk hB hk34
  clear hs
  clear hp
  generalize hOW : ownAt k = ow at *
  have HOW := Lib.hid hOW
  clear hOW
  generalize rexI s x b = z1 at *
  go_enter Tryz.func63, Tryz.ntmps63
  go_wp2_with fail
  generalize hW : World.alloc w _ = W0 at *
  clear hW
  have HSD := Lib.hid HS0.out.drew
  have HKD := Lib.hid HK0.out.drew
  have HOD : Hid (Rw B (.slice A xs.length c) xs W0.drew) := HO0
  have K0 := by have h := St.ten HSD.out HK34.out; rw [HOW.out] at h; exact h
  have K1 := by have h := St.ten (HSD.out.alloc (.cells #[.int .u8 (z1), .int .u8 (ow)] 5)) HK34.out; rw [HOW.out] at h; exact h
  have HPUT := Lib.hid (show Calls Tryz.prog 82 #[.slice A xs.length c, .slice (some ⟨W0.heap.size, 0, none⟩) 2 2] (W0.drew.alloc (.cells #[.int .u8 (z1), .int .u8 (ow)] 5)) (OutF B (.slice A xs.length c) (xs ++ [z1, ow]) W0.drew) from put_new [z1, ow] 2 rfl HOD.out (by have := HKL.out; omega) HSD.out.hB)
  go_region_held3 (fun w' => w'.cell? ⟨w.heap.size, 0, none⟩ = some (.int .i64 (k : Int)) ∧ w'.cell? ⟨w.heap.size, 1, none⟩ = some (.int .i64 d) ∧ w'.cell? ⟨w.heap.size, 2, none⟩ = some (.int .i64 s) ∧ w'.cell? ⟨w.heap.size, 3, none⟩ = some (.int .i64 t) ∧ w'.cell? ⟨w.heap.size, 4, none⟩ = some (.int .i64 b) ∧ w'.cell? ⟨w.heap.size, 5, none⟩ = some (.int .i64 x) ∧ w'.cell? ⟨w.heap.size, 6, none⟩ = some (.int .i64 sc) ∧ w'.cell? ⟨w.heap.size, 7, none⟩ = some (.int .i64 di) ∧ w'.cell? ⟨w.heap.size, 8, none⟩ = some (.int .i64 im) ∧ w'.cell? ⟨1, k, none⟩ = some (.int .u8 ow)) (first | exact K0 | exact K3 | exact K2 | exact K1)
    (first | (go_at_call 83; refine (HX.out _).mono ?_; rintro e y1 ⟨rfl, rfl⟩) | (go_at_call 82; refine HPUT.out.mono ?_; rintro e y2 ⟨v2, rfl, o2, k2⟩; have HS2 := Lib.hid (HSD.out.kp k2); have K2 := (by have h := St.ten HS2.out HK34.out; rw [HOW.out] at h; exact h); have HO2 := Lib.hid o2; have HK2 := Lib.hid (HKD.out.trans k2); clear o2 k2) | (go_at_call 87; refine (HN.out _ HS2.out.tab _ _ HO2.out (by have := HKL.out; simp; omega) HS2.out.hB).mono ?_; rintro e y3 ⟨v3, rfl, o3, k3⟩; have HS3 := Lib.hid (HS2.out.kp k3); have K3 := (by have h := St.ten HS3.out HK34.out; rw [HOW.out] at h; exact h); have HO3 := Lib.hid o3; have HK3 := Lib.hid (HK2.out.trans k3); clear o3 k3) | fail)
  all_goals
    go_wp2_with fail
    go_ret
    exact ⟨_, rfl, by first | exact HO3.out | (have h := HO3.out; rw [List.append_assoc] at h; exact h), HK3.out⟩
end Is
end Go.Proofs.YtblmagcekfbgdaaGreatDoor
namespace Go.Proofs.YtblmagcekfbgdaaGreatDoor
open Go Go.RowKit Go.Sort
namespace Is
open Nt
set_option linter.unusedVariables false
set_option linter.unusedSimpArgs false
set_option maxRecDepth 100000 in
set_option maxHeartbeats 8000000 in
theorem jump_l {w : World} {B : Nat} {v : Value} {xs : List Int} (k : Nat) (hk34 : k < 34) (d s t b x sc di im : Int) (hT : TabE w) (hG : G3 B) (ho : Rw B v xs w) (hk : xs.length ≤ 800000) (hB : B ≤ w.heap.size) :
    Calls Tryz.prog 72 #[v, .agg #[.int .i64 (k : Int), .int .i64 d, .int .i64 s, .int .i64 t, .int .i64 b, .int .i64 x, .int .i64 sc, .int .i64 di, .int .i64 im]] w (OutF B v (xs ++ ([ownAt k] ++ ltl im 4)) w) := by
  obtain ⟨A, c, rfl⟩ := slice_of ho
  have HN := Lib.hid (fun (W : World) (v' : Value) (ys : List Int) (h : Rw B v' ys W) (h1 : ys.length ≤ 1000000) (h2 : B ≤ W.heap.size) => number_l im 4 (by decide) h h1 h2)
  generalize ltl im 4 = z3 at *
  have HO0 := Lib.hid (own_keep ho ((Below.refl w.heap.size w).alloc (Nat.le_refl _) (.cells #[.int .i64 (k : Int), .int .i64 d, .int .i64 s, .int .i64 t, .int .i64 b, .int .i64 x, .int .i64 sc, .int .i64 di, .int .i64 im] 26)))
  have HS0 := Lib.hid (St.new (cs := #[.int .i64 (k : Int), .int .i64 d, .int .i64 s, .int .i64 t, .int .i64 b, .int .i64 x, .int .i64 sc, .int .i64 di, .int .i64 im]) hT hG ho hB)
  have HK0 := Lib.hid ((Kp.refl w (.slice A xs.length c)).alloc (.cells #[.int .i64 (k : Int), .int .i64 d, .int .i64 s, .int .i64 t, .int .i64 b, .int .i64 x, .int .i64 sc, .int .i64 di, .int .i64 im] 26))
  have HKL := Lib.hid hk
  have HK34 := Lib.hid hk34
  have e0 : (0 : Int) ≤ (k : Int) := by omega
  have e1 : (k : Int) < 34 := by omega
  clear hT hG ho hk hB hk34
  generalize hOW : ownAt k = ow at *
  have HOW := Lib.hid hOW
  clear hOW
  go_enter Tryz.func72, Tryz.ntmps72
  go_wp2_with fail
  generalize hW : World.alloc w _ = W0 at *
  clear hW
  have HSD := Lib.hid HS0.out.drew
  have HKD := Lib.hid HK0.out.drew
  have HOD : Hid (Rw B (.slice A xs.length c) xs W0.drew) := HO0
  have K0 := by have h := St.ten HSD.out HK34.out; rw [HOW.out] at h; exact h
  have K1 := by have h := St.ten (HSD.out.alloc (.cells #[.int .u8 (ow)] 5)) HK34.out; rw [HOW.out] at h; exact h
  have HPUT := Lib.hid (show Calls Tryz.prog 82 #[.slice A xs.length c, .slice (some ⟨W0.heap.size, 0, none⟩) 1 1] (W0.drew.alloc (.cells #[.int .u8 (ow)] 5)) (OutF B (.slice A xs.length c) (xs ++ [ow]) W0.drew) from put_new [ow] 1 rfl HOD.out (by have := HKL.out; omega) HSD.out.hB)
  go_region_held3 (fun w' => w'.cell? ⟨w.heap.size, 0, none⟩ = some (.int .i64 (k : Int)) ∧ w'.cell? ⟨w.heap.size, 1, none⟩ = some (.int .i64 d) ∧ w'.cell? ⟨w.heap.size, 2, none⟩ = some (.int .i64 s) ∧ w'.cell? ⟨w.heap.size, 3, none⟩ = some (.int .i64 t) ∧ w'.cell? ⟨w.heap.size, 4, none⟩ = some (.int .i64 b) ∧ w'.cell? ⟨w.heap.size, 5, none⟩ = some (.int .i64 x) ∧ w'.cell? ⟨w.heap.size, 6, none⟩ = some (.int .i64 sc) ∧ w'.cell? ⟨w.heap.size, 7, none⟩ = some (.int .i64 di) ∧ w'.cell? ⟨w.heap.size, 8, none⟩ = some (.int .i64 im) ∧ w'.cell? ⟨1, k, none⟩ = some (.int .u8 ow)) (first | exact K0 | exact K3 | exact K2 | exact K1)
    (first | (go_at_call 82; refine HPUT.out.mono ?_; rintro e y2 ⟨v2, rfl, o2, k2⟩; have HS2 := Lib.hid (HSD.out.kp k2); have K2 := (by have h := St.ten HS2.out HK34.out; rw [HOW.out] at h; exact h); have HO2 := Lib.hid o2; have HK2 := Lib.hid (HKD.out.trans k2); clear o2 k2) | (go_at_call 86; refine (HN.out _ _ _ HO2.out (by have := HKL.out; simp; omega) HS2.out.hB).mono ?_; rintro e y3 ⟨v3, rfl, o3, k3⟩; have HS3 := Lib.hid (HS2.out.kp k3); have K3 := (by have h := St.ten HS3.out HK34.out; rw [HOW.out] at h; exact h); have HO3 := Lib.hid o3; have HK3 := Lib.hid (HK2.out.trans k3); clear o3 k3) | fail)
  all_goals
    go_wp2_with fail
    go_ret
    exact ⟨_, rfl, by first | exact HO3.out | (have h := HO3.out; rw [List.append_assoc] at h; exact h), HK3.out⟩
set_option maxRecDepth 100000 in
set_option maxHeartbeats 8000000 in
theorem jumpIf_l {w : World} {B : Nat} {v : Value} {xs : List Int} (k : Nat) (hk34 : k < 34) (d s t b x sc di im : Int) (hT : TabE w) (hG : G3 B) (ho : Rw B v xs w) (hk : xs.length ≤ 800000) (hB : B ≤ w.heap.size) :
    Calls Tryz.prog 73 #[v, .agg #[.int .i64 (k : Int), .int .i64 d, .int .i64 s, .int .i64 t, .int .i64 b, .int .i64 x, .int .i64 sc, .int .i64 di, .int .i64 im]] w (OutF B v (xs ++ ([15, ownAt k] ++ ltl im 4)) w) := by
  obtain ⟨A, c, rfl⟩ := slice_of ho
  have HN := Lib.hid (fun (W : World) (v' : Value) (ys : List Int) (h : Rw B v' ys W) (h1 : ys.length ≤ 1000000) (h2 : B ≤ W.heap.size) => number_l im 4 (by decide) h h1 h2)
  generalize ltl im 4 = z3 at *
  have HO0 := Lib.hid (own_keep ho ((Below.refl w.heap.size w).alloc (Nat.le_refl _) (.cells #[.int .i64 (k : Int), .int .i64 d, .int .i64 s, .int .i64 t, .int .i64 b, .int .i64 x, .int .i64 sc, .int .i64 di, .int .i64 im] 26)))
  have HS0 := Lib.hid (St.new (cs := #[.int .i64 (k : Int), .int .i64 d, .int .i64 s, .int .i64 t, .int .i64 b, .int .i64 x, .int .i64 sc, .int .i64 di, .int .i64 im]) hT hG ho hB)
  have HK0 := Lib.hid ((Kp.refl w (.slice A xs.length c)).alloc (.cells #[.int .i64 (k : Int), .int .i64 d, .int .i64 s, .int .i64 t, .int .i64 b, .int .i64 x, .int .i64 sc, .int .i64 di, .int .i64 im] 26))
  have HKL := Lib.hid hk
  have HK34 := Lib.hid hk34
  have e0 : (0 : Int) ≤ (k : Int) := by omega
  have e1 : (k : Int) < 34 := by omega
  clear hT hG ho hk hB hk34
  generalize hOW : ownAt k = ow at *
  have HOW := Lib.hid hOW
  clear hOW
  go_enter Tryz.func73, Tryz.ntmps73
  go_wp2_with fail
  generalize hW : World.alloc w _ = W0 at *
  clear hW
  have HSD := Lib.hid HS0.out.drew
  have HKD := Lib.hid HK0.out.drew
  have HOD : Hid (Rw B (.slice A xs.length c) xs W0.drew) := HO0
  have K0 := by have h := St.ten HSD.out HK34.out; rw [HOW.out] at h; exact h
  have K1 := by have h := St.ten (HSD.out.alloc (.cells #[.int .u8 (15), .int .u8 (ow)] 5)) HK34.out; rw [HOW.out] at h; exact h
  have HPUT := Lib.hid (show Calls Tryz.prog 82 #[.slice A xs.length c, .slice (some ⟨W0.heap.size, 0, none⟩) 2 2] (W0.drew.alloc (.cells #[.int .u8 (15), .int .u8 (ow)] 5)) (OutF B (.slice A xs.length c) (xs ++ [15, ow]) W0.drew) from put_new [15, ow] 2 rfl HOD.out (by have := HKL.out; omega) HSD.out.hB)
  go_region_held3 (fun w' => w'.cell? ⟨w.heap.size, 0, none⟩ = some (.int .i64 (k : Int)) ∧ w'.cell? ⟨w.heap.size, 1, none⟩ = some (.int .i64 d) ∧ w'.cell? ⟨w.heap.size, 2, none⟩ = some (.int .i64 s) ∧ w'.cell? ⟨w.heap.size, 3, none⟩ = some (.int .i64 t) ∧ w'.cell? ⟨w.heap.size, 4, none⟩ = some (.int .i64 b) ∧ w'.cell? ⟨w.heap.size, 5, none⟩ = some (.int .i64 x) ∧ w'.cell? ⟨w.heap.size, 6, none⟩ = some (.int .i64 sc) ∧ w'.cell? ⟨w.heap.size, 7, none⟩ = some (.int .i64 di) ∧ w'.cell? ⟨w.heap.size, 8, none⟩ = some (.int .i64 im) ∧ w'.cell? ⟨1, k, none⟩ = some (.int .u8 ow)) (first | exact K0 | exact K3 | exact K2 | exact K1)
    (first | (go_at_call 82; refine HPUT.out.mono ?_; rintro e y2 ⟨v2, rfl, o2, k2⟩; have HS2 := Lib.hid (HSD.out.kp k2); have K2 := (by have h := St.ten HS2.out HK34.out; rw [HOW.out] at h; exact h); have HO2 := Lib.hid o2; have HK2 := Lib.hid (HKD.out.trans k2); clear o2 k2) | (go_at_call 86; refine (HN.out _ _ _ HO2.out (by have := HKL.out; simp; omega) HS2.out.hB).mono ?_; rintro e y3 ⟨v3, rfl, o3, k3⟩; have HS3 := Lib.hid (HS2.out.kp k3); have K3 := (by have h := St.ten HS3.out HK34.out; rw [HOW.out] at h; exact h); have HO3 := Lib.hid o3; have HK3 := Lib.hid (HK2.out.trans k3); clear o3 k3) | fail)
  all_goals
    go_wp2_with fail
    go_ret
    exact ⟨_, rfl, by first | exact HO3.out | (have h := HO3.out; rw [List.append_assoc] at h; exact h), HK3.out⟩
set_option maxRecDepth 100000 in
set_option maxHeartbeats 8000000 in
theorem wholeNumber_l {w : World} {B : Nat} {v : Value} {xs : List Int} (k : Nat) (hk34 : k < 34) (d s t b x sc di im : Int) (hd : R16 d) (how : ownAt k = 184) (hT : TabE w) (hG : G3 B) (ho : Rw B v xs w) (hk : xs.length ≤ 800000) (hB : B ≤ w.heap.size) :
    Calls Tryz.prog 61 #[v, .agg #[.int .i64 (k : Int), .int .i64 d, .int .i64 s, .int .i64 t, .int .i64 b, .int .i64 x, .int .i64 sc, .int .i64 di, .int .i64 im]] w (OutF B v (xs ++ ([rexI 0 (-1) d, 184 + d % 8] ++ ltl im 8)) w) := by
  obtain ⟨A, c, rfl⟩ := slice_of ho
  have HX := Lib.hid (fun W => rex_l 0 (-1) d r16_0'.rx rx_m1 hd.rx W)
  have HL := Lib.hid (fun W => low_l d hd W)
  have HN := Lib.hid (fun (W : World) (v' : Value) (ys : List Int) (h : Rw B v' ys W) (h1 : ys.length ≤ 1000000) (h2 : B ≤ W.heap.size) => number_l im 8 (by decide) h h1 h2)
  generalize ltl im 8 = z3 at *
  have HO0 := Lib.hid (own_keep ho ((Below.refl w.heap.size w).alloc (Nat.le_refl _) (.cells #[.int .i64 (k : Int), .int .i64 d, .int .i64 s, .int .i64 t, .int .i64 b, .int .i64 x, .int .i64 sc, .int .i64 di, .int .i64 im] 26)))
  have HS0 := Lib.hid (St.new (cs := #[.int .i64 (k : Int), .int .i64 d, .int .i64 s, .int .i64 t, .int .i64 b, .int .i64 x, .int .i64 sc, .int .i64 di, .int .i64 im]) hT hG ho hB)
  have HK0 := Lib.hid ((Kp.refl w (.slice A xs.length c)).alloc (.cells #[.int .i64 (k : Int), .int .i64 d, .int .i64 s, .int .i64 t, .int .i64 b, .int .i64 x, .int .i64 sc, .int .i64 di, .int .i64 im] 26))
  have HKL := Lib.hid hk
  have HK34 := Lib.hid hk34
  have e0 : (0 : Int) ≤ (k : Int) := by omega
  have e1 : (k : Int) < 34 := by omega
  clear hT hG ho hk hB hk34
  have HE : Hid (bits BinOp.or IntKind.u8 (ownAt k) (d % 8) = 184 + d % 8) := Lib.hid (by
    rw [how]
    have h1 : 0 ≤ d % 8 := by omega
    have h2 : d % 8 ≤ 7 := by omega
    generalize d % 8 = q at *
    rcases (show q = 0 ∨ q = 1 ∨ q = 2 ∨ q = 3 ∨ q = 4 ∨ q = 5 ∨ q = 6 ∨ q = 7 by omega) with rfl | rfl | rfl | rfl | rfl | rfl | rfl | rfl <;> rfl)
  rw [← HE.out]
  clear HE
  generalize d % 8 = q8 at *
  clear hd
  clear how
  generalize hOW : ownAt k = ow at *
  have HOW := Lib.hid hOW
  clear hOW
  generalize rexI 0 (-1) d = z1 at *
  go_enter Tryz.func61, Tryz.ntmps61
  go_wp2_with fail
  generalize hW : World.alloc w _ = W0 at *
  clear hW
  have HSD := Lib.hid HS0.out.drew
  have HKD := Lib.hid HK0.out.drew
  have HOD : Hid (Rw B (.slice A xs.length c) xs W0.drew) := HO0
  have K0 := by have h := St.ten HSD.out HK34.out; rw [HOW.out] at h; exact h
  have K1 := by have h := St.ten (HSD.out.alloc (.cells #[.int .u8 (z1), .int .u8 (bits BinOp.or IntKind.u8 ow q8)] 5)) HK34.out; rw [HOW.out] at h; exact h
  have HPUT := Lib.hid (show Calls Tryz.prog 82 #[.slice A xs.length c, .slice (some ⟨W0.heap.size, 0, none⟩) 2 2] (W0.drew.alloc (.cells #[.int .u8 (z1), .int .u8 (bits BinOp.or IntKind.u8 ow q8)] 5)) (OutF B (.slice A xs.length c) (xs ++ [z1, bits BinOp.or IntKind.u8 ow q8]) W0.drew) from put_new [z1, bits BinOp.or IntKind.u8 ow q8] 2 rfl HOD.out (by have := HKL.out; omega) HSD.out.hB)
  go_region_held3 (fun w' => w'.cell? ⟨w.heap.size, 0, none⟩ = some (.int .i64 (k : Int)) ∧ w'.cell? ⟨w.heap.size, 1, none⟩ = some (.int .i64 d) ∧ w'.cell? ⟨w.heap.size, 2, none⟩ = some (.int .i64 s) ∧ w'.cell? ⟨w.heap.size, 3, none⟩ = some (.int .i64 t) ∧ w'.cell? ⟨w.heap.size, 4, none⟩ = some (.int .i64 b) ∧ w'.cell? ⟨w.heap.size, 5, none⟩ = some (.int .i64 x) ∧ w'.cell? ⟨w.heap.size, 6, none⟩ = some (.int .i64 sc) ∧ w'.cell? ⟨w.heap.size, 7, none⟩ = some (.int .i64 di) ∧ w'.cell? ⟨w.heap.size, 8, none⟩ = some (.int .i64 im) ∧ w'.cell? ⟨1, k, none⟩ = some (.int .u8 ow)) (first | exact K0 | exact K3 | exact K2 | exact K1)
    (first | (go_at_call 83; refine (HX.out _).mono ?_; rintro e y1 ⟨rfl, rfl⟩) | (go_at_call 85; refine (HL.out _).mono ?_; rintro e y5 ⟨rfl, rfl⟩) | (go_at_call 82; refine HPUT.out.mono ?_; rintro e y2 ⟨v2, rfl, o2, k2⟩; have HS2 := Lib.hid (HSD.out.kp k2); have K2 := (by have h := St.ten HS2.out HK34.out; rw [HOW.out] at h; exact h); have HO2 := Lib.hid o2; have HK2 := Lib.hid (HKD.out.trans k2); clear o2 k2) | (go_at_call 86; refine (HN.out _ _ _ HO2.out (by have := HKL.out; simp; omega) HS2.out.hB).mono ?_; rintro e y3 ⟨v3, rfl, o3, k3⟩; have HS3 := Lib.hid (HS2.out.kp k3); have K3 := (by have h := St.ten HS3.out HK34.out; rw [HOW.out] at h; exact h); have HO3 := Lib.hid o3; have HK3 := Lib.hid (HK2.out.trans k3); clear o3 k3) | fail)
  all_goals
    go_wp2_with fail
    go_ret
    exact ⟨_, rfl, by first | exact HO3.out | (have h := HO3.out; rw [List.append_assoc] at h; exact h), HK3.out⟩
end Is
end Go.Proofs.YtblmagcekfbgdaaGreatDoor
