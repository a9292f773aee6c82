/- The landed package limb: registers of a run; what an operation makes. -/
import Derived.Test.YtbdhibgljaelbaaDoorM5
namespace Go.Proofs.YtbdhibgljaelbaaDoor
open Go Go.RowKit Go.Sort Go.Shelf
namespace Lb
open Wd Nt Gr
set_option linter.unusedVariables false
set_option linter.unusedSimpArgs false
theorem RnW.put {w : World} {B R : Nat} {ov : Value} {ev : EnV} {xs : List (Nat × List Int)} {rg : Nat → Int} {seen : List Ev} (h : RnW w B R ov ev xs rg seen) {j : Nat} (hj : j < 64) {v : Int} (hv : W v) : RnW (w.setCell ⟨R, 2 + j, none⟩ (.int .u64 v)) B R ov ev xs (Lb.put rg (j : Int) v) seen := by
  obtain ⟨G, sv, h1, h2, h3⟩ := h.ex
  refine ⟨⟨G, sv, ?_, own_far h2 h1 (by decide), h3.far h1 (by decide) (by decide)⟩, own_far h.en h1 (by decide), h.hR, fun i => ?_⟩
  · rw [put_nat, ← rnA_set hj v]
    exact h1.set_ _ _
  · rw [put_nat]
    show W (if i = j then v else rg i)
    split
    · exact hv
    · exact h.rgs i
theorem RnW.drew {w : World} {B R : Nat} {ov : Value} {ev : EnV} {xs : List (Nat × List Int)} {rg : Nat → Int} {seen : List Ev} (h : RnW w B R ov ev xs rg seen) : RnW w.drew B R ov ev xs rg seen := h.below (below_drewN (Below.refl _ _) 1)
theorem RnW.cells {w : World} {B R : Nat} {ov : Value} {ev : EnV} {xs : List (Nat × List Int)} {rg : Nat → Int} {seen : List Ev} (h : RnW w B R ov ev xs rg seen) : w.cell? ⟨R, 0, none⟩ = some ov ∧ w.cell? ⟨R, 1, none⟩ = some ev.v ∧ (∀ j, j < 64 → w.cell? ⟨R, 2 + j, none⟩ = some (.int .u64 (rg j))) ∧ (∀ j, w.frozen? ⟨R, j, none⟩ = false) ∧ R < w.heap.size := by
  obtain ⟨G, sv, h1, h2, h3⟩ := h.ex
  exact ⟨(h1.cell 0).trans rnA_0, (h1.cell 1).trans rnA_1, fun j hj => (h1.cell (2 + j)).trans (rnA_rg hj), fun j => h1.frozen j, h1.lt⟩
theorem held_l (B R : Nat) (ov : Value) (ev : EnV) (xs : List (Nat × List Int)) (rg : Nat → Int) (seen : List Ev) (r : Int) (hr : Rg r) (w : World) (h : RnW w B R ov ev xs rg seen) :
    Calls Tryd.prog 91 #[.pointer (some ⟨R, 0, none⟩), .int .i64 r] w fun e w' => e = .returned (.int .u64 (hld rg r)) ∧ w' = w := by
  unfold hld
  by_cases h1 : r = -1
  · subst h1
    go_enter Tryd.func91, Tryd.ntmps91
    go_wp2_with fail
    go_ret
    exact ⟨rfl, rfl⟩
  · rw [if_neg h1]
    obtain ⟨j, rfl⟩ : ∃ j : Nat, r = (j : Int) := ⟨r.toNat, by have := hr.1; omega⟩
    have hj : j < 64 := by have := hr.2; omega
    have hc := h.cells.2.2.1 j hj
    have hn : ((j : Int) == -1) = false := by rw [beq_eq_false_iff_ne]; exact h1
    have h2 : (j : Int) < 64 := by omega
    rw [Int.toNat_natCast]
    generalize rg j = v at *
    clear h h1 hr
    go_enter Tryd.func91, Tryd.ntmps91
    go_wp2_with fail
    go_ret
    exact ⟨rfl, rfl⟩
theorem carried_l (s : Int) (b : Bool) (w : World) : Calls Tryd.prog 101 #[.int .u64 s, .bool b] w fun e w' => e = .returned (.tuple #[.int .u64 s, .int .u64 (b1 b)]) ∧ w' = w := by
  cases b with
  | true =>
    have e1 : bits .and .u64 18446744073709551615 1 = 1 := by decide +kernel
    have HM : Hid (Calls Tryd.prog 105 #[.bool true] w fun e w' => e = .returned (.int .u64 18446744073709551615) ∧ w = w') := Lib.hid (mask_c true w)
    go_enter Tryd.func101, Tryd.ntmps101
    go_wp2_with fail
    refine HM.out.mono ?_
    rintro e w' ⟨rfl, rfl⟩
    go_wp2_with fail
    go_ret2
    exact ⟨rfl, rfl⟩
  | false =>
    have e1 : bits .and .u64 0 1 = 0 := by decide +kernel
    have HM : Hid (Calls Tryd.prog 105 #[.bool false] w fun e w' => e = .returned (.int .u64 0) ∧ w = w') := Lib.hid (mask_c false w)
    go_enter Tryd.func101, Tryd.ntmps101
    go_wp2_with fail
    refine HM.out.mono ?_
    rintro e w' ⟨rfl, rfl⟩
    go_wp2_with fail
    go_ret2
    exact ⟨rfl, rfl⟩
/-- an operation's cells, where it lies -/
def OpC (w : World) (b o : Nat) (x : Op) : Prop := w.cell? ⟨b, o, none⟩ = some (.int .i64 x.k) ∧ w.cell? ⟨b, o + 1, none⟩ = some (.int .i64 x.d) ∧ w.cell? ⟨b, o + 2, none⟩ = some (.int .i64 x.e) ∧ w.cell? ⟨b, o + 3, none⟩ = some (.int .i64 x.a) ∧ w.cell? ⟨b, o + 4, none⟩ = some (.int .i64 x.b) ∧ w.cell? ⟨b, o + 5, none⟩ = some (.int .i64 x.c) ∧ w.cell? ⟨b, o + 6, none⟩ = some (.int .i64 x.bf) ∧ w.cell? ⟨b, o + 7, none⟩ = some (.int .u64 x.im)
theorem bv_of {a : Int} (h : W a) : ∃ x : BitVec 64, a = (x.toNat : Int) := by
  obtain ⟨h0, h1⟩ := h
  obtain ⟨n, rfl⟩ := Int.eq_ofNat_of_zero_le h0
  exact ⟨BitVec.ofNat 64 n, by rw [BitVec.toNat_ofNat, Nat.mod_eq_of_lt (by omega)]⟩
theorem bv_and (x y : BitVec 64) : bits .and .u64 (x.toNat : Int) (y.toNat : Int) = ((x &&& y).toNat : Int) := by
  rw [u64_and_nat _ _ (by have := x.isLt; omega) (by have := y.isLt; omega), BitVec.toNat_and]
theorem bv_or (x y : BitVec 64) : bits .or .u64 (x.toNat : Int) (y.toNat : Int) = ((x ||| y).toNat : Int) := by
  rw [u64_or_nat _ _ (by have := x.isLt; omega) (by have := y.isLt; omega), BitVec.toNat_or]
theorem bv_xor (x y : BitVec 64) : bits .xor .u64 (x.toNat : Int) (y.toNat : Int) = ((x ^^^ y).toNat : Int) := by
  rw [u64_xor_nat _ _ (by have := x.isLt; omega) (by have := y.isLt; omega), BitVec.toNat_xor]
theorem bv_andNot (x y : BitVec 64) : bits .andNot .u64 (x.toNat : Int) (y.toNat : Int) = ((x &&& ~~~y).toNat : Int) := by
  rw [u64_andNot_nat _ _ (by have := x.isLt; omega) (by have := y.isLt; omega), BitVec.toNat_and, BitVec.toNat_not]
theorem bv_choose (m x y : BitVec 64) : Wd.choose (m.toNat : Int) (x.toNat : Int) (y.toNat : Int) = (((x &&& m) ||| (y &&& ~~~m)).toNat : Int) := by
  unfold Wd.choose
  rw [bv_and, bv_andNot, bv_or]
theorem choose_all {a b : Int} (ha : W a) (hb : W b) : Wd.choose 18446744073709551615 a b = a ∧ Wd.choose 0 a b = b := by
  obtain ⟨a, rfl⟩ := bv_of ha
  obtain ⟨b, rfl⟩ := bv_of hb
  have e1 : (18446744073709551615 : Int) = ((BitVec.allOnes 64).toNat : Int) := by decide
  have e2 : (0 : Int) = ((0#64).toNat : Int) := by decide
  constructor
  · rw [e1, bv_choose, BitVec.and_allOnes, BitVec.not_allOnes, BitVec.and_zero, BitVec.or_zero]
  · rw [e2, bv_choose, BitVec.and_zero, BitVec.not_zero, BitVec.and_allOnes, BitVec.zero_or]
set_option maxRecDepth 100000 in
set_option maxHeartbeats 8000000 in
theorem results_l (bx ox : Nat) (o : Op) (a b c : Int) (ha : W a) (hb : W b) (hc : W c) (hk : 1 ≤ o.k ∧ o.k ≤ 13) (him : W o.im) (hsh : o.k = 8 ∨ o.k = 9 → 1 ≤ o.im ∧ o.im ≤ 63) (w : World) (hO : OpC w bx ox o) :
    Calls Tryd.prog 92 #[.pointer (some ⟨bx, ox, none⟩), .int .u64 a, .int .u64 b, .int .u64 c] w fun e w' => e = .returned (.tuple #[.int .u64 (resD o.k o.im a b c), .int .u64 (resE o.k a b c)]) ∧ w' = w := by
  obtain ⟨o0, o1, o2, o3, o4, o5, o6, o7⟩ := hO
  have HODD : Hid ((bits .and .u64 c 1 == 1) = odd c) := Lib.hid (by
    rw [and_one c hc.1 hc.2]
    unfold odd
    rw [Bool.eq_iff_iff]
    simp)
  have hodd := HODD.out
  have HADD := Lib.hid (add_c a b (odd c) w ha hb)
  have HSUB := Lib.hid (sub_c a b (odd c) w ha hb)
  have HMUL := Lib.hid (mul_c a b w ha hb)
  have HMSK := Lib.hid (fun W => mask_c (odd c) W)
  have HCHO := Lib.hid (fun m W => Wd.choose_c m a b W)
  have HCT := Lib.hid (choose_all ha hb)
  have HAB := Lib.hid (show W a ∧ W b ∧ W c from ⟨ha, hb, hc⟩)
  obtain ⟨ok, od, oe, oa, ob, oc, obf, oim⟩ := o
  dsimp only at *
  obtain ⟨q, hq⟩ : ∃ q, odd c = q := ⟨_, rfl⟩
  have HQ := Lib.hid hq
  rw [hq] at HODD hodd HADD HSUB HMSK
  clear hq ha hb hc HODD
  obtain rfl | rfl | rfl | rfl | rfl | rfl | rfl | rfl | rfl | rfl | rfl | rfl | rfl : ok = 1 ∨ ok = 2 ∨ ok = 3 ∨ ok = 4 ∨ ok = 5 ∨ ok = 6 ∨ ok = 7 ∨ ok = 8 ∨ ok = 9 ∨ ok = 10 ∨ ok = 11 ∨ ok = 12 ∨ ok = 13 := by omega
  all_goals clear hk
  · go_enter Tryd.func92, Tryd.ntmps92
    go_wp2_with fail
    go_ret2
    exact ⟨rfl, rfl⟩
  · go_enter Tryd.func92, Tryd.ntmps92
    go_wp2_with fail
    go_ret2
    exact ⟨rfl, rfl⟩
  · go_enter Tryd.func92, Tryd.ntmps92
    go_wp2_with fail
    go_ret2
    exact ⟨ret_ii (by rw [IntKind.wrap_u64]; rfl) rfl, rfl⟩
  · go_enter Tryd.func92, Tryd.ntmps92
    go_wp2_with fail
    go_ret2
    exact ⟨ret_ii (by rw [IntKind.wrap_u64]; rfl) rfl, rfl⟩
  · go_enter Tryd.func92, Tryd.ntmps92
    go_wp2_with fail
    go_ret2
    exact ⟨rfl, rfl⟩
  · go_enter Tryd.func92, Tryd.ntmps92
    go_wp2_with fail
    go_ret2
    exact ⟨rfl, rfl⟩
  · go_enter Tryd.func92, Tryd.ntmps92
    go_wp2_with fail
    go_ret2
    exact ⟨rfl, rfl⟩
  · obtain ⟨h1, h2⟩ := hsh (by first | exact .inl rfl | simp)
    have hb64 : oim.toNat ≤ 64 := by omega
    clear hsh
    go_enter Tryd.func92, Tryd.ntmps92
    go_wp2_with fail
    go_ret2
    exact ⟨ret_ii (by rw [IntKind.wrap_u64]; rfl) rfl, rfl⟩
  · obtain ⟨h1, h2⟩ := hsh (by first | exact .inr rfl | simp)
    have hb64 : oim.toNat ≤ 64 := by omega
    clear hsh
    go_enter Tryd.func92, Tryd.ntmps92
    go_wp2_with fail
    go_ret2
    exact ⟨rfl, rfl⟩
  · go_enter Tryd.func92, Tryd.ntmps92
    go_wp2_with fail
    refine HMUL.out.mono ?_
    rintro e' w' ⟨rfl, rfl⟩
    go_wp2_with fail
    go_ret2
    exact ⟨rfl, rfl⟩
  · go_enter Tryd.func92, Tryd.ntmps92
    go_wp2_with fail
    go_at_call 102
    refine HADD.out.mono ?_
    rintro e' w' ⟨rfl, rfl⟩
    go_wp2_with fail
    go_at_call 101
    refine (carried_l _ _ _).mono ?_
    rintro e' w' ⟨rfl, rfl⟩
    go_wp2_with fail
    go_ret2
    exact ⟨ret_ii (by rw [← HQ.out]; rfl) (by rw [← HQ.out]; rfl), rfl⟩
  · go_enter Tryd.func92, Tryd.ntmps92
    go_wp2_with fail
    go_at_call 103
    refine HSUB.out.mono ?_
    rintro e' w' ⟨rfl, rfl⟩
    go_wp2_with fail
    go_at_call 101
    refine (carried_l _ _ _).mono ?_
    rintro e' w' ⟨rfl, rfl⟩
    go_wp2_with fail
    go_ret2
    exact ⟨ret_ii (by rw [← HQ.out]; rfl) (by rw [← HQ.out]; rfl), rfl⟩
  · cases q with
    | true =>
      have HM : Hid (∀ W, Calls Tryd.prog 105 #[.bool true] W fun e w' => e = .returned (.int .u64 18446744073709551615) ∧ W = w') := Lib.hid (fun W => mask_c true W)
      have HR : Hid (resD 13 oim a b c = a) := Lib.hid (by show (if odd c then a else b) = a; rw [HQ.out]; rfl)
      have HCC := Lib.hid (fun W => Wd.choose_c 18446744073709551615 a b W)
      rw [HCT.out.1] at HCC
      rw [HR.out]
      clear HMSK
      go_enter Tryd.func92, Tryd.ntmps92
      go_wp2_with fail
      go_at_call 105
      refine (HM.out _).mono ?_
      rintro e' w' ⟨rfl, rfl⟩
      go_wp2_with fail
      go_at_call 104
      refine (HCC.out _).mono ?_
      rintro e' w' ⟨rfl, rfl⟩
      go_wp2_with fail
      go_ret2
      exact ⟨rfl, rfl⟩
    | false =>
      have HM : Hid (∀ W, Calls Tryd.prog 105 #[.bool false] W fun e w' => e = .returned (.int .u64 0) ∧ W = w') := Lib.hid (fun W => mask_c false W)
      have HR : Hid (resD 13 oim a b c = b) := Lib.hid (by show (if odd c then a else b) = b; rw [HQ.out]; rfl)
      have HCC := Lib.hid (fun W => Wd.choose_c 0 a b W)
      rw [HCT.out.2] at HCC
      rw [HR.out]
      clear HMSK
      go_enter Tryd.func92, Tryd.ntmps92
      go_wp2_with fail
      go_at_call 105
      refine (HM.out _).mono ?_
      rintro e' w' ⟨rfl, rfl⟩
      go_wp2_with fail
      go_at_call 104
      refine (HCC.out _).mono ?_
      rintro e' w' ⟨rfl, rfl⟩
      go_wp2_with fail
      go_ret2
      exact ⟨rfl, rfl⟩
end Lb
end Go.Proofs.YtbdhibgljaelbaaDoor
