/- EncodeNumbers' walk over what is asked of the landed package. -/
import Derived.Test.YthidjiidcelniaaDoorN4
import Derived.Deep.RegionHeld3
import Derived.BigQuiet
import Derived.Deep.QuietTactic
namespace Go.Proofs.YthidjiidcelniaaDoor
open Go Go.RowKit
namespace encodeNumbers
open Is Nt
set_option linter.unusedVariables false
theorem by0 (n : Int) : n / 256 ^ 0 % 256 = n % 256 := by rw [Int.pow_zero, Int.ediv_one]
theorem by1 (n : Int) : n / 256 ^ 1 % 256 = n % 4294967296 / 256 % 256 := by
  have h := Int.mul_ediv_add_emod n 4294967296
  generalize n % 4294967296 = r at *
  generalize n / 4294967296 = q at *
  subst h
  rw [show (256 : Int) ^ 1 = 256 from rfl, show 4294967296 * q + r = r + 256 * (16777216 * q) by omega, Int.add_mul_ediv_left _ _ (by decide), show (16777216 : Int) * q = 256 * (65536 * q) by omega, Int.add_mul_emod_self_left]
theorem by2 (n : Int) : n / 256 ^ 2 % 256 = n % 4294967296 / 65536 % 256 := by
  have h := Int.mul_ediv_add_emod n 4294967296
  generalize n % 4294967296 = r at *
  generalize n / 4294967296 = q at *
  subst h
  rw [show (256 : Int) ^ 2 = 65536 from rfl, show 4294967296 * q + r = r + 65536 * (65536 * q) by omega, Int.add_mul_ediv_left _ _ (by decide), show (65536 : Int) * q = 256 * (256 * q) by omega, Int.add_mul_emod_self_left]
theorem by3 (n : Int) : n / 256 ^ 3 % 256 = n % 4294967296 / 16777216 := by
  have h := Int.mul_ediv_add_emod n 4294967296
  have h1 := Int.emod_nonneg n (show (4294967296 : Int) ≠ 0 by decide)
  have h2 := Int.emod_lt_of_pos n (show (0 : Int) < 4294967296 by decide)
  generalize n % 4294967296 = r at *
  generalize n / 4294967296 = q at *
  subst h
  rw [show (256 : Int) ^ 3 = 16777216 from rfl, show 4294967296 * q + r = r + 16777216 * (256 * q) by omega, Int.add_mul_ediv_left _ _ (by decide), Int.add_mul_emod_self_left]
  exact Int.emod_eq_of_lt (Int.ediv_nonneg h1 (by decide)) (Int.ediv_lt_of_lt_mul (by decide) (by omega))
theorem tk_ (k j : Nat) : ((k : Int) + (j : Int)).toNat = k + j := by omega
theorem wk_ {k : Nat} (h : k ≤ 3) (j : Int) (h0 : 0 ≤ j) (h1 : j ≤ 3) : wrap64 ((k : Int) + j) = (k : Int) + j := IntWalk.wrap64_in _ (by omega)
theorem bel3 {a b c : World} (h : Below a.heap.size a b) (k : Below b.heap.size b c) : Below a.heap.size a c := h.trans (k.mono h.size)
set_option maxRecDepth 100000 in
set_option maxHeartbeats 8000000 in
theorem walk_ {G : World → Prop} (ec : EncC G) (w : World) (HG : Hid (G w)) (i : Ins) (n : Int) (hw : i.wf) (hn : (Lit.int .i32 n).wf = true) : Calls Tryd.prog 6 #[.agg i.vs, .int .i32 n] w fun e w' => e = .returned (.bool true) ∧ Below w.heap.size w w' := by
  have hn2 : -2147483648 ≤ n ∧ n ≤ 2147483647 := by simp [Lit.wf, IntKind.min, IntKind.max, IntKind.signed, IntKind.bits] at hn; omega
  have hxw : (withIm i n).wf := by
    obtain ⟨op, d, s, t, b, x, sc, di, im⟩ := i
    obtain ⟨w1, w2, w3, w4, w5, w6, w7, w8, w9⟩ := hw
    exact ⟨w1, w2, w3, w4, w5, w6, w7, w8, i64e (by show (-9223372036854775808 : Int) ≤ n; omega) (by show n ≤ 9223372036854775807; omega)⟩
  have HL := Lib.hid (fun W hg => elives_c ec W (Lib.hid hg))
  have HI := Lib.hid (fun W hg => ec.inst i W hg hw)
  have HX := Lib.hid (fun W hg => ec.inst (withIm i n) W hg hxw)
  have HC := Lib.hid (fun W => check_r i W)
  have HF := Lib.hid (fun W => form_c i.op W)
  have HS := Lib.hid (fun W => has_c (formOf i.op).str 105 W (by cases formOf i.op <;> decide))
  have HB0 := Lib.hid ((Below.refl w.heap.size w).alloc (Nat.le_refl _) (.cells i.vs 29))
  have HI0 := Lib.hid (Bk.new w 29 i.vs)
  have HFACT : Hid (chk i = 2 ∨ (chk i = 0 ∧ hasB (formOf i.op).str 105 = false) ∨ (chk i = 0 ∧ hasB (formOf i.op).str 105 = true ∧ chk (withIm i n) = 0 ∧ ∃ k : Nat, 1 ≤ k ∧ k ≤ 3 ∧ (encS i).size = k + 4 ∧ (encS (withIm i n)).size = k + 4 ∧ ((encS i).extract 0 k).toList = ((encS (withIm i n)).extract 0 k).toList ∧
      ∀ j : Nat, j < 4 → ∃ u : UInt8, (encS (withIm i n)).data[k + j]? = some u ∧ (u.toNat : Int) = n / 256 ^ j % 256)) := Lib.hid (by
    rcases chk_01 i with ⟨hk, he⟩ | ⟨hk, he⟩
    · cases hh : hasB (formOf i.op).str 105 with
      | false => exact .inr (.inl ⟨he, rfl⟩)
      | true =>
        obtain ⟨h1, h2⟩ := num_facts hh hk hn2
        refine .inr (.inr ⟨he, rfl, ?_, h2⟩)
        unfold chk
        rw [h1]; rfl
    · exact .inl he)
  clear hw hn hxw
  generalize encS i = X at *
  generalize encS (withIm i n) = Y at *
  generalize chk i = k1 at *
  generalize chk (withIm i n) = k2 at *
  generalize hasB (formOf i.op).str 105 = hb5 at *
  generalize (formOf i.op).str = fs at *
  obtain ⟨op, d, s, t, b, x, sc, di, im⟩ := i
  unfold withIm at *
  unfold Ins.vs at *
  dsimp only at *
  obtain ⟨a0, a1, a2, a3, a4, a5, a6, a7, a8⟩ := c9 HI0.out
  go_enter Tryd.func6, Tryd.ntmps6
  go_wp2_with fail
  go_at_call 8
  refine (HL.out _ (ec.tb HG (by assumption))).mono ?_
  rintro e w1 ⟨rfl, hb⟩
  have HI1 := Lib.hid (HI0.out.below hb HI0.out.lt)
  have HB1 := Lib.hid (HB0.out.trans (hb.mono HB0.out.size))
  clear a0 a1 a2 a3 a4 a5 a6 a7 a8 hb HL HB0 HI0
  obtain ⟨a0, a1, a2, a3, a4, a5, a6, a7, a8⟩ := c9 HI1.out
  go_wp2_with fail
  go_at_call 16
  refine (HC.out _).mono ?_
  rintro e w2 ⟨rfl, hb⟩
  have HI2 := Lib.hid (HI1.out.below hb HI1.out.lt)
  have HB2 := Lib.hid (bel3 HB1.out hb)
  clear a0 a1 a2 a3 a4 a5 a6 a7 a8 hb HB1 HI1
  obtain ⟨a0, a1, a2, a3, a4, a5, a6, a7, a8⟩ := c9 HI2.out
  rcases HFACT.out with rfl | ⟨rfl, rfl⟩ | ⟨rfl, rfl, rfl, k, hk1, hk3, hX, hY, hcut, hby⟩
  · go_wp2_with fail
    go_ret
    exact ⟨rfl, HB2.out⟩
  · go_wp2_with fail
    go_at_call 18
    refine (HF.out _).mono ?_
    rintro e w3 ⟨rfl, rfl⟩
    go_wp2_with fail
    go_at_call 17
    refine (HS.out _).mono ?_
    rintro e w4 ⟨rfl, rfl⟩
    go_wp2_with fail
    go_ret
    exact ⟨rfl, HB2.out⟩
  · go_wp2_with fail
    go_at_call 18
    refine (HF.out _).mono ?_
    rintro e w3 ⟨rfl, rfl⟩
    go_wp2_with fail
    go_at_call 17
    refine (HS.out _).mono ?_
    rintro e w4 ⟨rfl, hww⟩
    subst hww
    obtain ⟨b0, b1, b2, b3, b4, b5, b6, b7, b8⟩ := c9 (HI2.out.alloc (.cells #[.int .i64 op, .int .i64 d, .int .i64 s, .int .i64 t, .int .i64 b, .int .i64 x, .int .i64 sc, .int .i64 di, .int .i64 n] 29))
    have HJ2 := Lib.hid (Bk.new w4 29 #[.int .i64 op, .int .i64 d, .int .i64 s, .int .i64 t, .int .i64 b, .int .i64 x, .int .i64 sc, .int .i64 di, .int .i64 n])
    have HB3 := Lib.hid (HB2.out.alloc HB2.out.size (.cells #[.int .i64 op, .int .i64 d, .int .i64 s, .int .i64 t, .int .i64 b, .int .i64 x, .int .i64 sc, .int .i64 di, .int .i64 n] 29))
    go_wp2_with fail
    go_at_call 9
    refine (HI.out _ (ec.tb HG (by assumption))).mono ?_
    rintro e w5 ⟨rfl, hb⟩
    have HJ5 := Lib.hid (HJ2.out.below hb HJ2.out.lt)
    have HB5 := Lib.hid (bel3 HB3.out hb)
    clear a0 a1 a2 a3 a4 a5 a6 a7 a8 b0 b1 b2 b3 b4 b5 b6 b7 b8 hb HB2 HB3 HJ2 HI2
    obtain ⟨a0, a1, a2, a3, a4, a5, a6, a7, a8⟩ := c9 HJ5.out
    go_wp2_with fail
    go_at_call 9
    refine (HX.out _ (ec.tb HG (by assumption))).mono ?_
    rintro e w6 ⟨rfl, hb⟩
    have HB6 := Lib.hid (bel3 HB5.out hb)
    clear a0 a1 a2 a3 a4 a5 a6 a7 a8 hb HB5 HJ5
    have HK := Lib.hid (And.intro hk1 hk3)
    have HXY := Lib.hid (And.intro hX hY)
    have HBY := Lib.hid hby
    have sx : (X.size : Int) = (k : Int) + 4 := by omega
    have sy : (Y.size : Int) = (k : Int) + 4 := by omega
    have k5 : ¬ ((k : Int) + 4 < 5) := by omega
    have k6 : ¬ ((k : Int) < 1) := by omega
    have kw : IntKind.i64.wrap ((k : Int) + 4 - 4) = (k : Int) := by rw [Int.add_sub_cancel]; exact IntWalk.i64_in _ (by omega)
    have kw2 : IntKind.i64.wrap (k : Int) = (k : Int) := IntWalk.i64_in _ (by omega)
    have k0 : (0 : Int) ≤ (k : Int) := by omega
    have k4 : (k : Int) ≤ (k : Int) + 4 := by omega
    have hkX : k ≤ X.size := by omega
    have hkY : k ≤ Y.size := by omega
    have hq1 : ((X.extract 0 k).toList == (Y.extract 0 k).toList) = true := by rw [hcut]; exact beq_self_eq_true _
    have hq2 : ((Y.extract 0 k).toList == (Y.extract 0 k).toList) = true := beq_self_eq_true _
    clear hk1 hk3 hX hY hby
    go_wp2_with fail
    go_quiet (fail)
    have HB7 := Lib.hid (below_drewN HB6.out nq)
    have at_by : ∀ (j : Nat) (hj : j < 4), ((Y[k + j]'(by have := HXY.out.2; omega)).toNat : Int) = n / 256 ^ j % 256 := fun j hj => by
      obtain ⟨u, hu, hv⟩ := HBY.out j hj
      have h1 : Y.data[k + j]'(by have := HXY.out.2; show k + j < Y.size; omega) = u := (Array.getElem?_eq_some_iff.1 hu).2
      rw [← hv, ← h1]
      rfl
    generalize hW7 : w6.drewN nq = W7 at *
    clear hW7 HB6
    go_wp2_with fail
    go_loopw [10] (fun i W => ∃ j : Nat, j ≤ 4 ∧ i = .int .i64 (j : Int) ∧ Hid (W = W7)) (fun i _ => 4 - (intOf i).toNat)
    case atStart => exact ⟨0, by omega, rfl, Lib.hid rfl⟩
    case round =>
      obtain ⟨j, hj, rfl, hWW⟩ := hrel
      obtain rfl := hWW.out
      rcases (show j = 0 ∨ j = 1 ∨ j = 2 ∨ j = 3 ∨ j = 4 by omega) with rfl | rfl | rfl | rfl | rfl
      · have hlt : k < Y.size := by rw [HXY.out.2]; exact Nat.lt_add_of_pos_right (by decide)
        have hy : ((Y[k]'hlt).toNat : Int) = n % 256 := by
          have h := at_by 0 (by decide)
          rw [by0] at h
          exact h
        clear at_by
        go_wp2_with fail
        go_roundw
        case rel => exact ⟨1, by decide, rfl, by first | exact Lib.hid rfl | exact Lib.hid trivial⟩
        case measure => (simp [intOf])
      · have wk : wrap64 ((k : Int) + 1) = (k : Int) + 1 := wk_ HK.out.2 1 (by decide) (by decide)
        have tk : ((k : Int) + 1).toNat = k + 1 := tk_ k 1
        have bk1 : (0 : Int) ≤ (k : Int) + 1 := Int.add_nonneg k0 (by decide)
        have bk2 : (k : Int) + 1 < (k : Int) + 4 := Int.add_lt_add_left (by decide) _
        have hlt : k + 1 < Y.size := by rw [HXY.out.2]; exact Nat.add_lt_add_left (by decide) k
        have hy : ((Y[k + 1]'hlt).toNat : Int) = n % 4294967296 / 256 % 256 := by
          have h := at_by 1 (by decide)
          rw [by1] at h
          exact h
        clear at_by
        go_wp2_with fail
        go_roundw
        case rel => exact ⟨2, by decide, rfl, by first | exact Lib.hid rfl | exact Lib.hid trivial⟩
        case measure => (simp [intOf])
      · have wk : wrap64 ((k : Int) + 2) = (k : Int) + 2 := wk_ HK.out.2 2 (by decide) (by decide)
        have tk : ((k : Int) + 2).toNat = k + 2 := tk_ k 2
        have bk1 : (0 : Int) ≤ (k : Int) + 2 := Int.add_nonneg k0 (by decide)
        have bk2 : (k : Int) + 2 < (k : Int) + 4 := Int.add_lt_add_left (by decide) _
        have hlt : k + 2 < Y.size := by rw [HXY.out.2]; exact Nat.add_lt_add_left (by decide) k
        have hy : ((Y[k + 2]'hlt).toNat : Int) = n % 4294967296 / 65536 % 256 := by
          have h := at_by 2 (by decide)
          rw [by2] at h
          exact h
        clear at_by
        go_wp2_with fail
        go_roundw
        case rel => exact ⟨3, by decide, rfl, by first | exact Lib.hid rfl | exact Lib.hid trivial⟩
        case measure => (simp [intOf])
      · have wk : wrap64 ((k : Int) + 3) = (k : Int) + 3 := wk_ HK.out.2 3 (by decide) (by decide)
        have tk : ((k : Int) + 3).toNat = k + 3 := tk_ k 3
        have bk1 : (0 : Int) ≤ (k : Int) + 3 := Int.add_nonneg k0 (by decide)
        have bk2 : (k : Int) + 3 < (k : Int) + 4 := Int.add_lt_add_left (by decide) _
        have hlt : k + 3 < Y.size := by rw [HXY.out.2]; exact Nat.add_lt_add_left (by decide) k
        have hy : ((Y[k + 3]'hlt).toNat : Int) = n % 4294967296 / 16777216 := by
          have h := at_by 3 (by decide)
          rw [by3] at h
          exact h
        clear at_by
        go_wp2_with fail
        go_roundw
        case rel => exact ⟨4, by decide, rfl, by first | exact Lib.hid rfl | exact Lib.hid trivial⟩
        case measure => (simp [intOf])
      · go_wp2_with fail
        go_ret
        exact ⟨rfl, HB7.out⟩
end encodeNumbers
end Go.Proofs.YthidjiidcelniaaDoor
