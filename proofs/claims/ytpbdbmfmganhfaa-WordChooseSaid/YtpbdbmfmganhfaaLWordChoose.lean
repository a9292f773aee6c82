/- The walk of WordChoose: each bit is one of both's; turned about they are turned about; Bits tells the highest. -/
import Derived.Test.YtpbdbmfmganhfaaLives01
import Derived.Test.YtpbdbmfmganhfaaPick
namespace Go.Proofs.Ytpbdbmfmganhfaa.wordChoose
open Go.RowKit Wd
set_option linter.unusedVariables false
theorem bv_of {a : Int} (h : W a) : ∃ x : BitVec 64, a = (x.toNat : Int) := by
  obtain ⟨h0, h1⟩ := h
  obtain ⟨n, rfl⟩ := Int.eq_ofNat_of_zero_le h0
  exact ⟨BitVec.ofNat 64 n, by rw [BitVec.toNat_ofNat, Nat.mod_eq_of_lt (by omega)]⟩
theorem bv_and (x y : BitVec 64) : bits .and .u64 (x.toNat : Int) (y.toNat : Int) = ((x &&& y).toNat : Int) := by
  rw [u64_and_nat _ _ (by have := x.isLt; omega) (by have := y.isLt; omega), BitVec.toNat_and]
theorem bv_or (x y : BitVec 64) : bits .or .u64 (x.toNat : Int) (y.toNat : Int) = ((x ||| y).toNat : Int) := by
  rw [u64_or_nat _ _ (by have := x.isLt; omega) (by have := y.isLt; omega), BitVec.toNat_or]
theorem bv_xor (x y : BitVec 64) : bits .xor .u64 (x.toNat : Int) (y.toNat : Int) = ((x ^^^ y).toNat : Int) := by
  rw [u64_xor_nat _ _ (by have := x.isLt; omega) (by have := y.isLt; omega), BitVec.toNat_xor]
theorem bv_andNot (x y : BitVec 64) : bits .andNot .u64 (x.toNat : Int) (y.toNat : Int) = ((x &&& ~~~y).toNat : Int) := by
  rw [u64_andNot_nat _ _ (by have := x.isLt; omega) (by have := y.isLt; omega), BitVec.toNat_and, BitVec.toNat_not]
theorem bv_choose (m x y : BitVec 64) : Wd.choose (m.toNat : Int) (x.toNat : Int) (y.toNat : Int) = (((x &&& m) ||| (y &&& ~~~m)).toNat : Int) := by
  unfold Wd.choose
  rw [bv_and, bv_andNot, bv_or]
theorem choose_W {m a b : Int} (hm : W m) (ha : W a) (hb : W b) : W (Wd.choose m a b) := by
  obtain ⟨m, rfl⟩ := bv_of hm
  obtain ⟨a, rfl⟩ := bv_of ha
  obtain ⟨b, rfl⟩ := bv_of hb
  rw [bv_choose]
  have := (a &&& m ||| b &&& ~~~m).isLt
  unfold W; omega
theorem bit_of (x : BitVec 64) (i : Nat) : (x.toNat : Int) / 2 ^ i % 2 = if x.getLsbD i then 1 else 0 := by
  have e : (x.toNat : Int) / 2 ^ i % 2 = ((x.toNat / 2 ^ i % 2 : Nat) : Int) := by simp
  have g : x.getLsbD i = decide (x.toNat / 2 ^ i % 2 = 1) := by
    rw [← Nat.testBit_eq_decide_div_mod_eq]; rfl
  rw [e, g]
  by_cases h : x.toNat / 2 ^ i % 2 = 1
  · rw [h]; simp
  · have : x.toNat / 2 ^ i % 2 = 0 := by omega
    rw [this]; simp
theorem choose_bit {m a b : Int} (hm : W m) (ha : W a) (hb : W b) (i : Nat) (hi : i < 64) :
    Wd.choose m a b / 2 ^ i % 2 = if m / 2 ^ i % 2 = 1 then a / 2 ^ i % 2 else b / 2 ^ i % 2 := by
  obtain ⟨m, rfl⟩ := bv_of hm
  obtain ⟨a, rfl⟩ := bv_of ha
  obtain ⟨b, rfl⟩ := bv_of hb
  rw [bv_choose, bit_of, bit_of, bit_of, bit_of]
  simp only [BitVec.getLsbD_or, BitVec.getLsbD_and, BitVec.getLsbD_not]
  cases m.getLsbD i <;> cases a.getLsbD i <;> cases b.getLsbD i <;> simp [hi]
theorem choose_turn {m a b : Int} (hm : W m) (ha : W a) (hb : W b) :
    bits .xor .u64 (Wd.choose m a b) (Wd.choose m b a) = bits .xor .u64 a b := by
  obtain ⟨m, rfl⟩ := bv_of hm
  obtain ⟨a, rfl⟩ := bv_of ha
  obtain ⟨b, rfl⟩ := bv_of hb
  rw [bv_choose, bv_choose, bv_xor, bv_xor]
  congr 2
  apply BitVec.eq_of_getLsbD_eq
  intro i hi
  simp only [BitVec.getLsbD_xor, BitVec.getLsbD_or, BitVec.getLsbD_and, BitVec.getLsbD_not]
  cases m.getLsbD i <;> cases a.getLsbD i <;> cases b.getLsbD i <;> simp [hi]
theorem choose_all {a b : Int} (ha : W a) (hb : W b) : Wd.choose 18446744073709551615 a b = a ∧ Wd.choose 0 a b = b := by
  obtain ⟨a, rfl⟩ := bv_of ha
  obtain ⟨b, rfl⟩ := bv_of hb
  have e1 : (18446744073709551615 : Int) = ((BitVec.allOnes 64).toNat : Int) := by decide
  have e2 : (0 : Int) = ((0#64).toNat : Int) := by decide
  constructor
  · rw [e1, bv_choose, BitVec.and_allOnes, BitVec.not_allOnes, BitVec.and_zero, BitVec.or_zero]
  · rw [e2, bv_choose, BitVec.and_zero, BitVec.not_zero, BitVec.and_allOnes, BitVec.zero_or]
theorem bl_int {a : Int} (ha : W a) : (Lib.bitLen a.toNat = 64 ∨ a / 2 ^ Lib.bitLen a.toNat = 0) ∧ (Lib.bitLen a.toNat = 0 ∨ a / 2 ^ (Lib.bitLen a.toNat - 1) = 1) ∧ Lib.bitLen a.toNat ≤ 64 := by
  obtain ⟨h0, h1⟩ := ha
  obtain ⟨n, rfl⟩ := Int.eq_ofNat_of_zero_le h0
  rw [Int.toNat_natCast]
  obtain ⟨b1, b2, b3⟩ := bl_spec n (by omega)
  by_cases hz : n = 0
  · subst hz; rw [bl_zero]; simp
  · obtain ⟨c1, c2⟩ := b2 hz
    generalize Lib.bitLen n = k at *
    have e : ∀ j : Nat, (n : Int) / 2 ^ j = ((n / 2 ^ j : Nat) : Int) := fun j => by simp
    refine ⟨.inr ?_, .inr ?_, b3⟩
    · rw [e, Nat.div_eq_of_lt b1]; rfl
    · have p : (2 : Nat) ^ k = 2 ^ (k - 1) * 2 := by rw [← Nat.pow_succ, show (k - 1).succ = k by omega]
      have : n / 2 ^ (k - 1) = 1 := by
        rw [Nat.div_eq_iff (Nat.two_pow_pos _)]; omega
      rw [e, this]; rfl
set_option maxRecDepth 100000 in
set_option maxHeartbeats 4000000 in
theorem walk (a0 : Int) (a1 : Int) (a2 : Int) (a3 : Bool) (a4 : Int) (w0 : (Lit.int .u64 a0).wf = true) (w1 : (Lit.int .u64 a1).wf = true) (w2 : (Lit.int .u64 a2).wf = true) (w4 : (Lit.int .i64 a4).wf = true) (w : World) :
    Calls Try.prog 7 #[.int .u64 a0, .int .u64 a1, .int .u64 a2, .bool a3, .int .i64 a4] w fun e w' => e = .returned (.bool true) ∧ Grown w w' := by
  have h0 := W_wf w0
  have h1 := W_wf w1
  have h2 := W_wf w2
  have hc := choose_W h0 h1 h2
  obtain ⟨p0, p1⟩ := Kit.pick_lt (n := a4) (m := 64) (by omega)
  have m64 : (Lit.int .i64 64).wf = true := by decide
  have PC := fun w => Kit.pick_c a4 64 w w4 m64
  obtain ⟨i, hi⟩ := Int.eq_ofNat_of_zero_le p0
  rw [hi] at PC p0 p1
  have HP := Lib.hid PC
  have cb := choose_bit h0 h1 h2 i (by omega)
  have ct := choose_turn h0 h1 h2
  generalize hX : bits .xor .u64 a1 a2 = X at ct
  obtain ⟨ca, cz⟩ := choose_all h1 h2
  obtain ⟨b1, b2, b3⟩ := bl_int h1
  have CD : ∃ m d : Int, (if a3 then 18446744073709551615 else 0 : Int) = m ∧ (a3 = true ∧ d = a1 ∨ a3 = false ∧ d = a2) ∧ ∀ w, Calls Try.prog 15 #[.int .u64 m, .int .u64 a1, .int .u64 a2] w fun e w' => e = .returned (.int .u64 d) ∧ w = w' := by
    refine ⟨_, if a3 then a1 else a2, rfl, ?_, ?_⟩
    · cases a3
      · exact .inr ⟨rfl, rfl⟩
      · exact .inl ⟨rfl, rfl⟩
    · intro w
      have := choose_c (if a3 then 18446744073709551615 else 0) a1 a2 w
      cases a3
      · simp only [Bool.false_eq_true, if_false, cz] at this ⊢; exact this
      · simp only [if_true, ca] at this ⊢; exact this
  obtain ⟨m, d, hm, hd, CD⟩ := CD
  have HD := Lib.hid CD
  have MC : ∀ w, Calls Try.prog 14 #[.bool a3] w fun e w' => e = .returned (.int .u64 m) ∧ w = w' := by
    intro w; rw [← hm]; exact mask_c a3 w
  have HM := Lib.hid MC
  have hp := pow_pos' i
  have f0 := and_one (a0 / 2 ^ i) (Int.ediv_nonneg h0.1 (by omega)) (by have := Int.ediv_le_self (2 ^ i) h0.1; have := h0.2; omega)
  have f1 := and_one (a1 / 2 ^ i) (Int.ediv_nonneg h1.1 (by omega)) (by have := Int.ediv_le_self (2 ^ i) h1.1; have := h1.2; omega)
  have f2 := and_one (a2 / 2 ^ i) (Int.ediv_nonneg h2.1 (by omega)) (by have := Int.ediv_le_self (2 ^ i) h2.1; have := h2.2; omega)
  have fc := and_one (Wd.choose a0 a1 a2 / 2 ^ i) (Int.ediv_nonneg hc.1 (by omega)) (by have := Int.ediv_le_self (2 ^ i) hc.1; have := hc.2; omega)
  rw [cb] at fc
  have hb : 0 ≤ a0 / 2 ^ i % 2 ∧ a0 / 2 ^ i % 2 ≤ 1 := by omega
  generalize a0 / 2 ^ i % 2 = t0 at *
  generalize a1 / 2 ^ i % 2 = t1 at *
  generalize a2 / 2 ^ i % 2 = t2 at *
  generalize hn : Lib.bitLen a1.toNat = n at *
  have HN := Lib.hid hn
  clear PC CD MC cb ca cz hi hn hp hm
  have hN : ((n : Int) ≤ 64 ∧ ((n : Int) == 64) = false ∧ ((n : Int) == 0) = true ∧ a1 / 2 ^ n = 0) ∨ (1 ≤ (n : Int) ∧ (n : Int) ≤ 64 ∧ ((n : Int) == 64) = true ∧ ((n : Int) == 0) = false ∧ a1 / 2 ^ (n - 1) = 1) ∨
      (1 ≤ (n : Int) ∧ (n : Int) ≤ 64 ∧ ((n : Int) == 64) = false ∧ ((n : Int) == 0) = false ∧ a1 / 2 ^ n = 0 ∧ a1 / 2 ^ (n - 1) = 1) := by
    by_cases g0 : n = 0
    · refine .inl ⟨by omega, by rw [beq_eq_false_iff_ne]; omega, by rw [beq_iff_eq]; omega, ?_⟩
      rcases b1 with b1 | b1
      · omega
      · exact b1
    · by_cases g1 : n = 64
      · refine .inr (.inl ⟨by omega, by omega, by rw [beq_iff_eq]; omega, by rw [beq_eq_false_iff_ne]; omega, ?_⟩)
        rcases b2 with b2 | b2
        · omega
        · exact b2
      · refine .inr (.inr ⟨by omega, by omega, by rw [beq_eq_false_iff_ne]; omega, by rw [beq_eq_false_iff_ne]; omega, ?_, ?_⟩)
        · rcases b1 with b1 | b1
          · omega
          · exact b1
        · rcases b2 with b2 | b2
          · omega
          · exact b2
  have hT : (t0 = 1 ∧ bits .and .u64 (Wd.choose a0 a1 a2 / 2 ^ i) 1 = t1) ∨ (t0 = 0 ∧ bits .and .u64 (Wd.choose a0 a1 a2 / 2 ^ i) 1 = t2) := by
    by_cases ht : t0 = 1
    · rw [if_pos ht] at fc; exact .inl ⟨ht, fc⟩
    · rw [if_neg ht] at fc; exact .inr ⟨by omega, fc⟩
  clear fc b1 b2 b3 m64 hb
  rcases hT with ⟨rfl, fc⟩ | ⟨rfl, fc⟩ <;> rcases hd with ⟨rfl, rfl⟩ | ⟨rfl, rfl⟩ <;> rcases hN with ⟨n1, n2, n3, n4⟩ | ⟨n1, n1', n2, n3, n4⟩ | ⟨n1, n2, n3, n4, n5, n6⟩
  all_goals
    go_enter Try.func7, Try.ntmps7
    simp only [List.append]
    go_wp2_with fail
    refine (lives_c _).mono ?_; rintro e w' ⟨rfl, rfl⟩
    go_wp2_with fail
    refine (HP.out _).mono ?_; rintro e w' ⟨rfl, rfl⟩
    go_wp2_with fail
    refine (choose_c _ _ _ _).mono ?_; rintro e w' ⟨rfl, rfl⟩
    go_wp2_with fail
    refine (HM.out _).mono ?_; rintro e w' ⟨rfl, rfl⟩
    go_wp2_with fail
    refine (HD.out _).mono ?_; rintro e w' ⟨rfl, rfl⟩
    go_wp2_with fail
    refine (bits_c _ _ h1).mono ?_; rintro e w' ⟨rfl, rfl⟩
    rw [HN.out]
    go_wp2_with fail
    refine (choose_c _ _ _ _).mono ?_; rintro e w' ⟨rfl, rfl⟩
    go_wp2_with fail
    go_ret
    exact ⟨rfl, Grown.refl _⟩
end Go.Proofs.Ytpbdbmfmganhfaa.wordChoose
