/- EncodeApart's walk over what is asked of the landed package. -/
import Derived.Test.YthidjiidcelniaaDoorN2
import Derived.Deep.RegionHeld3
import Derived.BigQuiet
import Derived.Deep.QuietTactic
namespace Go.Proofs.YthidjiidcelniaaDoor
open Go Go.RowKit
namespace encodeApart
open Is Nt
set_option linter.unusedVariables false
theorem bel3 {a b c : World} (h : Below a.heap.size a b) (k : Below b.heap.size b c) : Below a.heap.size a c := h.trans (k.mono h.size)
def vv (a b : Ins) : Array Value := #[.int .i64 a.op, .int .i64 a.d, .int .i64 a.s, .int .i64 a.t, .int .i64 a.b, .int .i64 a.x, .int .i64 a.sc, .int .i64 a.di, .int .i64 a.im, .int .i64 b.op, .int .i64 b.d, .int .i64 b.s, .int .i64 b.t, .int .i64 b.b, .int .i64 b.x, .int .i64 b.sc, .int .i64 b.di, .int .i64 b.im]
/-- two instructions in a row of one's own -/
theorem two_rd {w : World} {g : Nat} {a b : Ins} (h : Bk w g 29 (vv a b)) (ha : a.wf) (hb : b.wf) : RdX w w.heap.size (some ⟨g, 0, none⟩) 2 [a, b] := by
  refine ⟨rfl, fun i hi => ?_, fun _ => ⟨_, rfl, h.lt, fun j i hj => ?_⟩⟩
  · simp at hi; rcases hi with rfl | rfl <;> assumption
  · rcases j with _ | _ | j
    · simp at hj
      subst hj
      exact ⟨h.cell 0, h.cell 1, h.cell 2, h.cell 3, h.cell 4, h.cell 5, h.cell 6, h.cell 7, h.cell 8⟩
    · simp at hj
      subst hj
      exact ⟨h.cell 9, h.cell 10, h.cell 11, h.cell 12, h.cell 13, h.cell 14, h.cell 15, h.cell 16, h.cell 17⟩
    · simp at hj
set_option maxRecDepth 100000 in
set_option maxHeartbeats 8000000 in
theorem walk_ {G : World → Prop} (ec : EncC G) (w : World) (HG : Hid (G w)) (a b : Ins) (hwa : a.wf) (hwb : b.wf) : Calls Tryd.prog 5 #[.agg a.vs, .agg b.vs] w fun e w' => e = .returned (.bool true) ∧ Below w.heap.size w w' := by
  have mixed : Tryd.prog.follows .mixedOrders = true := by kernel_rfl
  have HL := Lib.hid (fun W hg => elives_c ec W (Lib.hid hg))
  have HA := Lib.hid (fun W hg => ec.inst a W hg hwa)
  have HBi := Lib.hid (fun W hg => ec.inst b W hg hwb)
  have HC := Lib.hid (fun W => check_r a W)
  have HS := Lib.hid (fun W hg => ec.size a W hg hwa)
  have HALL := Lib.hid (fun (g : Nat) (W : World) (hg : G W) (h : Bk W g 29 (vv a b)) => ec.all (some ⟨g, 0, none⟩) 2 2 [a, b] W hg (two_rd h hwa hwb) (by decide) (by decide))
  have HB0 := Lib.hid (((Below.refl w.heap.size w).alloc (Nat.le_refl _) (.cells a.vs 29)).alloc (by simp) (.cells b.vs 29))
  have HIa := Lib.hid ((Bk.new w 29 a.vs).alloc (.cells b.vs 29))
  have HIb := Lib.hid (Bk.new' (w := w.alloc (.cells a.vs 29)) (t := 29) (cs := b.vs) (g := w.heap.size + 1) (by simp))
  have HEQ := Lib.hid (fun W => instEq a.op a.d a.s a.t a.b a.x a.sc a.di a.im b.op b.d b.s b.t b.b b.x b.sc b.di b.im W)
  have HFACT : Hid ((chk a = 2 ∧ encS a = ⟨#[]⟩) ∨ (chk a = 0 ∧ (encS a).size ≤ 11 ∧ chk b = 2) ∨ (chk a = 0 ∧ chk b = 0 ∧ 1 ≤ (encS a).size ∧ (encS a).size ≤ 11 ∧ 1 ≤ (encS b).size ∧ (encS b).size ≤ 11 ∧ allS [a, b] = encS a ++ encS b ∧ allE [a, b] = 0 ∧ ∀ n, n = min (encS a).size (encS b).size → (((encS a).extract 0 n).toList == ((encS b).extract 0 n).toList) = eqI a b)) := Lib.hid (by
    rcases chk_01 a with ⟨hk, he⟩ | ⟨hk, he⟩
    · rcases chk_01 b with ⟨hk2, he2⟩ | ⟨hk2, he2⟩
      · refine .inr (.inr ⟨he, he2, ?_, ?_, ?_, ?_, (two_all hk hk2).1, (two_all hk hk2).2, fun n hn => ?_⟩)
        · rw [encS_len hk]; exact (encl_ok a hk).2.1
        · rw [encS_len hk]; exact (encl_ok a hk).2.2
        · rw [encS_len hk2]; exact (encl_ok b hk2).2.1
        · rw [encS_len hk2]; exact (encl_ok b hk2).2.2
        · rw [encS_len hk, encS_len hk2] at hn
          exact cut_apart hk hk2 hwa hwb n (by omega) (by omega) (by omega)
      · refine .inr (.inl ⟨he, ?_, he2⟩)
        rw [encS_len hk]; exact (encl_ok a hk).2.2
    · exact .inl ⟨he, by unfold encS; rw [hk]; rfl⟩)
  clear hwa hwb
  generalize encS a = X at *
  generalize encS b = Y at *
  generalize chk a = k1 at *
  generalize chk b = k2 at *
  generalize allS [a, b] = Z at *
  generalize allE [a, b] = k3 at *
  generalize hqq : eqI a b = q at *
  obtain ⟨op, d, s, t, bb, x, sc, di, im⟩ := a
  obtain ⟨op', d', s', t', b', x', sc', di', im'⟩ := b
  unfold Ins.vs vv at *
  dsimp only at *
  try rw [hqq] at HEQ
  clear hqq
  obtain ⟨a0, a1, a2, a3, a4, a5, a6, a7, a8⟩ := c9 HIa.out
  go_enter Tryd.func5, Tryd.ntmps5
  go_wp2_with fail
  go_at_call 8
  refine (HL.out _ (ec.tb HG (by assumption))).mono ?_
  rintro e w1 ⟨rfl, hb⟩
  have HA1 := Lib.hid (HIa.out.below hb HIa.out.lt)
  have HX1 := Lib.hid (HIb.out.below hb HIb.out.lt)
  have HB1 := Lib.hid (HB0.out.trans (hb.mono HB0.out.size))
  clear a0 a1 a2 a3 a4 a5 a6 a7 a8 hb HL HB0 HIa HIb
  obtain ⟨a0, a1, a2, a3, a4, a5, a6, a7, a8⟩ := c9 HA1.out
  go_wp2_with fail
  go_at_call 9
  refine (HA.out _ (ec.tb HG (by assumption))).mono ?_
  rintro e w2 ⟨rfl, hb⟩
  have HA2 := Lib.hid (HA1.out.below hb HA1.out.lt)
  have HX2 := Lib.hid (HX1.out.below hb HX1.out.lt)
  have HB2 := Lib.hid (bel3 HB1.out hb)
  clear a0 a1 a2 a3 a4 a5 a6 a7 a8 hb HA1 HX1 HB1
  obtain ⟨a0, a1, a2, a3, a4, a5, a6, a7, a8⟩ := c9 HX2.out
  go_wp2_with fail
  go_at_call 9
  refine (HBi.out _ (ec.tb HG (by assumption))).mono ?_
  rintro e w3 ⟨rfl, hb⟩
  have HA3 := Lib.hid (HA2.out.below hb HA2.out.lt)
  have HX3 := Lib.hid (HX2.out.below hb HX2.out.lt)
  have HB3 := Lib.hid (bel3 HB2.out hb)
  clear a0 a1 a2 a3 a4 a5 a6 a7 a8 hb HA2 HX2 HB2
  obtain ⟨a0, a1, a2, a3, a4, a5, a6, a7, a8⟩ := c9 HA3.out
  go_wp2_with fail
  go_at_call 16
  refine (HC.out _).mono ?_
  rintro e w4 ⟨rfl, hb⟩
  have HA4 := Lib.hid (HA3.out.below hb HA3.out.lt)
  have HX4 := Lib.hid (HX3.out.below hb HX3.out.lt)
  have HB4 := Lib.hid (bel3 HB3.out hb)
  clear a0 a1 a2 a3 a4 a5 a6 a7 a8 hb HA3 HX3 HB3
  obtain ⟨a0, a1, a2, a3, a4, a5, a6, a7, a8⟩ := c9 HA4.out
  rcases HFACT.out with ⟨rfl, rfl⟩ | ⟨rfl, hs1, rfl⟩ | ⟨rfl, rfl, hs0, hs1, hs2, hs5, rfl, rfl, hcut⟩
  · go_wp2_with fail
    go_at_call 12
    refine (HS.out _ (ec.tb HG (by assumption))).mono ?_
    rintro e w5 ⟨rfl, hb⟩
    have HB5 := Lib.hid (bel3 HB4.out hb)
    clear a0 a1 a2 a3 a4 a5 a6 a7 a8 hb
    go_wp2_with fail
    go_ret
    exact ⟨rfl, HB5.out⟩
  · have hs3 : (X.size : Int) ≤ 11 := by omega
    go_wp2_with fail
    go_at_call 12
    refine (HS.out _ (ec.tb HG (by assumption))).mono ?_
    rintro e w5 ⟨rfl, hb⟩
    have HB5 := Lib.hid (bel3 HB4.out hb)
    clear a0 a1 a2 a3 a4 a5 a6 a7 a8 hb
    go_wp2_with fail
    go_ret
    exact ⟨rfl, HB5.out⟩
  · have hs3 : (X.size : Int) ≤ 11 := by omega
    have HCUT := Lib.hid hcut
    have hadd : X.size + Y.size ≤ 9223372036854775807 := by omega
    have hadd2 : ¬ (9223372036854775807 < X.size + Y.size) := by omega
    have hadd3 : ¬ ((9223372036854775807 : Int) < (X.size : Int) + (Y.size : Int)) := by omega
    have hadd4 : (X ++ Y).size = X.size + Y.size := ByteArray.size_append
    have n1 : ((X.size : Int) == 0) = false := by rw [beq_eq_false_iff_ne]; omega
    have n2 : ((Y.size : Int) == 0) = false := by rw [beq_eq_false_iff_ne]; omega
    have n3 : ¬ ((X.size : Int) = 0) := by omega
    have n4 : ¬ ((Y.size : Int) = 0) := by omega
    clear hcut
    go_wp2_with fail
    go_at_call 12
    refine (HS.out _ (ec.tb HG (by assumption))).mono ?_
    rintro e w5 ⟨rfl, hb⟩
    have HA5 := Lib.hid (HA4.out.below hb HA4.out.lt)
    have HX5 := Lib.hid (HX4.out.below hb HX4.out.lt)
    have HB5 := Lib.hid (bel3 HB4.out hb)
    clear a0 a1 a2 a3 a4 a5 a6 a7 a8 hb HA4 HX4 HB4
    obtain ⟨a0, a1, a2, a3, a4, a5, a6, a7, a8⟩ := c9 HA5.out
    obtain ⟨c0, c1, c2, c3, c4, c5, c6, c7, c8⟩ := c9 HX5.out
    go_wp2_with fail
    have HB6 : Hid (Below w.heap.size w (w5.alloc (.cells #[.int .i64 op, .int .i64 d, .int .i64 s, .int .i64 t, .int .i64 bb, .int .i64 x, .int .i64 sc, .int .i64 di, .int .i64 im, .int .i64 op', .int .i64 d', .int .i64 s', .int .i64 t', .int .i64 b', .int .i64 x', .int .i64 sc', .int .i64 di', .int .i64 im'] 29))) := Lib.hid (HB5.out.alloc HB5.out.size _)
    go_at_call 10
    refine (HALL.out _ _ (ec.tb HG (by assumption)) (Bk.new w5 _ _)).mono ?_
    rintro e w7 ⟨rfl, hb⟩
    have HA7 := Lib.hid ((HA5.out.alloc _).below hb (by have := HA5.out.lt; simp; omega))
    have HX7 := Lib.hid ((HX5.out.alloc _).below hb (by have := HX5.out.lt; simp; omega))
    have HB7 := Lib.hid (bel3 HB6.out hb)
    clear a0 a1 a2 a3 a4 a5 a6 a7 a8 c0 c1 c2 c3 c4 c5 c6 c7 c8 hb HA5 HX5 HB5 HB6
    obtain ⟨a0, a1, a2, a3, a4, a5, a6, a7, a8⟩ := c9 HA7.out
    obtain ⟨c0, c1, c2, c3, c4, c5, c6, c7, c8⟩ := c9 HX7.out
    have hxy : ((X ++ Y).toList == (X ++ Y).toList) = true := beq_self_eq_true _
    have hme := HEQ.out
    rcases Nat.le_total X.size Y.size with hle | hle
    · have hl1 : (X.size : Int) ≤ (Y.size : Int) := by omega
      have hcc := HCUT.out X.size (Nat.min_eq_left hle).symm
      have m0 : (0 : Int) ≤ (X.size : Int) := by omega
      cases q with
      | true =>
        go_wp2_with fail
        go_quiet (fail)
        go_wp2_with fail
        go_ret
        have e9 : (min (X.size : Int) (Y.size : Int)).toNat = X.size := by omega
        exact ⟨by first | rfl | (simp [e9]; done) | (simpa [e9] using hcc), by first | exact below_drewN HB7.out _ | exact HB7.out⟩
      | false =>
        go_wp2_with fail
        go_quiet (fail)
        go_wp2_with fail
        go_ret
        have e9 : (min (X.size : Int) (Y.size : Int)).toNat = X.size := by omega
        exact ⟨by first | rfl | (simp [e9]; done) | (simpa [e9] using hcc), by first | exact below_drewN HB7.out _ | exact HB7.out⟩
    · have hl1 : (Y.size : Int) ≤ (X.size : Int) := by omega
      have hcc := HCUT.out Y.size (Nat.min_eq_right hle).symm
      have m0 : (0 : Int) ≤ (Y.size : Int) := by omega
      cases q with
      | true =>
        go_wp2_with fail
        go_quiet (fail)
        go_wp2_with fail
        go_ret
        have e9 : (min (X.size : Int) (Y.size : Int)).toNat = Y.size := by omega
        exact ⟨by first | rfl | (simp [e9]; done) | (simpa [e9] using hcc), by first | exact below_drewN HB7.out _ | exact HB7.out⟩
      | false =>
        go_wp2_with fail
        go_quiet (fail)
        go_wp2_with fail
        go_ret
        have e9 : (min (X.size : Int) (Y.size : Int)).toNat = Y.size := by omega
        exact ⟨by first | rfl | (simp [e9]; done) | (simpa [e9] using hcc), by first | exact below_drewN HB7.out _ | exact HB7.out⟩
end encodeApart
end Go.Proofs.YthidjiidcelniaaDoor
