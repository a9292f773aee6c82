/- slices.Equal at events; step.Same. -/
import Derived.Test.YtmiphnocgepdgaaGreatDoorS16
namespace Go.Proofs.YtmiphnocgepdgaaGreatDoor
open Go Go.RowKit Go.Shelf
namespace Sp
open Wd Nt Mm Is
set_option linter.unusedVariables false
set_option linter.unusedSimpArgs false
set_option maxRecDepth 100000 in
set_option maxHeartbeats 2000000 in
theorem sl_equal (A B : Option Addr) (n c m d Ba Bb : Nat) (xs ys : List Ev) (w : World) (ha : RdE w Ba A n xs) (hb : RdE w Bb B m ys) (hn : n ≤ 1000000) (hm : m ≤ 1000000) :
    Calls Tryz.prog 38 #[.slice A n c, .slice B m d] w fun e w' => e = .returned (.bool (decide (xs = ys))) ∧ Below w.heap.size w w' := by
  by_cases hnm : n = m
  · subst hnm
    go_enter Tryz.func38, Tryz.ntmps38
    go_wp2_with fail
    go_loopw [13] (fun i wr => ∃ k q : Nat, k ≤ n ∧ i = .int .i64 k ∧ (∀ j, j < k → nthE xs j = nthE ys j) ∧ wr = w.drewN q) (fun i _ => n - (intOf i).toNat)
    case atStart => exact ⟨0, 0, Nat.zero_le _, rfl, fun j hj => absurd hj (by omega), rfl⟩
    case round =>
      obtain ⟨k, q, hk, rfl, hz, rfl⟩ := hrel
      by_cases hlt : k < n
      · obtain ⟨ad, rfl, _, hca, hca2⟩ := ha.at_ hlt
        obtain ⟨bd, rfl, _, hcb, hcb2⟩ := hb.at_ hlt
        have hki : (k : Int) < (n : Int) := by omega
        have hne := evNe (nthE xs k).k (nthE xs k).a (nthE ys k).k (nthE ys k).a
        by_cases hx : nthE xs k = nthE ys k
        · have HZ : Hid (∀ j, j < k + 1 → nthE xs j = nthE ys j) := Lib.hid (fun j hj => by
            rcases Nat.lt_succ_iff_lt_or_eq.1 hj with h | rfl
            · exact hz j h
            · exact hx)
          have hne2 : ∀ W, (binOp .neq 40 (.agg #[.int .i64 (nthE xs k).k, .int .u64 (nthE xs k).a]) (.agg #[.int .i64 (nthE ys k).k, .int .u64 (nthE ys k).a])).run Tryz.prog W = .ok (.bool false) W := fun W => by rw [hne W]; simp [hx]
          clear hx hz ha hb hne
          generalize (nthE xs k).k = p1 at *
          generalize (nthE xs k).a = p2 at *
          generalize (nthE ys k).k = p3 at *
          generalize (nthE ys k).a = p4 at *
          go_wp2_with fail
          go_quiet (fail)
          go_wp2_with fail
          go_roundw
          case rel => exact ⟨k + 1, _, by omega, by go_num, HZ.out, rfl⟩
          case measure => (simp [intOf] <;> omega)
        · have hn2 : xs ≠ ys := fun e => hx (by rw [e])
          have HN := Lib.hid hn2
          have hne2 : ∀ W, (binOp .neq 40 (.agg #[.int .i64 (nthE xs k).k, .int .u64 (nthE xs k).a]) (.agg #[.int .i64 (nthE ys k).k, .int .u64 (nthE ys k).a])).run Tryz.prog W = .ok (.bool true) W := fun W => by
            rw [hne W]
            have : ({ k := (nthE xs k).k, a := (nthE xs k).a } : Ev) ≠ ⟨(nthE ys k).k, (nthE ys k).a⟩ := hx
            simp [this]
          clear hn2 hz ha hb hx hne
          generalize (nthE xs k).k = p1 at *
          generalize (nthE xs k).a = p2 at *
          generalize (nthE ys k).k = p3 at *
          generalize (nthE ys k).a = p4 at *
          go_wp2_with fail
          go_quiet (fail)
          go_wp2_with fail
          go_ret
          exact ⟨by rw [decide_eq_false HN.out]; rfl, below_drewN (below_drewN (Below.refl _ _) _) _⟩
      · obtain rfl : k = n := by omega
        have HE := Lib.hid (eq_of_nthE (by rw [ha.len, hb.len]) (fun j hj => hz j (by rw [ha.len] at hj; exact hj)))
        clear hz ha hb
        go_wp2_with fail
        go_ret
        exact ⟨by rw [decide_eq_true HE.out]; rfl, below_drewN (Below.refl _ _) _⟩
  · have hne : xs ≠ ys := fun e => hnm (by rw [← ha.len, ← hb.len, e])
    have HN := Lib.hid hne
    clear hne ha hb
    have hmi : ¬ ((n : Int) = (m : Int)) := by omega
    have hmb : ((n : Int) == (m : Int)) = false := by rw [beq_eq_false_iff_ne]; exact hmi
    have hmn : ((n : Int) != (m : Int)) = true := by rw [bne, hmb]; rfl
    go_enter Tryz.func38, Tryz.ntmps38
    go_wp2_with fail
    go_ret
    exact ⟨by rw [decide_eq_false HN.out]; rfl, Below.refl _ _⟩
theorem step_same (A B : Option Addr) (n c m d Ba Bb : Nat) (xs ys : List Ev) (w : World) (ha : RdE w Ba A n xs) (hb : RdE w Bb B m ys) (hn : n ≤ 1000000) (hm : m ≤ 1000000) :
    Calls Tryz.prog 14 #[.slice A n c, .slice B m d] w fun e w' => e = .returned (.bool (decide (xs = ys))) ∧ Below w.heap.size w w' := by
  have K := Lib.hid (sl_equal A B n c m d Ba Bb xs ys w ha hb hn hm)
  clear ha hb
  generalize decide (xs = ys) = r at *
  go_enter Tryz.func14, Tryz.ntmps14
  go_wp2_with (first | (go_at_call 38; refine K.out.mono ?_; rintro e y ⟨rfl, hb⟩; have HB := Lib.hid hb; clear hb) | fail)
  go_ret
  exact ⟨rfl, HB.out⟩
section
variable {R : World → Nat → Nat → Value → List Reg → Prop}
set_option maxRecDepth 100000 in
set_option maxHeartbeats 4000000 in
/-- no memory that anybody made -/
theorem do_nil (mc : MemD R) (s : Stt) (i : Ins) (hi : i.wf) (size : Int) (w : World) (hT : Tab w) (h0 : refE i size = 0) : Calls Tryz.prog 11 #[.agg s.vs, .agg i.vs, .int .i64 size, .pointer none] w fun e w' => e = .returned (.tuple #[.agg s.vs, .slice none 0 0, .int .i64 1]) ∧ Below w.heap.size w w' := by
  have HI := Lib.hid hi
  have HT0 := Lib.hid hT
  have H0 := Lib.hid h0
  have hz := Lib.hid (show W 0 from ⟨by decide, by decide⟩)
  clear hi hT h0
  go_enter Tryz.func11, Tryz.ntmps11
  go_upto_region 1 with fail
  rw [s0_vs]
  have HM := Lib.hid (M3.new w s i)
  have HT := Lib.hid (HT0.out.keep HM.out.b)
  have HD := Lib.hid (show D3 w s i s0 _ from ⟨HM.out.s, HM.out.i, HM.out.z⟩)
  have HB := Lib.hid HM.out.b
  generalize World.alloc _ _ = W1 at *
  have KR := Lib.hid (refuse_l i HI.out size (.pointer none) 1 W1 HT.out (fun X hb => (mc.bytesN X 0 (-1) hz.out (by decide)).mono (by
    rintro e y ⟨rfl, hb2⟩
    exact ⟨⟨_, rfl⟩, hb2⟩)) (.inl rfl))
  rw [show (if refE i size ≠ 0 then refE i size else if (1 : Int) = 1 then 1 else 0) = 1 by rw [if_neg (fun h2 => h2 H0.out)]; rfl] at KR
  clear HM HT0
  go_wp2_with (first | (refine wpList_load_row rfl 37 (.tmp 5) rfl (w.heap.size + 1) rfl 37 i.vs (0, 0) _ HD.out.i Tryz.underlying37 rfl i9 ?_) | (go_at_call 32; refine KR.out.mono ?_; rintro e y1 ⟨rfl, hb1⟩; have HD1 := Lib.hid (HD.out.below hb1); have HB1 := Lib.hid (bel_tr HB.out hb1); clear hb1 KR HD HB HT) | (refine wpList_load_row rfl 26 (.tmp 4) rfl w.heap.size rfl 26 s.vs (0, 0) _ HD1.out.s Tryz.underlying26 rfl i20 ?_) | (refine wpList_store_row rfl 26 (.tmp 8) (.tmp 20) rfl (w.heap.size + 1 + 1) s.vs rfl rfl 26 s0.vs HD1.out.z i20 rfl s.vs_one ?_) | fail)
  exact ret_do rfl rfl rfl rfl rfl (HD1.out.row s).z ⟨rfl, bel_row HB1.out (by omega) _⟩
end
end Sp
end Go.Proofs.YtmiphnocgepdgaaGreatDoor
