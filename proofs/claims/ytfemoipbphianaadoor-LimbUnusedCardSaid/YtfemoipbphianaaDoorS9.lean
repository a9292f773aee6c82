/- The landed package secrecy: which rows may be handed in, and differ in secrets alone. -/
import Derived.Test.YtfemoipbphianaaDoorS8
import Derived.Test.YtfemoipbphianaaDoorN4
namespace Go.Proofs.YtfemoipbphianaaDoor
open Go Go.RowKit Go.Sort Go.Shelf
namespace Lb
open Wd Nt Gr
set_option linter.unusedVariables false
set_option linter.unusedSimpArgs false
set_option maxHeartbeats 2000000 in
theorem equal_u (A B : Option Addr) (n c m d Ba Bb : Nat) (xs ys : List Int) (w : World) (ha : Rd w Ba A n xs) (hb : Rd w Bb B m ys) (hn : n ≤ 1000000) (hm : m ≤ 1000000) :
    Calls Tryd.prog 94 #[.slice A n c, .slice B m d] w fun e w' => e = .returned (.bool (decide (xs = ys))) ∧ ∃ q, w' = w.drewN q := by
  by_cases hnm : n = m
  · subst hnm
    go_enter Tryd.func94, Tryd.ntmps94
    go_wp2_with fail
    go_loopw [13] (fun i wr => ∃ k q : Nat, k ≤ n ∧ i = .int .i64 k ∧ (∀ j, j < k → Nt.at_ xs j = Nt.at_ ys j) ∧ wr = w.drewN q) (fun i _ => n - (intOf i).toNat)
    case atStart => exact ⟨0, 0, Nat.zero_le _, rfl, fun j hj => absurd hj (by omega), rfl⟩
    case round =>
      obtain ⟨k, q, hk, rfl, hz, rfl⟩ := hrel
      by_cases hlt : k < n
      · obtain ⟨ad, rfl, _, hca0⟩ := ha.rd (by omega)
        have hca := hca0 k hlt
        obtain ⟨bd, rfl, _, hcb0⟩ := hb.rd (by omega)
        have hcb := hcb0 k hlt
        clear hca0 hcb0
        have hki : (k : Int) < (n : Int) := by omega
        by_cases hx : Nt.at_ xs k = Nt.at_ ys k
        · have HZ : Hid (∀ j, j < k + 1 → Nt.at_ xs j = Nt.at_ ys j) := Lib.hid (fun j hj => by
            rcases Nat.lt_succ_iff_lt_or_eq.1 hj with h | rfl
            · exact hz j h
            · exact hx)
          rw [hx] at hca
          clear hx hz ha hb
          generalize Nt.at_ ys k = z at *
          go_wp2_with fail
          go_quiet (fail)
          go_wp2_with fail
          go_roundw
          case rel => exact ⟨k + 1, _, by omega, by go_num, HZ.out, rfl⟩
          case measure => (simp [intOf] <;> omega)
        · have hne : xs ≠ ys := fun e => hx (by rw [e])
          have HN := Lib.hid hne
          have hxx : (Nt.at_ xs k != Nt.at_ ys k) = true := by simpa using hx
          clear hne hz ha hb hx
          generalize Nt.at_ ys k = z at *
          generalize Nt.at_ xs k = z' at *
          go_wp2_with fail
          go_quiet (fail)
          go_wp2_with fail
          go_ret
          exact ⟨by rw [decide_eq_false HN.out]; rfl, _, World.drewN_drewN _ _ _⟩
      · obtain rfl : k = n := by omega
        have HE := Lib.hid (eq_of_at (by rw [ha.len, hb.len]) (fun j hj => hz j (by rw [ha.len] at hj; exact hj)))
        clear hz ha hb
        go_wp2_with fail
        go_ret
        exact ⟨by rw [decide_eq_true HE.out]; rfl, _, rfl⟩
  · have hne : xs ≠ ys := fun e => hnm (by rw [← ha.len, ← hb.len, e])
    have HN := Lib.hid hne
    clear hne ha hb
    have hmi : ¬ ((n : Int) = (m : Int)) := by omega
    have hmb : ((n : Int) == (m : Int)) = false := by rw [beq_eq_false_iff_ne]; exact hmi
    have hmn : ((n : Int) != (m : Int)) = true := by rw [bne, hmb]; rfl
    go_enter Tryd.func94, Tryd.ntmps94
    go_wp2_with fail
    go_ret
    exact ⟨by rw [decide_eq_false HN.out]; rfl, 0, rfl⟩
/-- the same buffers, no operations -/
def noOps (p : Pg) : Pg := ⟨0, p.bf, []⟩
theorem noOps_ok {p : Pg} (h : (chkP p).2 = 0) : (chkP (noOps p)).2 = 0 := by
  have hr := (ok_of h).ref
  have h1 : refP (noOps p) = 0 := by
    have hz := ref_zero hr
    unfold refP at hr ⊢
    by_cases h1 : (decide (64 < p.rg) || decide (32 < p.bf.length) || decide (65536 < p.op.length) || p.bf.any longB) = true
    · rw [if_pos h1] at hr; cases hr
    rw [if_neg h1] at hr
    by_cases h2 : (decide (p.rg < 0) || p.bf.any wrongB) = true
    · rw [if_pos h2] at hr; cases hr
    simp only [Bool.or_eq_true, not_or] at h1 h2
    rw [if_neg, if_neg]
    · show ¬ (decide ((0 : Int) < 0) || p.bf.any wrongB) = true
      rw [Bool.or_eq_true, not_or]
      exact ⟨by decide, h2.2⟩
    · show ¬ (decide ((64 : Int) < 0) || decide (32 < p.bf.length) || decide (65536 < ([] : List Op).length) || p.bf.any longB) = true
      simp only [Bool.or_eq_true, not_or]
      exact ⟨⟨⟨by decide, h1.1.1.2⟩, by decide⟩, h1.2⟩
  unfold chkP
  rw [h1, if_neg (by decide)]
  rfl
theorem noOps_fit {p : Pg} (h : (chkP p).2 = 0) {hs : List (List Int)} {r : Ans} (hr : RunP (noOps p) hs r) : decide (r.er = 0) = fitP p.bf hs := by
  unfold RunP at hr
  rw [if_neg (by simpa using noOps_ok h), if_neg (show ¬ 16777216 < evP (noOps p).op from by show ¬ 16777216 < evP ([] : List Op); decide)] at hr
  cases hf : fitP p.bf hs
  · rw [if_pos (show fitP (noOps p).bf hs = false from hf)] at hr
    rw [hr]; rfl
  · rw [if_neg (show ¬ fitP (noOps p).bf hs = false by rw [show (noOps p).bf = p.bf from rfl, hf]; decide)] at hr
    obtain ⟨f, s, ⟨N, hN⟩, h2⟩ := hr
    have hf1 : f = true := by
      cases N with
      | zero => cases hN
      | succ N =>
        unfold runF at hN
        rw [if_neg (show ¬ (st0 (noOps p) hs).at_ < (noOps p).op.length from by show ¬ 0 < 0; omega)] at hN
        cases hN
        rfl
    subst hf1
    rw [h2]; rfl
set_option maxRecDepth 100000 in
set_option maxHeartbeats 2000000 in
theorem fit_s (p : Pg) (hp : p.wf) (h0 : (chkP p).2 = 0) (A X Y : Option Addr) (c d m q : Nat) (hs : List Hr) (w : World) (hT : TabF w) (hR : Rdr w w.heap.size A p.bf.length p.bf) (hH : HrW w w.heap.size Y m hs) (hm : m ≤ 1000000) :
    Calls Tryd.prog 65 #[pgV p A c X d, .slice Y m q] w fun e w' => e = .returned (.bool (fitP p.bf (hrYs hs))) ∧ Below w.heap.size w w' := by
  have HB0 := Lib.hid (bel_al (w := w) (.cells #[.int .i64 p.rg, .slice A p.bf.length c, .slice X p.op.length d] 26))
  have HK0 := Lib.hid (Bk.new w 26 #[.int .i64 p.rg, .slice A p.bf.length c, .slice X p.op.length d])
  have HRU := Lib.hid (run_l (noOps p) ⟨(show I64 0 by unfold I64; decide), hp.bf, fun o ho => (by cases ho)⟩ A none Y c 0 m q hs (w.alloc (.cells #[.int .i64 p.rg, .slice A p.bf.length c, .slice X p.op.length d] 26)) (hT.keep HB0.out) ((hR.below HB0.out).more HB0.out.size) Rdr.nil ((hH.below HB0.out).more HB0.out.size) hm)
  have HFT := Lib.hid (fun r (hr : RunP (noOps p) (hrYs hs) r) => noOps_fit h0 hr)
  generalize fitP p.bf (hrYs hs) = ft at *
  unfold pgV at *
  rw [show (noOps p).rg = 0 from rfl, show (noOps p).bf = p.bf from rfl, show (noOps p).op.length = 0 from rfl] at HRU
  clear hT hR hH
  go_enter Tryd.func65, Tryd.ntmps65
  go_wp2_with fail
  go_at_call 16
  refine HRU.out.mono ?_
  rintro e w2 ⟨⟨vo, vl, r, rfl, hr, _, _⟩, hb⟩
  have HB2 := Lib.hid (bel_tr HB0.out hb)
  have hft := HFT.out r hr
  clear hb hr HRU HFT
  obtain ⟨out, ev, er⟩ := r
  dsimp only at *
  go_wp2_with fail
  go_ret
  exact ⟨by rw [← hft]; rfl, HB2.out⟩
theorem hr_row {hs : List Hr} {j : Nat} {x : Hr} (h : hs[j]? = some x) : rowAt (hrYs hs) (j : Int) = x.ys := by
  unfold rowAt
  rw [Int.toNat_natCast, hrYs_get h]
  rfl
set_option maxRecDepth 100000 in
set_option maxHeartbeats 4000000 in
theorem agree_s (A Y Z : Option Addr) (n c q q2 : Nat) (bufs : List Bf) (hs gs : List Hr) (w : World) (hR : Rdr w w.heap.size A n bufs) (hH : HrW w w.heap.size Y n hs) (hG : HrW w w.heap.size Z n gs) (hn : n ≤ 100000) (h6 : ∀ x ∈ hs, x.n ≤ 1000000) (g6 : ∀ x ∈ gs, x.n ≤ 1000000) :
    Calls Tryd.prog 66 #[.slice A n c, .slice Y n q, .slice Z n q2] w fun e w' => e = .returned (.bool (agreeP bufs (hrYs hs) (hrYs gs))) ∧ Below w.heap.size w w' := by
  have HR := Lib.hid hR
  have HH := Lib.hid hH
  have HG := Lib.hid hG
  have HL := Lib.hid hR.len
  have HE : Hid (agreeP bufs (hrYs hs) (hrYs gs) = (List.range bufs.length).all fun j => (bfAt bufs (j : Int)).sec || decide (rowAt (hrYs hs) (j : Int) = rowAt (hrYs gs) (j : Int))) := Lib.hid rfl
  have H6 := Lib.hid h6
  have G6 := Lib.hid g6
  generalize agreeP bufs (hrYs hs) (hrYs gs) = res at *
  clear hR hH hG h6 g6
  go_enter Tryd.func66, Tryd.ntmps66
  go_wp2_with fail
  go_loopw [11] (fun i W => ∃ k : Nat, k ≤ n ∧ i = .int .i64 (k : Int) ∧ Hid (∀ j, j < k → ((bfAt bufs (j : Int)).sec || decide (rowAt (hrYs hs) (j : Int) = rowAt (hrYs gs) (j : Int))) = true) ∧ Hid (Below w.heap.size w W)) (fun i _ => n - (intOf i).toNat)
  case atStart => exact ⟨0, Nat.zero_le _, rfl, Lib.hid (fun j h => by omega), Lib.hid (Below.refl _ _)⟩
  case round =>
    obtain ⟨k, hk, rfl, HP, HB⟩ := hrel
    rcases Nat.lt_or_ge k n with hlt | hge
    · have hki : (k : Int) < (n : Int) := by omega
      have hk0 : (0 : Int) ≤ (k : Int) := by omega
      have hkl : k < bufs.length := by rw [HL.out]; exact hlt
      obtain ⟨bb, bo, rfl, hbb, s0, s1, s2⟩ := bf_at (HR.out.below HB.out) (bfAt_some hkl)
      have ew : IntKind.i64.wrap ((k : Int) + 1) = ((k + 1 : Nat) : Int) := by rw [show (k : Int) + 1 = ((k + 1 : Nat) : Int) by omega]; exact IntWalk.i64_in _ (by omega)
      obtain ⟨x, hx⟩ : ∃ x, hs[k]? = some x := ⟨_, List.getElem?_eq_getElem (by rw [HH.out.rd.len]; exact hlt)⟩
      obtain ⟨y, hy⟩ : ∃ y, gs[k]? = some y := ⟨_, List.getElem?_eq_getElem (by rw [HG.out.rd.len]; exact hlt)⟩
      have HRX := Lib.hid (hr_row hx)
      have HRY := Lib.hid (hr_row hy)
      have HNX := Lib.hid (fun (h : ((bfAt bufs (k : Int)).sec || decide (rowAt (hrYs hs) (k : Int) = rowAt (hrYs gs) (k : Int))) = true) (j : Nat) (hj : j < k + 1) => (show ((bfAt bufs (j : Int)).sec || decide (rowAt (hrYs hs) (j : Int) = rowAt (hrYs gs) (j : Int))) = true from by
        rcases Nat.lt_or_ge j k with h2 | h2
        · exact HP.out j h2
        · obtain rfl : j = k := by omega
          exact h))
      have HNO := Lib.hid (fun (h : ((bfAt bufs (k : Int)).sec || decide (rowAt (hrYs hs) (k : Int) = rowAt (hrYs gs) (k : Int))) = false) => (show res = false from by
        rw [HE.out, Bool.eq_false_iff]
        intro hh
        have := List.all_eq_true.1 hh k (List.mem_range.2 hkl)
        rw [h] at this
        cases this))
      rw [HRX.out, HRY.out] at HNX HNO
      obtain ⟨sz, hsz⟩ : ∃ z, (bfAt bufs (k : Int)).sz = z := ⟨_, rfl⟩
      obtain ⟨kd, hkd⟩ : ∃ z, (bfAt bufs (k : Int)).kd = z := ⟨_, rfl⟩
      obtain ⟨sec, hsec⟩ : ∃ z, (bfAt bufs (k : Int)).sec = z := ⟨_, rfl⟩
      rw [hsz] at s0
      rw [hkd] at s1
      rw [hsec] at s2 HNX HNO
      clear hsz hkd hsec hbb
      obtain ⟨W1, hW1⟩ : ∃ W1, W1 = wr.alloc (.cells #[.int .i64 sz, .int .i64 kd, .bool sec] 29) := ⟨_, rfl⟩
      have HW1 := Lib.hid hW1
      have HB1 := Lib.hid (show Below w.heap.size w W1 from by rw [hW1]; exact bel_al' HB.out _)
      have HK1 : Hid (Bk W1 wr.heap.size 29 #[.int .i64 sz, .int .i64 kd, .bool sec]) := Lib.hid (by rw [hW1]; exact Bk.new _ _ _)
      clear hW1
      go_upto_region 4 with fail
      rw [← HW1.out]
      clear s0 s1 s2
      obtain ⟨b0, b1, b2⟩ := c3 HK1.out
      obtain ⟨hb1, ho1, rfl, _, q0⟩ := hr_at (HH.out.rd.below HB1.out) hx
      obtain ⟨gb1, go1, rfl, _, p0⟩ := hr_at (HG.out.rd.below HB1.out) hy
      cases sec
      · have hxm := List.mem_of_getElem? hx
        have hym := List.mem_of_getElem? hy
        have KE := Lib.hid (fun n => equal_u x.A y.A x.n x.c y.n y.c _ _ x.ys y.ys (W1.drewN n) (((HH.out.each x hxm).1.below HB1.out).keep (fun _ _ => rfl)) (((HG.out.each y hym).1.below HB1.out).keep (fun _ _ => rfl)) (H6.out x hxm) (G6.out y hym))
        rw [Bool.false_or] at HNX HNO
        obtain ⟨xA, xn, xc, xl⟩ := x
        obtain ⟨yA, yn, yc, yl⟩ := y
        dsimp only at *
        by_cases hxy : xl = yl
        · have KT : Hid (∀ n, Calls Tryd.prog 94 #[.slice xA xn xc, .slice yA yn yc] (W1.drewN n) fun e w' => e = .returned (.bool true) ∧ ∃ m, w' = W1.drewN m) := Lib.hid (fun n => by have := KE.out n; rw [decide_eq_true hxy] at this; exact this.mono (fun e w' h => ⟨h.1, by obtain ⟨q2, h2⟩ := h.2; exact ⟨_, h2.trans (World.drewN_drewN _ _ _)⟩⟩))
          have HN1 := Lib.hid (HNX.out (by rw [decide_eq_true hxy]))
          clear hx hy HRX HRY hxm hym KE hxy HNO HNX
          go_wp2_with fail
          go_quiet (exact KT.out _)
          go_wp2_with fail
          go_roundw
          case rel => exact ⟨k + 1, by omega, by first | rfl | go_num, HN1, Lib.hid (below_drewN HB1.out _)⟩
          case measure => (simp [intOf] <;> omega)
        · have KT : Hid (∀ n, Calls Tryd.prog 94 #[.slice xA xn xc, .slice yA yn yc] (W1.drewN n) fun e w' => e = .returned (.bool false) ∧ ∃ m, w' = W1.drewN m) := Lib.hid (fun n => by have := KE.out n; rw [decide_eq_false hxy] at this; exact this.mono (fun e w' h => ⟨h.1, by obtain ⟨q2, h2⟩ := h.2; exact ⟨_, h2.trans (World.drewN_drewN _ _ _)⟩⟩))
          obtain rfl := HNO.out (by rw [decide_eq_false hxy])
          clear hx hy HRX HRY hxm hym KE hxy HNO HNX
          go_wp2_with fail
          go_quiet (exact KT.out _)
          go_wp2_with fail
          go_ret
          exact ⟨rfl, below_drewN HB1.out _⟩
      · have HN1 := Lib.hid (HNX.out rfl)
        clear hx hy HRX HRY HNO HNX
        go_wp2_with fail
        go_quiet (fail)
        go_wp2_with fail
        go_roundw
        case rel => exact ⟨k + 1, by omega, by first | rfl | go_num, HN1, Lib.hid (below_drewN HB1.out _)⟩
        case measure => (simp [intOf] <;> omega)
    · obtain rfl : k = n := by omega
      have hki : ¬ (k : Int) < (k : Int) := by omega
      have HT : Hid (res = true) := Lib.hid (by
        rw [HE.out, List.all_eq_true]
        intro j hj
        exact HP.out j (by rw [← HL.out]; exact List.mem_range.1 hj))
      go_wp2_with fail
      go_ret
      exact ⟨by rw [HT.out]; rfl, HB.out⟩
theorem fit_rows {bufs : List Bf} {hs : List Hr} {w : World} {B m : Nat} {Y : Option Addr} (h : HrW w B Y m hs) (hf : fitP bufs (hrYs hs) = true) : m = bufs.length := by
  rw [fitP_eq, Bool.and_eq_true] at hf
  have h1 := of_decide_eq_true hf.1
  unfold hrYs at h1
  rw [List.length_map, h.rd.len] at h1
  exact h1.symm
set_option maxRecDepth 100000 in
set_option maxHeartbeats 4000000 in
theorem public_s (p : Pg) (hp : p.wf) (A X Y Z : Option Addr) (c d m q m2 q2 : Nat) (hs gs : List Hr) (w : World) (hT : TabF w) (hR : Rdr w w.heap.size A p.bf.length p.bf) (hX : Rdr w w.heap.size X p.op.length p.op) (hH : HrW w w.heap.size Y m hs) (hG : HrW w w.heap.size Z m2 gs) (hm : m ≤ 1000000) (hm2 : m2 ≤ 1000000) (h6 : ∀ x ∈ hs, x.n ≤ 1000000) (g6 : ∀ x ∈ gs, x.n ≤ 1000000) :
    Calls Tryd.prog 38 #[pgV p A c X d, .slice Y m q, .slice Z m2 q2] w fun e w' => e = .returned (.bool (pubP p (hrYs hs) (hrYs gs))) ∧ Below w.heap.size w w' := by
  have HC := Lib.hid (fun (W : World) (hb : Below w.heap.size w W) => check_l p hp A X c d W (hT.keep hb) ((hR.below hb).more hb.size) ((hX.below hb).more hb.size))
  have HF1 := Lib.hid (fun (h : (chkP p).2 = 0) (W : World) (hb : Below w.heap.size w W) => fit_s p hp h A X Y c d m q hs W (hT.keep hb) ((hR.below hb).more hb.size) ((hH.below hb).more hb.size) hm)
  have HF2 := Lib.hid (fun (h : (chkP p).2 = 0) (W : World) (hb : Below w.heap.size w W) => fit_s p hp h A X Z c d m2 q2 gs W (hT.keep hb) ((hR.below hb).more hb.size) ((hG.below hb).more hb.size) hm2)
  have HAG := Lib.hid (fun (h : (chkP p).2 = 0) (e1 : m = p.bf.length) (e2 : m2 = p.bf.length) (W : World) (hb : Below w.heap.size w W) => agree_s A Y Z p.bf.length c q q2 p.bf hs gs W ((hR.below hb).more hb.size) (by rw [← e1]; exact (hH.below hb).more hb.size) (by rw [← e2]; exact (hG.below hb).more hb.size) (by have := (ref_zero (ok_of h).ref).2.1; omega) h6 g6)
  have HM1 := Lib.hid (fun (h : fitP p.bf (hrYs hs) = true) => fit_rows hH h)
  have HM2 := Lib.hid (fun (h : fitP p.bf (hrYs gs) = true) => fit_rows hG h)
  have HE : Hid (pubP p (hrYs hs) (hrYs gs) = (decide ((chkP p).2 = 0) && fitP p.bf (hrYs hs) && fitP p.bf (hrYs gs) && agreeP p.bf (hrYs hs) (hrYs gs))) := Lib.hid rfl
  have HB0 := Lib.hid (bel_al (w := w) (.cells #[.int .i64 p.rg, .slice A p.bf.length c, .slice X p.op.length d] 26))
  have HK0 := Lib.hid (Bk.new w 26 #[.int .i64 p.rg, .slice A p.bf.length c, .slice X p.op.length d])
  generalize pubP p (hrYs hs) (hrYs gs) = res at *
  generalize agreeP p.bf (hrYs hs) (hrYs gs) = ag at *
  generalize fitP p.bf (hrYs hs) = f1 at *
  generalize fitP p.bf (hrYs gs) = f2 at *
  generalize chkP p = ck at *
  obtain ⟨k1, k2⟩ := ck
  unfold pgV at *
  dsimp only at HC HF1 HF2 HAG HE
  clear hT hR hX hH hG hm hm2 h6 g6
  go_enter Tryd.func38, Tryd.ntmps38
  go_wp2_with fail
  go_at_call 25
  refine (HC.out _ HB0.out).mono ?_
  rintro e w2 ⟨rfl, hb⟩
  have HB2 := Lib.hid (bel_tr HB0.out hb)
  have HK2 := Lib.hid (HK0.out.below hb HK0.out.lt)
  clear hb HC HB0 HK0
  obtain ⟨a0, a1, a2⟩ := c3 HK2.out
  by_cases h : k2 = 0
  · subst h
    rw [decide_eq_true rfl, Bool.true_and] at HE
    have HF1' := Lib.hid (HF1.out (by first | exact rfl | trivial) w2 HB2.out)
    go_wp2_with fail
    go_at_call 65
    refine HF1'.out.mono ?_
    rintro e w3 ⟨rfl, hb⟩
    have HB3 := Lib.hid (bel_tr HB2.out hb)
    have HK3 := Lib.hid (HK2.out.below hb HK2.out.lt)
    clear hb HF1 HF1' a0 a1 a2
    obtain ⟨a0, a1, a2⟩ := c3 HK3.out
    cases f1
    · go_wp2_with fail
      go_ret
      exact ⟨by rw [HE.out]; rfl, HB3.out⟩
    rw [Bool.true_and] at HE
    have HF2' := Lib.hid (HF2.out (by first | exact rfl | trivial) w3 HB3.out)
    go_wp2_with fail
    go_at_call 65
    refine HF2'.out.mono ?_
    rintro e w4 ⟨rfl, hb⟩
    have HB4 := Lib.hid (bel_tr HB3.out hb)
    have HK4 := Lib.hid (HK3.out.below hb HK3.out.lt)
    clear hb HF2 HF2' a0 a1 a2
    obtain ⟨a0, a1, a2⟩ := c3 HK4.out
    cases f2
    · go_wp2_with fail
      go_ret
      exact ⟨by rw [HE.out]; rfl, HB4.out⟩
    rw [Bool.true_and] at HE
    obtain rfl := HM1.out (by first | exact rfl | trivial)
    obtain rfl := HM2.out (by first | exact rfl | trivial)
    have HAG' := Lib.hid (HAG.out (by first | exact rfl | trivial) rfl rfl w4 HB4.out)
    go_wp2_with fail
    go_at_call 66
    refine HAG'.out.mono ?_
    rintro e w5 ⟨rfl, hb⟩
    have HB5 := Lib.hid (bel_tr HB4.out hb)
    clear hb HAG HAG'
    go_wp2_with fail
    go_ret
    exact ⟨by rw [HE.out]; rfl, HB5.out⟩
  · have hne : (k2 != 0) = true := by simpa using h
    rw [decide_eq_false h, Bool.false_and, Bool.false_and, Bool.false_and] at HE
    clear h
    go_wp2_with fail
    go_ret
    exact ⟨by rw [HE.out]; rfl, HB2.out⟩
end Lb
end Go.Proofs.YtfemoipbphianaaDoor
