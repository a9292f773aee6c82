/- The landed package secrecy: which rows may be handed in, and differ in secrets alone. | Plain: buffers of which some are made public; what that leaves secret. | Plain: a program with one more register, made ahead of all; with its buffers in the other order: what may be, what is secret. | Plain: rows on their way to the other order, operations on their way to other buffers. -/
import Derived.Test.YtbdhibgljaelbaaDoorS8
import Derived.Test.YtbdhibgljaelbaaDoorN4
import Derived.Test.YtbdhibgljaelbaaDoorSA
namespace Go.Proofs.YtbdhibgljaelbaaDoor
open Go Go.RowKit Go.Sort Go.Shelf
namespace Lb
open Wd Nt Gr
set_option linter.unusedVariables false
set_option linter.unusedSimpArgs false
set_option maxHeartbeats 2000000 in
theorem equal_u (A B : Option Addr) (n c m d Ba Bb : Nat) (xs ys : List Int) (w : World) (ha : Rd w Ba A n xs) (hb : Rd w Bb B m ys) (hn : n ≤ 1000000) (hm : m ≤ 1000000) :
    Calls Tryd.prog 89 #[.slice A n c, .slice B m d] w fun e w' => e = .returned (.bool (decide (xs = ys))) ∧ ∃ q, w' = w.drewN q := by
  by_cases hnm : n = m
  · subst hnm
    go_enter Tryd.func89, Tryd.ntmps89
    go_wp2_with fail
    go_loopw [13] (fun i wr => ∃ k q : Nat, k ≤ n ∧ i = .int .i64 k ∧ (∀ j, j < k → Nt.at_ xs j = Nt.at_ ys j) ∧ wr = w.drewN q) (fun i _ => n - (intOf i).toNat)
    case atStart => exact ⟨0, 0, Nat.zero_le _, rfl, fun j hj => absurd hj (by omega), rfl⟩
    case round =>
      obtain ⟨k, q, hk, rfl, hz, rfl⟩ := hrel
      by_cases hlt : k < n
      · obtain ⟨ad, rfl, _, hca0⟩ := ha.rd (by omega)
        have hca := hca0 k hlt
        obtain ⟨bd, rfl, _, hcb0⟩ := hb.rd (by omega)
        have hcb := hcb0 k hlt
        clear hca0 hcb0
        have hki : (k : Int) < (n : Int) := by omega
        by_cases hx : Nt.at_ xs k = Nt.at_ ys k
        · have HZ : Hid (∀ j, j < k + 1 → Nt.at_ xs j = Nt.at_ ys j) := Lib.hid (fun j hj => by
            rcases Nat.lt_succ_iff_lt_or_eq.1 hj with h | rfl
            · exact hz j h
            · exact hx)
          rw [hx] at hca
          clear hx hz ha hb
          generalize Nt.at_ ys k = z at *
          go_wp2_with fail
          go_quiet (fail)
          go_wp2_with fail
          go_roundw
          case rel => exact ⟨k + 1, _, by omega, by go_num, HZ.out, rfl⟩
          case measure => (simp [intOf] <;> omega)
        · have hne : xs ≠ ys := fun e => hx (by rw [e])
          have HN := Lib.hid hne
          have hxx : (Nt.at_ xs k != Nt.at_ ys k) = true := by simpa using hx
          clear hne hz ha hb hx
          generalize Nt.at_ ys k = z at *
          generalize Nt.at_ xs k = z' at *
          go_wp2_with fail
          go_quiet (fail)
          go_wp2_with fail
          go_ret
          exact ⟨by rw [decide_eq_false HN.out]; rfl, _, World.drewN_drewN _ _ _⟩
      · obtain rfl : k = n := by omega
        have HE := Lib.hid (eq_of_at (by rw [ha.len, hb.len]) (fun j hj => hz j (by rw [ha.len] at hj; exact hj)))
        clear hz ha hb
        go_wp2_with fail
        go_ret
        exact ⟨by rw [decide_eq_true HE.out]; rfl, _, rfl⟩
  · have hne : xs ≠ ys := fun e => hnm (by rw [← ha.len, ← hb.len, e])
    have HN := Lib.hid hne
    clear hne ha hb
    have hmi : ¬ ((n : Int) = (m : Int)) := by omega
    have hmb : ((n : Int) == (m : Int)) = false := by rw [beq_eq_false_iff_ne]; exact hmi
    have hmn : ((n : Int) != (m : Int)) = true := by rw [bne, hmb]; rfl
    go_enter Tryd.func89, Tryd.ntmps89
    go_wp2_with fail
    go_ret
    exact ⟨by rw [decide_eq_false HN.out]; rfl, 0, rfl⟩
/-- the same buffers, no operations -/
def noOps (p : Pg) : Pg := ⟨0, p.bf, []⟩
theorem noOps_ok {p : Pg} (h : (chkP p).2 = 0) : (chkP (noOps p)).2 = 0 := by
  have hr := (ok_of h).ref
  have h1 : refP (noOps p) = 0 := by
    have hz := ref_zero hr
    unfold refP at hr ⊢
    by_cases h1 : (decide (64 < p.rg) || decide (32 < p.bf.length) || decide (65536 < p.op.length) || p.bf.any longB) = true
    · rw [if_pos h1] at hr; cases hr
    rw [if_neg h1] at hr
    by_cases h2 : (decide (p.rg < 0) || p.bf.any wrongB) = true
    · rw [if_pos h2] at hr; cases hr
    simp only [Bool.or_eq_true, not_or] at h1 h2
    rw [if_neg, if_neg]
    · show ¬ (decide ((0 : Int) < 0) || p.bf.any wrongB) = true
      rw [Bool.or_eq_true, not_or]
      exact ⟨by decide, h2.2⟩
    · show ¬ (decide ((64 : Int) < 0) || decide (32 < p.bf.length) || decide (65536 < ([] : List Op).length) || p.bf.any longB) = true
      simp only [Bool.or_eq_true, not_or]
      exact ⟨⟨⟨by decide, h1.1.1.2⟩, by decide⟩, h1.2⟩
  unfold chkP
  rw [h1, if_neg (by decide)]
  rfl
theorem noOps_fit {p : Pg} (h : (chkP p).2 = 0) {hs : List (List Int)} {r : Ans} (hr : RunP (noOps p) hs r) : decide (r.er = 0) = fitP p.bf hs := by
  unfold RunP at hr
  rw [if_neg (by simpa using noOps_ok h), if_neg (show ¬ 16777216 < evP (noOps p).op from by show ¬ 16777216 < evP ([] : List Op); decide)] at hr
  cases hf : fitP p.bf hs
  · rw [if_pos (show fitP (noOps p).bf hs = false from hf)] at hr
    rw [hr]; rfl
  · rw [if_neg (show ¬ fitP (noOps p).bf hs = false by rw [show (noOps p).bf = p.bf from rfl, hf]; decide)] at hr
    obtain ⟨f, s, ⟨N, hN⟩, h2⟩ := hr
    have hf1 : f = true := by
      cases N with
      | zero => cases hN
      | succ N =>
        unfold runF at hN
        rw [if_neg (show ¬ (st0 (noOps p) hs).at_ < (noOps p).op.length from by show ¬ 0 < 0; omega)] at hN
        cases hN
        rfl
    subst hf1
    rw [h2]; rfl
set_option maxRecDepth 100000 in
set_option maxHeartbeats 2000000 in
theorem fit_s (p : Pg) (hp : p.wf) (h0 : (chkP p).2 = 0) (A X Y : Option Addr) (c d m q : Nat) (hs : List Hr) (w : World) (hT : TabF w) (hR : Rdr w w.heap.size A p.bf.length p.bf) (hH : HrW w w.heap.size Y m hs) (hm : m ≤ 1000000) :
    Calls Tryd.prog 60 #[pgV p A c X d, .slice Y m q] w fun e w' => e = .returned (.bool (fitP p.bf (hrYs hs))) ∧ Below w.heap.size w w' := by
  have HB0 := Lib.hid (bel_al (w := w) (.cells #[.int .i64 p.rg, .slice A p.bf.length c, .slice X p.op.length d] 26))
  have HK0 := Lib.hid (Bk.new w 26 #[.int .i64 p.rg, .slice A p.bf.length c, .slice X p.op.length d])
  have HRU := Lib.hid (run_l (noOps p) ⟨(show I64 0 by unfold I64; decide), hp.bf, fun o ho => (by cases ho)⟩ A none Y c 0 m q hs (w.alloc (.cells #[.int .i64 p.rg, .slice A p.bf.length c, .slice X p.op.length d] 26)) (hT.keep HB0.out) ((hR.below HB0.out).more HB0.out.size) Rdr.nil ((hH.below HB0.out).more HB0.out.size) hm)
  have HFT := Lib.hid (fun r (hr : RunP (noOps p) (hrYs hs) r) => noOps_fit h0 hr)
  generalize fitP p.bf (hrYs hs) = ft at *
  unfold pgV at *
  rw [show (noOps p).rg = 0 from rfl, show (noOps p).bf = p.bf from rfl, show (noOps p).op.length = 0 from rfl] at HRU
  clear hT hR hH
  go_enter Tryd.func60, Tryd.ntmps60
  go_wp2_with fail
  go_at_call 13
  refine HRU.out.mono ?_
  rintro e w2 ⟨⟨vo, vl, r, rfl, hr, _, _⟩, hb⟩
  have HB2 := Lib.hid (bel_tr HB0.out hb)
  have hft := HFT.out r hr
  clear hb hr HRU HFT
  obtain ⟨out, ev, er⟩ := r
  dsimp only at *
  go_wp2_with fail
  go_ret
  exact ⟨by rw [← hft]; rfl, HB2.out⟩
theorem hr_row {hs : List Hr} {j : Nat} {x : Hr} (h : hs[j]? = some x) : rowAt (hrYs hs) (j : Int) = x.ys := by
  unfold rowAt
  rw [Int.toNat_natCast, hrYs_get h]
  rfl
set_option maxRecDepth 100000 in
set_option maxHeartbeats 4000000 in
theorem agree_s (A Y Z : Option Addr) (n c q q2 : Nat) (bufs : List Bf) (hs gs : List Hr) (w : World) (hR : Rdr w w.heap.size A n bufs) (hH : HrW w w.heap.size Y n hs) (hG : HrW w w.heap.size Z n gs) (hn : n ≤ 100000) (h6 : ∀ x ∈ hs, x.n ≤ 1000000) (g6 : ∀ x ∈ gs, x.n ≤ 1000000) :
    Calls Tryd.prog 61 #[.slice A n c, .slice Y n q, .slice Z n q2] w fun e w' => e = .returned (.bool (agreeP bufs (hrYs hs) (hrYs gs))) ∧ Below w.heap.size w w' := by
  have HR := Lib.hid hR
  have HH := Lib.hid hH
  have HG := Lib.hid hG
  have HL := Lib.hid hR.len
  have HE : Hid (agreeP bufs (hrYs hs) (hrYs gs) = (List.range bufs.length).all fun j => (bfAt bufs (j : Int)).sec || decide (rowAt (hrYs hs) (j : Int) = rowAt (hrYs gs) (j : Int))) := Lib.hid rfl
  have H6 := Lib.hid h6
  have G6 := Lib.hid g6
  generalize agreeP bufs (hrYs hs) (hrYs gs) = res at *
  clear hR hH hG h6 g6
  go_enter Tryd.func61, Tryd.ntmps61
  go_wp2_with fail
  go_loopw [11] (fun i W => ∃ k : Nat, k ≤ n ∧ i = .int .i64 (k : Int) ∧ Hid (∀ j, j < k → ((bfAt bufs (j : Int)).sec || decide (rowAt (hrYs hs) (j : Int) = rowAt (hrYs gs) (j : Int))) = true) ∧ Hid (Below w.heap.size w W)) (fun i _ => n - (intOf i).toNat)
  case atStart => exact ⟨0, Nat.zero_le _, rfl, Lib.hid (fun j h => by omega), Lib.hid (Below.refl _ _)⟩
  case round =>
    obtain ⟨k, hk, rfl, HP, HB⟩ := hrel
    rcases Nat.lt_or_ge k n with hlt | hge
    · have hki : (k : Int) < (n : Int) := by omega
      have hk0 : (0 : Int) ≤ (k : Int) := by omega
      have hkl : k < bufs.length := by rw [HL.out]; exact hlt
      obtain ⟨bb, bo, rfl, hbb, s0, s1, s2⟩ := bf_at (HR.out.below HB.out) (bfAt_some hkl)
      have ew : IntKind.i64.wrap ((k : Int) + 1) = ((k + 1 : Nat) : Int) := by rw [show (k : Int) + 1 = ((k + 1 : Nat) : Int) by omega]; exact IntWalk.i64_in _ (by omega)
      obtain ⟨x, hx⟩ : ∃ x, hs[k]? = some x := ⟨_, List.getElem?_eq_getElem (by rw [HH.out.rd.len]; exact hlt)⟩
      obtain ⟨y, hy⟩ : ∃ y, gs[k]? = some y := ⟨_, List.getElem?_eq_getElem (by rw [HG.out.rd.len]; exact hlt)⟩
      have HRX := Lib.hid (hr_row hx)
      have HRY := Lib.hid (hr_row hy)
      have HNX := Lib.hid (fun (h : ((bfAt bufs (k : Int)).sec || decide (rowAt (hrYs hs) (k : Int) = rowAt (hrYs gs) (k : Int))) = true) (j : Nat) (hj : j < k + 1) => (show ((bfAt bufs (j : Int)).sec || decide (rowAt (hrYs hs) (j : Int) = rowAt (hrYs gs) (j : Int))) = true from by
        rcases Nat.lt_or_ge j k with h2 | h2
        · exact HP.out j h2
        · obtain rfl : j = k := by omega
          exact h))
      have HNO := Lib.hid (fun (h : ((bfAt bufs (k : Int)).sec || decide (rowAt (hrYs hs) (k : Int) = rowAt (hrYs gs) (k : Int))) = false) => (show res = false from by
        rw [HE.out, Bool.eq_false_iff]
        intro hh
        have := List.all_eq_true.1 hh k (List.mem_range.2 hkl)
        rw [h] at this
        cases this))
      rw [HRX.out, HRY.out] at HNX HNO
      obtain ⟨sz, hsz⟩ : ∃ z, (bfAt bufs (k : Int)).sz = z := ⟨_, rfl⟩
      obtain ⟨kd, hkd⟩ : ∃ z, (bfAt bufs (k : Int)).kd = z := ⟨_, rfl⟩
      obtain ⟨sec, hsec⟩ : ∃ z, (bfAt bufs (k : Int)).sec = z := ⟨_, rfl⟩
      rw [hsz] at s0
      rw [hkd] at s1
      rw [hsec] at s2 HNX HNO
      clear hsz hkd hsec hbb
      obtain ⟨W1, hW1⟩ : ∃ W1, W1 = wr.alloc (.cells #[.int .i64 sz, .int .i64 kd, .bool sec] 29) := ⟨_, rfl⟩
      have HW1 := Lib.hid hW1
      have HB1 := Lib.hid (show Below w.heap.size w W1 from by rw [hW1]; exact bel_al' HB.out _)
      have HK1 : Hid (Bk W1 wr.heap.size 29 #[.int .i64 sz, .int .i64 kd, .bool sec]) := Lib.hid (by rw [hW1]; exact Bk.new _ _ _)
      clear hW1
      go_upto_region 4 with fail
      rw [← HW1.out]
      clear s0 s1 s2
      obtain ⟨b0, b1, b2⟩ := c3 HK1.out
      obtain ⟨hb1, ho1, rfl, _, q0⟩ := hr_at (HH.out.rd.below HB1.out) hx
      obtain ⟨gb1, go1, rfl, _, p0⟩ := hr_at (HG.out.rd.below HB1.out) hy
      cases sec
      · have hxm := List.mem_of_getElem? hx
        have hym := List.mem_of_getElem? hy
        have KE := Lib.hid (fun n => equal_u x.A y.A x.n x.c y.n y.c _ _ x.ys y.ys (W1.drewN n) (((HH.out.each x hxm).1.below HB1.out).keep (fun _ _ => rfl)) (((HG.out.each y hym).1.below HB1.out).keep (fun _ _ => rfl)) (H6.out x hxm) (G6.out y hym))
        rw [Bool.false_or] at HNX HNO
        obtain ⟨xA, xn, xc, xl⟩ := x
        obtain ⟨yA, yn, yc, yl⟩ := y
        dsimp only at *
        by_cases hxy : xl = yl
        · have KT : Hid (∀ n, Calls Tryd.prog 89 #[.slice xA xn xc, .slice yA yn yc] (W1.drewN n) fun e w' => e = .returned (.bool true) ∧ ∃ m, w' = W1.drewN m) := Lib.hid (fun n => by have := KE.out n; rw [decide_eq_true hxy] at this; exact this.mono (fun e w' h => ⟨h.1, by obtain ⟨q2, h2⟩ := h.2; exact ⟨_, h2.trans (World.drewN_drewN _ _ _)⟩⟩))
          have HN1 := Lib.hid (HNX.out (by rw [decide_eq_true hxy]))
          clear hx hy HRX HRY hxm hym KE hxy HNO HNX
          go_wp2_with fail
          go_quiet (exact KT.out _)
          go_wp2_with fail
          go_roundw
          case rel => exact ⟨k + 1, by omega, by first | rfl | go_num, HN1, Lib.hid (below_drewN HB1.out _)⟩
          case measure => (simp [intOf] <;> omega)
        · have KT : Hid (∀ n, Calls Tryd.prog 89 #[.slice xA xn xc, .slice yA yn yc] (W1.drewN n) fun e w' => e = .returned (.bool false) ∧ ∃ m, w' = W1.drewN m) := Lib.hid (fun n => by have := KE.out n; rw [decide_eq_false hxy] at this; exact this.mono (fun e w' h => ⟨h.1, by obtain ⟨q2, h2⟩ := h.2; exact ⟨_, h2.trans (World.drewN_drewN _ _ _)⟩⟩))
          obtain rfl := HNO.out (by rw [decide_eq_false hxy])
          clear hx hy HRX HRY hxm hym KE hxy HNO HNX
          go_wp2_with fail
          go_quiet (exact KT.out _)
          go_wp2_with fail
          go_ret
          exact ⟨rfl, below_drewN HB1.out _⟩
      · have HN1 := Lib.hid (HNX.out rfl)
        clear hx hy HRX HRY HNO HNX
        go_wp2_with fail
        go_quiet (fail)
        go_wp2_with fail
        go_roundw
        case rel => exact ⟨k + 1, by omega, by first | rfl | go_num, HN1, Lib.hid (below_drewN HB1.out _)⟩
        case measure => (simp [intOf] <;> omega)
    · obtain rfl : k = n := by omega
      have hki : ¬ (k : Int) < (k : Int) := by omega
      have HT : Hid (res = true) := Lib.hid (by
        rw [HE.out, List.all_eq_true]
        intro j hj
        exact HP.out j (by rw [← HL.out]; exact List.mem_range.1 hj))
      go_wp2_with fail
      go_ret
      exact ⟨by rw [HT.out]; rfl, HB.out⟩
theorem fit_rows {bufs : List Bf} {hs : List Hr} {w : World} {B m : Nat} {Y : Option Addr} (h : HrW w B Y m hs) (hf : fitP bufs (hrYs hs) = true) : m = bufs.length := by
  rw [fitP_eq, Bool.and_eq_true] at hf
  have h1 := of_decide_eq_true hf.1
  unfold hrYs at h1
  rw [List.length_map, h.rd.len] at h1
  exact h1.symm
set_option maxRecDepth 100000 in
set_option maxHeartbeats 4000000 in
theorem public_s (p : Pg) (hp : p.wf) (A X Y Z : Option Addr) (c d m q m2 q2 : Nat) (hs gs : List Hr) (w : World) (hT : TabF w) (hR : Rdr w w.heap.size A p.bf.length p.bf) (hX : Rdr w w.heap.size X p.op.length p.op) (hH : HrW w w.heap.size Y m hs) (hG : HrW w w.heap.size Z m2 gs) (hm : m ≤ 1000000) (hm2 : m2 ≤ 1000000) (h6 : ∀ x ∈ hs, x.n ≤ 1000000) (g6 : ∀ x ∈ gs, x.n ≤ 1000000) :
    Calls Tryd.prog 33 #[pgV p A c X d, .slice Y m q, .slice Z m2 q2] w fun e w' => e = .returned (.bool (pubP p (hrYs hs) (hrYs gs))) ∧ Below w.heap.size w w' := by
  have HC := Lib.hid (fun (W : World) (hb : Below w.heap.size w W) => check_l p hp A X c d W (hT.keep hb) ((hR.below hb).more hb.size) ((hX.below hb).more hb.size))
  have HF1 := Lib.hid (fun (h : (chkP p).2 = 0) (W : World) (hb : Below w.heap.size w W) => fit_s p hp h A X Y c d m q hs W (hT.keep hb) ((hR.below hb).more hb.size) ((hH.below hb).more hb.size) hm)
  have HF2 := Lib.hid (fun (h : (chkP p).2 = 0) (W : World) (hb : Below w.heap.size w W) => fit_s p hp h A X Z c d m2 q2 gs W (hT.keep hb) ((hR.below hb).more hb.size) ((hG.below hb).more hb.size) hm2)
  have HAG := Lib.hid (fun (h : (chkP p).2 = 0) (e1 : m = p.bf.length) (e2 : m2 = p.bf.length) (W : World) (hb : Below w.heap.size w W) => agree_s A Y Z p.bf.length c q q2 p.bf hs gs W ((hR.below hb).more hb.size) (by rw [← e1]; exact (hH.below hb).more hb.size) (by rw [← e2]; exact (hG.below hb).more hb.size) (by have := (ref_zero (ok_of h).ref).2.1; omega) h6 g6)
  have HM1 := Lib.hid (fun (h : fitP p.bf (hrYs hs) = true) => fit_rows hH h)
  have HM2 := Lib.hid (fun (h : fitP p.bf (hrYs gs) = true) => fit_rows hG h)
  have HE : Hid (pubP p (hrYs hs) (hrYs gs) = (decide ((chkP p).2 = 0) && fitP p.bf (hrYs hs) && fitP p.bf (hrYs gs) && agreeP p.bf (hrYs hs) (hrYs gs))) := Lib.hid rfl
  have HB0 := Lib.hid (bel_al (w := w) (.cells #[.int .i64 p.rg, .slice A p.bf.length c, .slice X p.op.length d] 26))
  have HK0 := Lib.hid (Bk.new w 26 #[.int .i64 p.rg, .slice A p.bf.length c, .slice X p.op.length d])
  generalize pubP p (hrYs hs) (hrYs gs) = res at *
  generalize agreeP p.bf (hrYs hs) (hrYs gs) = ag at *
  generalize fitP p.bf (hrYs hs) = f1 at *
  generalize fitP p.bf (hrYs gs) = f2 at *
  generalize chkP p = ck at *
  obtain ⟨k1, k2⟩ := ck
  unfold pgV at *
  dsimp only at HC HF1 HF2 HAG HE
  clear hT hR hX hH hG hm hm2 h6 g6
  go_enter Tryd.func33, Tryd.ntmps33
  go_wp2_with fail
  go_at_call 22
  refine (HC.out _ HB0.out).mono ?_
  rintro e w2 ⟨rfl, hb⟩
  have HB2 := Lib.hid (bel_tr HB0.out hb)
  have HK2 := Lib.hid (HK0.out.below hb HK0.out.lt)
  clear hb HC HB0 HK0
  obtain ⟨a0, a1, a2⟩ := c3 HK2.out
  by_cases h : k2 = 0
  · subst h
    rw [decide_eq_true rfl, Bool.true_and] at HE
    have HF1' := Lib.hid (HF1.out (by first | exact rfl | trivial) w2 HB2.out)
    go_wp2_with fail
    go_at_call 60
    refine HF1'.out.mono ?_
    rintro e w3 ⟨rfl, hb⟩
    have HB3 := Lib.hid (bel_tr HB2.out hb)
    have HK3 := Lib.hid (HK2.out.below hb HK2.out.lt)
    clear hb HF1 HF1' a0 a1 a2
    obtain ⟨a0, a1, a2⟩ := c3 HK3.out
    cases f1
    · go_wp2_with fail
      go_ret
      exact ⟨by rw [HE.out]; rfl, HB3.out⟩
    rw [Bool.true_and] at HE
    have HF2' := Lib.hid (HF2.out (by first | exact rfl | trivial) w3 HB3.out)
    go_wp2_with fail
    go_at_call 60
    refine HF2'.out.mono ?_
    rintro e w4 ⟨rfl, hb⟩
    have HB4 := Lib.hid (bel_tr HB3.out hb)
    have HK4 := Lib.hid (HK3.out.below hb HK3.out.lt)
    clear hb HF2 HF2' a0 a1 a2
    obtain ⟨a0, a1, a2⟩ := c3 HK4.out
    cases f2
    · go_wp2_with fail
      go_ret
      exact ⟨by rw [HE.out]; rfl, HB4.out⟩
    rw [Bool.true_and] at HE
    obtain rfl := HM1.out (by first | exact rfl | trivial)
    obtain rfl := HM2.out (by first | exact rfl | trivial)
    have HAG' := Lib.hid (HAG.out (by first | exact rfl | trivial) rfl rfl w4 HB4.out)
    go_wp2_with fail
    go_at_call 61
    refine HAG'.out.mono ?_
    rintro e w5 ⟨rfl, hb⟩
    have HB5 := Lib.hid (bel_tr HB4.out hb)
    clear hb HAG HAG'
    go_wp2_with fail
    go_ret
    exact ⟨by rw [HE.out]; rfl, HB5.out⟩
  · have hne : (k2 != 0) = true := by simpa using h
    rw [decide_eq_false h, Bool.false_and, Bool.false_and, Bool.false_and] at HE
    clear h
    go_wp2_with fail
    go_ret
    exact ⟨by rw [HE.out]; rfl, HB2.out⟩
end Lb
end Go.Proofs.YtbdhibgljaelbaaDoor
namespace Go.Proofs.YtbdhibgljaelbaaDoor
open Go Go.RowKit
namespace Lb
open Wd Nt Gr
set_option linter.unusedVariables false
set_option linter.unusedSimpArgs false
/-- those buffers that f names made public -/
def erIf (f : Nat → Bool) (bs : List Bf) : List Bf := bs.mapIdx fun i b => if f i then er b else b
theorem erIf_len (f : Nat → Bool) (bs : List Bf) : (erIf f bs).length = bs.length := by unfold erIf; simp
theorem erIf_get (f : Nat → Bool) (bs : List Bf) (i : Nat) : (erIf f bs)[i]? = (bs[i]?).map fun b => if f i then er b else b := by
  unfold erIf
  rw [List.getElem?_mapIdx]
theorem erIf_none (bs : List Bf) : erIf (fun _ => false) bs = bs := by
  apply List.ext_getElem?
  intro i
  rw [erIf_get]
  cases bs[i]? <;> rfl
theorem er_er (b : Bf) : er (er b) = er b := rfl
theorem erIf_er (f : Nat → Bool) (bs : List Bf) : (erIf f bs).map er = bs.map er := by
  apply List.ext_getElem?
  intro i
  rw [List.getElem?_map, List.getElem?_map, erIf_get]
  cases bs[i]? with
  | none => rfl
  | some b =>
    show some (er (if f i then er b else b)) = some (er b)
    split <;> rfl
theorem erIf_set {f g : Nat → Bool} {bs : List Bf} {k : Nat} {b : Bf} (h : (erIf f bs)[k]? = some b) (hk : g k = true) (hg : ∀ i, i ≠ k → g i = f i) : (erIf f bs).set k (er b) = erIf g bs := by
  have hl := (List.getElem?_eq_some_iff.1 h).1
  apply List.ext_getElem?
  intro i
  rw [List.getElem?_set]
  by_cases e : k = i
  · subst e
    rw [if_pos rfl, if_pos hl, erIf_get, hk]
    rw [erIf_get] at h
    rcases hb : bs[k]? with _ | c
    · rw [hb] at h; cases h
    · rw [hb] at h
      have h2 : (if f k then er c else c) = b := Option.some.inj h
      rw [← h2]
      show some _ = some (er c)
      split <;> rfl
  · rw [if_neg e, erIf_get, erIf_get, hg i (fun e' => e e'.symm)]
theorem erIf_same {f g : Nat → Bool} {bs : List Bf} (h : ∀ i, i < bs.length → g i = f i) : erIf f bs = erIf g bs := by
  apply List.ext_getElem?
  intro i
  rw [erIf_get, erIf_get]
  rcases Nat.lt_or_ge i bs.length with hl | hl
  · rw [h i hl]
  · rw [List.getElem?_eq_none hl]; rfl
theorem erIf_wf {f : Nat → Bool} {bs : List Bf} (h : ∀ b ∈ bs, b.wf) : ∀ b ∈ erIf f bs, b.wf := by
  intro b hb
  obtain ⟨i, hi⟩ := List.mem_iff_getElem?.1 hb
  rw [erIf_get] at hi
  rcases hc : bs[i]? with _ | c
  · rw [hc] at hi; cases hi
  · rw [hc] at hi
    have h2 : (if f i then er c else c) = b := Option.some.inj hi
    have hw := h c (List.mem_of_getElem? hc)
    rw [← h2]
    split
    · exact ⟨hw.sz, hw.kd⟩
    · exact hw
theorem bfAt_erIf (f : Nat → Bool) (bs : List Bf) (i : Int) : (bfAt (erIf f bs) i).sec = true → (bfAt bs i).sec = true := by
  unfold bfAt
  rw [erIf_get]
  cases bs[i.toNat]? with
  | none => exact id
  | some b =>
    show (if f i.toNat then er b else b).sec = true → b.sec = true
    split
    · intro h; cases h
    · exact id
theorem bfAt_erAll {f : Nat → Bool} {bs : List Bf} (h : ∀ i, i < bs.length → f i = true) (i : Int) : (bfAt (erIf f bs) i).sec = false := by
  unfold bfAt
  rw [erIf_get]
  rcases Nat.lt_or_ge i.toNat bs.length with hl | hl
  · rw [List.getElem?_eq_getElem hl, h _ hl]
    rfl
  · rw [List.getElem?_eq_none hl]
    rfl
/-- a program with some buffers made public -/
def erPg (f : Nat → Bool) (p : Pg) : Pg := ⟨p.rg, erIf f p.bf, p.op⟩
theorem erPg_wf {f : Nat → Bool} {p : Pg} (h : p.wf) : (erPg f p).wf := ⟨h.rg, erIf_wf h.bf, h.op⟩
theorem erPg_chk (f : Nat → Bool) (p : Pg) : chkP (erPg f p) = chkP p := chk_sec (erIf_er f p.bf)
/-- what SecrecyLess asks of the sets -/
structure LessA (p : Pg) (a b c : List Bool) (r : Nat × Int) : Prop where
  al : a.length = p.rg.toNat
  bl : b.length = p.rg.toNat
  cl : c.length = p.rg.toNat
  r0 : r = (p.op.length, 0)
  ab : ∀ i, i < p.rg.toNat → ∃ x y, a[i]? = some x ∧ b[i]? = some y ∧ c[i]? = some false ∧ (y = true → x = true)
theorem lessA {p : Pg} {f g : Nat → Bool} {a b c : List Bool} {r : Nat × Int} (h0 : (chkP p).2 = 0) (ha : SecL p a) (hb : SecL (erPg f p) b) (hc : SecL (erPg g p) c) (hr : SecA (erPg g p) r) (hg : ∀ i, i < p.bf.length → g i = true) : LessA p a b c r := by
  unfold SecL at ha hb hc
  unfold SecA at hr
  rw [if_neg (by simpa using h0)] at ha
  rw [if_neg (by rw [erPg_chk]; simpa using h0)] at hb hc hr
  obtain ⟨sa, ha, rfl⟩ := ha
  obtain ⟨sb, hb, rfl⟩ := hb
  obtain ⟨sc, hc, rfl⟩ := hc
  obtain ⟨sr, hr, rfl⟩ := hr
  have hsb : ∀ q, hasN sb q = true → hasN sa q = true := fun q hq => sec_less ha.1 hb.1 (fun i hi => bfAt_erIf f p.bf i hi) hq
  have hsc : ∀ q, hasN sc q = false := fun q => sec_none hc.1 (fun i => bfAt_erAll hg i) q
  have hsr : ∀ q, hasN sr q = false := fun q => sec_none hr.1 (fun i => bfAt_erAll hg i) q
  refine ⟨by simp, ?_, ?_, ?_, fun i hi => ⟨sa.testBit i, sb.testBit i, ?_, ?_, ?_, ?_⟩⟩
  · rw [List.length_map, List.length_range]; rfl
  · rw [List.length_map, List.length_range]; rfl
  · rw [chkL_end (fun o _ => allows_none hsr o), Nat.zero_add]; rfl
  · rw [List.getElem?_map, List.getElem?_range hi]; rfl
  · rw [List.getElem?_map, show (erPg f p).rg = p.rg from rfl, List.getElem?_range hi]; rfl
  · rw [List.getElem?_map, show (erPg g p).rg = p.rg from rfl, List.getElem?_range hi]
    have := hsc (i : Int)
    rw [has_bit] at this
    rw [Option.map_some, this]
  · intro h
    have := hsb (i : Int)
    rw [has_bit, has_bit] at this
    exact this h
end Lb
end Go.Proofs.YtbdhibgljaelbaaDoor
namespace Go.Proofs.YtbdhibgljaelbaaDoor
open Go Go.RowKit
namespace Lb
open Wd Nt Gr
set_option linter.unusedVariables false
set_option linter.unusedSimpArgs false
theorem rOk_more {h : Bool} {r rg : Int} (k : rOk h r rg = true) : rOk h r (rg + 1) = true := by
  unfold rOk at *
  cases h <;> simp at * <;> omega
theorem rOk_lt {h : Bool} {r rg : Int} (h0 : 0 ≤ rg) (k : rOk h r rg = true) : -1 ≤ r ∧ r < rg := by
  unfold rOk at k
  cases h <;> simp at k <;> omega
theorem opOk_more {rg : Int} {bufs : List Bf} {o : Op} (k : opOk rg bufs o = true) : opOk (rg + 1) bufs o = true := by
  unfold opOk rgOk at *
  simp only [Bool.and_eq_true, Bool.or_eq_true] at k ⊢
  obtain ⟨⟨k1, k2⟩, ⟨⟨⟨q, ⟨⟨⟨⟨hd, he⟩, ha⟩, hb⟩, hc⟩⟩, hp⟩, hl⟩, hm⟩ := k
  exact ⟨⟨k1, k2⟩, ⟨⟨⟨q, ⟨⟨⟨⟨rOk_more hd, rOk_more he⟩, ha.imp id rOk_more⟩, rOk_more hb⟩, rOk_more hc⟩⟩, hp⟩, hl⟩, hm⟩
/-- registers below rg -/
structure RgL (rg : Int) (o : Op) : Prop where
  d : -1 ≤ o.d ∧ o.d < rg
  e : -1 ≤ o.e ∧ o.e < rg
  a : -1 ≤ o.a ∧ o.a < rg
  b : -1 ≤ o.b ∧ o.b < rg
  c : -1 ≤ o.c ∧ o.c < rg
theorem opOk_lt {rg : Int} {bufs : List Bf} {o : Op} (h0 : 0 ≤ rg) (k : opOk rg bufs o = true) : RgL rg o := by
  unfold opOk rgOk at k
  simp only [Bool.and_eq_true, Bool.or_eq_true, decide_eq_true_eq] at k
  obtain ⟨⟨k1, k2⟩, ⟨⟨⟨q, ⟨⟨⟨⟨hd, he⟩, ha⟩, hb⟩, hc⟩⟩, hp⟩, hl⟩, hm⟩ := k
  refine ⟨rOk_lt h0 hd, rOk_lt h0 he, ?_, rOk_lt h0 hb, rOk_lt h0 hc⟩
  rcases ha with ha | ha
  · omega
  · exact rOk_lt h0 ha
/-- what stands ahead, but for registers from rg on -/
structure Rl (rg : Int) (s s' : Ah) : Prop where
  lp : s'.lp = s.lp
  md : ∀ i : Nat, (i : Int) < rg → s'.md i = s.md i
theorem Rl.has {rg r : Int} {s s' : Ah} (h : Rl rg s s') (hr : -1 ≤ r ∧ r < rg) : hasR s'.md r = hasR s.md r := by
  unfold hasR
  by_cases e : r = -1
  · rw [decide_eq_true e]; rfl
  · rw [h.md r.toNat (by omega)]
theorem setR_eq {m m' : Nat → Bool} {r : Int} {v : Bool} {i : Nat} (h : m' i = m i) : setR m' r v i = setR m r v i := by
  unfold setR
  split
  · rfl
  · exact h
theorem Rl.adv {rg : Int} {s s' : Ah} (h : Rl rg s s') (o : Op) : Rl rg (Lb.adv s o) (Lb.adv s' o) := by
  unfold Lb.adv
  by_cases h17 : o.k = 17
  · rw [if_pos h17, if_pos h17]
    refine ⟨?_, fun i hi => ?_⟩
    · show s'.lp.dropLast = s.lp.dropLast
      rw [h.lp]
    · show setR s'.md _ _ i = setR s.md _ _ i
      rw [h.lp]
      exact setR_eq (h.md i hi)
  · rw [if_neg h17, if_neg h17]
    refine ⟨?_, fun i hi => ?_⟩
    · show (if o.k = 16 then s'.lp ++ [o.d] else s'.lp) = _
      rw [h.lp]
    · exact setR_eq (setR_eq (h.md i hi))
theorem Rl.flt {rg : Int} {bufs : List Bf} {s s' : Ah} {o : Op} (h : Rl rg s s') (h0 : 0 ≤ rg) (hf : fltO rg bufs s o = 0) : fltO (rg + 1) bufs s' o = 0 := by
  have hk := (flt_zero hf).1
  have hl := opOk_lt h0 hk
  have hk' := opOk_more hk
  have hm : misP s' o = misP s o := by
    unfold misP
    rw [h.lp, h.has hl.d]
  have h2 : fltO (rg + 1) bufs s' o = fltO rg bufs s o := by
    unfold fltO
    rw [hk, hk', hm, h.lp, h.has hl.a, h.has hl.b, h.has hl.c]
  rw [h2, hf]
theorem chkG_more {rg : Int} {bufs : List Bf} (h0 : 0 ≤ rg) : ∀ {ops : List Op} {s s' : Ah} {n m : Nat}, Rl rg s s' → (chkG rg bufs ops s n).2 = 0 → chkG (rg + 1) bufs ops s' m = (m + ops.length, 0)
  | [], s, s', n, m, h, hc => by
    unfold chkG at hc ⊢
    rw [h.lp]
    dsimp only at hc
    rw [hc]
    rfl
  | o :: ops, s, s', n, m, h, hc => by
    unfold chkG at hc ⊢
    by_cases hf : fltO rg bufs s o = 0
    · rw [if_neg (by simpa using hf)] at hc
      rw [if_neg (by simpa using h.flt h0 hf), chkG_more h0 (h.adv o) hc, List.length_cons]
      congr 1
      omega
    · rw [if_pos hf] at hc
      exact absurd hc hf
/-- a constant made into a register of its own, ahead -/
def cstO (rg n : Int) : Op := ⟨1, rg, -1, -1, -1, -1, 0, n⟩
def aheadP (p : Pg) (n : Int) : Pg := ⟨p.rg + 1, p.bf, cstO p.rg n :: p.op⟩
theorem ahead_chk {p : Pg} {n : Int} (h : (chkP p).2 = 0) (hr : p.rg ≤ 60) (hl : p.op.length ≤ 65535) (hn : 0 ≤ n ∧ n ≤ 18446744073709551615) : chkP (aheadP p n) = (p.op.length + 1, 0) := by
  have H := ok_of h
  obtain ⟨r1, r2, r3, r4, r5⟩ := ref_zero H.ref
  have hz : refP p = 0 := H.ref
  have h1 : refP (aheadP p n) = 0 := by
    unfold refP at hz ⊢
    have e1 : (decide (64 < p.rg) || decide (32 < p.bf.length) || decide (65536 < p.op.length) || p.bf.any longB) = false := by
      rw [Bool.eq_false_iff]
      intro e
      rw [if_pos e] at hz
      cases hz
    rw [if_neg (by rw [e1]; decide)] at hz
    have e2 : (decide (p.rg < 0) || p.bf.any wrongB) = false := by
      rw [Bool.eq_false_iff]
      intro e
      rw [if_pos e] at hz
      cases hz
    simp only [Bool.or_eq_false_iff, decide_eq_false_iff_not] at e1 e2
    show (if decide (64 < p.rg + 1) || decide (32 < p.bf.length) || decide (65536 < p.op.length + 1) || p.bf.any longB then (3 : Int) else if decide (p.rg + 1 < 0) || p.bf.any wrongB then 2 else 0) = 0
    rw [decide_eq_false (by omega : ¬ 64 < p.rg + 1), decide_eq_false e1.1.1.2, decide_eq_false (by omega : ¬ 65536 < p.op.length + 1), e1.2, decide_eq_false (by omega : ¬ p.rg + 1 < 0), e2.2]
    rfl
  have hc : (chkG p.rg p.bf p.op ah0 0).2 = 0 := by
    unfold chkP at h
    rw [if_neg (by simpa using H.ref)] at h
    exact h
  unfold chkP
  rw [if_neg (by simpa using h1)]
  show chkG (p.rg + 1) p.bf (cstO p.rg n :: p.op) ah0 0 = _
  have ho : opOk (p.rg + 1) p.bf (cstO p.rg n) = true := by
    unfold opOk rgOk plOk rOk cstO
    simp [hD, hE, hA, hB, hC, mm, leI, moI]
    omega
  have hf : fltO (p.rg + 1) p.bf ah0 (cstO p.rg n) = 0 := by
    unfold fltO
    rw [ho]
    simp [misP, cstO, ah0, hasR]
  unfold chkG
  rw [if_neg (by simpa using hf), chkG_more (n := 0) r4 (s := ah0) ?_ hc]
  · congr 1
    omega
  · refine ⟨rfl, fun i hi => ?_⟩
    show setR (setR ah0.md p.rg true) (-1) true i = ah0.md i
    unfold setR
    rw [if_neg (by simp), if_neg (by rintro ⟨_, e⟩; omega)]
theorem chkL_off (bufs : List Bf) (s : Nat) : ∀ (ops : List Op) (n : Nat), chkL bufs s ops (n + 1) = ((chkL bufs s ops n).1 + 1, (chkL bufs s ops n).2)
  | [], n => rfl
  | o :: ops, n => by
    unfold chkL
    split
    · exact chkL_off bufs s ops (n + 1)
    · rfl
theorem allowsN_has {bufs : List Bf} {s s' : Nat} (h : ∀ q, hasN s q = hasN s' q) (o : Op) : allowsN bufs s o = allowsN bufs s' o := by
  unfold allowsN
  rw [h, h, h]
theorem chkL_has {bufs : List Bf} {s s' : Nat} (h : ∀ q, hasN s q = hasN s' q) : ∀ (ops : List Op) (n : Nat), chkL bufs s ops n = chkL bufs s' ops n
  | [], n => rfl
  | o :: ops, n => by
    unfold chkL
    rw [allowsN_has h, chkL_has h ops]
theorem Ok.rgl {p : Pg} (H : Ok p) {o : Op} (ho : o ∈ p.op) : RgL p.rg o := by
  obtain ⟨k, hk⟩ := List.mem_iff_getElem?.1 ho
  exact opOk_lt (ref_zero H.ref).2.2.2.1 (flt_zero (H.flt k o hk)).1
/-- what is secret with a register more -/
theorem ahead_sec {p : Pg} {n : Int} {a c : Nat} (H : Ok p) (ha : IsSec p.bf p.op a) (hc : IsSec p.bf (cstO p.rg n :: p.op) c) : (∀ q, hasN c q = hasN a q) ∧ hasN a p.rg = false := by
  refine ⟨fun q => (sec_same ha hc ?_ ?_ q).symm, ?_⟩
  · intro o ho hh
    rcases List.mem_cons.1 ho with rfl | ho
    · rcases hh with hh | hh | hh | hh
      · exact absurd hh.1 (by show (1 : Int) ≠ 14; decide)
      · exact absurd hh.1 (by show ¬ (0 : Int) ≤ -1; decide)
      · exact absurd hh.1 (by show ¬ (0 : Int) ≤ -1; decide)
      · exact absurd hh.1 (by show ¬ (0 : Int) ≤ -1; decide)
    · exact ha.closed o ho hh
  · intro o ho hh
    exact hc.closed o (List.mem_cons_of_mem _ ho) hh
  · rw [Bool.eq_false_iff]
    intro hq
    have := ha.least (S := fun q => q < p.rg) (fun o ho _ => ⟨fun _ => (H.rgl ho).d.2, fun _ => (H.rgl ho).e.2⟩) hq
    omega
/-- a program with its buffers in the other order -/
def revP (p : Pg) : Pg := ⟨p.rg, p.bf.reverse, p.op.map (reNo (p.bf.length : Int))⟩
theorem Ok.bfl {p : Pg} (H : Ok p) {o : Op} (ho : o ∈ p.op) (hm : o.k = 14 ∨ o.k = 15) : 0 ≤ o.bf ∧ o.bf < p.bf.length := by
  obtain ⟨k, hk⟩ := List.mem_iff_getElem?.1 ho
  have h1 := (flt_zero (H.flt k o hk)).1
  unfold opOk at h1
  have hmm : mm o.k = true := by unfold mm; simp; exact hm
  rw [hmm] at h1
  simp only [Bool.and_eq_true] at h1
  have h2 := h1.2.1.1.2
  unfold plOk at h2
  rw [if_pos rfl] at h2
  simp only [Bool.and_eq_true, decide_eq_true_eq] at h2
  exact ⟨h2.1.1.1, h2.1.1.2⟩
theorem rev_sec_at {p : Pg} (H : Ok p) {o : Op} (ho : o ∈ p.op) (hm : o.k = 14 ∨ o.k = 15) : bfAt p.bf.reverse (reNo (p.bf.length : Int) o).bf = bfAt p.bf o.bf := by
  rw [reNo_bf hm, bfAt_rev (H.bfl ho hm).1 (H.bfl ho hm).2]
theorem rev_sec {p : Pg} {a b : Nat} (H : Ok p) (ha : IsSec p.bf p.op a) (hb : IsSec (revP p).bf (revP p).op b) (q : Int) : hasN b q = hasN a q := by
  refine (sec_same ha hb ?_ ?_ q).symm
  · intro o ho hh
    obtain ⟨x, hx, rfl⟩ := List.mem_map.1 ho
    rw [reNo_k, reNo_a, reNo_b, reNo_c] at hh
    rw [reNo_d, reNo_e]
    refine ha.closed x hx ?_
    rcases hh with hh | hh
    · left
      have := hh.2
      rw [show (revP p).bf = p.bf.reverse from rfl, rev_sec_at H hx (.inl hh.1)] at this
      exact ⟨hh.1, this⟩
    · exact .inr hh
  · intro x hx hh
    have := hb.closed (reNo (p.bf.length : Int) x) (List.mem_map.2 ⟨x, hx, rfl⟩) (by
      rw [reNo_k, reNo_a, reNo_b, reNo_c]
      rcases hh with hh | hh
      · left
        rw [show (revP p).bf = p.bf.reverse from rfl, rev_sec_at H hx (.inl hh.1)]
        exact hh
      · exact .inr hh)
    rw [reNo_d, reNo_e] at this
    exact this
theorem rev_allows {p : Pg} (H : Ok p) (s : Nat) {o : Op} (ho : o ∈ p.op) : allowsN (revP p).bf s (reNo (p.bf.length : Int) o) = allowsN p.bf s o := by
  unfold allowsN
  rw [reNo_k, reNo_a, reNo_b, reNo_d]
  by_cases hk : o.k = 15
  · rw [show (revP p).bf = p.bf.reverse from rfl, rev_sec_at H ho (.inr hk)]
  · rw [decide_eq_true hk, Bool.true_or, Bool.true_or, Bool.true_or, Bool.true_or]
theorem rev_chkL {p : Pg} (H : Ok p) (s : Nat) : ∀ (ops : List Op) (n : Nat), (∀ o ∈ ops, o ∈ p.op) → chkL (revP p).bf s (ops.map (reNo (p.bf.length : Int))) n = chkL p.bf s ops n
  | [], n, _ => rfl
  | o :: ops, n, h => by
    rw [List.map_cons]
    unfold chkL
    rw [rev_allows H s (h o (by simp)), rev_chkL H s ops (n + 1) (fun x hx => h x (by simp [hx]))]
/-- what SecrecyNamed asks -/
structure NamedA (p : Pg) (a b c : List Bool) (r t u : Nat × Int) : Prop where
  ab : a = b
  cl : c.length = a.length + 1
  ca : c.take a.length = a
  cn : c[a.length]? = some false
  rt : r = t
  ru : u = (r.1 + 1, r.2)
theorem namedA {p : Pg} {n : Int} {a b c : List Bool} {r t u : Nat × Int} (h0 : (chkP p).2 = 0) (hr60 : p.rg ≤ 60) (hl : p.op.length ≤ 65535) (hn : 0 ≤ n ∧ n ≤ 18446744073709551615)
    (ha : SecL p a) (hb : SecL (revP p) b) (hc : SecL (aheadP p n) c) (hr : SecA p r) (ht : SecA (revP p) t) (hu : SecA (aheadP p n) u) : NamedA p a b c r t u := by
  have H := ok_of h0
  have hrv : chkP (revP p) = chkP p := chk_rev p.rg p.bf p.op
  have hah := ahead_chk h0 hr60 hl hn
  have h4 := (ref_zero H.ref).2.2.2.1
  unfold SecL at ha hb hc
  unfold SecA at hr ht hu
  rw [if_neg (by simpa using h0)] at ha hr
  rw [if_neg (by rw [hrv]; simpa using h0)] at hb ht
  rw [if_neg (by rw [hah]; exact fun h => h rfl)] at hc hu
  obtain ⟨sa, ha, rfl⟩ := ha
  obtain ⟨sb, hb, rfl⟩ := hb
  obtain ⟨sc, hc, rfl⟩ := hc
  obtain ⟨sr, hr, rfl⟩ := hr
  obtain ⟨st, ht, rfl⟩ := ht
  obtain ⟨su, hu, rfl⟩ := hu
  obtain rfl := ha.1.uniq hr.1
  obtain rfl := hb.1.uniq ht.1
  obtain rfl := hc.1.uniq hu.1
  have e1 := rev_sec H ha.1 hb.1
  obtain ⟨e2, e3⟩ := ahead_sec (n := n) H ha.1 hc.1
  have b1 : ∀ i : Nat, sb.testBit i = sa.testBit i := fun i => by rw [← has_bit, ← has_bit]; exact e1 _
  have b2 : ∀ i : Nat, sc.testBit i = sa.testBit i := fun i => by rw [← has_bit, ← has_bit]; exact e2 _
  have hN : ((List.range p.rg.toNat).map fun i => sa.testBit i).length = p.rg.toNat := by simp
  have hrg1 : (aheadP p n).rg.toNat = p.rg.toNat + 1 := by show (p.rg + 1).toNat = _; omega
  refine ⟨?_, ?_, ?_, ?_, ?_, ?_⟩
  · exact List.map_congr_left (fun i _ => (b1 i).symm)
  · rw [hN, List.length_map, List.length_range, hrg1]
  · rw [hN, hrg1, List.range_succ, List.map_append, List.take_left' (by simp)]
    exact List.map_congr_left (fun i _ => b2 i)
  · rw [hN, List.getElem?_map, hrg1, List.getElem?_range (by omega), Option.map_some, b2, ← has_bit, Int.toNat_of_nonneg h4, e3]
  · show _ = chkL (revP p).bf sb (p.op.map (reNo (p.bf.length : Int))) 0
    rw [rev_chkL H sb p.op 0 (fun _ h => h), chkL_has e1]
  · show chkL p.bf sc (cstO p.rg n :: p.op) 0 = _
    have hal : allowsN p.bf sc (cstO p.rg n) = true := by unfold allowsN cstO; simp
    rw [show chkL p.bf sc (cstO p.rg n :: p.op) 0 = chkL p.bf sc p.op 1 by rw [chkL, if_pos hal], chkL_off, chkL_has e2]
end Lb
end Go.Proofs.YtbdhibgljaelbaaDoor
namespace Go.Proofs.YtbdhibgljaelbaaDoor
open Go Go.RowKit
namespace Lb
open Wd Nt Gr
set_option linter.unusedVariables false
set_option linter.unusedSimpArgs false
/-- the first k turned about -/
def rvB (k : Nat) (bs : List Bf) : List Bf := bs.reverse.take k ++ bs.drop k
theorem rvB_len {k : Nat} {bs : List Bf} (h : k ≤ bs.length) : (rvB k bs).length = bs.length := by
  unfold rvB
  rw [List.length_append, List.length_take, List.length_reverse, List.length_drop]
  omega
theorem rvB_0 (bs : List Bf) : rvB 0 bs = bs := by unfold rvB; simp
theorem rvB_all (bs : List Bf) : rvB bs.length bs = bs.reverse := by
  unfold rvB
  rw [List.drop_length, List.append_nil, List.take_of_length_le (by simp)]
theorem rvB_set {k : Nat} {bs : List Bf} {x : Bf} (h : k < bs.length) (hx : bs[bs.length - 1 - k]? = some x) : (rvB k bs).set k x = rvB (k + 1) bs := by
  unfold rvB
  have hl : (bs.reverse.take k).length = k := by rw [List.length_take, List.length_reverse]; omega
  rw [List.set_append_right _ _ (by rw [hl]; exact Nat.le_refl _), hl, Nat.sub_self, List.take_add_one, List.getElem?_reverse h, hx, List.append_assoc]
  congr 1
  rw [List.drop_eq_getElem_cons h]
  rfl
/-- the first k with other buffers -/
def rnO (n : Int) (k : Nat) (os : List Op) : List Op := (os.take k).map (reNo n) ++ os.drop k
theorem rnO_len (n : Int) (k : Nat) (os : List Op) : (rnO n k os).length = os.length := by
  unfold rnO
  rw [List.length_append, List.length_map, List.length_take, List.length_drop]
  omega
theorem rnO_0 (n : Int) (os : List Op) : rnO n 0 os = os := by unfold rnO; simp
theorem rnO_all (n : Int) (os : List Op) : rnO n os.length os = os.map (reNo n) := by
  unfold rnO
  rw [List.drop_length, List.append_nil, List.take_length]
theorem rnO_get {n : Int} {k : Nat} {os : List Op} : (rnO n k os)[k]? = os[k]? := by
  unfold rnO
  rcases Nat.lt_or_ge k os.length with h | h
  · have hl : ((os.take k).map (reNo n)).length = k := by rw [List.length_map, List.length_take]; omega
    rw [List.getElem?_append_right (by rw [hl]; exact Nat.le_refl _), hl, Nat.sub_self, List.getElem?_drop, Nat.add_zero]
  · rw [List.getElem?_eq_none h, List.getElem?_eq_none (by rw [List.length_append, List.length_map, List.length_take, List.length_drop]; omega)]
theorem rnO_set {n : Int} {k : Nat} {os : List Op} {o : Op} (h : os[k]? = some o) : (rnO n k os).set k (reNo n o) = rnO n (k + 1) os := by
  have hk := (List.getElem?_eq_some_iff.1 h).1
  unfold rnO
  have hl : ((os.take k).map (reNo n)).length = k := by rw [List.length_map, List.length_take]; omega
  rw [List.set_append_right _ _ (by rw [hl]; exact Nat.le_refl _), hl, Nat.sub_self, List.take_add_one, h, List.map_append, List.append_assoc]
  congr 1
  rw [List.drop_eq_getElem_cons hk]
  rfl
theorem rnO_skip {n : Int} {k : Nat} {os : List Op} {o : Op} (h : os[k]? = some o) (hn : ¬ (o.k = 14 ∨ o.k = 15)) : rnO n (k + 1) os = rnO n k os := by
  rw [← rnO_set h]
  have e : reNo n o = o := by unfold reNo; rw [if_neg hn]
  rw [e]
  have hg : (rnO n k os)[k]? = some o := rnO_get.trans h
  apply List.ext_getElem?
  intro i
  rw [List.getElem?_set]
  split
  · rename_i hi
    subst hi
    split
    · exact hg.symm
    · rename_i h2
      rw [List.getElem?_eq_none (by omega)]
  · rfl
theorem reNo_wf {n : Int} {o : Op} (h : o.wf) (hb : (o.k = 14 ∨ o.k = 15) → I64 (n - 1 - o.bf)) : (reNo n o).wf := by
  unfold reNo
  split
  · rename_i hk
    exact ⟨h.k, h.d, h.e, h.a, h.b, h.c, hb hk, h.im⟩
  · exact h
theorem revP_wf {p : Pg} (hp : p.wf) (H : Ok p) : (revP p).wf := by
  refine ⟨hp.rg, fun b hb => hp.bf b (List.mem_reverse.1 hb), fun o ho => ?_⟩
  obtain ⟨x, hx, rfl⟩ := List.mem_map.1 ho
  refine reNo_wf (hp.op x hx) (fun hk => ?_)
  have h1 := H.bfl hx hk
  have h2 := (ref_zero H.ref).2.1
  unfold I64
  omega
theorem aheadP_wf {p : Pg} {n : Int} (hp : p.wf) (H : Ok p) (hn : W n) : (aheadP p n).wf := by
  have h1 := (ref_zero H.ref).1
  have h4 := (ref_zero H.ref).2.2.2.1
  refine ⟨?_, hp.bf, fun o ho => ?_⟩
  · show I64 (p.rg + 1)
    unfold I64
    omega
  · rcases List.mem_cons.1 ho with rfl | ho
    · have n1 : I64 (-1) := by unfold I64; decide
      exact ⟨show I64 1 by unfold I64; decide, hp.rg, n1, n1, n1, n1, show I64 0 by unfold I64; decide, hn⟩
    · exact hp.op o ho
end Lb
end Go.Proofs.YtbdhibgljaelbaaDoor
