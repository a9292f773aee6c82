/- A stack of 32 bytes: what is pushed and popped; the statements' own stack. | slices.Equal at events; step.Same. | Rows of regions that share their bytes; Same of rows of one's own. | StepCalls' walk. -/
import Derived.Test.YtikbnfhnimjmmaaGreatDoorS16
import Derived.Test.YtikbnfhnimjmmaaGreatDoorA11
import Derived.Test.YtikbnfhnimjmmaaGreatDoorX7
namespace Go.Proofs.YtikbnfhnimjmmaaGreatDoor
open Go Go.RowKit Go.Shelf
namespace Sp
open Wd Nt Mm Is
set_option linter.unusedVariables false
set_option linter.unusedSimpArgs false
theorem word_eq {bs cs : List Int} (k n : Nat) (h : ∀ j, k ≤ j → j < k + n → bt bs j = bt cs j) : wordN bs k n = wordN cs k n := by
  induction n generalizing k with
  | zero => rfl
  | succ n ih =>
    show bt bs k + 256 * wordN bs (k + 1) n = bt cs k + 256 * wordN cs (k + 1) n
    rw [h k (Nat.le_refl _) (by omega), ih (k + 1) (fun j h1 h2 => h j (by omega) (by omega))]
theorem word_zs (m k n : Nat) : wordN (zs m) k n = 0 := by
  induction n generalizing k with
  | zero => rfl
  | succ n ih =>
    show bt (zs m) k + 256 * wordN (zs m) (k + 1) n = 0
    rw [ih, show bt (zs m) k = 0 from by
      unfold bt zs
      rcases Nat.lt_or_ge k m with h | h
      · rw [List.getElem?_replicate, if_pos h]; rfl
      · rw [List.getElem?_replicate, if_neg (by omega)]; rfl]
    rfl
def stR : Reg := ⟨64, zs 32, true⟩
structure OneR (r : Reg) : Prop where
  base : r.base = 64
  len : r.bytes.length = 32
  write : r.write = true
theorem stR_one : OneR stR := ⟨rfl, zs_len 32, rfl⟩
theorem OneR.put {r : Reg} (h : OneR r) (p v : Int) : OneR (r.put p v) := ⟨h.base, (putN_len ..).trans h.len, h.write⟩
theorem OneR.hits {r : Reg} (h : OneR r) {p : Int} (h0 : 64 ≤ p) (h1 : p ≤ 88) : Hits [r] p 8 0 r := by
  have hl : r.len = 32 := by unfold Reg.len; rw [h.len]; rfl
  exact ⟨rfl, by rw [h.base]; exact h0, by rw [h.base, hl]; omega, by rw [h.base, hl]; omega⟩
theorem hits_one {r s : Reg} {p n : Int} {i : Nat} (h : Hits [r] p n i s) : i = 0 ∧ s = r := by
  have h1 := h.1
  rcases i with _ | i
  · exact ⟨rfl, by simpa using h1.symm⟩
  · simp at h1
theorem OneR.load {r : Reg} (h : OneR r) {p v e : Int} (h0 : 64 ≤ p) (h1 : p ≤ 88) (hl : LoadO [r] p v e) : v = wordN r.bytes (p - 64).toNat 8 ∧ e = 0 := by
  rcases hl with ⟨i, s, a, b, c⟩ | ⟨a, _⟩
  · obtain ⟨rfl, rfl⟩ := hits_one a
    exact ⟨by rw [b, h.base], c⟩
  · exact absurd (h.hits h0 h1) (a _ _)
theorem OneR.store {r : Reg} (h : OneR r) {p v e : Int} {M' : List Reg} (h0 : 64 ≤ p) (h1 : p ≤ 88) (hl : StoreO [r] p v M' e) : M' = [r.put p v] ∧ e = 0 := by
  rcases hl with ⟨i, s, a, _, b, c⟩ | ⟨a, _⟩
  · obtain ⟨rfl, rfl⟩ := hits_one a
    exact ⟨b, c⟩
  · have := a _ _ (h.hits h0 h1); rw [h.write] at this; cases this
theorem word_near {r : Reg} (h : OneR r) {p v : Int} (hv : W v) (h0 : 64 ≤ p) (h1 : p ≤ 88) : wordN (r.put p v).bytes (p - 64).toNat 8 = v := by
  unfold Reg.put
  rw [h.base]
  exact word_put hv (by rw [h.len]; omega)
theorem word_apart {r : Reg} (h : OneR r) {p q v : Int} (h0 : 64 ≤ p) (h1 : p ≤ 88) (g0 : 64 ≤ q) (g1 : q ≤ 88) (ha : p + 8 ≤ q ∨ q + 8 ≤ p) : wordN (r.put p v).bytes (q - 64).toNat 8 = wordN r.bytes (q - 64).toNat 8 := by
  refine word_eq _ _ fun j j0 j1 => ?_
  unfold Reg.put
  rw [h.base, bt_putN _ _ _ _ _ (by rw [h.len]; omega), if_neg (by omega)]
/-- pushed, popped -/
theorem ref_push {x : Nat} (hx : x < 16) : refE (rr2 28 0 x) 1 = 0 := by
  rcases lt16 hx with rfl | rfl | rfl | rfl | rfl | rfl | rfl | rfl | rfl | rfl | rfl | rfl | rfl | rfl | rfl | rfl <;> rfl
theorem ref_pop {x : Nat} (hx : x < 16) : refE (rr2 29 x 0) 1 = 0 := by
  rcases lt16 hx with rfl | rfl | rfl | rfl | rfl | rfl | rfl | rfl | rfl | rfl | rfl | rfl | rfl | rfl | rfl | rfl <;> rfl
def nextS (s : Stt) : Stt := { s with pc := u64 (s.pc + u64 1) }
theorem do_push {s n : Stt} {x : Nat} {p e : Int} {r : Reg} {M' : List Reg} {l : List Ev} (h : DoO s (rr2 28 0 x) 1 [r] n l M' e) (hx : x < 16) (hr : OneR r) (hs : s.r 4 = p + 8) (h0 : 64 ≤ p) (h1 : p ≤ 88) :
    e = 0 ∧ M' = [r.put p (s.r x)] ∧ n = (nextS s).set 4 p := by
  have hp : u64 (s.r 4 - 8) = p := by rw [hs]; unfold u64; omega
  rcases h with ⟨a, _⟩ | ⟨_, v, hX, hn⟩
  · exact absurd (ref_push hx) a
  · have ht : tch s (rr2 28 0 x) = ⟨3, p⟩ := by show (⟨3, u64 (s.r 4 - 8)⟩ : Ev) = _; rw [hp]
    rw [ht] at hX
    rcases hX with ⟨a, _⟩ | ⟨_, hst, hv⟩ | ⟨_, a, _⟩
    · exact absurd (show (3 : Int) = 2 from a) (by decide)
    · obtain ⟨hM, he⟩ := hr.store h0 h1 hst
      refine ⟨he, by rw [hM]; rfl, ?_⟩
      rcases hn with ⟨b, _⟩ | ⟨_, b, _⟩
      · exact absurd he b
      · rw [b]
        show (nextS s).set 4 (u64 (s.r 4 - 8)) = _
        rw [hp]
    · exact absurd rfl a
theorem do_pop {s n : Stt} {x : Nat} {p e : Int} {r : Reg} {M' : List Reg} {l : List Ev} (h : DoO s (rr2 29 x 0) 1 [r] n l M' e) (hx : x < 16) (hr : OneR r) (hs : s.r 4 = p) (h0 : 64 ≤ p) (h1 : p ≤ 88) :
    e = 0 ∧ M' = [r] ∧ n = ((nextS s).set 4 (p + 8)).set x (wordN r.bytes (p - 64).toNat 8) := by
  have hp : u64 (s.r 4 + 8) = p + 8 := by rw [hs]; unfold u64; omega
  rcases h with ⟨a, _⟩ | ⟨_, v, hX, hn⟩
  · exact absurd (ref_pop hx) a
  · have ht : tch s (rr2 29 x 0) = ⟨2, p⟩ := by show (⟨2, s.r 4⟩ : Ev) = _; rw [hs]
    rw [ht] at hX
    rcases hX with ⟨_, hst, hM⟩ | ⟨a, _⟩ | ⟨a, _⟩
    · obtain ⟨hv, he⟩ := hr.load h0 h1 hst
      refine ⟨he, hM, ?_⟩
      rcases hn with ⟨b, _⟩ | ⟨_, b, _⟩
      · exact absurd he b
      · rw [b]
        show ((nextS s).set 4 (u64 (s.r 4 + 8))).set x v = _
        rw [hp, hv]
    · exact absurd (show (2 : Int) = 3 from a) (by decide)
    · exact absurd rfl a
/-- the state that a stack begins with -/
def stS : Stt := ⟨fun k => if k = 4 then 80 else 0, 1000, false, false, false⟩
theorem stS_wf : stS.wf := ⟨fun k => by unfold stS; dsimp only; split <;> exact ⟨by omega, by omega⟩, (show W 1000 from ⟨by decide, by decide⟩)⟩
theorem stP_built : Tryz.prog.built 42 [(1, .int .u64 1000)] = some #[.int .u64 0, .int .u64 0, .int .u64 0, .int .u64 0, .int .u64 0, .int .u64 0, .int .u64 0, .int .u64 0, .int .u64 0, .int .u64 0, .int .u64 0, .int .u64 0, .int .u64 0, .int .u64 0, .int .u64 0, .int .u64 0, .int .u64 1000, .bool false, .bool false, .bool false] := by kernel_rfl
def stP : Stt := ⟨fun _ => 0, 1000, false, false, false⟩
theorem stP_one : (#[.int .u64 0, .int .u64 0, .int .u64 0, .int .u64 0, .int .u64 0, .int .u64 0, .int .u64 0, .int .u64 0, .int .u64 0, .int .u64 0, .int .u64 0, .int .u64 0, .int .u64 0, .int .u64 0, .int .u64 0, .int .u64 0, .int .u64 1000, .bool false, .bool false, .bool false] : Array Value).all (·.oneCell') = true := stP.vs_one
theorem stP_size : s0.vs.size = (#[.int .u64 0, .int .u64 0, .int .u64 0, .int .u64 0, .int .u64 0, .int .u64 0, .int .u64 0, .int .u64 0, .int .u64 0, .int .u64 0, .int .u64 0, .int .u64 0, .int .u64 0, .int .u64 0, .int .u64 0, .int .u64 0, .int .u64 1000, .bool false, .bool false, .bool false] : Array Value).size := rfl
section
variable {R : World → Nat → Nat → Value → List Reg → Prop}
def StN (R : World → Nat → Nat → Value → List Reg → Prop) (W : World) (e : Ending) (w' : World) : Prop := ∃ D, e = .returned (.tuple #[.pointer (some D), .int .i64 0]) ∧ Below W.heap.size W w' ∧ R w' W.heap.size w'.heap.size (.pointer (some D)) [stR]
theorem st_good : Mm.Good [stR] := by
  rw [Good.iff]
  refine ⟨by decide, fun r hr => ?_, List.pairwise_singleton _ _⟩
  obtain rfl : r = stR := by simpa using hr
  unfold Reg.len
  rw [show stR.bytes.length = 32 from zs_len 32]
  show _ ∧ _
  simp [stR]
theorem st_new (mc : MemD R) (W : World) (g1 gl : Nat) (h1 : Bk W g1 5 (b8 (zs 32)).toArray) (hl : Bk W gl 106 #[.int .u64 64, .slice (some ⟨g1, 0, none⟩) 32 32, .bool true]) :
    Calls Tryz.prog 27 #[.slice (some ⟨gl, 0, none⟩) 1 1] W (StN R W) := by
  have hrow : Hid (AtR W (some ⟨gl, 0, none⟩) 1 [stR]) := by
    refine Lib.hid ⟨rfl, ?_, fun _ => ⟨_, rfl, hl.lt, ?_⟩⟩
    · intro r hr
      obtain rfl : r = stR := by simpa using hr
      exact ⟨(by unfold Wd.W; decide : Wd.W 64), zs_bs _⟩
    · intro j r hj
      rcases j with _ | j
      · obtain rfl : stR = r := by simpa using hj
        exact ⟨_, 32, 32, hl.cell 0, hl.cell 1, hl.cell 2, bk_rd8 h1 (zs_len 32) (zs_bs 32), Nat.le_refl _, by omega⟩
      · simp at hj
  refine (mc.new _ 1 1 [stR] W hrow (by omega)).mono ?_
  rintro e w' ⟨hb2, x, hx, ⟨h0, _⟩ | ⟨_, p, M, rfl, hp, hr⟩⟩
  · exact absurd (good_chk st_good hx) h0
  · obtain rfl : M = [stR] := List.perm_singleton.1 hp
    obtain ⟨⟨D, rfl⟩, _⟩ := mc.shape hr
    exact ⟨D, rfl, hb2, hr⟩
theorem ret_stk {fn : Func} {p u : Tmp} {R : Ending → World → Prop} {a : Act} {w : World} {g : Nat} {s : Stt} {x : Value} (h : fn.results = #[.cell p 42, .tmp u]) (hp : a.tmps.getD p undef = .pointer (some ⟨g, 0, none⟩)) (hu : a.tmps.getD u undef = x) (hd : a.defers = [])
    (hb : Bk w g 42 s.vs) (hR : R (.returned (.tuple #[.agg s.vs, x])) w) : bodyPost Tryz.prog fn R .ret a w := by
  refine bodyPost_ret (v := .tuple #[.agg s.vs, x]) ?_ hd hR
  have hp' : a.tmps[p]?.getD undef = .pointer (some ⟨g, 0, none⟩) := by simpa using hp
  have hu' : a.tmps[u]?.getD undef = x := by simpa using hu
  simp [results, h, hp', hu', asAddr, Sem.run_bind, run_loadVar_row w g 42 42 s.vs (0, 0) _ hb Tryz.underlying42 rfl i20]
def StkP (R : World → Nat → Nat → Value → List Reg → Prop) (w : World) (e : Ending) (w' : World) : Prop := ∃ D B E, e = .returned (.tuple #[.agg stS.vs, .pointer (some D)]) ∧ R w' B E (.pointer (some D)) [stR] ∧ Below w.heap.size w w' ∧ w.heap.size ≤ B
set_option maxRecDepth 100000 in
set_option maxHeartbeats 4000000 in
theorem stack_c (mc : MemD R) (w : World) : Calls Tryz.prog 21 #[] w (StkP R w) := by
  have hmk : ∀ W, (Instr.makeSlice 104 (.int .i64 32) (.int .i64 32)).run Tryz.prog W = .ok (.slice (some ⟨W.heap.size, 0, none⟩) 32 32) (W.alloc (.cells (b8 (zs 32)).toArray 5)) := fun W => make_8 32 (by omega) W
  have HS := Lib.hid (fun W g1 gl h1 hl => st_new mc W g1 gl h1 hl)
  generalize (b8 (zs 32)).toArray = bb at *
  go_enter Tryz.func21, Tryz.ntmps21
  go_upto_region 2 with (first | (go_at_call 27; refine (HS.out _ (w.heap.size + 1) (w.heap.size + 1 + 1) ((Bk.new' (by simp)).alloc _) (Bk.new' (by simp))).mono ?_; rintro e y ⟨D, rfl, hb, hr⟩; have HR := Lib.hid hr; have HB := Lib.hid hb; clear hb hr) | fail)
  have HW := Lib.hid (bel_tr (bel_al (bel_al (bel_alloc _) _) _) HB.out)
  have HZ := Lib.hid (show Bk y w.heap.size 42 s0.vs from (((Bk.new w 42 s0.vs).alloc _).alloc _).below HB.out (by simp; omega))
  obtain ⟨B, HBd⟩ : ∃ B, Hid (w.heap.size < B ∧ R y B y.heap.size (.pointer (some D)) [stR]) := ⟨_, Lib.hid ⟨by simp; omega, HR.out⟩⟩
  clear HB HR HS hmk
  go_upto_region 4 with (first | (refine built_s _ _ stP_built #[(1, .const (.int .u64 1000))] (some 12) rfl rfl rfl (by kernel_rfl) ?_) | (refine wpList_store_row rfl 42 (.tmp 4) (.tmp 12) rfl y.heap.size _ rfl rfl 42 s0.vs (Bk.new y 42 s0.vs) i20 stP_size stP_one ?_; rw [World.setRow_alloc_new]) | fail)
  change Code.wp _ _ _ _ (y.alloc (.cells stS.vs 42))
  have HY := Lib.hid (Bk.new y 42 stS.vs)
  have HZ2 := Lib.hid (HZ.out.alloc (.cells stS.vs 42))
  have HR2 := Lib.hid (mc.below (Lib.hid HBd.out.2) (bel_alloc (.cells stS.vs 42))).out
  have HW2 := Lib.hid (bel_tr HW.out (bel_alloc (.cells stS.vs 42)))
  have HB1 := Lib.hid HBd.out.1
  clear HZ HW HBd
  generalize y.heap.size = g at *
  generalize World.alloc _ _ = V at *
  go_wp2_with (first | (refine wpList_load_row rfl 42 (.tmp 4) rfl g rfl 42 stS.vs (0, 0) _ HY.out Tryz.underlying42 rfl i20 ?_) | (refine wpList_store_row rfl 42 (.tmp 0) (.tmp 15) rfl w.heap.size stS.vs rfl rfl 42 s0.vs HZ2.out i20 rfl stS.vs_one ?_) | fail)
  refine ret_stk rfl rfl rfl rfl (bk_row HZ2.out) ?_
  exact ⟨D, B, g, rfl, mc.keep HR2.out (kp_row V w.heap.size stS.vs) (.inr HB1.out), (Kp.row (Kp.of (B := w.heap.size) (E := w.heap.size) HW2.out) (Nat.le_refl _) stS.vs).below (Nat.le_refl _), Nat.le_of_lt HB1.out⟩
end
end Sp
end Go.Proofs.YtikbnfhnimjmmaaGreatDoor
namespace Go.Proofs.YtikbnfhnimjmmaaGreatDoor
open Go Go.RowKit Go.Shelf
namespace Sp
open Wd Nt Mm Is
set_option linter.unusedVariables false
set_option linter.unusedSimpArgs false
set_option maxRecDepth 100000 in
set_option maxHeartbeats 2000000 in
theorem sl_equal (A B : Option Addr) (n c m d Ba Bb : Nat) (xs ys : List Ev) (w : World) (ha : RdE w Ba A n xs) (hb : RdE w Bb B m ys) (hn : n ≤ 1000000) (hm : m ≤ 1000000) :
    Calls Tryz.prog 68 #[.slice A n c, .slice B m d] w fun e w' => e = .returned (.bool (decide (xs = ys))) ∧ Below w.heap.size w w' := by
  by_cases hnm : n = m
  · subst hnm
    go_enter Tryz.func68, Tryz.ntmps68
    go_wp2_with fail
    go_loopw [13] (fun i wr => ∃ k q : Nat, k ≤ n ∧ i = .int .i64 k ∧ (∀ j, j < k → nthE xs j = nthE ys j) ∧ wr = w.drewN q) (fun i _ => n - (intOf i).toNat)
    case atStart => exact ⟨0, 0, Nat.zero_le _, rfl, fun j hj => absurd hj (by omega), rfl⟩
    case round =>
      obtain ⟨k, q, hk, rfl, hz, rfl⟩ := hrel
      by_cases hlt : k < n
      · obtain ⟨ad, rfl, _, hca, hca2⟩ := ha.at_ hlt
        obtain ⟨bd, rfl, _, hcb, hcb2⟩ := hb.at_ hlt
        have hki : (k : Int) < (n : Int) := by omega
        have hne := evNe (nthE xs k).k (nthE xs k).a (nthE ys k).k (nthE ys k).a
        by_cases hx : nthE xs k = nthE ys k
        · have HZ : Hid (∀ j, j < k + 1 → nthE xs j = nthE ys j) := Lib.hid (fun j hj => by
            rcases Nat.lt_succ_iff_lt_or_eq.1 hj with h | rfl
            · exact hz j h
            · exact hx)
          have hne2 : ∀ W, (binOp .neq 51 (.agg #[.int .i64 (nthE xs k).k, .int .u64 (nthE xs k).a]) (.agg #[.int .i64 (nthE ys k).k, .int .u64 (nthE ys k).a])).run Tryz.prog W = .ok (.bool false) W := fun W => by rw [hne W]; simp [hx]
          clear hx hz ha hb hne
          generalize (nthE xs k).k = p1 at *
          generalize (nthE xs k).a = p2 at *
          generalize (nthE ys k).k = p3 at *
          generalize (nthE ys k).a = p4 at *
          go_wp2_with fail
          go_quiet (fail)
          go_wp2_with fail
          go_roundw
          case rel => exact ⟨k + 1, _, by omega, by go_num, HZ.out, rfl⟩
          case measure => (simp [intOf] <;> omega)
        · have hn2 : xs ≠ ys := fun e => hx (by rw [e])
          have HN := Lib.hid hn2
          have hne2 : ∀ W, (binOp .neq 51 (.agg #[.int .i64 (nthE xs k).k, .int .u64 (nthE xs k).a]) (.agg #[.int .i64 (nthE ys k).k, .int .u64 (nthE ys k).a])).run Tryz.prog W = .ok (.bool true) W := fun W => by
            rw [hne W]
            have : ({ k := (nthE xs k).k, a := (nthE xs k).a } : Ev) ≠ ⟨(nthE ys k).k, (nthE ys k).a⟩ := hx
            simp [this]
          clear hn2 hz ha hb hx hne
          generalize (nthE xs k).k = p1 at *
          generalize (nthE xs k).a = p2 at *
          generalize (nthE ys k).k = p3 at *
          generalize (nthE ys k).a = p4 at *
          go_wp2_with fail
          go_quiet (fail)
          go_wp2_with fail
          go_ret
          exact ⟨by rw [decide_eq_false HN.out]; rfl, below_drewN (below_drewN (Below.refl _ _) _) _⟩
      · obtain rfl : k = n := by omega
        have HE := Lib.hid (eq_of_nthE (by rw [ha.len, hb.len]) (fun j hj => hz j (by rw [ha.len] at hj; exact hj)))
        clear hz ha hb
        go_wp2_with fail
        go_ret
        exact ⟨by rw [decide_eq_true HE.out]; rfl, below_drewN (Below.refl _ _) _⟩
  · have hne : xs ≠ ys := fun e => hnm (by rw [← ha.len, ← hb.len, e])
    have HN := Lib.hid hne
    clear hne ha hb
    have hmi : ¬ ((n : Int) = (m : Int)) := by omega
    have hmb : ((n : Int) == (m : Int)) = false := by rw [beq_eq_false_iff_ne]; exact hmi
    have hmn : ((n : Int) != (m : Int)) = true := by rw [bne, hmb]; rfl
    go_enter Tryz.func68, Tryz.ntmps68
    go_wp2_with fail
    go_ret
    exact ⟨by rw [decide_eq_false HN.out]; rfl, Below.refl _ _⟩
theorem step_same (A B : Option Addr) (n c m d Ba Bb : Nat) (xs ys : List Ev) (w : World) (ha : RdE w Ba A n xs) (hb : RdE w Bb B m ys) (hn : n ≤ 1000000) (hm : m ≤ 1000000) :
    Calls Tryz.prog 25 #[.slice A n c, .slice B m d] w fun e w' => e = .returned (.bool (decide (xs = ys))) ∧ Below w.heap.size w w' := by
  have K := Lib.hid (sl_equal A B n c m d Ba Bb xs ys w ha hb hn hm)
  clear ha hb
  generalize decide (xs = ys) = r at *
  go_enter Tryz.func25, Tryz.ntmps25
  go_wp2_with (first | (go_at_call 68; refine K.out.mono ?_; rintro e y ⟨rfl, hb⟩; have HB := Lib.hid hb; clear hb) | fail)
  go_ret
  exact ⟨rfl, HB.out⟩
section
variable {R : World → Nat → Nat → Value → List Reg → Prop}
set_option maxRecDepth 100000 in
set_option maxHeartbeats 4000000 in
/-- no memory that anybody made -/
theorem do_nil (mc : MemD R) (s : Stt) (i : Ins) (hi : i.wf) (size : Int) (w : World) (hT : Tab w) (h0 : refE i size = 0) : Calls Tryz.prog 22 #[.agg s.vs, .agg i.vs, .int .i64 size, .pointer none] w fun e w' => e = .returned (.tuple #[.agg s.vs, .slice none 0 0, .int .i64 1]) ∧ Below w.heap.size w w' := by
  have HI := Lib.hid hi
  have HT0 := Lib.hid hT
  have H0 := Lib.hid h0
  have hz := Lib.hid (show W 0 from ⟨by decide, by decide⟩)
  clear hi hT h0
  go_enter Tryz.func22, Tryz.ntmps22
  go_upto_region 1 with fail
  rw [s0_vs]
  have HM := Lib.hid (M3.new w s i)
  have HT := Lib.hid (HT0.out.keep HM.out.b)
  have HD := Lib.hid (show D3 w s i s0 _ from ⟨HM.out.s, HM.out.i, HM.out.z⟩)
  have HB := Lib.hid HM.out.b
  generalize World.alloc _ _ = W1 at *
  have KR := Lib.hid (refuse_l i HI.out size (.pointer none) 1 W1 HT.out (fun X hb => (mc.bytesN X 0 (-1) hz.out (by decide)).mono (by
    rintro e y ⟨rfl, hb2⟩
    exact ⟨⟨_, rfl⟩, hb2⟩)) (.inl rfl))
  rw [show (if refE i size ≠ 0 then refE i size else if (1 : Int) = 1 then 1 else 0) = 1 by rw [if_neg (fun h2 => h2 H0.out)]; rfl] at KR
  clear HM HT0
  go_wp2_with (first | (refine wpList_load_row rfl 26 (.tmp 5) rfl (w.heap.size + 1) rfl 26 i.vs (0, 0) _ HD.out.i Tryz.underlying26 rfl i9 ?_) | (go_at_call 62; refine KR.out.mono ?_; rintro e y1 ⟨rfl, hb1⟩; have HD1 := Lib.hid (HD.out.below hb1); have HB1 := Lib.hid (bel_tr HB.out hb1); clear hb1 KR HD HB HT) | (refine wpList_load_row rfl 42 (.tmp 4) rfl w.heap.size rfl 42 s.vs (0, 0) _ HD1.out.s Tryz.underlying42 rfl i20 ?_) | (refine wpList_store_row rfl 42 (.tmp 8) (.tmp 20) rfl (w.heap.size + 1 + 1) s.vs rfl rfl 42 s0.vs HD1.out.z i20 rfl s.vs_one ?_) | fail)
  exact ret_do rfl rfl rfl rfl rfl (HD1.out.row s).z ⟨rfl, bel_row HB1.out (by omega) _⟩
end
end Sp
end Go.Proofs.YtikbnfhnimjmmaaGreatDoor
namespace Go.Proofs.YtikbnfhnimjmmaaGreatDoor
open Go Go.RowKit
namespace Mm
open Wd Nt
set_option linter.unusedVariables false
theorem pos_of {M : List Reg} (h : Good M) : ∀ r ∈ M, 0 < r.bytes.length := fun r hr => by
  obtain ⟨i, hi⟩ := getElem?_of_mem hr
  have := h.pos i r hi
  unfold Reg.len at this; omega
theorem same_t {w : World} {B1 E1 B2 E2 : Nat} {v1 v2 : Value} {os1 os2 : List OReg} {M : List Reg} (h1 : OwnI w B1 E1 v1 os1) (h2 : OwnI w B2 E2 v2 os2) (e1 : os1.map (·.r) = M) (e2 : os2.map (·.r) = M) (g : Good M) :
    Calls Tryz.prog 30 #[v1, v2] w fun e w' => e = .returned (.bool true) ∧ Below w.heap.size w w' := by
  obtain ⟨A1, n1, c1, rfl, r1, _, _⟩ := h1.own.rdR
  obtain ⟨A2, n2, c2, rfl, r2, _, _⟩ := h2.own.rdR
  rw [e1] at r1
  rw [e2] at r2
  refine (rsame_c A1 A2 n1 c1 n2 c2 M M w (Lib.hid r1) (Lib.hid r2) (by have := g.few; have := r1.len; omega) (by have := g.few; have := r2.len; omega) (pos_of g) (pos_of g)).mono ?_
  rintro e w' ⟨⟨q, rfl⟩, ⟨_, rfl⟩ | ⟨h, _⟩⟩
  · exact ⟨rfl, below_drewN (Below.refl _ _) q⟩
  · exact absurd rfl h
/-- a row of regions of one's own, whose bytes lie below block B -/
def RowR (w : World) (B : Nat) (v : Value) (rs : List Reg) : Prop :=
  ∃ xs, w.ownsRow B 106 3 v rs.length xs ∧ ∀ (j : Nat) (r : Reg), rs[j]? = some r → r.ok ∧ ∃ A n c, xs[j * 3]? = some (.int .u64 r.base) ∧ xs[j * 3 + 1]? = some (.slice A n c) ∧ xs[j * 3 + 2]? = some (.bool r.write) ∧ Rd8 w B A n r.bytes ∧ n ≤ c ∧ c ≤ 9223372036854775807
theorem RowR.rdR {w : World} {B : Nat} {v : Value} {rs : List Reg} (h : RowR w B v rs) (hB : B ≤ w.heap.size) : ∃ A n c, v = .slice A n c ∧ RdR w w.heap.size A n rs ∧ n ≤ c ∧ c ≤ 9223372036854775807 := by
  obtain ⟨xs, ho, hc⟩ := h
  have hlt := ho.lt
  have hcell : ∀ g, v.ownBlock = some g → ∀ j u, xs[j]? = some u → w.cell? ((⟨g, 0, none⟩ : Addr).add j) = some u := fun g hg => ho.cells hg
  have hoks : Oks rs := fun r hr => by
    obtain ⟨i, hi⟩ := getElem?_of_mem hr
    exact (hc i r hi).1
  rcases ho.2 with ⟨rfl, hn⟩ | ⟨g, c, cur, rfl, _, _, h1, h2, _⟩
  · obtain rfl := List.eq_nil_of_length_eq_zero hn
    exact ⟨none, 0, 0, rfl, RdR.nil, Nat.le_refl _, by omega⟩
  · refine ⟨_, _, _, rfl, ⟨rfl, hoks, fun h0 => ⟨_, rfl, (hlt g rfl).2, fun j r hj => ?_⟩⟩, h1, by simpa [maxLen] using h2⟩
    obtain ⟨_, A, n, c', k1, k2, k3, k4, k5, k6⟩ := hc j r hj
    have e : ∀ d, (⟨g, 0, none⟩ : Addr).add d = ⟨g, d, none⟩ := fun d => by
      unfold Addr.add; split
      · rename_i e; rw [e]
      · simp
    have c0 := hcell g rfl (j * 3) _ k1
    have c1 := hcell g rfl (j * 3 + 1) _ k2
    have c2 := hcell g rfl (j * 3 + 2) _ k3
    rw [e] at c0 c1 c2
    rw [e]
    exact ⟨A, n, c', c0, c1, c2, k4.more hB, k5, k6⟩
theorem RowR.below {w w' : World} {B : Nat} {v : Value} {rs : List Reg} (h : RowR w B v rs) (hb : Below w.heap.size w w') (hB : B ≤ w.heap.size) : RowR w' B v rs := by
  obtain ⟨xs, ho, hc⟩ := h
  refine ⟨xs, ho.kept (grown_of_below hb none) (by cases hv : v.ownBlock <;> simp), fun j r hj => ?_⟩
  obtain ⟨ok, A, n, c', k1, k2, k3, k4, k5, k6⟩ := hc j r hj
  exact ⟨ok, A, n, c', k1, k2, k3, k4.keep (fun p hp => hb.cell (by omega)), k5, k6⟩
/-- one region more -/
theorem RowR.more {w w5 w6 : World} {B : Nat} {v v' : Value} {rs : List Reg} {r : Reg} {A : Option Addr} {n c : Nat} {xs : List Value} (ho : w5.ownsRow B 106 3 v rs.length xs)
    (hc : ∀ (j : Nat) (r : Reg), rs[j]? = some r → r.ok ∧ ∃ A n c, xs[j * 3]? = some (.int .u64 r.base) ∧ xs[j * 3 + 1]? = some (.slice A n c) ∧ xs[j * 3 + 2]? = some (.bool r.write) ∧ Rd8 w B A n r.bytes ∧ n ≤ c ∧ c ≤ 9223372036854775807)
    (hr : w6.ownsRow B 106 3 v' (rs.length + 1) (xs ++ [.int .u64 r.base, .slice A n c, .bool r.write])) (hb : Below B w w6) (hd : Rd8 w B A n r.bytes) (hn : n ≤ c) (hm : c ≤ 9223372036854775807) (hok : r.ok) : RowR w6 B v' (rs ++ [r]) := by
  refine ⟨_, by rw [List.length_append]; exact hr, fun j s hj => ?_⟩
  have hxl : xs.length = rs.length * 3 := ho.1
  rcases Nat.lt_or_ge j rs.length with h1 | h1
  · rw [List.getElem?_append_left h1] at hj
    obtain ⟨ok, A', n', c', k1, k2, k3, k4, k5, k6⟩ := hc j s hj
    refine ⟨ok, A', n', c', ?_, ?_, ?_, k4.keep (fun p hp => hb.cell hp), k5, k6⟩
    · rw [List.getElem?_append_left (by omega)]; exact k1
    · rw [List.getElem?_append_left (by omega)]; exact k2
    · rw [List.getElem?_append_left (by omega)]; exact k3
  · rw [List.getElem?_append_right h1] at hj
    have hj0 : j - rs.length = 0 := by
      have h2 := (List.getElem?_eq_some_iff.1 hj).1
      simp at h2; omega
    rw [hj0] at hj
    obtain rfl : r = s := by simpa using hj
    have hje : j = rs.length := by omega
    subst hje
    refine ⟨hok, A, n, c, ?_, ?_, ?_, hd.keep (fun p hp => hb.cell hp), hn, hm⟩
    · rw [List.getElem?_append_right (by omega), show rs.length * 3 - xs.length = 0 by omega]; rfl
    · rw [List.getElem?_append_right (by omega), show rs.length * 3 + 1 - xs.length = 1 by omega]; rfl
    · rw [List.getElem?_append_right (by omega), show rs.length * 3 + 2 - xs.length = 2 by omega]; rfl
end Mm
end Go.Proofs.YtikbnfhnimjmmaaGreatDoor
namespace Go.Proofs.YtikbnfhnimjmmaaGreatDoor
open Go Go.RowKit Go.Shelf
namespace stepCalls
open Wd Nt Mm Is Sp
set_option linter.unusedVariables false
set_option linter.unusedSimpArgs false
variable {R : World → Nat → Nat → Value → List Reg → Prop}
/-- the state, the instruction and the place, in blocks of their own -/
structure SQ (w : World) (s : Stt) (i : Ins) (b x sc di : Int) (W : World) : Prop where
  s : Bk W w.heap.size 42 s.vs
  i : Bk W (w.heap.size + 1) 26 i.vs
  p : Bk W (w.heap.size + 1 + 1) 24 #[.int .i64 b, .int .i64 x, .int .i64 sc, .int .i64 di]
  b : Below w.heap.size w W
theorem SQ.new (w : World) (s : Stt) (i : Ins) (b x sc di : Int) : SQ w s i b x sc di (((w.alloc (.cells s.vs 42)).alloc (.cells i.vs 26)).alloc (.cells #[.int .i64 b, .int .i64 x, .int .i64 sc, .int .i64 di] 24)) :=
  ⟨((Bk.new w _ _).alloc _).alloc _, (Bk.new' (w := w.alloc _) (by simp)).alloc _, Bk.new' (w := (w.alloc _).alloc _) (by simp), bel_al (bel_al (bel_alloc _) _) _⟩
theorem SQ.below {w W X : World} {s : Stt} {i : Ins} {b x sc di : Int} (h : SQ w s i b x sc di W) (hb : Below W.heap.size W X) : SQ w s i b x sc di X :=
  ⟨h.s.below hb h.s.lt, h.i.below hb h.i.lt, h.p.below hb h.p.lt, bel_trans h.b hb⟩
theorem SQ.kp {w W X : World} {s : Stt} {i : Ins} {b x sc di : Int} {B E : Nat} (h : SQ w s i b x sc di W) (hk : Kp B E W X) (hB : w.heap.size + 1 + 1 < B) : SQ w s i b x sc di X :=
  ⟨hk.bk h.s (.inl (by omega)), hk.bk h.i (.inl (by omega)), hk.bk h.p (.inl (by omega)), h.b.trans ((hk.wide (show w.heap.size ≤ B by omega) (Nat.le_refl _)).below h.b.size)⟩
/-- New's answer, in one form -/
def NewQ (R : World → Nat → Nat → Value → List Reg → Prop) (rs : List Reg) (w : World) (e : Ending) (w' : World) : Prop :=
  Below w.heap.size w w' ∧ ∃ p x, e = .returned (.tuple #[p, .int .i64 x]) ∧ Hid (x = 0 → Mm.Good rs ∧ ∃ M, M.Perm rs ∧ R w' w.heap.size w'.heap.size p M)
theorem newO_q {rs : List Reg} {w : World} {f : FuncId} {args : Array Value} (h : Calls Tryz.prog f args w (NewO R rs w)) : Calls Tryz.prog f args w (NewQ R rs w) := by
  refine h.mono ?_
  rintro e w' ⟨hb, x, hx, ⟨h0, rfl⟩ | ⟨rfl, p, M, rfl, hp, hr⟩⟩
  · exact ⟨hb, _, _, rfl, Lib.hid (fun e => absurd e h0)⟩
  · exact ⟨hb, _, _, rfl, Lib.hid (fun _ => ⟨hx.good, M, hp, hr⟩)⟩
/-- Regions' answer as a slice -/
def RegsS (M : List Reg) (w : World) (e : Ending) (w' : World) : Prop :=
  Below w.heap.size w w' ∧ ∃ A n c os, e = .returned (.slice A n c) ∧ Hid (OwnI w' w.heap.size w'.heap.size (.slice A n c) os ∧ os.map (·.r) = M)
theorem regs_s (mc : MemD R) {w : World} {B E : Nat} {P : Value} {M : List Reg} (h : Hid (R w B E P M)) : Calls Tryz.prog 31 #[P] w (RegsS M w) := by
  refine (mc.regions h).mono ?_
  rintro e w' ⟨hb, v, os, rfl, ho, hm⟩
  obtain ⟨A, n, c, rfl, _, _⟩ := ho.out.own.rdR
  exact ⟨hb, A, n, c, os, rfl, Lib.hid ⟨ho.out, hm⟩⟩
theorem stt_self {s : Stt} (hs : s.wf) (W : World) : (binOp .eql 42 (.agg s.vs) (.agg s.vs)).run Tryz.prog W = .ok (.bool true) W := by
  obtain ⟨r, h1, h2⟩ := sttEq hs hs W
  rw [h1, h2.2 rfl]
theorem stt_self2 {s : Stt} (hs : s.wf) (W : World) : (Op.equalIn 10000 42 (.agg s.vs) (.agg s.vs)).run Tryz.prog W = .ok true W := by
  obtain ⟨r, h1, h2⟩ := run_equalIn_deep (P := Tryz.prog) 9996 4 42 key_s W 4 4 _ _ _ _ (form_s s) (form_s s) (lits_s hs 1) (lits_s hs 1)
  rw [h2.2 rfl] at h1
  exact h1
set_option maxRecDepth 100000 in
set_option maxHeartbeats 40000000 in
theorem walk_ (mc : MemD R) (w : World) (hT : Tab w) (s : Stt) (i : Ins) (size : Int) (A0 : Option Addr) (n0 c0 : Nat) (rs : List Reg) (b x sc di : Int) (Aa : Option Addr) (na ca : Nat) (xs : List Ev) (Ab : Option Addr) (nb cb : Nat) (ys : List Ev)
    (hs : s.wf) (hi : i.wf) (hz : (Lit.int .i64 size).wf = true) (hr0 : RdR w w.heap.size A0 n0 rs) (hn0 : n0 ≤ c0) (hm0 : c0 ≤ 9223372036854775807) (hra : RdE w w.heap.size Aa na xs) (hna : na ≤ ca) (hma : ca ≤ 9223372036854775807) (hrb : RdE w w.heap.size Ab nb ys) (hnb : nb ≤ cb) (hmb : cb ≤ 9223372036854775807) :
    Calls Tryz.prog 5 #[.agg s.vs, .agg i.vs, .int .i64 size, .slice A0 n0 c0, .agg #[.int .i64 b, .int .i64 x, .int .i64 sc, .int .i64 di], .slice Aa na ca, .slice Ab nb cb] w fun e w' => e = .returned (.bool true) ∧ Below w.heap.size w w' := by
  have HS := Lib.hid hs
  have HI := Lib.hid hi
  have HT := Lib.hid hT
  have HA0 : Hid (AtR w A0 n0 rs) := Lib.hid hr0
  have HLN := Lib.hid hr0.len
  have HRA := Lib.hid hra
  have HRB := Lib.hid hrb
  have hn0' : n0 ≤ 9223372036854775807 := by omega
  clear hs hi hT hr0 hz hra hrb hm0 hn0 hna hma hnb hmb
  go_enter Tryz.func5, Tryz.ntmps5
  go_upto_region 1 with fail
  have HQ0 := Lib.hid (SQ.new w s i b x sc di)
  generalize World.alloc _ _ = W0 at *
  have KL := Lib.hid (slives_c mc W0 (HT.out.keep HQ0.out.b))
  go_upto_region 3 with (first | (go_at_call 20; refine KL.out.mono ?_; rintro e y1 ⟨rfl, hb⟩; have HQ1 := Lib.hid (HQ0.out.below hb); clear hb) | fail)
  clear KL HQ0
  have HA1 := AtR.step HA0 HQ1.out.b
  by_cases hlt : Lite rs
  case neg =>
    have L2 := Lib.hid (lightN_c A0 n0 c0 rs y1 HA1 hn0' hlt)
    clear hlt
    go_wp2_with (first | (go_at_call 26; refine L2.out.mono ?_; rintro e x2 ⟨rfl, rfl⟩) | fail)
    go_ret
    exact ⟨rfl, HQ1.out.b⟩
  have L2 := Lib.hid (light_c A0 n0 c0 rs y1 HA1 hn0' (by rw [← HLN.out]; exact hlt.1) hlt.2)
  clear hlt
  by_cases ha40 : 40 < na
  · have a1 : (40 : Int) < (na : Int) := by omega
    clear ha40
    go_wp2_with (first | (go_at_call 26; refine L2.out.mono ?_; rintro e x2 ⟨rfl, rfl⟩) | fail)
    go_ret
    exact ⟨rfl, HQ1.out.b⟩
  by_cases hb40 : 40 < nb
  · have a1 : ¬ (40 : Int) < (na : Int) := by omega
    have a2 : (40 : Int) < (nb : Int) := by omega
    clear ha40 hb40
    go_wp2_with (first | (go_at_call 26; refine L2.out.mono ?_; rintro e x2 ⟨rfl, rfl⟩) | fail)
    go_ret
    exact ⟨rfl, HQ1.out.b⟩
  have a1 : ¬ (40 : Int) < (na : Int) := by omega
  have a2 : ¬ (40 : Int) < (nb : Int) := by omega
  have HNA : Hid (na ≤ 1000000) := Lib.hid (by omega)
  have HNB : Hid (nb ≤ 1000000) := Lib.hid (by omega)
  clear ha40 hb40
  go_upto_region 5 with (first | (go_at_call 26; refine L2.out.mono ?_; rintro e x2 ⟨rfl, rfl⟩) | fail)
  clear L2 a1 a2
  have KN1 := Lib.hid (newO_q (mc.new A0 n0 c0 rs _ HA1 hn0'))
  go_upto_region 6 with (first | (go_at_call 27; refine KN1.out.mono ?_; rintro e y5 ⟨hb, p1, x5, rfl, h5⟩; have HQ2 := Lib.hid (HQ1.out.below hb); have HA2 := AtR.step HA1 hb; have HB5 := Lib.hid hb; clear hb) | fail)
  have KN2 := Lib.hid (newO_q (rnew_c A0 n0 c0 rs y5 HA2 hn0'))
  clear KN1 HA1
  go_upto_region 7 with (first | (go_at_call 28; refine KN2.out.mono ?_; rintro e y6 ⟨hb, p2, x6, rfl, h6⟩; have HQ3 := Lib.hid (HQ2.out.below hb); have HB6 := Lib.hid hb; clear hb) | fail)
  clear KN2 HA2 HQ2
  by_cases hx5 : x5 = 0
  case neg =>
    have e5 : (x5 != 0) = true := by simpa using hx5
    go_wp2_with fail
    go_ret
    exact ⟨rfl, HQ3.out.b⟩
  by_cases hx6 : x6 = 0
  case neg =>
    have e6 : (x6 != 0) = true := by simpa using hx6
    subst hx5
    go_wp2_with fail
    go_ret
    exact ⟨rfl, HQ3.out.b⟩
  obtain ⟨hg, M, hp, hr1⟩ := h5.out hx5
  obtain ⟨_, N, hq, hr2⟩ := h6.out hx6
  subst hx5
  subst hx6
  obtain rfl : N = M := rising_uniq hg hq hp hr2.rise (mc.shape hr1).2.2.1
  have HGM := Lib.hid (mc.shape hr1).2.1
  have HR1 := mc.below (Lib.hid hr1) HB6.out
  have HR2 := Lib.hid hr2
  have HZ5 : Hid (x2.heap.size ≤ y5.heap.size) := Lib.hid HB5.out.size
  have HTB : Hid (0 < x2.heap.size) := Lib.hid (by have h1 := HT.out.lt; have h2 := HQ1.out.b.size; omega)
  have HS2 : Hid (w.heap.size + 1 + 1 < x2.heap.size) := Lib.hid (HQ1.out.p.lt)
  have HT6 := Lib.hid (HT.out.keep HQ3.out.b)
  have KD1 := Lib.hid (do_l mc HR1 s HS.out i HI.out size HT6.out HTB.out)
  clear hr1 hr2 hg hp hq h5 h6 HR1 HB5 HQ1 HA0 HLN
  go_upto_region 10 with (first | (refine wpList_load_row rfl 42 (.tmp 7) rfl w.heap.size rfl 42 s.vs (0, 0) _ HQ3.out.s Tryz.underlying42 rfl i20 ?_) | (refine wpList_load_row rfl 26 (.tmp 8) rfl (w.heap.size + 1) rfl 26 i.vs (0, 0) _ HQ3.out.i Tryz.underlying26 rfl i9 ?_) | (go_at_call 22; refine KD1.out.mono ?_; rintro e z1 ⟨hk, a1, l1, M1, g1, A1, k1, c1, rfl, hd, hn, hr, hR, hkc, hc3, hlo⟩; have HD1 := Lib.hid hd; have HN1 := Lib.hid hn; have HK1 := Lib.hid hk; have HC1 : Hid (k1 ≤ c1 ∧ c1 ≤ 3) := Lib.hid ⟨hkc, hc3⟩; have HLO := Lib.hid hlo; clear hd hn hk hkc hc3 hlo) | (refine wpList_store_row rfl 42 (.tmp 19) (.tmp 62) rfl z1.heap.size a1.vs rfl rfl 42 s0.vs (Bk.new z1 42 s0.vs) i20 rfl a1.vs_one ?_; rw [World.setRow_alloc_new]) | fail)
  have HBZ := Lib.hid (bel_alloc (w := z1) (.cells a1.vs 42))
  have HQ4 : Hid (SQ w s i b x sc di (z1.alloc (.cells a1.vs 42))) := Lib.hid ((HQ3.out.kp HK1.out HS2.out).below HBZ.out)
  have HM1 : Hid (R (z1.alloc (.cells a1.vs 42)) x2.heap.size y5.heap.size p1 M1) := Lib.hid (mc.below (Lib.hid hr) HBZ.out).out
  have HM2 : Hid (RefM (z1.alloc (.cells a1.vs 42)) y5.heap.size y6.heap.size p2 N) := Lib.hid ((HR2.out.keep HK1.out (.inr (Nat.le_refl _))).below HBZ.out)
  have HBa : Hid (Bk (z1.alloc (.cells a1.vs 42)) z1.heap.size 42 a1.vs) := Lib.hid (Bk.new _ _ _)
  have HE1 : Hid (RdE (z1.alloc (.cells a1.vs 42)) z1.heap.size A1 k1 l1) := Lib.hid (hR.out.below HBZ.out)
  have HHA : Hid (y6.heap.size ≤ z1.heap.size) := Lib.hid HK1.out.size
  clear hR hr HBZ HK1 HR2 HT6 KD1 HQ3
  generalize z1.heap.size = ha at *
  generalize World.alloc _ _ = W7 at *
  as_aux_lemma =>
    have KD2 := Lib.hid (rdo_c HM2 s HS.out i HI.out size)
    go_upto_region 11 with (first | (refine wpList_load_row rfl 42 (.tmp 7) rfl w.heap.size rfl 42 s.vs (0, 0) _ HQ4.out.s Tryz.underlying42 rfl i20 ?_) | (refine wpList_load_row rfl 26 (.tmp 8) rfl (w.heap.size + 1) rfl 26 i.vs (0, 0) _ HQ4.out.i Tryz.underlying26 rfl i9 ?_) | (go_at_call 29; refine KD2.out.mono ?_; rintro e z2 ⟨hk, a2, l2, M2, g2, A2, k2, c2, rfl, hd, hn, hr, hR, hk3⟩; obtain ⟨rfl, rfl, rfl, rfl⟩ := hd.uniq HGM.out HD1.out; have HK2 := Lib.hid hk; have HR3 := Lib.hid hr; have HE2 := hR; have HK3 := Lib.hid hk3; clear hk hd hn hr hR hk3) | (refine wpList_store_row rfl 42 (.tmp 22) (.tmp 71) rfl z2.heap.size a2.vs rfl rfl 42 s0.vs (Bk.new z2 42 s0.vs) i20 rfl a2.vs_one ?_; rw [World.setRow_alloc_new]) | fail)
    have HBZ := Lib.hid (bel_alloc (w := z2) (.cells a2.vs 42))
    have HS3 : Hid (w.heap.size + 1 + 1 < y5.heap.size) := Lib.hid (Nat.lt_of_lt_of_le HS2.out HZ5.out)
    have HQ5 : Hid (SQ w s i b x sc di (z2.alloc (.cells a2.vs 42))) := Lib.hid ((HQ4.out.kp HK2.out HS3.out).below HBZ.out)
    have HM3 : Hid (R (z2.alloc (.cells a2.vs 42)) x2.heap.size y5.heap.size p1 M2) := mc.below (Lib.hid (mc.keep HM1.out HK2.out (.inl (Nat.le_refl _)))) HBZ.out
    have HM4 : Hid (RefM (z2.alloc (.cells a2.vs 42)) y5.heap.size y6.heap.size p2 M2) := Lib.hid (HR3.out.below HBZ.out)
    have HB1 : Hid (Bk (z2.alloc (.cells a2.vs 42)) ha 42 a2.vs) := Lib.hid (Bk.below (HK2.out.bk HBa.out (.inr HHA.out)) HBZ.out (HK2.out.bk HBa.out (.inr HHA.out)).lt)
    have HB2 : Hid (Bk (z2.alloc (.cells a2.vs 42)) z2.heap.size 42 a2.vs) := Lib.hid (Bk.new _ _ _)
    have HE3 : Hid (RdE (z2.alloc (.cells a2.vs 42)) ha A1 k1 l2) := Lib.hid (RdE.below (HE1.out.blk (fun j hj ad h1 h2 => HK2.out.blk j (Nat.lt_trans hj HBa.out.lt) (.inr (by have := HLO.out ad h1; rw [← h2]; exact this)))) (HBZ.out.mono (Nat.le_trans (Nat.le_of_lt HBa.out.lt) HK2.out.size)))
    have HE4 : Hid (RdE (z2.alloc (.cells a2.vs 42)) z2.heap.size A2 k2 l2) := Lib.hid (HE2.out.below HBZ.out)
    have HG2 := Lib.hid (mc.shape HM3.out).2.1
    have HXA : Hid (RdE (z2.alloc (.cells a2.vs 42)) w.heap.size Aa na xs) := Lib.hid (HRA.out.below HQ5.out.b)
    have HXB : Hid (RdE (z2.alloc (.cells a2.vs 42)) w.heap.size Ab nb ys) := Lib.hid (HRB.out.below HQ5.out.b)
    have HZA := Lib.hid HB1.out.lt
    clear HK2 HE1 HE2 HM1 HM2 HR3 HBa HBZ HQ4 KD2 HLO HHA HD1 HS2 HS3 HGM HRA HRB HI HT HZ5
    generalize z2.heap.size = hb_ at *
    generalize World.alloc _ _ = W8 at *
    as_aux_lemma =>
      obtain ⟨Dm, v, os, hpp, hbD, _, _, hOw, hos⟩ := HM4.out.ex
      subst hpp
      have HBD := Lib.hid hbD
      have HOW := Lib.hid hOw
      have HOS := Lib.hid hos
      obtain ⟨Av, nv, cv, hvv, _, _, _⟩ := hOw.own.rdR
      subst hvv
      clear hbD hOw hos HM4
      have hse := stt_self HN1.out
      have hse2 := stt_self2 HN1.out
      clear HN1
      have HVA : Hid (k1 ≤ 1000000) := Lib.hid (by have := HC1.out; omega)
      have HVB : Hid (k2 ≤ 1000000) := Lib.hid (by have := HK3.out; omega)
      refine wp_region_held_drew (S := (fun w' => Below W8.drew.heap.size W8.drew w')) (by kernel_rfl) (Below.refl _ _) (fun hHeld => ?_)
      have HQ6 := Lib.hid (HQ5.out.below (Below.drew (Below.refl _ W8)))
      have HM5 := mc.below HM3 (Below.drew (Below.refl _ W8))
      have HB3 : Hid (Bk W8.drew ha 42 a2.vs) := Lib.hid HB1.out.drew
      have HB4 : Hid (Bk W8.drew hb_ 42 a2.vs) := Lib.hid HB2.out.drew
      have HF3 : Hid (RdE W8.drew ha A1 k1 l2) := Lib.hid (HE3.out.below (Below.drew (Below.refl _ W8)))
      have HF4 : Hid (RdE W8.drew hb_ A2 k2 l2) := Lib.hid (HE4.out.below (Below.drew (Below.refl _ W8)))
      have HGA : Hid (RdE W8.drew w.heap.size Aa na xs) := Lib.hid (HXA.out.below (Below.drew (Below.refl _ W8)))
      have HGB : Hid (RdE W8.drew w.heap.size Ab nb ys) := Lib.hid (HXB.out.below (Below.drew (Below.refl _ W8)))
      have HBD2 : Hid (Bk W8.drew Dm 64 #[.slice Av nv cv]) := Lib.hid HBD.out.drew
      have HOW2 := Lib.hid (HOW.out.below (Below.drew (Below.refl _ W8)))
      have HZW := Lib.hid HQ6.out.b.size
      clear HQ5 HM3 HB1 HB2 HE3 HE4 HXA HXB HBD HOW HZA
      generalize World.drew W8 = V at *
      have HV0 := Lib.hid (Below.refl V.heap.size V)
      have HZ1 := Lib.hid (Nat.le_of_lt HB3.out.lt)
      have HZ2 := Lib.hid (Nat.le_of_lt HB4.out.lt)
      refine wpAnyH_take (i := 0) (oi := { dst := some 74, op := Op.load 42 (Operand.tmp 19), type := 42, pos := "law.go:77", after := #[], guard := none }) (v := (.agg a2.vs)) rfl (by kernel_rfl) (by kernel_rfl) (by kernel_rfl) (fun _ _ _ h => h) (Or.inl ⟨by rfl, ?_⟩) (by assumption) ?_
      · intro w' hSw
        exact row_yields 42 (.tmp 19) rfl _ rfl _ _ (HB3.out.below hSw HB3.out.lt) Tryz.underlying42 rfl i20
      simp only [Act.put, List.setIfInBounds_toArray, List.set_cons_zero, List.set_cons_succ]
      refine wpAnyH_take (i := 1) (oi := { dst := some 75, op := Op.load 42 (Operand.tmp 22), type := 42, pos := "law.go:77", after := #[], guard := none }) (v := (.agg a2.vs)) rfl (by kernel_rfl) (by kernel_rfl) (by kernel_rfl) (fun _ _ _ h => h) (Or.inl ⟨by rfl, ?_⟩) (by assumption) ?_
      · intro w' hSw
        exact row_yields 42 (.tmp 22) rfl _ rfl _ _ (HB4.out.below hSw HB4.out.lt) Tryz.underlying42 rfl i20
      simp only [Act.put, List.setIfInBounds_toArray, List.set_cons_zero, List.set_cons_succ]
      refine wpAnyH_take (i := 2) (oi := { dst := some 76, op := Op.binOp BinOp.eql 42 (Operand.tmp 74) (Operand.tmp 75) 42, type := 4, pos := "law.go:77", after := #[{ on := 0, ground := Ground.data }, { on := 1, ground := Ground.data }], guard := none }) (v := (.bool true)) rfl (by kernel_rfl) (by kernel_rfl) (by kernel_rfl) (fun _ _ _ h => h) (Or.inl ⟨by rfl, ?_⟩) (by assumption) ?_
      · intro w' hSw
        have h1 := hse w'
        have h2 := hse2 w'
        clear hSw
        go_simp
      simp only [Act.put, List.setIfInBounds_toArray, List.set_cons_zero, List.set_cons_succ]
      refine wpAnyH_take (i := 3) (oi := { dst := some 77, op := Op.move (Operand.tmp 76), type := 4, pos := "law.go:77", after := #[{ on := 2, ground := Ground.data }], guard := none }) (v := (.bool true)) rfl (by kernel_rfl) (by kernel_rfl) (by kernel_rfl) (fun _ _ _ h => h) (Or.inl ⟨by rfl, ?_⟩) (by assumption) ?_
      · intro w' hSw
        go_simp
      simp only [Act.put, List.setIfInBounds_toArray, List.set_cons_zero, List.set_cons_succ]
      refine wpAnyH_take (i := 4) (oi := { dst := some 78, op := Op.move (Operand.tmp 20), type := 46, pos := "law.go:77", after := #[{ on := 3, ground := Ground.guard }], guard := some (3, true) }) (v := (.slice A1 k1 c1)) rfl (by kernel_rfl) (by kernel_rfl) (by kernel_rfl) (fun _ _ _ h => h) (Or.inl ⟨by rfl, ?_⟩) (by assumption) ?_
      · intro w' hSw
        go_simp
      simp only [Act.put, List.setIfInBounds_toArray, List.set_cons_zero, List.set_cons_succ]
      refine wpAnyH_take (i := 5) (oi := { dst := some 79, op := Op.move (Operand.tmp 23), type := 46, pos := "law.go:77", after := #[{ on := 3, ground := Ground.guard }], guard := some (3, true) }) (v := (.slice A2 k2 c2)) rfl (by kernel_rfl) (by kernel_rfl) (by kernel_rfl) (fun _ _ _ h => h) (Or.inl ⟨by rfl, ?_⟩) (by assumption) ?_
      · intro w' hSw
        go_simp
      simp only [Act.put, List.setIfInBounds_toArray, List.set_cons_zero, List.set_cons_succ]
      refine wpAnyH_ready (rs := [6]) (by kernel_rfl) (by simp) ?_
      refine AllReadyH.cons (o := { dst := some 80, op := Op.call { callee := Callee.value (Operand.func 23), args := #[Operand.tmp 78, Operand.tmp 79], argTypes := #[46, 46] }, type := 4, pos := "law.go:77", after := #[{ on := 4, ground := Ground.data }, { on := 5, ground := Ground.data }, { on := 3, ground := Ground.chain }, { on := 3, ground := Ground.guard }], guard := some (3, true) }) rfl (fun K' hK => ?_) AllReadyH.nil
      rw [if_pos (by rfl)]
      go_simp
      go_at_call 23
      refine (same_e _ _ _ _ _ _ _ _ _ _ _ (HF3.out.below (HV0.out.mono HZ1.out)) (HF4.out.below (HV0.out.mono HZ2.out)) HVA.out HVB.out).mono ?_
      rintro e z3 ⟨rfl, hb⟩
      rw [show decide (l2 = l2) = true from decide_eq_true rfl]
      have HV1 := Lib.hid (bel_tr HV0.out hb)
      clear hb
      refine hK.out _ _ (HV1.out) (fun hHeld => ?_)
      clear hK
      try simp only [Act.put, List.setIfInBounds_toArray, List.set_cons_zero, List.set_cons_succ]
      refine wpAnyH_take (i := 7) (oi := { dst := some 81, op := Op.pick (Operand.tmp 77) (Operand.tmp 80) (Operand.const (Value.bool false)), type := 4, pos := "law.go:77", after := #[{ on := 3, ground := Ground.data }, { on := 6, ground := Ground.data }], guard := none }) (v := (.bool true)) rfl (by kernel_rfl) (by kernel_rfl) (by kernel_rfl) (fun _ _ _ h => h) (Or.inl ⟨by rfl, ?_⟩) (by assumption) ?_
      · intro w' hSw
        go_simp
      simp only [Act.put, List.setIfInBounds_toArray, List.set_cons_zero, List.set_cons_succ]
      refine wpAnyH_take (i := 8) (oi := { dst := some 82, op := Op.move (Operand.tmp 81), type := 4, pos := "law.go:77", after := #[{ on := 7, ground := Ground.data }, { on := 6, ground := Ground.chain }], guard := none }) (v := (.bool true)) rfl (by kernel_rfl) (by kernel_rfl) (by kernel_rfl) (fun _ _ _ h => h) (Or.inl ⟨by rfl, ?_⟩) (by assumption) ?_
      · intro w' hSw
        go_simp
      simp only [Act.put, List.setIfInBounds_toArray, List.set_cons_zero, List.set_cons_succ]
      refine wpAnyH_take (i := 9) (oi := { dst := some 83, op := Op.move (Operand.tmp 21), type := 27, pos := "law.go:77", after := #[{ on := 8, ground := Ground.guard }], guard := some (8, true) }) (v := (.int .i64 g2)) rfl (by kernel_rfl) (by kernel_rfl) (by kernel_rfl) (fun _ _ _ h => h) (Or.inl ⟨by rfl, ?_⟩) (by assumption) ?_
      · intro w' hSw
        go_simp
      simp only [Act.put, List.setIfInBounds_toArray, List.set_cons_zero, List.set_cons_succ]
      refine wpAnyH_take (i := 10) (oi := { dst := some 84, op := Op.move (Operand.tmp 24), type := 27, pos := "law.go:77", after := #[{ on := 8, ground := Ground.guard }], guard := some (8, true) }) (v := (.int .i64 g2)) rfl (by kernel_rfl) (by kernel_rfl) (by kernel_rfl) (fun _ _ _ h => h) (Or.inl ⟨by rfl, ?_⟩) (by assumption) ?_
      · intro w' hSw
        go_simp
      simp only [Act.put, List.setIfInBounds_toArray, List.set_cons_zero, List.set_cons_succ]
      refine wpAnyH_take (i := 11) (oi := { dst := some 85, op := Op.binOp BinOp.eql 27 (Operand.tmp 83) (Operand.tmp 84) 27, type := 4, pos := "law.go:77", after := #[{ on := 9, ground := Ground.data }, { on := 10, ground := Ground.data }, { on := 8, ground := Ground.guard }], guard := some (8, true) }) (v := (.bool true)) rfl (by kernel_rfl) (by kernel_rfl) (by kernel_rfl) (fun _ _ _ h => h) (Or.inl ⟨by rfl, ?_⟩) (by assumption) ?_
      · intro w' hSw
        go_simp
      simp only [Act.put, List.setIfInBounds_toArray, List.set_cons_zero, List.set_cons_succ]
      refine wpAnyH_take (i := 12) (oi := { dst := some 86, op := Op.pick (Operand.tmp 82) (Operand.tmp 85) (Operand.const (Value.bool false)), type := 4, pos := "law.go:77", after := #[{ on := 8, ground := Ground.data }, { on := 11, ground := Ground.data }], guard := none }) (v := (.bool true)) rfl (by kernel_rfl) (by kernel_rfl) (by kernel_rfl) (fun _ _ _ h => h) (Or.inl ⟨by rfl, ?_⟩) (by assumption) ?_
      · intro w' hSw
        go_simp
      simp only [Act.put, List.setIfInBounds_toArray, List.set_cons_zero, List.set_cons_succ]
      refine wpAnyH_take (i := 13) (oi := { dst := some 87, op := Op.move (Operand.tmp 86), type := 4, pos := "law.go:77", after := #[{ on := 12, ground := Ground.data }, { on := 8, ground := Ground.chain }], guard := none }) (v := (.bool true)) rfl (by kernel_rfl) (by kernel_rfl) (by kernel_rfl) (fun _ _ _ h => h) (Or.inl ⟨by rfl, ?_⟩) (by assumption) ?_
      · intro w' hSw
        go_simp
      simp only [Act.put, List.setIfInBounds_toArray, List.set_cons_zero, List.set_cons_succ]
      refine wpAnyH_take (i := 14) (oi := { dst := some 88, op := Op.move (Operand.tmp 15), type := 43, pos := "law.go:77", after := #[{ on := 13, ground := Ground.guard }], guard := some (13, true) }) (v := p1) rfl (by kernel_rfl) (by kernel_rfl) (by kernel_rfl) (fun _ _ _ h => h) (Or.inl ⟨by rfl, ?_⟩) (by assumption) ?_
      · intro w' hSw
        go_simp
      simp only [Act.put, List.setIfInBounds_toArray, List.set_cons_zero, List.set_cons_succ]
      refine wpAnyH_take (i := 16) (oi := { dst := some 90, op := Op.move (Operand.tmp 17), type := 57, pos := "law.go:77", after := #[{ on := 13, ground := Ground.guard }], guard := some (13, true) }) (v := (.pointer (some ⟨Dm, 0, none⟩))) rfl (by kernel_rfl) (by kernel_rfl) (by kernel_rfl) (fun _ _ _ h => h) (Or.inl ⟨by rfl, ?_⟩) (by assumption) ?_
      · intro w' hSw
        go_simp
      simp only [Act.put, List.setIfInBounds_toArray, List.set_cons_zero, List.set_cons_succ]
      refine wpAnyH_take (i := 17) (oi := { dst := some 91, op := Op.nilCheck (Operand.tmp 90), type := 0, pos := "law.go:77", after := #[{ on := 16, ground := Ground.data }, { on := 13, ground := Ground.guard }], guard := some (13, true) }) (v := (.pointer (some ⟨Dm, 0, none⟩))) rfl (by kernel_rfl) (by kernel_rfl) (by kernel_rfl) (fun _ _ _ h => h) (Or.inl ⟨by rfl, ?_⟩) (by assumption) ?_
      · intro w' hSw
        go_simp
      simp only [Act.put, List.setIfInBounds_toArray, List.set_cons_zero, List.set_cons_succ]
      refine wpAnyH_take (i := 18) (oi := { dst := some 92, op := Op.fieldAddr 64 (Operand.tmp 91) 0, type := 0, pos := "law.go:77", after := #[{ on := 17, ground := Ground.data }, { on := 13, ground := Ground.guard }], guard := some (13, true) }) (v := (.pointer (some ⟨Dm, 0, none⟩))) rfl (by kernel_rfl) (by kernel_rfl) (by kernel_rfl) (fun _ _ _ h => h) (Or.inl ⟨by rfl, ?_⟩) (by assumption) ?_
      · intro w' hSw
        go_simp
      simp only [Act.put, List.setIfInBounds_toArray, List.set_cons_zero, List.set_cons_succ]
      refine wpAnyH_take (i := 19) (oi := { dst := some 93, op := Op.load 53 (Operand.tmp 92), type := 53, pos := "law.go:77", after := #[{ on := 18, ground := Ground.data }, { on := 13, ground := Ground.guard }], guard := some (13, true) }) (v := (.slice Av nv cv)) rfl (by kernel_rfl) (by kernel_rfl) (by kernel_rfl) (fun _ _ _ h => h) (Or.inl ⟨by rfl, ?_⟩) (by assumption) ?_
      · intro w' hSw
        have z : w'.cell? ⟨Dm, 0, none⟩ = some (.slice Av nv cv) := (HBD2.out.below hSw HBD2.out.lt).cell 0
        clear hSw
        go_simp
      simp only [Act.put, List.setIfInBounds_toArray, List.set_cons_zero, List.set_cons_succ]
      refine wpAnyH_ready (rs := [15]) (by kernel_rfl) (by simp) ?_
      refine AllReadyH.cons (o := { dst := some 89, op := Op.call { callee := Callee.value (Operand.func 31), args := #[Operand.tmp 88], argTypes := #[43] }, type := 53, pos := "law.go:77", after := #[{ on := 14, ground := Ground.data }, { on := 13, ground := Ground.chain }, { on := 13, ground := Ground.guard }], guard := some (13, true) }) rfl (fun K' hK => ?_) AllReadyH.nil
      rw [if_pos (by rfl)]
      go_simp
      go_at_call 31
      refine (regs_s mc (mc.below HM5 HV1.out)).mono ?_
      rintro e z4 ⟨hb, A7, n7, c7, os7, rfl, h7⟩
      have HV2 := Lib.hid (bel_tr HV1.out hb)
      clear hb
      refine hK.out _ _ (HV2.out) (fun hHeld => ?_)
      clear hK
      try simp only [Act.put, List.setIfInBounds_toArray, List.set_cons_zero, List.set_cons_succ]
      refine wpAnyH_ready (rs := [20]) (by kernel_rfl) (by simp) ?_
      refine AllReadyH.cons (o := { dst := some 94, op := Op.call { callee := Callee.value (Operand.func 30), args := #[Operand.tmp 89, Operand.tmp 93], argTypes := #[53, 53] }, type := 4, pos := "law.go:77", after := #[{ on := 15, ground := Ground.data }, { on := 19, ground := Ground.data }, { on := 15, ground := Ground.chain }, { on := 13, ground := Ground.guard }], guard := some (13, true) }) rfl (fun K' hK => ?_) AllReadyH.nil
      rw [if_pos (by rfl)]
      go_simp
      go_at_call 30
      refine (same_t (h7.out.1) (HOW2.out.below HV2.out) h7.out.2 HOS.out HG2.out).mono ?_
      rintro e z5 ⟨rfl, hb⟩
      have HV3 := Lib.hid (bel_tr HV2.out hb)
      clear hb
      refine hK.out _ _ (HV3.out) (fun hHeld => ?_)
      clear hK
      try simp only [Act.put, List.setIfInBounds_toArray, List.set_cons_zero, List.set_cons_succ]
      refine wpAnyH_take (i := 21) (oi := { dst := some 95, op := Op.pick (Operand.tmp 87) (Operand.tmp 94) (Operand.const (Value.bool false)), type := 4, pos := "law.go:77", after := #[{ on := 13, ground := Ground.data }, { on := 20, ground := Ground.data }], guard := none }) (v := (.bool true)) rfl (by kernel_rfl) (by kernel_rfl) (by kernel_rfl) (fun _ _ _ h => h) (Or.inl ⟨by rfl, ?_⟩) (by assumption) ?_
      · intro w' hSw
        go_simp
      simp only [Act.put, List.setIfInBounds_toArray, List.set_cons_zero, List.set_cons_succ]
      refine wpAnyH_take (i := 22) (oi := { dst := some 96, op := Op.move (Operand.tmp 95), type := 4, pos := "law.go:77", after := #[{ on := 21, ground := Ground.data }, { on := 20, ground := Ground.chain }], guard := none }) (v := (.bool true)) rfl (by kernel_rfl) (by kernel_rfl) (by kernel_rfl) (fun _ _ _ h => h) (Or.inl ⟨by rfl, ?_⟩) (by assumption) ?_
      · intro w' hSw
        go_simp
      simp only [Act.put, List.setIfInBounds_toArray, List.set_cons_zero, List.set_cons_succ]
      refine wpAnyH_take (i := 23) (oi := { dst := some 97, op := Op.load 42 (Operand.tmp 7), type := 42, pos := "law.go:77", after := #[{ on := 22, ground := Ground.guard }], guard := some (22, true) }) (v := (.agg s.vs)) rfl (by kernel_rfl) (by kernel_rfl) (by kernel_rfl) (fun _ _ _ h => h) (Or.inl ⟨by rfl, ?_⟩) (by assumption) ?_
      · intro w' hSw
        exact row_yields 42 (.tmp 7) rfl _ rfl _ _ (HQ6.out.s.below hSw HQ6.out.s.lt) Tryz.underlying42 rfl i20
      simp only [Act.put, List.setIfInBounds_toArray, List.set_cons_zero, List.set_cons_succ]
      refine wpAnyH_take (i := 24) (oi := { dst := some 98, op := Op.load 24 (Operand.tmp 11), type := 24, pos := "law.go:77", after := #[{ on := 22, ground := Ground.guard }], guard := some (22, true) }) (v := (.agg #[.int .i64 b, .int .i64 x, .int .i64 sc, .int .i64 di])) rfl (by kernel_rfl) (by kernel_rfl) (by kernel_rfl) (fun _ _ _ h => h) (Or.inl ⟨by rfl, ?_⟩) (by assumption) ?_
      · intro w' hSw
        exact row_yields 24 (.tmp 11) rfl _ rfl _ _ (HQ6.out.p.below hSw HQ6.out.p.lt) Tryz.underlying24 rfl (by kernel_rfl)
      simp only [Act.put, List.setIfInBounds_toArray, List.set_cons_zero, List.set_cons_succ]
      refine wpAnyH_take (i := 26) (oi := { dst := some 100, op := Op.load 42 (Operand.tmp 7), type := 42, pos := "law.go:77", after := #[{ on := 22, ground := Ground.guard }], guard := some (22, true) }) (v := (.agg s.vs)) rfl (by kernel_rfl) (by kernel_rfl) (by kernel_rfl) (fun _ _ _ h => h) (Or.inl ⟨by rfl, ?_⟩) (by assumption) ?_
      · intro w' hSw
        exact row_yields 42 (.tmp 7) rfl _ rfl _ _ (HQ6.out.s.below hSw HQ6.out.s.lt) Tryz.underlying42 rfl i20
      simp only [Act.put, List.setIfInBounds_toArray, List.set_cons_zero, List.set_cons_succ]
      refine wpAnyH_take (i := 27) (oi := { dst := some 101, op := Op.load 24 (Operand.tmp 11), type := 24, pos := "law.go:77", after := #[{ on := 22, ground := Ground.guard }], guard := some (22, true) }) (v := (.agg #[.int .i64 b, .int .i64 x, .int .i64 sc, .int .i64 di])) rfl (by kernel_rfl) (by kernel_rfl) (by kernel_rfl) (fun _ _ _ h => h) (Or.inl ⟨by rfl, ?_⟩) (by assumption) ?_
      · intro w' hSw
        exact row_yields 24 (.tmp 11) rfl _ rfl _ _ (HQ6.out.p.below hSw HQ6.out.p.lt) Tryz.underlying24 rfl (by kernel_rfl)
      simp only [Act.put, List.setIfInBounds_toArray, List.set_cons_zero, List.set_cons_succ]
      refine wpAnyH_ready (rs := [25]) (by kernel_rfl) (by simp) ?_
      refine AllReadyH.cons (o := { dst := some 99, op := Op.call { callee := Callee.value (Operand.func 24), args := #[Operand.tmp 97, Operand.tmp 98], argTypes := #[42, 24] }, type := 39, pos := "law.go:77", after := #[{ on := 23, ground := Ground.data }, { on := 24, ground := Ground.data }, { on := 22, ground := Ground.chain }, { on := 22, ground := Ground.guard }], guard := some (22, true) }) rfl (fun K' hK => ?_) AllReadyH.nil
      rw [if_pos (by rfl)]
      go_simp
      go_at_call 24
      refine (addr_l s b x sc di _).mono ?_
      rintro e z6 ⟨rfl, hb⟩
      have HV4 := Lib.hid (bel_tr HV3.out hb)
      clear hb
      refine hK.out _ _ (HV4.out) (fun hHeld => ?_)
      clear hK
      try simp only [Act.put, List.setIfInBounds_toArray, List.set_cons_zero, List.set_cons_succ]
      refine wpAnyH_ready (rs := [28]) (by kernel_rfl) (by simp) ?_
      refine AllReadyH.cons (o := { dst := some 102, op := Op.call { callee := Callee.value (Operand.func 32), args := #[Operand.tmp 100, Operand.tmp 101], argTypes := #[42, 24] }, type := 39, pos := "law.go:77", after := #[{ on := 26, ground := Ground.data }, { on := 27, ground := Ground.data }, { on := 25, ground := Ground.chain }, { on := 22, ground := Ground.guard }], guard := some (22, true) }) rfl (fun K' hK => ?_) AllReadyH.nil
      rw [if_pos (by rfl)]
      go_simp
      go_at_call 32
      refine (raddr_c s b x sc di _).mono ?_
      rintro e z7 ⟨rfl, hb⟩
      have HV5 := Lib.hid (bel_tr HV4.out hb)
      clear hb
      refine hK.out _ _ (HV5.out) (fun hHeld => ?_)
      clear hK
      try simp only [Act.put, List.setIfInBounds_toArray, List.set_cons_zero, List.set_cons_succ]
      refine wpAnyH_take (i := 29) (oi := { dst := some 103, op := Op.binOp BinOp.eql 39 (Operand.tmp 99) (Operand.tmp 102) 39, type := 4, pos := "law.go:77", after := #[{ on := 25, ground := Ground.data }, { on := 28, ground := Ground.data }, { on := 22, ground := Ground.guard }], guard := some (22, true) }) (v := (.bool true)) rfl (by kernel_rfl) (by kernel_rfl) (by kernel_rfl) (fun _ _ _ h => h) (Or.inl ⟨by rfl, ?_⟩) (by assumption) ?_
      · intro w' hSw
        go_simp
      simp only [Act.put, List.setIfInBounds_toArray, List.set_cons_zero, List.set_cons_succ]
      refine wpAnyH_take (i := 30) (oi := { dst := some 104, op := Op.pick (Operand.tmp 96) (Operand.tmp 103) (Operand.const (Value.bool false)), type := 4, pos := "law.go:77", after := #[{ on := 22, ground := Ground.data }, { on := 29, ground := Ground.data }], guard := none }) (v := (.bool true)) rfl (by kernel_rfl) (by kernel_rfl) (by kernel_rfl) (fun _ _ _ h => h) (Or.inl ⟨by rfl, ?_⟩) (by assumption) ?_
      · intro w' hSw
        go_simp
      simp only [Act.put, List.setIfInBounds_toArray, List.set_cons_zero, List.set_cons_succ]
      refine wpAnyH_take (i := 31) (oi := { dst := some 105, op := Op.move (Operand.tmp 104), type := 4, pos := "law.go:77", after := #[{ on := 30, ground := Ground.data }, { on := 28, ground := Ground.chain }], guard := none }) (v := (.bool true)) rfl (by kernel_rfl) (by kernel_rfl) (by kernel_rfl) (fun _ _ _ h => h) (Or.inl ⟨by rfl, ?_⟩) (by assumption) ?_
      · intro w' hSw
        go_simp
      simp only [Act.put, List.setIfInBounds_toArray, List.set_cons_zero, List.set_cons_succ]
      refine wpAnyH_take (i := 32) (oi := { dst := some 106, op := Op.move (Operand.tmp 5), type := 46, pos := "law.go:77", after := #[{ on := 31, ground := Ground.guard }], guard := some (31, true) }) (v := (.slice Aa na ca)) rfl (by kernel_rfl) (by kernel_rfl) (by kernel_rfl) (fun _ _ _ h => h) (Or.inl ⟨by rfl, ?_⟩) (by assumption) ?_
      · intro w' hSw
        go_simp
      simp only [Act.put, List.setIfInBounds_toArray, List.set_cons_zero, List.set_cons_succ]
      refine wpAnyH_take (i := 33) (oi := { dst := some 107, op := Op.move (Operand.tmp 6), type := 46, pos := "law.go:77", after := #[{ on := 31, ground := Ground.guard }], guard := some (31, true) }) (v := (.slice Ab nb cb)) rfl (by kernel_rfl) (by kernel_rfl) (by kernel_rfl) (fun _ _ _ h => h) (Or.inl ⟨by rfl, ?_⟩) (by assumption) ?_
      · intro w' hSw
        go_simp
      simp only [Act.put, List.setIfInBounds_toArray, List.set_cons_zero, List.set_cons_succ]
      refine wpAnyH_take (i := 35) (oi := { dst := some 109, op := Op.move (Operand.tmp 5), type := 46, pos := "law.go:77", after := #[{ on := 31, ground := Ground.guard }], guard := some (31, true) }) (v := (.slice Aa na ca)) rfl (by kernel_rfl) (by kernel_rfl) (by kernel_rfl) (fun _ _ _ h => h) (Or.inl ⟨by rfl, ?_⟩) (by assumption) ?_
      · intro w' hSw
        go_simp
      simp only [Act.put, List.setIfInBounds_toArray, List.set_cons_zero, List.set_cons_succ]
      refine wpAnyH_take (i := 36) (oi := { dst := some 110, op := Op.move (Operand.tmp 6), type := 46, pos := "law.go:77", after := #[{ on := 31, ground := Ground.guard }], guard := some (31, true) }) (v := (.slice Ab nb cb)) rfl (by kernel_rfl) (by kernel_rfl) (by kernel_rfl) (fun _ _ _ h => h) (Or.inl ⟨by rfl, ?_⟩) (by assumption) ?_
      · intro w' hSw
        go_simp
      simp only [Act.put, List.setIfInBounds_toArray, List.set_cons_zero, List.set_cons_succ]
      obtain ⟨q, hq⟩ : ∃ q, decide (xs = ys) = q := ⟨_, rfl⟩
      refine wpAnyH_ready (rs := [34]) (by kernel_rfl) (by simp) ?_
      refine AllReadyH.cons (o := { dst := some 108, op := Op.call { callee := Callee.value (Operand.func 25), args := #[Operand.tmp 106, Operand.tmp 107], argTypes := #[46, 46] }, type := 4, pos := "law.go:77", after := #[{ on := 32, ground := Ground.data }, { on := 33, ground := Ground.data }, { on := 31, ground := Ground.chain }, { on := 31, ground := Ground.guard }], guard := some (31, true) }) rfl (fun K' hK => ?_) AllReadyH.nil
      rw [if_pos (by rfl)]
      go_simp
      go_at_call 25
      refine (step_same _ _ _ _ _ _ _ _ _ _ _ (HGA.out.below (HV5.out.mono HZW.out)) (HGB.out.below (HV5.out.mono HZW.out)) HNA.out HNB.out).mono ?_
      rintro e z8 ⟨rfl, hb⟩
      rw [hq]
      have HV6 := Lib.hid (bel_tr HV5.out hb)
      clear hb
      refine hK.out _ _ (HV6.out) (fun hHeld => ?_)
      clear hK
      try simp only [Act.put, List.setIfInBounds_toArray, List.set_cons_zero, List.set_cons_succ]
      refine wpAnyH_ready (rs := [37]) (by kernel_rfl) (by simp) ?_
      refine AllReadyH.cons (o := { dst := some 111, op := Op.call { callee := Callee.value (Operand.func 33), args := #[Operand.tmp 109, Operand.tmp 110], argTypes := #[46, 46] }, type := 4, pos := "law.go:77", after := #[{ on := 35, ground := Ground.data }, { on := 36, ground := Ground.data }, { on := 34, ground := Ground.chain }, { on := 31, ground := Ground.guard }], guard := some (31, true) }) rfl (fun K' hK => ?_) AllReadyH.nil
      rw [if_pos (by rfl)]
      go_simp
      go_at_call 33
      refine (rsame_e _ _ _ _ _ _ _ _ _ _ _ (HGA.out.below (HV6.out.mono HZW.out)) (HGB.out.below (HV6.out.mono HZW.out)) HNA.out HNB.out).mono ?_
      rintro e z9 ⟨rfl, hb⟩
      rw [hq]
      have HV7 := Lib.hid (bel_tr HV6.out hb)
      clear hb
      refine hK.out _ _ (HV7.out) (fun hHeld => ?_)
      clear hK
      try simp only [Act.put, List.setIfInBounds_toArray, List.set_cons_zero, List.set_cons_succ]
      refine wpAnyH_take (i := 38) (oi := { dst := some 112, op := Op.binOp BinOp.eql 4 (Operand.tmp 108) (Operand.tmp 111) 4, type := 4, pos := "law.go:77", after := #[{ on := 34, ground := Ground.data }, { on := 37, ground := Ground.data }, { on := 31, ground := Ground.guard }], guard := some (31, true) }) (v := (.bool true)) rfl (by kernel_rfl) (by kernel_rfl) (by kernel_rfl) (fun _ _ _ h => h) (Or.inl ⟨by rfl, ?_⟩) (by assumption) ?_
      · intro w' hSw
        cases q <;> go_simp
      simp only [Act.put, List.setIfInBounds_toArray, List.set_cons_zero, List.set_cons_succ]
      refine wpAnyH_take (i := 39) (oi := { dst := some 113, op := Op.pick (Operand.tmp 105) (Operand.tmp 112) (Operand.const (Value.bool false)), type := 4, pos := "law.go:77", after := #[{ on := 31, ground := Ground.data }, { on := 38, ground := Ground.data }], guard := none }) (v := (.bool true)) rfl (by kernel_rfl) (by kernel_rfl) (by kernel_rfl) (fun _ _ _ h => h) (Or.inl ⟨by rfl, ?_⟩) (by assumption) ?_
      · intro w' hSw
        go_simp
      simp only [Act.put, List.setIfInBounds_toArray, List.set_cons_zero, List.set_cons_succ]
      refine wpAnyH_take (i := 40) (oi := { dst := some 114, op := Op.move (Operand.tmp 113), type := 4, pos := "law.go:77", after := #[{ on := 39, ground := Ground.data }, { on := 37, ground := Ground.chain }], guard := none }) (v := (.bool true)) rfl (by kernel_rfl) (by kernel_rfl) (by kernel_rfl) (fun _ _ _ h => h) (Or.inl ⟨by rfl, ?_⟩) (by assumption) ?_
      · intro w' hSw
        go_simp
      simp only [Act.put, List.setIfInBounds_toArray, List.set_cons_zero, List.set_cons_succ]
      refine wpAnyH_take (i := 41) (oi := { dst := some 115, op := Op.move (Operand.tmp 5), type := 46, pos := "law.go:77", after := #[{ on := 40, ground := Ground.guard }], guard := some (40, true) }) (v := (.slice Aa na ca)) rfl (by kernel_rfl) (by kernel_rfl) (by kernel_rfl) (fun _ _ _ h => h) (Or.inl ⟨by rfl, ?_⟩) (by assumption) ?_
      · intro w' hSw
        go_simp
      simp only [Act.put, List.setIfInBounds_toArray, List.set_cons_zero, List.set_cons_succ]
      refine wpAnyH_take (i := 42) (oi := { dst := some 116, op := Op.move (Operand.tmp 5), type := 46, pos := "law.go:77", after := #[{ on := 40, ground := Ground.guard }], guard := some (40, true) }) (v := (.slice Aa na ca)) rfl (by kernel_rfl) (by kernel_rfl) (by kernel_rfl) (fun _ _ _ h => h) (Or.inl ⟨by rfl, ?_⟩) (by assumption) ?_
      · intro w' hSw
        go_simp
      simp only [Act.put, List.setIfInBounds_toArray, List.set_cons_zero, List.set_cons_succ]
      refine wpAnyH_ready (rs := [43]) (by kernel_rfl) (by simp) ?_
      refine AllReadyH.cons (o := { dst := some 117, op := Op.call { callee := Callee.value (Operand.func 25), args := #[Operand.tmp 115, Operand.tmp 116], argTypes := #[46, 46] }, type := 4, pos := "law.go:77", after := #[{ on := 41, ground := Ground.data }, { on := 42, ground := Ground.data }, { on := 40, ground := Ground.chain }, { on := 40, ground := Ground.guard }], guard := some (40, true) }) rfl (fun K' hK => ?_) AllReadyH.nil
      rw [if_pos (by rfl)]
      go_simp
      go_at_call 25
      refine (step_same _ _ _ _ _ _ _ _ _ _ _ (HGA.out.below (HV7.out.mono HZW.out)) (HGA.out.below (HV7.out.mono HZW.out)) HNA.out HNA.out).mono ?_
      rintro e z10 ⟨rfl, hb⟩
      rw [show decide (xs = xs) = true from decide_eq_true rfl]
      have HV8 := Lib.hid (bel_tr HV7.out hb)
      clear hb
      refine hK.out _ _ (HV8.out) (fun hHeld => ?_)
      clear hK
      try simp only [Act.put, List.setIfInBounds_toArray, List.set_cons_zero, List.set_cons_succ]
      refine wpAnyH_take (i := 44) (oi := { dst := some 118, op := Op.pick (Operand.tmp 114) (Operand.tmp 117) (Operand.const (Value.bool false)), type := 4, pos := "law.go:77", after := #[{ on := 40, ground := Ground.data }, { on := 43, ground := Ground.data }], guard := none }) (v := (.bool true)) rfl (by kernel_rfl) (by kernel_rfl) (by kernel_rfl) (fun _ _ _ h => h) (Or.inl ⟨by rfl, ?_⟩) (by assumption) ?_
      · intro w' hSw
        go_simp
      simp only [Act.put, List.setIfInBounds_toArray, List.set_cons_zero, List.set_cons_succ]
      refine wpAnyH_take (i := 45) (oi := { dst := some 14, op := Op.assign (Operand.tmp 118), type := 4, pos := "law.go:77", after := #[{ on := 44, ground := Ground.data }, { on := 43, ground := Ground.chain }, { on := 0, ground := Ground.phase }, { on := 1, ground := Ground.phase }, { on := 2, ground := Ground.phase }, { on := 3, ground := Ground.phase }, { on := 4, ground := Ground.phase }, { on := 5, ground := Ground.phase }, { on := 6, ground := Ground.phase }, { on := 7, ground := Ground.phase }, { on := 8, ground := Ground.phase }, { on := 9, ground := Ground.phase }, { on := 10, ground := Ground.phase }, { on := 11, ground := Ground.phase }, { on := 12, ground := Ground.phase }, { on := 13, ground := Ground.phase }, { on := 14, ground := Ground.phase }, { on := 15, ground := Ground.phase }, { on := 16, ground := Ground.phase }, { on := 17, ground := Ground.phase }, { on := 18, ground := Ground.phase }, { on := 19, ground := Ground.phase }, { on := 20, ground := Ground.phase }, { on := 21, ground := Ground.phase }, { on := 22, ground := Ground.phase }, { on := 23, ground := Ground.phase }, { on := 24, ground := Ground.phase }, { on := 25, ground := Ground.phase }, { on := 26, ground := Ground.phase }, { on := 27, ground := Ground.phase }, { on := 28, ground := Ground.phase }, { on := 29, ground := Ground.phase }, { on := 30, ground := Ground.phase }, { on := 31, ground := Ground.phase }, { on := 32, ground := Ground.phase }, { on := 33, ground := Ground.phase }, { on := 34, ground := Ground.phase }, { on := 35, ground := Ground.phase }, { on := 36, ground := Ground.phase }, { on := 37, ground := Ground.phase }, { on := 38, ground := Ground.phase }, { on := 39, ground := Ground.phase }, { on := 40, ground := Ground.phase }, { on := 41, ground := Ground.phase }, { on := 42, ground := Ground.phase }, { on := 43, ground := Ground.phase }, { on := 44, ground := Ground.phase }], guard := none }) (v := (.bool true)) rfl (by kernel_rfl) (by kernel_rfl) (by kernel_rfl) (fun _ _ _ h => h) (Or.inl ⟨by rfl, ?_⟩) (by assumption) ?_
      · intro w' hSw
        go_simp
      simp only [Act.put, List.setIfInBounds_toArray, List.set_cons_zero, List.set_cons_succ]
      refine wpAnyH_done (by kernel_rfl) ?_ _
      clear hHeld
      go_wp2_with fail
      go_ret
      exact ⟨rfl, bel_tr HQ6.out.b HV8.out⟩
end stepCalls
end Go.Proofs.YtikbnfhnimjmmaaGreatDoor
