/- A stack of 32 bytes: what is pushed and popped; the statements' own stack. -/
import Derived.Test.YtljapifpkjkjaaaGreatDoorS16
namespace Go.Proofs.YtljapifpkjkjaaaGreatDoor
open Go Go.RowKit Go.Shelf
namespace Sp
open Wd Nt Mm Is
set_option linter.unusedVariables false
set_option linter.unusedSimpArgs false
theorem word_eq {bs cs : List Int} (k n : Nat) (h : ∀ j, k ≤ j → j < k + n → bt bs j = bt cs j) : wordN bs k n = wordN cs k n := by
  induction n generalizing k with
  | zero => rfl
  | succ n ih =>
    show bt bs k + 256 * wordN bs (k + 1) n = bt cs k + 256 * wordN cs (k + 1) n
    rw [h k (Nat.le_refl _) (by omega), ih (k + 1) (fun j h1 h2 => h j (by omega) (by omega))]
theorem word_zs (m k n : Nat) : wordN (zs m) k n = 0 := by
  induction n generalizing k with
  | zero => rfl
  | succ n ih =>
    show bt (zs m) k + 256 * wordN (zs m) (k + 1) n = 0
    rw [ih, show bt (zs m) k = 0 from by
      unfold bt zs
      rcases Nat.lt_or_ge k m with h | h
      · rw [List.getElem?_replicate, if_pos h]; rfl
      · rw [List.getElem?_replicate, if_neg (by omega)]; rfl]
    rfl
def stR : Reg := ⟨64, zs 32, true⟩
structure OneR (r : Reg) : Prop where
  base : r.base = 64
  len : r.bytes.length = 32
  write : r.write = true
theorem stR_one : OneR stR := ⟨rfl, zs_len 32, rfl⟩
theorem OneR.put {r : Reg} (h : OneR r) (p v : Int) : OneR (r.put p v) := ⟨h.base, (putN_len ..).trans h.len, h.write⟩
theorem OneR.hits {r : Reg} (h : OneR r) {p : Int} (h0 : 64 ≤ p) (h1 : p ≤ 88) : Hits [r] p 8 0 r := by
  have hl : r.len = 32 := by unfold Reg.len; rw [h.len]; rfl
  exact ⟨rfl, by rw [h.base]; exact h0, by rw [h.base, hl]; omega, by rw [h.base, hl]; omega⟩
theorem hits_one {r s : Reg} {p n : Int} {i : Nat} (h : Hits [r] p n i s) : i = 0 ∧ s = r := by
  have h1 := h.1
  rcases i with _ | i
  · exact ⟨rfl, by simpa using h1.symm⟩
  · simp at h1
theorem OneR.load {r : Reg} (h : OneR r) {p v e : Int} (h0 : 64 ≤ p) (h1 : p ≤ 88) (hl : LoadO [r] p v e) : v = wordN r.bytes (p - 64).toNat 8 ∧ e = 0 := by
  rcases hl with ⟨i, s, a, b, c⟩ | ⟨a, _⟩
  · obtain ⟨rfl, rfl⟩ := hits_one a
    exact ⟨by rw [b, h.base], c⟩
  · exact absurd (h.hits h0 h1) (a _ _)
theorem OneR.store {r : Reg} (h : OneR r) {p v e : Int} {M' : List Reg} (h0 : 64 ≤ p) (h1 : p ≤ 88) (hl : StoreO [r] p v M' e) : M' = [r.put p v] ∧ e = 0 := by
  rcases hl with ⟨i, s, a, _, b, c⟩ | ⟨a, _⟩
  · obtain ⟨rfl, rfl⟩ := hits_one a
    exact ⟨b, c⟩
  · have := a _ _ (h.hits h0 h1); rw [h.write] at this; cases this
theorem word_near {r : Reg} (h : OneR r) {p v : Int} (hv : W v) (h0 : 64 ≤ p) (h1 : p ≤ 88) : wordN (r.put p v).bytes (p - 64).toNat 8 = v := by
  unfold Reg.put
  rw [h.base]
  exact word_put hv (by rw [h.len]; omega)
theorem word_apart {r : Reg} (h : OneR r) {p q v : Int} (h0 : 64 ≤ p) (h1 : p ≤ 88) (g0 : 64 ≤ q) (g1 : q ≤ 88) (ha : p + 8 ≤ q ∨ q + 8 ≤ p) : wordN (r.put p v).bytes (q - 64).toNat 8 = wordN r.bytes (q - 64).toNat 8 := by
  refine word_eq _ _ fun j j0 j1 => ?_
  unfold Reg.put
  rw [h.base, bt_putN _ _ _ _ _ (by rw [h.len]; omega), if_neg (by omega)]
/-- pushed, popped -/
theorem ref_push {x : Nat} (hx : x < 16) : refE (rr2 28 0 x) 1 = 0 := by
  rcases lt16 hx with rfl | rfl | rfl | rfl | rfl | rfl | rfl | rfl | rfl | rfl | rfl | rfl | rfl | rfl | rfl | rfl <;> rfl
theorem ref_pop {x : Nat} (hx : x < 16) : refE (rr2 29 x 0) 1 = 0 := by
  rcases lt16 hx with rfl | rfl | rfl | rfl | rfl | rfl | rfl | rfl | rfl | rfl | rfl | rfl | rfl | rfl | rfl | rfl <;> rfl
def nextS (s : Stt) : Stt := { s with pc := u64 (s.pc + u64 1) }
theorem do_push {s n : Stt} {x : Nat} {p e : Int} {r : Reg} {M' : List Reg} {l : List Ev} (h : DoO s (rr2 28 0 x) 1 [r] n l M' e) (hx : x < 16) (hr : OneR r) (hs : s.r 4 = p + 8) (h0 : 64 ≤ p) (h1 : p ≤ 88) :
    e = 0 ∧ M' = [r.put p (s.r x)] ∧ n = (nextS s).set 4 p := by
  have hp : u64 (s.r 4 - 8) = p := by rw [hs]; unfold u64; omega
  rcases h with ⟨a, _⟩ | ⟨_, v, hX, hn⟩
  · exact absurd (ref_push hx) a
  · have ht : tch s (rr2 28 0 x) = ⟨3, p⟩ := by show (⟨3, u64 (s.r 4 - 8)⟩ : Ev) = _; rw [hp]
    rw [ht] at hX
    rcases hX with ⟨a, _⟩ | ⟨_, hst, hv⟩ | ⟨_, a, _⟩
    · exact absurd (show (3 : Int) = 2 from a) (by decide)
    · obtain ⟨hM, he⟩ := hr.store h0 h1 hst
      refine ⟨he, by rw [hM]; rfl, ?_⟩
      rcases hn with ⟨b, _⟩ | ⟨_, b, _⟩
      · exact absurd he b
      · rw [b]
        show (nextS s).set 4 (u64 (s.r 4 - 8)) = _
        rw [hp]
    · exact absurd rfl a
theorem do_pop {s n : Stt} {x : Nat} {p e : Int} {r : Reg} {M' : List Reg} {l : List Ev} (h : DoO s (rr2 29 x 0) 1 [r] n l M' e) (hx : x < 16) (hr : OneR r) (hs : s.r 4 = p) (h0 : 64 ≤ p) (h1 : p ≤ 88) :
    e = 0 ∧ M' = [r] ∧ n = ((nextS s).set 4 (p + 8)).set x (wordN r.bytes (p - 64).toNat 8) := by
  have hp : u64 (s.r 4 + 8) = p + 8 := by rw [hs]; unfold u64; omega
  rcases h with ⟨a, _⟩ | ⟨_, v, hX, hn⟩
  · exact absurd (ref_pop hx) a
  · have ht : tch s (rr2 29 x 0) = ⟨2, p⟩ := by show (⟨2, s.r 4⟩ : Ev) = _; rw [hs]
    rw [ht] at hX
    rcases hX with ⟨_, hst, hM⟩ | ⟨a, _⟩ | ⟨a, _⟩
    · obtain ⟨hv, he⟩ := hr.load h0 h1 hst
      refine ⟨he, hM, ?_⟩
      rcases hn with ⟨b, _⟩ | ⟨_, b, _⟩
      · exact absurd he b
      · rw [b]
        show ((nextS s).set 4 (u64 (s.r 4 + 8))).set x v = _
        rw [hp, hv]
    · exact absurd (show (2 : Int) = 3 from a) (by decide)
    · exact absurd rfl a
/-- the state that a stack begins with -/
def stS : Stt := ⟨fun k => if k = 4 then 80 else 0, 1000, false, false, false⟩
theorem stS_wf : stS.wf := ⟨fun k => by unfold stS; dsimp only; split <;> exact ⟨by omega, by omega⟩, (show W 1000 from ⟨by decide, by decide⟩)⟩
theorem stP_built : Tryz.prog.built 26 [(1, .int .u64 1000)] = some #[.int .u64 0, .int .u64 0, .int .u64 0, .int .u64 0, .int .u64 0, .int .u64 0, .int .u64 0, .int .u64 0, .int .u64 0, .int .u64 0, .int .u64 0, .int .u64 0, .int .u64 0, .int .u64 0, .int .u64 0, .int .u64 0, .int .u64 1000, .bool false, .bool false, .bool false] := by kernel_rfl
def stP : Stt := ⟨fun _ => 0, 1000, false, false, false⟩
theorem stP_one : (#[.int .u64 0, .int .u64 0, .int .u64 0, .int .u64 0, .int .u64 0, .int .u64 0, .int .u64 0, .int .u64 0, .int .u64 0, .int .u64 0, .int .u64 0, .int .u64 0, .int .u64 0, .int .u64 0, .int .u64 0, .int .u64 0, .int .u64 1000, .bool false, .bool false, .bool false] : Array Value).all (·.oneCell') = true := stP.vs_one
theorem stP_size : s0.vs.size = (#[.int .u64 0, .int .u64 0, .int .u64 0, .int .u64 0, .int .u64 0, .int .u64 0, .int .u64 0, .int .u64 0, .int .u64 0, .int .u64 0, .int .u64 0, .int .u64 0, .int .u64 0, .int .u64 0, .int .u64 0, .int .u64 0, .int .u64 1000, .bool false, .bool false, .bool false] : Array Value).size := rfl
section
variable {R : World → Nat → Nat → Value → List Reg → Prop}
def StN (R : World → Nat → Nat → Value → List Reg → Prop) (W : World) (e : Ending) (w' : World) : Prop := ∃ D, e = .returned (.tuple #[.pointer (some D), .int .i64 0]) ∧ Below W.heap.size W w' ∧ R w' W.heap.size w'.heap.size (.pointer (some D)) [stR]
theorem st_good : Mm.Good [stR] := by
  rw [Good.iff]
  refine ⟨by decide, fun r hr => ?_, List.pairwise_singleton _ _⟩
  obtain rfl : r = stR := by simpa using hr
  unfold Reg.len
  rw [show stR.bytes.length = 32 from zs_len 32]
  show _ ∧ _
  simp [stR]
theorem st_new (mc : MemD R) (W : World) (g1 gl : Nat) (h1 : Bk W g1 5 (b8 (zs 32)).toArray) (hl : Bk W gl 66 #[.int .u64 64, .slice (some ⟨g1, 0, none⟩) 32 32, .bool true]) :
    Calls Tryz.prog 16 #[.slice (some ⟨gl, 0, none⟩) 1 1] W (StN R W) := by
  have hrow : Hid (AtR W (some ⟨gl, 0, none⟩) 1 [stR]) := by
    refine Lib.hid ⟨rfl, ?_, fun _ => ⟨_, rfl, hl.lt, ?_⟩⟩
    · intro r hr
      obtain rfl : r = stR := by simpa using hr
      exact ⟨(by unfold Wd.W; decide : Wd.W 64), zs_bs _⟩
    · intro j r hj
      rcases j with _ | j
      · obtain rfl : stR = r := by simpa using hj
        exact ⟨_, 32, 32, hl.cell 0, hl.cell 1, hl.cell 2, bk_rd8 h1 (zs_len 32) (zs_bs 32), Nat.le_refl _, by omega⟩
      · simp at hj
  refine (mc.new _ 1 1 [stR] W hrow (by omega)).mono ?_
  rintro e w' ⟨hb2, x, hx, ⟨h0, _⟩ | ⟨_, p, M, rfl, hp, hr⟩⟩
  · exact absurd (good_chk st_good hx) h0
  · obtain rfl : M = [stR] := List.perm_singleton.1 hp
    obtain ⟨⟨D, rfl⟩, _⟩ := mc.shape hr
    exact ⟨D, rfl, hb2, hr⟩
theorem ret_stk {fn : Func} {p u : Tmp} {R : Ending → World → Prop} {a : Act} {w : World} {g : Nat} {s : Stt} {x : Value} (h : fn.results = #[.cell p 26, .tmp u]) (hp : a.tmps.getD p undef = .pointer (some ⟨g, 0, none⟩)) (hu : a.tmps.getD u undef = x) (hd : a.defers = [])
    (hb : Bk w g 26 s.vs) (hR : R (.returned (.tuple #[.agg s.vs, x])) w) : bodyPost Tryz.prog fn R .ret a w := by
  refine bodyPost_ret (v := .tuple #[.agg s.vs, x]) ?_ hd hR
  have hp' : a.tmps[p]?.getD undef = .pointer (some ⟨g, 0, none⟩) := by simpa using hp
  have hu' : a.tmps[u]?.getD undef = x := by simpa using hu
  simp [results, h, hp', hu', asAddr, Sem.run_bind, run_loadVar_row w g 26 26 s.vs (0, 0) _ hb Tryz.underlying26 rfl i20]
def StkP (R : World → Nat → Nat → Value → List Reg → Prop) (w : World) (e : Ending) (w' : World) : Prop := ∃ D B E, e = .returned (.tuple #[.agg stS.vs, .pointer (some D)]) ∧ R w' B E (.pointer (some D)) [stR] ∧ Below w.heap.size w w' ∧ w.heap.size ≤ B
set_option maxRecDepth 100000 in
set_option maxHeartbeats 4000000 in
theorem stack_c (mc : MemD R) (w : World) : Calls Tryz.prog 10 #[] w (StkP R w) := by
  have hmk : ∀ W, (Instr.makeSlice 64 (.int .i64 32) (.int .i64 32)).run Tryz.prog W = .ok (.slice (some ⟨W.heap.size, 0, none⟩) 32 32) (W.alloc (.cells (b8 (zs 32)).toArray 5)) := fun W => make_8 32 (by omega) W
  have HS := Lib.hid (fun W g1 gl h1 hl => st_new mc W g1 gl h1 hl)
  generalize (b8 (zs 32)).toArray = bb at *
  go_enter Tryz.func10, Tryz.ntmps10
  go_upto_region 2 with (first | (go_at_call 16; refine (HS.out _ (w.heap.size + 1) (w.heap.size + 1 + 1) ((Bk.new' (by simp)).alloc _) (Bk.new' (by simp))).mono ?_; rintro e y ⟨D, rfl, hb, hr⟩; have HR := Lib.hid hr; have HB := Lib.hid hb; clear hb hr) | fail)
  have HW := Lib.hid (bel_tr (bel_al (bel_al (bel_alloc _) _) _) HB.out)
  have HZ := Lib.hid (show Bk y w.heap.size 26 s0.vs from (((Bk.new w 26 s0.vs).alloc _).alloc _).below HB.out (by simp; omega))
  obtain ⟨B, HBd⟩ : ∃ B, Hid (w.heap.size < B ∧ R y B y.heap.size (.pointer (some D)) [stR]) := ⟨_, Lib.hid ⟨by simp; omega, HR.out⟩⟩
  clear HB HR HS hmk
  go_upto_region 4 with (first | (refine built_s _ _ stP_built #[(1, .const (.int .u64 1000))] (some 12) rfl rfl rfl (by kernel_rfl) ?_) | (refine wpList_store_row rfl 26 (.tmp 4) (.tmp 12) rfl y.heap.size _ rfl rfl 26 s0.vs (Bk.new y 26 s0.vs) i20 stP_size stP_one ?_; rw [World.setRow_alloc_new]) | fail)
  change Code.wp _ _ _ _ (y.alloc (.cells stS.vs 26))
  have HY := Lib.hid (Bk.new y 26 stS.vs)
  have HZ2 := Lib.hid (HZ.out.alloc (.cells stS.vs 26))
  have HR2 := Lib.hid (mc.below (Lib.hid HBd.out.2) (bel_alloc (.cells stS.vs 26))).out
  have HW2 := Lib.hid (bel_tr HW.out (bel_alloc (.cells stS.vs 26)))
  have HB1 := Lib.hid HBd.out.1
  clear HZ HW HBd
  generalize y.heap.size = g at *
  generalize World.alloc _ _ = V at *
  go_wp2_with (first | (refine wpList_load_row rfl 26 (.tmp 4) rfl g rfl 26 stS.vs (0, 0) _ HY.out Tryz.underlying26 rfl i20 ?_) | (refine wpList_store_row rfl 26 (.tmp 0) (.tmp 15) rfl w.heap.size stS.vs rfl rfl 26 s0.vs HZ2.out i20 rfl stS.vs_one ?_) | fail)
  refine ret_stk rfl rfl rfl rfl (bk_row HZ2.out) ?_
  exact ⟨D, B, g, rfl, mc.keep HR2.out (kp_row V w.heap.size stS.vs) (.inr HB1.out), (Kp.row (Kp.of (B := w.heap.size) (E := w.heap.size) HW2.out) (Nat.le_refl _) stS.vs).below (Nat.le_refl _), Nat.le_of_lt HB1.out⟩
end
end Sp
end Go.Proofs.YtljapifpkjkjaaaGreatDoor
