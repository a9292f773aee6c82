/- The landed package limb: a run. -/
import Derived.Test.YtbdhibgljaelbaaDoorMD
import Derived.Deep.RegionHeld3
import Derived.Laws.CopyOwn
namespace Go.Proofs.YtbdhibgljaelbaaDoor
open Go Go.RowKit Go.Sort Go.Shelf
namespace Lb
open Wd Nt Gr
set_option linter.unusedVariables false
set_option linter.unusedSimpArgs false
theorem make_ev (n : Nat) (hn : n ≤ 16777216) : ∃ cs : Array Value, ∀ w : World,
    (Instr.makeSlice 40 (.int .i64 0) (.int .u64 (n : Int))).run Tryd.prog w = .ok (.slice (some ⟨w.heap.size, 0, none⟩) 0 n) (w.alloc (.cells cs 46)) ∧
    ∀ B, B ≤ w.heap.size → Rws 46 B (.slice (some ⟨w.heap.size, 0, none⟩) 0 n) ([] : List Ev) (w.alloc (.cells cs 46)) := by
  obtain ⟨i, hi, hz, h1, h2⟩ := info_parts info_ev
  refine ⟨madeCells (Value.agg #[.int .i64 0, .int .i64 0]).cells (n * i.size), fun w => ?_⟩
  have hr := run_make (P := Tryd.prog) w 40 46 i (.agg #[.int .i64 0, .int .i64 0]) Tryd.underlying40 hi hz .i64 .u64 0 (n : Int) (by omega) (by omega) (by rw [h2]; omega) (by omega)
  rw [Int.toNat_natCast] at hr
  refine ⟨hr, fun B hB => ?_⟩
  obtain ⟨w', k1, k2, _⟩ := run_make_own (P := Tryd.prog) w B 40 46 i (.agg #[.int .i64 0, .int .i64 0]) 2 Tryd.underlying40 hi hz h1 .i64 .u64 n (by rw [h2]; omega) (by unfold maxLen; omega) hB
  rw [hr] at k1
  injection k1 with _ k1
  rw [k1]
  exact k2
def RowsO (w : World) (B : Nat) (v : Value) (out : List (List Int)) : Prop := (v = .slice none 0 0 ∧ out = []) ∨ ∃ G xs, v = .slice (some ⟨G, 0, none⟩) xs.length xs.length ∧ xs.map (·.2) = out ∧ RowsB w B G xs
def RunA (p : Pg) (h : List (List Int)) (B : Nat) (e : Ending) (w' : World) : Prop := ∃ vo vl r, e = .returned (.tuple #[vo, vl, .int .i64 r.er]) ∧ RunP p h r ∧ RowsO w' B vo r.out ∧ Rws 46 B vl r.ev w'
theorem RowsB.mono {w : World} {B B' G : Nat} {xs : List (Nat × List Int)} (h : RowsB w B G xs) (hB : B' ≤ B) : RowsB w B' G xs := ⟨h.blk, Nat.le_trans hB h.hG, fun x hx => ⟨Nat.le_trans hB (h.each x hx).1, (h.each x hx).2⟩, h.nd⟩
theorem runP_chk {p : Pg} {h : List (List Int)} (h0 : (chkP p).2 ≠ 0) : RunP p h ⟨[], [], (chkP p).2⟩ := by unfold RunP; rw [if_pos h0]
theorem runP_full {p : Pg} {h : List (List Int)} (h0 : (chkP p).2 = 0) (h1 : 16777216 < evP p.op) : RunP p h ⟨[], [], 10⟩ := by unfold RunP; rw [if_neg (by simpa using h0), if_pos h1]
theorem runP_arg {p : Pg} {h : List (List Int)} (h0 : (chkP p).2 = 0) (h1 : ¬ 16777216 < evP p.op) (h2 : fitP p.bf h = false) : RunP p h ⟨[], [], 2⟩ := by unfold RunP; rw [if_neg (by simpa using h0), if_neg h1, if_pos h2]
theorem runP_run {p : Pg} {h : List (List Int)} (h0 : (chkP p).2 = 0) (h1 : ¬ 16777216 < evP p.op) (h2 : fitP p.bf h = true) {N : Nat} {f : Bool} {s : St} (hr : runF p.op (enP p.op) N (st0 p h) = some (f, s)) : RunP p h (if f then ⟨s.rows, s.seen, 0⟩ else ⟨[], s.seen, 11⟩) := by
  unfold RunP
  rw [if_neg (by simpa using h0), if_neg h1, if_neg (by rw [h2]; decide)]
  exact ⟨f, s, ⟨N, hr⟩, rfl⟩
theorem cell_al2 {w : World} {p : Addr} {v : Value} (o : Obj) (h : w.cell? p = some v) : (w.alloc o).cell? p = some v := (World.cell?_alloc_lt _ _ _ (World.block_lt_of_cell? w p h)).trans h
/-- a run's block, still zeros -/
def Zw (w W : World) (g : Nat) : Prop := w.heap.size < g ∧ Bk W g 71 Tryd.zeroCells71
theorem zw_1 {w W : World} {g : Nat} (h : g = W.heap.size) (hS : w.heap.size < W.heap.size) : Zw w (W.alloc (.cells Tryd.zeroCells71 71)) g := by
  subst h
  exact ⟨hS, Bk.new _ _ _⟩
/-- a run's block, still zeros, wherever -/
def Zb (W : World) (g : Nat) : Prop := Bk W g 71 Tryd.zeroCells71
theorem zb_1 {W : World} {g : Nat} (h : g = W.heap.size) : Zb (W.alloc (.cells Tryd.zeroCells71 71)) g := by
  subst h
  exact Bk.new _ _ _
theorem zb_2 {W : World} {g : Nat} (o : Obj) (h : Zb W g) : Zb (W.alloc o) g := Bk.alloc h o
theorem zb_3 {W W' : World} (hb : Below W.heap.size W W') {g : Nat} (h : Zb W g) : Zb W' g := Bk.below h hb (Bk.lt h)
theorem zb_1d {W : World} {g : Nat} (h : g = W.heap.size) : Zb (W.alloc (.cells Tryd.zeroCells71 71)).drew g := zb_1 (W := W.drew) h
theorem zb_2d {W : World} {g : Nat} (o : Obj) (h : Zb W.drew g) : Zb (W.alloc o).drew g := zb_2 (W := W.drew) o h
theorem zw_1d {w W : World} {g : Nat} (h : g = W.heap.size) (hS : w.heap.size < W.heap.size) : Zw w (W.alloc (.cells Tryd.zeroCells71 71)).drew g := zw_1 (W := W.drew) h hS
theorem bel_ald {W : World} (o : Obj) : Below W.drew.heap.size W.drew (W.alloc o).drew := bel_al (w := W.drew) o
theorem zw_2 {w W : World} {g : Nat} (o : Obj) (h : Zw w W g) : Zw w (W.alloc o) g := ⟨h.1, h.2.alloc o⟩
theorem zw_2d {w W : World} {g : Nat} (o : Obj) (h : Zw w W.drew g) : Zw w (W.alloc o).drew g := zw_2 (W := W.drew) o h
theorem zw_3 {w W W' : World} (hb : Below W.heap.size W W') (g : Nat) (h : Zw w W g) : Zw w W' g := ⟨h.1, h.2.below hb h.2.lt⟩
set_option maxRecDepth 100000 in
theorem rn_build (ov ev rv sv : Value) : ((((Tryd.zeroCells71.toList.set 0 ov).set 1 ev).set 66 rv).set 67 sv) = (rnA ov ev (fun _ => 0) rv sv).toList := by kernel_rfl
set_option maxRecDepth 100000 in
theorem zero_size : Tryd.zeroCells71.size = 68 := by kernel_rfl
theorem rn_store {W : World} {g : Nat} (h : Zb W g) (a1 a2 a3 a4 : Option Addr) (n1 n2 n3 n4 c1 c2 c3 c4 : Nat) :
    (storeCells ⟨g, 0, none⟩ ((((Tryd.zeroCells71.toList.set 0 (.slice a1 n1 c1)).set 1 (.slice a2 n2 c2)).set 66 (.slice a3 n3 c3)).set 67 (.slice a4 n4 c4))).run Tryd.prog W = .ok () (W.setRow g (rnA (.slice a1 n1 c1) (.slice a2 n2 c2) (fun _ => 0) (.slice a3 n3 c3) (.slice a4 n4 c4))) := by
  rw [rn_build]
  have h2 := run_storeCells_from (P := Tryd.prog) g 71 (rnA (.slice a1 n1 c1) (.slice a2 n2 c2) (fun _ => 0) (.slice a3 n3 c3) (.slice a4 n4 c4)).toList 0 _ W h (by rw [zero_size]; unfold rnA; simp [rgL_len]) (fun v hv => by
    unfold rnA rgL at hv
    simp only [List.mem_cons, List.mem_append, List.mem_map, List.not_mem_nil, or_false] at hv
    rcases hv with rfl | rfl | ⟨i, _, rfl⟩ | rfl | rfl <;> rfl)
  rw [h2]
  congr 1
theorem grown_row (W : World) (g : Nat) (cs : Array Value) : W.grownBy (W.setRow g cs) (some g) := ⟨rfl, rfl, rfl, by simp [World.setRow], fun k _ hne => setRow_other W g k _ (fun e => hne (by rw [e]))⟩
theorem own_row {W : World} {B s n : Nat} {e : TypeId} {v : Value} {xs : List Value} (h : W.ownsRow B e s v n xs) {g : Nat} {t : TypeId} {cs : Array Value} (hg : Bk W g t cs) (hne : e ≠ t) (cs' : Array Value) : (W.setRow g cs').ownsRow B e s v n xs := by
  refine h.kept (grown_row W g cs') ?_
  rcases h.2 with ⟨e1, _⟩ | ⟨g', cap', cur', e1, _, hg', _⟩
  · exact .inl (by rw [e1]; rfl)
  · refine .inr (fun e2 => ?_)
    rw [e1] at e2
    simp [Value.ownBlock] at e2
    subst e2
    unfold Bk at hg
    rw [hg'] at hg
    injection hg with hg
    injection hg with _ h2
    exact hne h2
theorem bk_row {W : World} {k g : Nat} {e t : TypeId} {cs cs2 : Array Value} (h : Bk W k e cs) (hg : Bk W g t cs2) (hne : e ≠ t) (cs' : Array Value) : Bk (W.setRow g cs') k e cs := by
  unfold Bk at h hg ⊢
  rw [setRow_other W g k cs' (fun e2 => by
    subst e2
    rw [h] at hg
    injection hg with hg
    injection hg with _ h2
    exact hne h2)]
  exact h
theorem fin_run {w W : World} {g G : Nat} {ov sv : Value} {ev : EnV} {xs : List (Nat × List Int)} (hz : Zw w W g) (hb : Below w.heap.size w W) (h2 : Rws 3 w.heap.size ev.v ev.xs W) (h3 : RowsB W w.heap.size G xs) (h4 : Rws 46 w.heap.size sv ([] : List Ev) W) :
    RnW (W.setRow g (rnA ov ev.v (fun _ => 0) (.slice (some ⟨G, 0, none⟩) xs.length xs.length) sv)) w.heap.size g ov ev xs (fun _ => 0) [] ∧ Below w.heap.size w (W.setRow g (rnA ov ev.v (fun _ => 0) (.slice (some ⟨G, 0, none⟩) xs.length xs.length) sv)) := by
  refine ⟨⟨⟨G, sv, setRow_heap W g _ _ _ _ hz.2, own_row h4 hz.2 (by decide) _, ⟨bk_row h3.blk hz.2 (by decide) _, h3.hG, fun x hx => ⟨(h3.each x hx).1, bk_row (h3.each x hx).2.1 hz.2 (by decide) _, (h3.each x hx).2.2⟩, h3.nd⟩⟩, own_row h2 hz.2 (by decide) _, Nat.le_of_lt hz.1, fun i => ⟨by decide, by decide⟩⟩, below_setRow hb (Nat.le_of_lt hz.1) _⟩
theorem RowsB.from_ {w w' : World} {B G : Nat} {xs : List (Nat × List Int)} (h : RowsB w B G xs) (hb : Below w.heap.size w w') : RowsB w' B G xs := h.below hb
theorem keepS {w W : World} {p q g : Nat} {u v : Value} (cs : Array Value) (h : W.cell? ⟨w.heap.size, p, none⟩ = some u ∧ W.cell? ⟨w.heap.size, q, none⟩ = some v ∧ Below w.heap.size w W) (hz : Zw w W g) : (W.setRow g cs).cell? ⟨w.heap.size, p, none⟩ = some u ∧ (W.setRow g cs).cell? ⟨w.heap.size, q, none⟩ = some v ∧ Below w.heap.size w (W.setRow g cs) := by
  have e := setRow_other W g w.heap.size cs (by have := hz.1; omega)
  refine ⟨?_, ?_, below_setRow h.2.2 (Nat.le_of_lt hz.1) cs⟩
  · rw [← h.1]; unfold World.cell?; rw [e]
  · rw [← h.2.1]; unfold World.cell?; rw [e]
theorem rows0_le : ∀ {bs : List Bf} {rs : List (List Int)}, fitP bs rs = true → (∀ b ∈ bs, 0 < b.sz ∧ b.sz ≤ 65536) → ∀ r ∈ rows0 bs rs, r.length ≤ 65536
  | b :: bs, r :: rs, h, hs, y, hy => by
    unfold fitP at h
    rw [Bool.and_eq_true] at h
    rcases List.mem_cons.1 hy with rfl | hy
    · have h1 := hs b (by simp)
      rw [row0_len (fit_len h.1 h1.1)]
      omega
    · exact rows0_le h.2 (fun b hb => hs b (by simp [hb])) y hy
  | b :: bs, [], h, _, _, _ => by cases h
  | [], [], _, _, y, hy => by cases hy
  | [], r :: rs, h, _, _, _ => by cases h
theorem held3 {w W : World} {p q : Prop} (h : p ∧ q ∧ Below w.heap.size w W) : Below w.heap.size w W := h.2.2
theorem keepB {w W W' : World} {a b : Addr} {u v : Value} (h : W.cell? a = some u ∧ W.cell? b = some v ∧ Below w.heap.size w W) (hb : Below W.heap.size W W') : W'.cell? a = some u ∧ W'.cell? b = some v ∧ Below w.heap.size w W' :=
  ⟨(hb.cell (World.block_lt_of_cell? W _ h.1)).trans h.1, (hb.cell (World.block_lt_of_cell? W _ h.2.1)).trans h.2.1, bel_tr h.2.2 hb⟩
theorem keepA {w W : World} {a b : Addr} {u v : Value} (h : W.cell? a = some u ∧ W.cell? b = some v ∧ Below w.heap.size w W) (o : Obj) : (W.alloc o).cell? a = some u ∧ (W.alloc o).cell? b = some v ∧ Below w.heap.size w (W.alloc o) := keepB h (bel_al o)
theorem keepAD {w W : World} {a b : Addr} {u v : Value} (h : W.drew.cell? a = some u ∧ W.drew.cell? b = some v ∧ Below w.heap.size w W.drew) (o : Obj) : (W.alloc o).drew.cell? a = some u ∧ (W.alloc o).drew.cell? b = some v ∧ Below w.heap.size w (W.alloc o).drew := keepB h (bel_ald o)
set_option maxRecDepth 100000 in
set_option maxHeartbeats 8000000 in
theorem run_l (p : Pg) (hp : p.wf) (A X Y : Option Addr) (c d m q : Nat) (hs : List Hr) (w : World) (hT : TabF w) (hR : Rdr w w.heap.size A p.bf.length p.bf) (hX : Rdr w w.heap.size X p.op.length p.op) (hH : HrW w w.heap.size Y m hs) (hm : m ≤ 1000000) :
    Calls Tryd.prog 13 #[pgV p A c X d, .slice Y m q] w fun e w' => RunA p (hrYs hs) w.heap.size e w' ∧ Below w.heap.size w w' := by
  have HC := Lib.hid (fun (W : World) (hb : Below w.heap.size w W) => check_l p hp A X c d W (hT.keep hb) ((hR.below hb).more hb.size) ((hX.below hb).more hb.size))
  have HEV := Lib.hid (fun (h : (chkP p).2 = 0) (W : World) (hb : Below w.heap.size w W) => events_l p (ok_of h) hp X d W ((hX.below hb).more hb.size))
  have HEN := Lib.hid (fun (h : (chkP p).2 = 0) (W : World) (hb : Below w.heap.size w W) => ends_l p (ok_of h) hp X d W ((hX.below hb).more hb.size))
  have HFT := Lib.hid (fun (h : (chkP p).2 = 0) (W : World) (hb : Below w.heap.size w W) => fit_l A Y p.bf.length c m q p.bf hs W ((hR.below hb).more hb.size) ((hH.below hb).more hb.size) (by have := (ref_zero (ok_of h).ref).2.1; omega) hm)
  have HMB : Hid (fitP p.bf (hrYs hs) = true → p.bf.length = m) := Lib.hid (fun h => by
    rw [fitP_eq, Bool.and_eq_true] at h
    have h1 := of_decide_eq_true h.1
    unfold hrYs at h1
    rw [List.length_map, hH.rd.len] at h1
    exact h1)
  have HRO := Lib.hid (fun (h : (chkP p).2 = 0) (hf : fitP p.bf (hrYs hs) = true) (W : World) (hb : Below w.heap.size w W) => rows_l A Y p.bf.length c q p.bf hs W ((hR.below hb).more hb.size) (by rw [HMB.out hf]; exact (hH.below hb).more hb.size) (by have := (ref_zero (ok_of h).ref).2.1; omega) hf (fun b hb2 => ⟨((ref_zero (ok_of h).ref).2.2.2.2 b hb2).1, ((ref_zero (ok_of h).ref).2.2.2.2 b hb2).2.1⟩))
  have HX := Lib.hid hX
  have HLE := Lib.hid (fun (h : (chkP p).2 = 0) => evP_le p (ok_of h))
  have R1 := Lib.hid (@runP_chk p (hrYs hs))
  have R2 := Lib.hid (@runP_full p (hrYs hs))
  have R3 := Lib.hid (@runP_arg p (hrYs hs))
  unfold pgV at *
  clear hT hR hX hH
  have HB0 := Lib.hid (bel_al (w := w) (.cells #[.int .i64 p.rg, .slice A p.bf.length c, .slice X p.op.length d] 26))
  have HK0 := Lib.hid (Bk.new w 26 #[.int .i64 p.rg, .slice A p.bf.length c, .slice X p.op.length d])
  obtain ⟨ck1, hck1⟩ : ∃ z, (chkP p).1 = z := ⟨_, rfl⟩
  obtain ⟨ck2, hck2⟩ : ∃ z, (chkP p).2 = z := ⟨_, rfl⟩
  obtain ⟨ev, hev⟩ : ∃ z, evP p.op = z := ⟨_, rfl⟩
  rw [hck1, hck2] at HC
  rw [hck2] at HEV HEN HFT HRO HLE R1 R2 R3
  rw [hev] at HEV HLE R2 R3
  have HCK := Lib.hid hck2
  have HE := Lib.hid hev
  clear hck1 hck2 hev
  go_enter Tryd.func13, Tryd.ntmps13
  go_wp2_with fail
  go_at_call 22
  refine (HC.out _ HB0.out).mono ?_
  rintro e w2 ⟨rfl, hb⟩
  have HB2 := Lib.hid (bel_tr HB0.out hb)
  have HK2 := Lib.hid (HK0.out.below hb HK0.out.lt)
  clear hb HC
  obtain ⟨a0, a1, a2⟩ := c3 HK2.out
  by_cases h : ck2 = 0
  · subst h
    have hle := HLE.out (by first | exact rfl | trivial)
    have HEV2 := Lib.hid (HEV.out (by first | exact rfl | trivial) w2 HB2.out)
    clear HEV HLE R1
    go_wp2_with fail
    go_at_call 36
    refine HEV2.out.mono ?_
    rintro e w3 ⟨rfl, hb⟩
    have HB3 := Lib.hid (bel_tr HB2.out hb)
    have HK3 := Lib.hid (HK2.out.below hb HK2.out.lt)
    clear hb HEV2 a0 a1 a2
    obtain ⟨a0, a1, a2⟩ := c3 HK3.out
    by_cases hfull : 16777216 < ev
    · have hf4 : (16777216 : Int) < (ev : Int) := by omega
      have R22 := Lib.hid (R2.out (by first | exact rfl | trivial) hfull)
      go_wp2_with fail
      go_ret3
      exact ⟨⟨_, _, _, rfl, R22.out, .inl ⟨rfl, rfl⟩, World.ownsRow_nil _ _ _ _⟩, HB3.out⟩
    have hf4 : ¬ (16777216 : Int) < (ev : Int) := by omega
    have HFT3 := Lib.hid (HFT.out (by first | exact rfl | trivial) w3 HB3.out)
    obtain ⟨ft, hft⟩ : ∃ z, fitP p.bf (hrYs hs) = z := ⟨_, rfl⟩
    rw [hft] at HFT3 HRO HMB R3
    have HFE := Lib.hid hft
    clear hft HFT
    go_wp2_with fail
    go_at_call 37
    refine HFT3.out.mono ?_
    rintro e w4 ⟨rfl, hb⟩
    have HB4 := Lib.hid (bel_tr HB3.out hb)
    have HK4 := Lib.hid (HK3.out.below hb HK3.out.lt)
    clear hb HFT3 a0 a1 a2
    obtain ⟨a0, a1, a2⟩ := c3 HK4.out
    cases ft
    · have R33 := Lib.hid (R3.out (by first | exact rfl | trivial) hfull (by first | exact rfl | trivial))
      go_wp2_with fail
      go_ret3
      exact ⟨⟨_, _, _, rfl, R33.out, .inl ⟨rfl, rfl⟩, World.ownsRow_nil _ _ _ _⟩, HB4.out⟩
    obtain rfl := HMB.out (by first | exact rfl | trivial)
    clear HMB
    go_wp2_with fail
    have HENS := Lib.hid (HEN.out (by first | exact rfl | trivial))
    have HROS := Lib.hid (HRO.out (by first | exact rfl | trivial) (by first | exact rfl | trivial))
    clear HEN HRO R2 R3
    have hmk := make_ev ev (by omega)
    obtain ⟨cs, hcs⟩ := hmk
    have hmk := fun W => (hcs W).1
    have HMK := Lib.hid (fun (W : World) (B g : Nat) (h : g = W.heap.size) (hB : B ≤ W.heap.size) => (show Rws 46 B (.slice (some ⟨g, 0, none⟩) 0 ev) ([] : List Ev) (W.alloc (.cells cs 46)) from by rw [h]; exact (hcs W).2 B hB))
    have HMKD := Lib.hid (fun (W : World) (B g : Nat) (h : g = W.heap.size) (hB : B ≤ W.heap.size) => (show Rws 46 B (.slice (some ⟨g, 0, none⟩) 0 ev) ([] : List Ev) (W.alloc (.cells cs 46)).drew from HMK.out W.drew B g h hB))
    clear hcs
    obtain ⟨N, f, s', hrun, hlen⟩ := (ok_of HCK.out).run (by rw [HE.out]; omega) (st0 p (hrYs hs)) rfl rfl
    have HRP := Lib.hid (runP_run HCK.out (by rw [HE.out]; exact hfull) HFE.out hrun)
    have HDO : Hid (∀ (W : World) (g G : Nat) (A5 : Option Addr) (c5 : Nat) (xs : List (Nat × List Int)), xs.length = p.bf.length → xs.map (·.2) = rows0 p.bf (hrYs hs) → Below w.heap.size w W → RnW W w.heap.size g (.slice X p.op.length d) ⟨.slice A5 (enP p.op).length c5, enP p.op⟩ xs (fun _ => 0) [] →
        Calls Tryd.prog 40 #[.pointer (some ⟨g, 0, none⟩)] W fun e w' => DoP p.bf.length w.heap.size g (.slice X p.op.length d) ⟨.slice A5 (enP p.op).length c5, enP p.op⟩ W f s' e w') := Lib.hid (fun W g G A5 c5 xs h1 h2 hb hR => by
      have hz := ref_zero (ok_of HCK.out).ref
      refine do_l p.op p.bf.length w.heap.size g X d ⟨.slice A5 (enP p.op).length c5, enP p.op⟩ f s' (by omega) (by omega) (fun k o ho => (ok_of HCK.out).stOk hp k o ho) (ok_of HCK.out).enlen (by rw [HE.out] at hlen; omega) N W (HX.out.below hb) hb.size ⟨⟨xs, fun _ => 0, [], ?_, hR, h1, fun x hx => ?_⟩, Below.refl _ _⟩
      · rw [h2]
        exact hrun
      · exact rows0_le HFE.out (fun b hb2 => ⟨(hz.2.2.2.2 b hb2).1, (hz.2.2.2.2 b hb2).2.1⟩) _ (by rw [← h2]; exact List.mem_map.2 ⟨x, hx, rfl⟩))
    have HD2 : Hid (∀ (W : World) (g G : Nat) (A5 : Option Addr) (c5 : Nat) (xs : List (Nat × List Int)) (sv : Value), xs.length = p.bf.length → xs.map (·.2) = rows0 p.bf (hrYs hs) → Zw w W g → Below w.heap.size w W → Rws 3 w.heap.size (.slice A5 (enP p.op).length c5) (enP p.op) W → RowsB W w.heap.size G xs → Rws 46 w.heap.size sv ([] : List Ev) W →
        Calls Tryd.prog 40 #[.pointer (some ⟨g, 0, none⟩)] (W.setRow g (rnA (.slice X p.op.length d) (.slice A5 (enP p.op).length c5) (fun _ => 0) (.slice (some ⟨G, 0, none⟩) p.bf.length p.bf.length) sv)) fun e w' => e = .returned (.bool f) ∧ (∃ G7 sv7 xs7, xs7.map (·.2) = s'.rows ∧ Bk w' g 71 (rnA (.slice X p.op.length d) (.slice A5 (enP p.op).length c5) s'.rg (.slice (some ⟨G7, 0, none⟩) xs7.length xs7.length) sv7) ∧ Rws 46 w.heap.size sv7 s'.seen w' ∧ RowsB w' w.heap.size G7 xs7) ∧ Below w.heap.size w w') := Lib.hid (fun W g G A5 c5 xs sv h1 h2 hz hb he hr hm => by
      have hF := fin_run (ov := .slice X p.op.length d) (ev := ⟨.slice A5 (enP p.op).length c5, enP p.op⟩) hz hb he hr hm
      rw [h1] at hF
      refine (HDO.out _ g G A5 c5 xs h1 h2 hF.2 hF.1).mono ?_
      rintro e w' ⟨h3, ⟨xs7, h4, h5, h6⟩, h7⟩
      obtain ⟨G7, sv7, k1, k2, k3⟩ := h5.ex
      exact ⟨h3, ⟨G7, sv7, xs7, h4, k1, k2, k3⟩, hF.2.trans h7⟩)
    clear HDO
    have z1 := fun (W : World) (g : Nat) (h : g = W.heap.size) => zb_1 h
    have z12 := fun (W : World) (g : Nat) (o : Obj) (h : g = W.heap.size) => zb_2 o (zb_1 h)
    have z2 := fun (W : World) (g : Nat) (o : Obj) (h : Zb W g) => zb_2 o h
    have hst := fun (W : World) (g : Nat) (h : Zb W g) => rn_store h
    have hg4 := World.block_lt_of_cell? w4 _ a1
    have hHR := hrun
    clear hrun hlen
    have S0 : Hid (w4.drew.cell? ⟨w.heap.size, 1, none⟩ = some (.slice A p.bf.length c) ∧ w4.drew.cell? ⟨w.heap.size, 2, none⟩ = some (.slice X p.op.length d) ∧ Below w.heap.size w w4.drew) := Lib.hid ⟨a1, a2, HB4.out.drew⟩
    clear hHR
    go_region_held3 (fun w' => w'.cell? ⟨w.heap.size, 1, none⟩ = some (.slice A p.bf.length c) ∧ w'.cell? ⟨w.heap.size, 2, none⟩ = some (.slice X p.op.length d) ∧ Below w.heap.size w w')
      (first | exact S0.out | with_reducible exact keepB (by with_reducible assumption) hb6 | with_reducible exact keepB (by with_reducible assumption) hb5 | with_reducible exact keepA (by with_reducible assumption) _ | with_reducible exact keepAD (by with_reducible assumption) _ | (refine keepS _ (by with_reducible assumption) ?_; repeat (first | with_reducible exact zw_1 (by simp) (by (try simp only [World.size_alloc, World.size_drew]); omega) | (with_reducible exact zw_1d (by simp) (by (try simp only [World.size_alloc, World.size_drew]); omega)) | (with_reducible refine zw_2 _ ?_) | (with_reducible refine zw_2d _ ?_) | (with_reducible refine zw_3 hb6 _ ?_) | (with_reducible refine zw_3 hb5 _ ?_))) | fail)
      (first | (go_at_call 38; refine (HENS.out _ (held3 (by with_reducible assumption))).mono ?_; rintro e w5 ⟨⟨v5, rfl, hv5⟩, hb5⟩; have hS5 := keepB (by with_reducible assumption) hb5; have hg5 := World.block_lt_of_cell? w5 _ hS5.1; obtain ⟨A5, c5, rfl, hc5⟩ := rws_form hv5; (first | (have q5 := zb_3 hb5 (by first | with_reducible exact zb_1d rfl | with_reducible exact zb_2d _ (zb_1d rfl)); (try simp only [World.size_alloc, World.size_drew] at q5)) | skip)) | (go_at_call 39; refine (HROS.out _ (held3 (by with_reducible assumption))).mono ?_; rintro e w6 ⟨G6, xs6, rfl, hl6, hm6, hr6, hb6⟩; have hS6 := keepB (by with_reducible assumption) hb6; have hg6 := World.block_lt_of_cell? w6 _ hS6.1; (first | (have q6 := zb_3 hb6 (by first | with_reducible exact q5 | with_reducible exact zb_1 rfl | with_reducible exact zb_2 _ q5 | with_reducible exact zb_2 _ (zb_1 rfl)); (try simp only [World.size_alloc, World.size_drew] at q6)) | skip)) | fail)
    all_goals (
      clear HENS HROS hmk hst z1 z2 z12 HX
      go_wp2_with fail
      go_at_call 40
      refine (HD2.out _ _ G6 A5 c5 xs6 _ hl6 hm6 ?y1 ?y2 ?y3 ?y4 ?y5).mono ?_
      case y1 => repeat (first | with_reducible exact zw_1 (by simp) (by (try simp only [World.size_alloc, World.size_drew]); omega) | (with_reducible exact zw_1d (by simp) (by (try simp only [World.size_alloc, World.size_drew]); omega)) | (with_reducible refine zw_2 _ ?_) | (with_reducible refine zw_2d _ ?_) | (with_reducible refine zw_3 hb6 _ ?_) | (with_reducible refine zw_3 hb5 _ ?_))
      case y2 => repeat (first | with_reducible exact hS6.2.2 | (with_reducible refine bel_al' ?_ _))
      case y3 => repeat (first | with_reducible exact own_mono hv5 (by (try simp only [World.size_alloc, World.size_drew]); omega) | (with_reducible refine own_below ?_ hb6) | (with_reducible refine own_below ?_ (bel_al _)))
      case y4 => repeat (first | with_reducible exact RowsB.mono hr6 (by (try simp only [World.size_alloc, World.size_drew]); omega) | (with_reducible refine RowsB.below ?_ (bel_al _)))
      case y5 => repeat (first | with_reducible exact HMK.out _ _ _ (by simp) (by (try simp only [World.size_alloc, World.size_drew]); omega) | with_reducible exact HMKD.out _ _ _ (by simp) (by (try simp only [World.size_alloc, World.size_drew]); omega) | (with_reducible refine own_below ?_ hb6) | (with_reducible refine own_below ?_ hb5) | (with_reducible refine own_below ?_ (bel_al _)) | (with_reducible refine own_below ?_ (bel_ald _)))
      rintro e w7 ⟨rfl, ⟨G7, sv7, xs7, hx7, hk7, ho7, hrb7⟩, hB7⟩
      obtain ⟨A7, c7, rfl, hc7⟩ := rws_form ho7
      have c66 := (hk7.cell 66).trans rnA_66
      have c67 := (hk7.cell 67).trans rnA_67
      have HO7 := Lib.hid ho7
      have HRB7 := Lib.hid hrb7
      have HB7 := Lib.hid hB7
      have HX7 := Lib.hid hx7
      have HBD := Lib.hid (fun (n : Nat) => below_drewN (Below.refl w7.heap.size w7) n)
      clear hk7 ho7 hrb7 hB7 hx7 hb5 hb6 hS5 hS6 hv5 hr6 hm6 hl6 HD2 HMK HMKD S0 a0 a1 a2 hc5 hc7
      (try clear q5)
      (try clear q6)
      cases f
      · go_wp2_with fail
        go_quiet (fail)
        go_wp2_with fail
        go_ret3
        exact ⟨⟨.slice none 0 0, _, ⟨[], s'.seen, 11⟩, rfl, HRP.out, .inl ⟨rfl, rfl⟩, own_below HO7.out (HBD.out _)⟩, HB7.out.trans ((HBD.out _).mono HB7.out.size)⟩
      · go_wp2_with fail
        go_quiet (fail)
        go_wp2_with fail
        go_ret3
        exact ⟨⟨_, _, ⟨s'.rows, s'.seen, 0⟩, rfl, HRP.out, .inr ⟨G7, xs7, rfl, HX7.out, HRB7.out.below (HBD.out _)⟩, own_below HO7.out (HBD.out _)⟩, HB7.out.trans ((HBD.out _).mono HB7.out.size)⟩)
  · have hne : (ck2 != 0) = true := by simpa using h
    have R11 := Lib.hid (R1.out h)
    clear h
    go_wp2_with fail
    go_ret3
    exact ⟨⟨.slice none 0 0, .slice none 0 0, ⟨[], [], ck2⟩, rfl, R11.out, .inl ⟨rfl, rfl⟩, World.ownsRow_nil _ _ _ _⟩, HB2.out⟩
end Lb
end Go.Proofs.YtbdhibgljaelbaaDoor
