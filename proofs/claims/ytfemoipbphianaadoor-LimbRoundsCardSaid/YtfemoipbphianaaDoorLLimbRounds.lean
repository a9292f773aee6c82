/- Plain: what a run's answer tells. | Two programs that share their buffers, each with operations of its own (for LimbRounds). | LightProg, and what it tells of a program. | LimbRounds: a loop is what stands in it, so many times; written out it does the same. -/
import Derived.Test.YtfemoipbphianaaDoorMF
import Derived.Test.YtfemoipbphianaaDoorPB
import Derived.Test.YtfemoipbphianaaDoorF4
import Derived.Test.YtfemoipbphianaaDoorN1
import Derived.Test.YtfemoipbphianaaDoorN3
import Derived.BigQuiet
namespace Go.Proofs.YtfemoipbphianaaDoor
open Go Go.RowKit
namespace Lb
open Wd Nt Gr
set_option linter.unusedVariables false
set_option linter.unusedSimpArgs false
theorem flt_11 (regs : Int) (bufs : List Bf) (s : Ah) (o : Op) : fltO regs bufs s o = 2 ∨ fltO regs bufs s o = 9 ∨ fltO regs bufs s o = 10 ∨ fltO regs bufs s o = 0 ∨ fltO regs bufs s o = 5 := by
  unfold fltO
  split
  · exact .inl rfl
  · split
    · exact .inr (.inl rfl)
    · split
      · exact .inr (.inr (.inl rfl))
      · split
        · exact .inr (.inr (.inr (.inl rfl)))
        · exact .inr (.inr (.inr (.inr rfl)))
theorem chkG_11 {regs : Int} {bufs : List Bf} : ∀ {ops : List Op} {s : Ah} {n : Nat}, (chkG regs bufs ops s n).2 ≠ 11
  | [], s, n => by unfold chkG; dsimp only; split <;> decide
  | o :: ops, s, n => by
    unfold chkG
    split
    · have := flt_11 regs bufs s o
      dsimp only
      omega
    · exact chkG_11
theorem chk_11 (p : Pg) : (chkP p).2 ≠ 11 := by
  unfold chkP
  split
  · unfold refP
    dsimp only
    split
    · decide
    · split <;> decide
  · exact chkG_11
structure Tells (p : Pg) (h : List (List Int)) (r : Ans) : Prop where
  e0 : r.er = 0 → r.ev.length = stepsP p ∧ r.out.length = p.bf.length ∧ ∀ (i : Nat) (b : Bf), p.bf[i]? = some b → ∃ y : List Int, r.out[i]? = some y ∧ (y.length : Int) = b.sz ∧ (b.kd = 1 → h[i]? = some y)
  e11 : r.er = 11 → r.ev.length < stepsP p
  en : r.er ≠ 0 → r.out = []
  ee : r.er ≠ 0 → r.er ≠ 11 → r.ev = []
  ev : ∀ e ∈ r.ev, GoodEv p e
  ol : ∀ y ∈ r.out, y.length ≤ 65536
theorem tells {p : Pg} (hp : p.wf) {h : List (List Int)} {r : Ans} (hr : RunP p h r) : Tells p h r := by
  unfold RunP at hr
  split at hr
  · rename_i hc
    subst hr
    exact ⟨fun e => absurd e hc, fun e => absurd e (chk_11 p), fun _ => rfl, fun _ _ => rfl, (fun e he => by cases he), (fun y hy => by cases hy)⟩
  rename_i hc
  have hc0 : (chkP p).2 = 0 := by simpa using hc
  have H := ok_of hc0
  have hst : stepsP p = evP p.op := by unfold stepsP; rw [if_pos hc0]
  split at hr
  · subst hr
    exact ⟨(fun e => by cases e), (fun e => by cases e), fun _ => rfl, fun _ _ => rfl, (fun e he => by cases he), (fun y hy => by cases hy)⟩
  rename_i h24
  split at hr
  · subst hr
    exact ⟨(fun e => by cases e), (fun e => by cases e), fun _ => rfl, fun _ _ => rfl, (fun e he => by cases he), (fun y hy => by cases hy)⟩
  rename_i hf
  have hf1 : fitP p.bf h = true := by simpa using hf
  obtain ⟨f, s, ⟨N, hrun⟩, rfl⟩ := hr
  obtain ⟨r1, r2⟩ := H.run2 (by omega) (s := st0 p h) rfl rfl hrun
  have hg := GoodS.run H hp (good_0 H hf1) hrun
  cases f
  · exact ⟨(fun e => by cases e), fun _ => by rw [hst]; exact r2 rfl, fun _ => rfl, (fun _ e => absurd rfl e), hg.ev, (fun y hy => by cases hy)⟩
  · refine ⟨fun _ => ⟨by rw [hst]; exact r1 rfl, hg.rl, hg.row⟩, (fun e => by cases e), (fun e => absurd rfl e), (fun e => absurd rfl e), hg.ev, fun y hy => ?_⟩
    obtain ⟨i, hi⟩ := List.mem_iff_getElem?.1 hy
    have hil := (List.getElem?_eq_some_iff.1 hi).1
    have hil2 : i < p.bf.length := by rw [← hg.rl]; exact hil
    obtain ⟨z, h1, h2, _⟩ := hg.row i _ (List.getElem?_eq_getElem hil2)
    have h3 : some z = some y := h1.symm.trans hi
    cases h3
    have := ((ref_zero H.ref).2.2.2.2 _ (List.getElem_mem hil2)).2.1
    omega
end Lb
end Go.Proofs.YtfemoipbphianaaDoor
namespace Go.Proofs.YtfemoipbphianaaDoor
open Go Go.RowKit Go.Sort Go.Shelf
namespace Lb
open Wd Nt Gr
set_option linter.unusedVariables false
set_option linter.unusedSimpArgs false
/-- programs a and b in their blocks -/
structure RdS (w W : World) (A : Option Addr) (n c : Nat) (ga Xa da : Nat) (oa : List Op) (gb Xb db : Nat) (ob : List Op) : Prop where
  ka : Bk W ga 26 #[.int .i64 6, .slice A n c, .slice (some ⟨Xa, 0, none⟩) oa.length da]
  ra : Rws 33 w.heap.size (.slice (some ⟨Xa, 0, none⟩) oa.length da) oa W
  kb : Bk W gb 26 #[.int .i64 6, .slice A n c, .slice (some ⟨Xb, 0, none⟩) ob.length db]
  rb : Rws 33 w.heap.size (.slice (some ⟨Xb, 0, none⟩) ob.length db) ob W
  ne : ga ≠ gb
  nX : Xa ≠ Xb
  la : w.heap.size ≤ ga
  lb : w.heap.size ≤ gb
  b : Below w.heap.size w W
section
variable {w W W' : World} {A : Option Addr} {n c ga Xa da gb Xb db : Nat} {oa ob : List Op}
theorem RdS.below (h : RdS w W A n c ga Xa da oa gb Xb db ob) (hb : Below W.heap.size W W') : RdS w W' A n c ga Xa da oa gb Xb db ob :=
  ⟨h.ka.below hb h.ka.lt, own_below h.ra hb, h.kb.below hb h.kb.lt, own_below h.rb hb, h.ne, h.nX, h.la, h.lb, bel_tr h.b hb⟩
theorem RdS.swap (h : RdS w W A n c ga Xa da oa gb Xb db ob) : RdS w W A n c gb Xb db ob ga Xa da oa := ⟨h.kb, h.rb, h.ka, h.ra, h.ne.symm, h.nX.symm, h.lb, h.la, h.b⟩
/-- a row put behind b's operations: the append, and what is then -/
structure AppR (w W W' : World) (A : Option Addr) (n c ga Xa da : Nat) (oa : List Op) (gb : Nat) (ov : Value) (X5 c5 : Nat) (os : List Op) : Prop where
  ka : Bk W' ga 26 #[.int .i64 6, .slice A n c, .slice (some ⟨Xa, 0, none⟩) oa.length da]
  ra : Rws 33 w.heap.size (.slice (some ⟨Xa, 0, none⟩) oa.length da) oa W'
  kb : Bk W' gb 26 #[.int .i64 6, .slice A n c, ov]
  rb : Rws 33 w.heap.size (.slice (some ⟨X5, 0, none⟩) os.length c5) os W'
  nX : Xa ≠ X5
  b : Below w.heap.size w W'
theorem RdS.appR (h : RdS w W A n c ga Xa da oa gb Xb db ob) : AppR w W W A n c ga Xa da oa gb (.slice (some ⟨Xb, 0, none⟩) ob.length db) Xb db ob := ⟨h.ka, h.ra, h.kb, h.rb, h.nX, h.b⟩
theorem AppR.below {U U' : World} {ov : Value} {X5 c5 : Nat} {os : List Op} (h : AppR w W U A n c ga Xa da oa gb ov X5 c5 os) (hb : Below U.heap.size U U') : AppR w W U' A n c ga Xa da oa gb ov X5 c5 os :=
  ⟨h.ka.below hb h.ka.lt, own_below h.ra hb, h.kb.below hb h.kb.lt, own_below h.rb hb, h.nX, bel_tr h.b hb⟩
/-- one more row behind it -/
theorem AppR.app {U : World} {ov : Value} {X5 c5 : Nat} {os xs : List Op} (h : AppR w W U A n c ga Xa da oa gb ov X5 c5 os) {Y : Option Addr} {m q B' : Nat} (hY : Rdr U B' Y m xs) (hm : m ≤ 100000) (hos : os.length ≤ 100000) (h0 : 0 < os.length) :
    ∃ X6 c6 U', (Builtin.append_ #[24, 24] 24 #[.slice (some ⟨X5, 0, none⟩) os.length c5, .slice Y m q]).run Tryd.prog U = .ok (.slice (some ⟨X6, 0, none⟩) (os ++ xs).length c6) U' ∧ AppR w W U' A n c ga Xa da oa gb ov X6 c6 (os ++ xs) ∧ U.grownBy U' (some X5) := by
  obtain ⟨i, hi, hz, q2, q3⟩ := info_parts info_lop
  obtain ⟨v9, w9, hap, h9, hgr9, hor⟩ := app_run (c := q) 24 33 24 i _ 64 Tryd.underlying24 hi hz q2 q3 rfl (by omega) h.rb hY hm hos (by have := (ownLt h.rb); have := h.b.size; omega)
  obtain ⟨A9, c9, rfl, hc9⟩ := rws_form h9
  obtain ⟨X6, rfl, _, hX6, _, _⟩ := own_blk h9 (by rw [List.length_append]; omega)
  have hXa := (ownLt h.ra).2
  refine ⟨X6, c9, w9, hap, ⟨own_other h.rb h.ka (show (33 : TypeId) ≠ 26 by decide) hgr9, h.ra.kept hgr9 (.inr (by simp [Value.ownBlock]; exact h.nX)), own_other h.rb h.kb (show (33 : TypeId) ≠ 26 by decide) hgr9, h9, ?_, own_grown h.rb hgr9 h.b (Nat.le_refl _) h.b.size⟩, hgr9⟩
  intro e
  rcases hor with ho | ho
  · simp [Value.ownBlock] at ho
    exact h.nX (e.trans ho)
  · simp [Value.ownBlock] at ho
    omega
/-- and stored -/
theorem AppR.stored {U : World} {ov : Value} {X5 c5 : Nat} {os : List Op} (h : AppR w W U A n c ga Xa da oa gb ov X5 c5 os) (hne : ga ≠ gb) (hla : w.heap.size ≤ ga) (hlb : w.heap.size ≤ gb) (k : Nat) (hk : os.length = k) :
    RdS w (U.setCell ⟨gb, 2, none⟩ (.slice (some ⟨X5, 0, none⟩) k c5)) A n c ga Xa da oa gb X5 c5 os := by
  subst hk
  exact ⟨h.ka.far (p := ⟨gb, 2, none⟩) hne _, own_far h.ra h.kb (show (33 : TypeId) ≠ 26 by decide), h.kb.set_ 2 _, own_far h.rb h.kb (show (33 : TypeId) ≠ 26 by decide), hne, h.nX, hla, hlb, h.b.setCell (p := ⟨gb, 2, none⟩) hlb _⟩
end
end Lb
end Go.Proofs.YtfemoipbphianaaDoor
namespace Go.Proofs.YtfemoipbphianaaDoor
open Go Go.RowKit Go.Sort Go.Shelf
namespace Lb
open Wd Nt Gr
set_option linter.unusedVariables false
set_option linter.unusedSimpArgs false
/-- with what it tells of the program -/
def LgP2 (p : Pg) (most : Int) (w : World) (e : Ending) (w' : World) : Prop := (∃ b, e = .returned (.bool b) ∧ (b = true → p.rg ≤ 100 ∧ p.bf.length ≤ 40 ∧ (p.op.length : Int) ≤ most)) ∧ Below w.heap.size w w'
set_option maxRecDepth 100000 in
set_option maxHeartbeats 4000000 in
theorem lightProg2_l (p : Pg) (hp : p.wf) (A X : Option Addr) (c d : Nat) (most : Int) (w : World) (hR : Rdr w w.heap.size A p.bf.length p.bf) :
    Calls Tryd.prog 23 #[pgV p A c X d, .int .i64 most] w (LgP2 p most w) := by
  unfold pgV at *
  have HB := Lib.hid (bel_al (w := w) (.cells #[.int .i64 p.rg, .slice A p.bf.length c, .slice X p.op.length d] 26))
  have HK := Lib.hid (Bk.new w 26 #[.int .i64 p.rg, .slice A p.bf.length c, .slice X p.op.length d])
  have HR := Lib.hid (hR.below HB.out)
  clear hR
  obtain ⟨W0, hW0⟩ : ∃ W0, W0 = w.alloc (.cells #[.int .i64 p.rg, .slice A p.bf.length c, .slice X p.op.length d] 26) := ⟨_, rfl⟩
  have HW0 := Lib.hid hW0
  rw [← hW0] at HB HK HR
  clear hW0
  go_enter Tryd.func23, Tryd.ntmps23
  go_wp2_with fail
  go_loopw [5, 6] (fun n i W => ∃ (k : Nat) (z : Int), k ≤ p.bf.length ∧ k ≤ 41 ∧ n = .int .i64 z ∧ i = .int .i64 (k : Int) ∧ Hid (W = W0)) (fun _ i _ => 41 - (intOf i).toNat)
  case atStart => exact ⟨0, 0, by omega, by omega, rfl, rfl, Lib.hid HW0.out.symm⟩
  case round =>
    obtain ⟨k, z, hk, hk41, rfl, rfl, HW⟩ := hrel
    have hw := HW.out
    rw [← hw] at HB HK HR
    clear hw
    obtain ⟨a0, a1, a2⟩ := c3 HK.out
    rcases Nat.lt_or_ge k p.bf.length with hlt | hge
    · have hki : (k : Int) < (p.bf.length : Int) := by omega
      have hk0 : (0 : Int) ≤ (k : Int) := by omega
      rcases Nat.lt_or_ge 40 k with h40 | h40
      · have h4 : ¬ (k : Int) ≤ 40 := by omega
        have g2 : ¬ (p.bf.length : Int) ≤ 40 := by omega
        (by_cases g1 : p.rg ≤ 100 <;> (go_wp2_with fail; go_ret; exact ⟨⟨_, rfl, fun h => by first | (cases h; done) | exact ⟨g1, by omega, g3⟩⟩, HB.out⟩))
      · have h4 : (k : Int) ≤ 40 := by omega
        obtain ⟨b, o, rfl, hblt, s0, s1, s2⟩ := bf_at HR.out (bfAt_some hlt)
        have ew : IntKind.i64.wrap ((k : Int) + 1) = ((k + 1 : Nat) : Int) := by rw [show (k : Int) + 1 = ((k + 1 : Nat) : Int) by omega]; exact IntWalk.i64_in _ (by omega)
        generalize bfAt p.bf (k : Int) = bb at *
        obtain ⟨sz, kd, sec⟩ := bb
        dsimp only at *
        by_cases h5 : 0 < sz
        · by_cases h6 : sz ≤ 65536
          · go_wp2_with fail
            go_roundw
            case rel => exact ⟨k + 1, _, by omega, by omega, rfl, by first | rfl | go_num, HW⟩
            case measure => (simp [intOf] <;> omega)
          · go_wp2_with fail
            go_roundw
            case rel => exact ⟨k + 1, _, by omega, by omega, rfl, by first | rfl | go_num, HW⟩
            case measure => (simp [intOf] <;> omega)
        · go_wp2_with fail
          go_roundw
          case rel => exact ⟨k + 1, _, by omega, by omega, rfl, by first | rfl | go_num, HW⟩
          case measure => (simp [intOf] <;> omega)
    · have hki : ¬ (k : Int) < (p.bf.length : Int) := by omega
      rcases Nat.lt_or_ge 40 p.bf.length with h40 | h40
      · have g2 : ¬ (p.bf.length : Int) ≤ 40 := by omega
        (by_cases g1 : p.rg ≤ 100 <;> (go_wp2_with fail; go_ret; exact ⟨⟨_, rfl, fun h => by first | (cases h; done) | exact ⟨g1, by omega, g3⟩⟩, HB.out⟩))
      · have g2 : (p.bf.length : Int) ≤ 40 := by omega
        (by_cases g1 : p.rg ≤ 100 <;> by_cases g3 : (p.op.length : Int) ≤ most <;> by_cases g4 : z ≤ 600 <;> (go_wp2_with fail; go_ret; exact ⟨⟨_, rfl, fun h => by first | (cases h; done) | exact ⟨g1, by omega, g3⟩⟩, HB.out⟩))
end Lb
end Go.Proofs.YtfemoipbphianaaDoor
namespace Go.Proofs.YtfemoipbphianaaDoor
open Go Go.RowKit Go.Sort Go.Shelf
namespace limbRounds
open Wd Nt Gr Lb
set_option linter.unusedVariables false
set_option linter.unusedSimpArgs false
theorem rdO_wf {k d im : Int} (h1 : I64 k) (h2 : I64 d) (h3 : W im) : (rdO k d im).wf := by
  have n1 : I64 (-1) := by unfold I64; decide
  exact ⟨h1, h2, n1, n1, n1, n1, show I64 0 by unfold I64; decide, h3⟩
theorem rdO_wf3 {o : Lb.Op} (h : o ∈ rdHead) : o.wf := by
  simp only [rdHead, List.mem_cons, List.not_mem_nil, or_false] at h
  rcases h with rfl | rfl | rfl <;> exact rdO_wf (by unfold I64; decide) (by unfold I64; decide) (by unfold W; decide)
theorem rdRows_wf {L : List Lb.Op} (hl : ∀ o ∈ L, o.wf) : ∀ m i, i + m ≤ 100 → ∀ o ∈ rdRows L m i, o.wf
  | 0, i, _, o, ho => by cases ho
  | m + 1, i, hi, o, ho => by
    unfold rdRows at ho
    rcases List.mem_append.1 ho with ho | ho
    · rcases List.mem_cons.1 ho with rfl | ho
      · exact rdO_wf (show I64 1 by unfold I64; decide) (show I64 5 by unfold I64; decide) (show W (i : Int) by unfold W; omega)
      · exact hl o ho
    · exact rdRows_wf hl m (i + 1) (by omega) o ho
set_option maxRecDepth 100000 in
set_option maxHeartbeats 16000000 in
theorem walk_ (w : World) (hT : TabF w) (A : Option Addr) (n c : Nat) (bufs : List Bf) (X : Option Addr) (m d : Nat) (L : List Lb.Op) (z : Int) (Y : Option Addr) (mr q : Nat) (hs : List Hr)
    (hR : Rdr w w.heap.size A n bufs) (hbw : ∀ b ∈ bufs, Bf.wf b) (hnc : n ≤ c) (hc : c ≤ 9223372036854775807) (hX : Rdr w w.heap.size X m L) (hlw : ∀ o ∈ L, Lb.Op.wf o) (hmd : m ≤ d) (hd : d ≤ 9223372036854775807) (hz : I64 z) (hH : HrW w w.heap.size Y mr hs) (hmq : mr ≤ q) (hq : q ≤ 9223372036854775807) :
    Calls Tryd.prog 5 #[.slice A n c, .slice X m d, .int .i64 z, .slice Y mr q] w fun e w' => e = .returned (.bool true) ∧ Below w.heap.size w w' := by
  have HL := Lib.hid (fun (W : World) (hb : Below w.heap.size w W) => lives_l W (hT.keep hb))
  have HTK := Lib.hid (fun (W : World) (hb : Below w.heap.size w W) => hT.keep hb)
  have HRR := Lib.hid (fun (W : World) (hb : Below w.heap.size w W) => (hR.below hb).more hb.size)
  have HXX := Lib.hid (fun (W : World) (hb : Below w.heap.size w W) => (hX.below hb).more hb.size)
  have HHH := Lib.hid (fun (W : World) (hb : Below w.heap.size w W) => (hH.below hb).more hb.size)
  have HPK := Lib.hid (fun W => Kit.pick_c z 8 W hz.lit (by decide))
  have HOP := Lib.hid (fun k dd e a b cc im W => lop_l k dd e a b cc im W)
  have HEN := Lib.hid (fun W => lend_l W)
  have hml := hX.len
  have hnl := hR.len
  have HBW := Lib.hid hbw
  have HLW := Lib.hid hlw
  unfold Op.vs endO at *
  dsimp only at HOP HEN
  simp only [List.toArray] at HOP HEN
  clear hT hR hX hH hbw hlw
  go_enter Tryd.func5, Tryd.ntmps5
  go_wp2_with fail
  go_at_call 9
  refine (HL.out _ (Below.refl _ _)).mono ?_
  rintro e w1 ⟨rfl, hb⟩
  have HB1 := Lib.hid hb
  clear hb HL
  by_cases h20 : (20 : Int) < (m : Int)
  · go_wp2_with fail
    go_ret
    exact ⟨rfl, HB1.out⟩
  have hm20 : m ≤ 20 := by omega
  go_wp2_with fail
  go_at_call 34
  refine (HPK.out _).mono ?_
  rintro e w2 ⟨rfl, rfl⟩
  obtain ⟨hp0, hp8⟩ := Kit.pick_lt (n := z) (m := 8) (by omega)
  obtain ⟨T, hTp⟩ : ∃ T : Nat, Kit.pick z 8 = (T : Int) := ⟨(Kit.pick z 8).toNat, by omega⟩
  rw [hTp] at hp0 hp8 ⊢
  have hT8 : T < 8 := by omega
  have eT : IntKind.i64.wrap (1 + (T : Int)) = ((T + 1 : Nat) : Int) := by rw [show 1 + (T : Int) = ((T + 1 : Nat) : Int) by omega]; exact IntWalk.i64_in _ (by omega)
  have eU : IntKind.u64.wrap ((T + 1 : Nat) : Int) = ((T + 1 : Nat) : Int) := by simp only [IntKind.wrap_u64]; omega
  clear hTp hp0 hp8 HPK h20
  obtain ⟨S, hS⟩ : ∃ S, T + 1 = S := ⟨_, rfl⟩
  rw [hS] at eT eU
  have hS8 : S ≤ 8 := by omega
  have hS0 : 0 < S := by omega
  clear hS
  go_wp2_with fail
  go_at_call 12
  refine (HOP.out _ _ _ _ _ _ _ _).mono ?_
  rintro e w3 ⟨rfl, h3⟩
  have HB3 : Hid (Below w.heap.size w w3) := Lib.hid (by rw [h3]; exact bel_al' HB1.out _)
  clear h3 HB1
  go_wp2_with fail
  go_at_call 12
  refine (HOP.out _ _ _ _ _ _ _ _).mono ?_
  rintro e w4 ⟨rfl, h4⟩
  have HB4 : Hid (Below w.heap.size w w4) := Lib.hid (by rw [h4]; exact bel_al' HB3.out _)
  clear h4 HB3
  go_wp2_with fail
  go_at_call 12
  refine (HOP.out _ _ _ _ _ _ _ _).mono ?_
  rintro e w5 ⟨rfl, h5⟩
  have HB5 : Hid (Below w.heap.size w w5) := Lib.hid (by rw [h5]; exact bel_al' HB4.out _)
  clear h5 HB4
  go_upto_region 7 with fail
  have hhd : Bk (w5.alloc (.cells (row rdHead).toArray 33)) w5.heap.size 33 (row rdHead).toArray := Bk.new _ _ _
  obtain ⟨W6, hW6⟩ : ∃ W6, W6 = w5.alloc (.cells #[.int .i64 1, .int .i64 0, .int .i64 (-1), .int .i64 (-1), .int .i64 (-1), .int .i64 (-1), .int .i64 0, .int .u64 5, .int .i64 1, .int .i64 1, .int .i64 (-1), .int .i64 (-1), .int .i64 (-1), .int .i64 (-1), .int .i64 0, .int .u64 9223372036854775808, .int .i64 1, .int .i64 2, .int .i64 (-1), .int .i64 (-1), .int .i64 (-1), .int .i64 (-1), .int .i64 0, .int .u64 1] 33) := ⟨_, rfl⟩
  have HB6 : Hid (Below w.heap.size w W6) := Lib.hid (by rw [hW6]; exact bel_al' HB5.out _)
  have HHD : Hid (Rdr W6 W6.heap.size (some ⟨w5.heap.size, 0, none⟩) 3 rdHead) := Lib.hid (by
    rw [hW6]
    exact bk_rdr hhd (by rw [World.size_alloc]; omega))
  rw [← hW6]
  obtain ⟨gh, hgh⟩ : ∃ g, w5.heap.size = g := ⟨_, rfl⟩
  rw [hgh] at HHD ⊢
  clear hW6 hgh hhd HB5
  have HO1 := Lib.hid (ownO_c (some ⟨gh, 0, none⟩) 3 3 rdHead W6 HHD.out (by omega))
  unfold OwnA at HO1
  go_wp2_with fail
  go_at_call 14
  refine HO1.out.mono ?_
  rintro e w7 ⟨hb7, Xa, da, rfl, hr7⟩
  have HB7 := Lib.hid (bel_tr HB6.out hb7)
  have HHD7 := Lib.hid (HHD.out.below hb7)
  have HXa := Lib.hid (ownLt hr7)
  have hs67 := hb7.size
  have HR7 := Lib.hid (own_mono (B' := w.heap.size) hr7 HB6.out.size)
  clear hb7 hr7 HB6 HHD HO1
  go_wp2_with fail
  go_at_call 12
  refine (HOP.out _ _ _ _ _ _ _ _).mono ?_
  rintro e w8 ⟨rfl, h8⟩
  have hb8 : Below w7.heap.size w7 w8 := by rw [h8]; exact bel_al _
  have HB8 := Lib.hid (bel_tr HB7.out hb8)
  have HHD8 := Lib.hid (HHD7.out.below (hb8.mono hs67))
  have hs78 := hb8.size
  have HR8 := Lib.hid (own_below HR7.out hb8)
  clear h8 hb8 HB7 HHD7 HR7
  have KA : ∃ A9 c9 w9, (Builtin.append_ #[24, 24] 24 #[.slice (some ⟨Xa, 0, none⟩) rdHead.length da, .slice (some ⟨w8.heap.size, 0, none⟩) 1 1]).run Tryd.prog (w8.alloc (.cells #[.int .i64 16, .int .i64 5, .int .i64 (-1), .int .i64 (-1), .int .i64 (-1), .int .i64 (-1), .int .i64 0, .int .u64 (S : Int)] 33)) = .ok (.slice (some ⟨A9, 0, none⟩) 4 c9) w9 ∧
      Rws 33 w.heap.size (.slice (some ⟨A9, 0, none⟩) 4 c9) (rdHead ++ [rdLoop S]) w9 ∧ Below w.heap.size w w9 ∧ Rdr w9 w9.heap.size (some ⟨gh, 0, none⟩) 3 rdHead := by
    obtain ⟨i, hi, hz, q2, q3⟩ := info_parts info_lop
    have hlit : Bk (w8.alloc (.cells #[.int .i64 16, .int .i64 5, .int .i64 (-1), .int .i64 (-1), .int .i64 (-1), .int .i64 (-1), .int .i64 0, .int .u64 (S : Int)] 33)) w8.heap.size 33 (row [rdLoop S]).toArray := Bk.new _ _ _
    have hrd := bk_rdr (B := w8.heap.size + 1) hlit (by omega)
    have hb9 : Below w8.heap.size w8 (w8.alloc (.cells #[.int .i64 16, .int .i64 5, .int .i64 (-1), .int .i64 (-1), .int .i64 (-1), .int .i64 (-1), .int .i64 0, .int .u64 (S : Int)] 33)) := bel_al _
    have hown := own_below HR8.out hb9
    obtain ⟨v9, w9, hap, h9, hgr9, _⟩ := app_run (c := 1) 24 33 24 i _ 64 Tryd.underlying24 hi hz q2 q3 rfl (by omega) hown hrd (by simp) (by decide) (by have := HB8.out.size; simp only [World.size_alloc]; omega)
    obtain ⟨A9, c9, rfl, hc9⟩ := rws_form h9
    obtain ⟨X9, rfl, _, _, _, _⟩ := own_blk h9 (show 0 < 4 by decide)
    have hbw := own_grown hown hgr9 (bel_tr HB8.out hb9) (Nat.le_refl _) (bel_tr HB8.out hb9).size
    have hs9 := hgr9.size
    have hXa := HXa.out.1
    have hd9 : Rdr w9 W6.heap.size (some ⟨gh, 0, none⟩) 3 rdHead := (HHD8.out.below (hb9.mono (Nat.le_trans hs67 hs78))).keep (fun p hp => by
      have h1 := hgr9.block p.block (by simp only [World.size_alloc]; omega) (by simp [Value.ownBlock]; omega)
      unfold World.cell?
      rw [h1])
    refine ⟨X9, c9, w9, hap, h9, hbw, hd9.more ?_⟩
    simp only [World.size_alloc] at hs9
    omega
  obtain ⟨X9, c9, w9, hap, h9, hb9, hd9⟩ := KA
  have HR9 := Lib.hid h9
  have HB9 := Lib.hid hb9
  have HHD9 := Lib.hid hd9
  clear h9 hb9 hd9 HR8 HB8 HHD8 HXa hs67 hs78
  go_upto_region 8 with (at_builtin; refine wpList_append_eq rfl (.tmp 37) (.tmp 41) 24 rfl _ _ rfl rfl _ _ hap ?_)
  obtain ⟨W10, hW10⟩ : ∃ W, W = w9.alloc (.cells #[.int .i64 6, .slice A n c, .slice (some ⟨X9, 0, none⟩) 4 c9] 26) := ⟨_, rfl⟩
  have HB10 : Hid (Below w.heap.size w W10) := Lib.hid (by rw [hW10]; exact bel_al' HB9.out _)
  have HR10 : Hid (Rws 33 w.heap.size (.slice (some ⟨X9, 0, none⟩) 4 c9) (rdHead ++ [rdLoop S]) W10) := Lib.hid (by rw [hW10]; exact own_below HR9.out (bel_al _))
  have HK10 : Hid (Bk W10 w9.heap.size 26 #[.int .i64 6, .slice A n c, .slice (some ⟨X9, 0, none⟩) 4 c9]) := Lib.hid (by rw [hW10]; exact Bk.new _ _ _)
  have HHD10 : Hid (Rdr W10 W10.heap.size (some ⟨gh, 0, none⟩) 3 rdHead) := Lib.hid (by rw [hW10]; exact (HHD9.out.below (bel_al _)).more (bel_al _).size)
  rw [← hW10]
  have HGA : Hid (w.heap.size ≤ w9.heap.size) := Lib.hid HB9.out.size
  obtain ⟨ga, hga⟩ : ∃ g, w9.heap.size = g := ⟨_, rfl⟩
  rw [hga] at HK10 HGA ⊢
  clear hW10 hga HB9 HR9 HHD9 hap
  have HO2 := Lib.hid (ownO_c (some ⟨gh, 0, none⟩) 3 3 rdHead W10 HHD10.out (by omega))
  unfold OwnA at HO2
  go_wp2_with fail
  go_at_call 14
  refine HO2.out.mono ?_
  rintro e w11 ⟨hb11, Xb, db, rfl, hr11⟩
  have HS11 : Hid (RdS w (w11.alloc (.cells #[.int .i64 6, .slice A n c, .slice (some ⟨Xb, 0, none⟩) 3 db] 26)) A n c ga X9 c9 (rdHead ++ [rdLoop S]) w11.heap.size Xb db rdHead) := Lib.hid (by
    have h1 := HK10.out.below hb11 HK10.out.lt
    have h2 := ownLt HR10.out
    have h3 := ownLt hr11
    exact ⟨h1.alloc _, own_below (own_below HR10.out hb11) (bel_al _), Bk.new _ _ _, own_below (own_mono (B' := w.heap.size) hr11 HB10.out.size) (bel_al _), Nat.ne_of_lt h1.lt, by omega, HGA.out, Nat.le_trans HB10.out.size hb11.size, bel_al' (bel_tr HB10.out hb11) _⟩)
  clear hb11 hr11 HB10 HR10 HK10 HHD10 HO2 HGA
  go_upto_region 9 with fail
  obtain ⟨W12, hW12⟩ : ∃ W, W = w11.alloc (.cells #[.int .i64 6, .slice A n c, .slice (some ⟨Xb, 0, none⟩) 3 db] 26) := ⟨_, rfl⟩
  rw [← hW12] at HS11
  first | rw [← hW12] | (show Code.wp _ _ _ _ (w11.alloc (.cells #[.int .i64 6, .slice A n c, .slice (some ⟨Xb, 0, none⟩) 3 db] 26)); rw [← hW12])
  obtain ⟨gb, hgb⟩ : ∃ g, w11.heap.size = g := ⟨_, rfl⟩
  rw [hgb] at HS11 ⊢
  clear hW12 hgb
  subst hml
  obtain ⟨X13, c13, w13, hap1, hA13, _⟩ := HS11.out.swap.appR.app (q := d) (HXX.out W12 HS11.out.b) (by omega) (show 4 ≤ 100000 by decide) (show 0 < 4 by decide)
  have HA13 := Lib.hid hA13
  have g2 : W12.cell? ⟨ga, 2, none⟩ = some (.slice (some ⟨X9, 0, none⟩) 4 c9) := HS11.out.ka.cell 2
  have HLO := Lib.hid (show ga ≠ gb ∧ w.heap.size ≤ ga ∧ w.heap.size ≤ gb from ⟨HS11.out.ne, HS11.out.la, HS11.out.lb⟩)
  rw [show (rdHead ++ [rdLoop S]).length = 4 from rfl] at hap1
  have hlen : (rdHead ++ [rdLoop S] ++ L).length = 4 + L.length := by
    rw [List.length_append]
    rfl
  obtain ⟨NL, hNL⟩ : ∃ k, (rdHead ++ [rdLoop S] ++ L).length = k := ⟨_, rfl⟩
  rw [hNL] at hap1
  have HNL := Lib.hid hNL
  have HLEN := Lib.hid hlen
  clear hNL hlen
  clear hA13 HS11
  go_wp2_with (at_builtin; refine wpList_append_eq rfl (.tmp 49) (.tmp 50) 24 rfl _ _ rfl rfl _ _ hap1 ?_)
  go_at_call 13
  refine (HEN.out _).mono ?_
  rintro e w14 ⟨rfl, h14⟩
  have hb14 : Below w13.heap.size w13 w14 := by rw [h14]; exact bel_al' (bel_al _) _
  have HA14 := Lib.hid (HA13.out.below hb14)
  clear h14 hb14 HA13 hap1 g2
  have KE : ∃ X15 c15 w15, (Builtin.append_ #[24, 24] 24 #[.slice (some ⟨X13, 0, none⟩) (rdHead ++ [rdLoop S] ++ L).length c13, .slice (some ⟨w14.heap.size, 0, none⟩) 1 1]).run Tryd.prog (w14.alloc (.cells #[.int .i64 17, .int .i64 (-1), .int .i64 (-1), .int .i64 (-1), .int .i64 (-1), .int .i64 (-1), .int .i64 0, .int .u64 0] 33)) = .ok (.slice (some ⟨X15, 0, none⟩) (rdHead ++ [rdLoop S] ++ L ++ [rdEnd]).length c15) w15 ∧
      w15.cell? ⟨ga, 2, none⟩ = some (.slice (some ⟨X9, 0, none⟩) 4 c9) ∧ w15.frozen? ⟨ga, 2, none⟩ = false ∧ ga < w15.heap.size ∧ RdS w (w15.setCell ⟨ga, 2, none⟩ (.slice (some ⟨X15, 0, none⟩) (rdHead ++ [rdLoop S] ++ L ++ [rdEnd]).length c15)) A n c ga X15 c15 (rdHead ++ [rdLoop S] ++ L ++ [rdEnd]) gb Xb db rdHead := by
    have hlit : Bk (w14.alloc (.cells #[.int .i64 17, .int .i64 (-1), .int .i64 (-1), .int .i64 (-1), .int .i64 (-1), .int .i64 (-1), .int .i64 0, .int .u64 0] 33)) w14.heap.size 33 (row [rdEnd]).toArray := Bk.new _ _ _
    have hrd := bk_rdr (B := w14.heap.size + 1) hlit (by omega)
    obtain ⟨X15, c15, w15, hap, hA15, _⟩ := (HA14.out.below (bel_al (.cells #[.int .i64 17, .int .i64 (-1), .int .i64 (-1), .int .i64 (-1), .int .i64 (-1), .int .i64 (-1), .int .i64 0, .int .u64 0] 33))).app (q := 1) hrd (by decide) (by rw [HLEN.out]; omega) (by rw [HLEN.out]; omega)
    exact ⟨X15, c15, w15, hap, hA15.kb.cell 2, hA15.kb.frozen 2, hA15.kb.lt, (hA15.stored HLO.out.1.symm HLO.out.2.2 HLO.out.2.1 _ rfl).swap⟩
  obtain ⟨X15, c15, w15, hap2, z0, z1, z2, hS15⟩ := KE
  have HS15 := Lib.hid hS15
  clear hS15 HA14 HLO
  obtain ⟨NA, hNA⟩ : ∃ k, (rdHead ++ [rdLoop S] ++ L ++ [rdEnd]).length = k := ⟨_, rfl⟩
  rw [HNL.out, hNA] at hap2
  rw [hNA] at HS15
  have HNA := Lib.hid hNA
  clear hNA
  go_upto_region 10 with (at_builtin; refine wpList_append_eq rfl (.tmp 51) (.tmp 53) 24 rfl _ _ rfl rfl _ _ hap2 ?_)
  obtain ⟨W16, hW16⟩ : ∃ W, W = w15.setCell ⟨ga, 2, none⟩ (.slice (some ⟨X15, 0, none⟩) NA c15) := ⟨_, rfl⟩
  rw [← hW16] at HS15
  rw [← hW16]
  clear hW16 z0 z1 z2 hap2
  go_wp2_with fail
  go_loopw [12] (fun i W => ∃ k : Nat, k ≤ S ∧ i = .int .i64 (k : Int) ∧ Hid (∃ Xk dk, RdS w W A n c ga X15 c15 (rdHead ++ [rdLoop S] ++ L ++ [rdEnd]) gb Xk dk (rdHead ++ rdRows L k 0))) (fun i _ => S - (intOf i).toNat)
  case atStart => exact ⟨0, Nat.zero_le _, rfl, Lib.hid ⟨Xb, db, by show RdS _ _ _ _ _ _ _ _ _ _ _ _ (rdHead ++ []); rw [List.append_nil]; exact HS15.out⟩⟩
  case round =>
    obtain ⟨k, hk, rfl, HX⟩ := hrel
    clear HS15
    obtain ⟨Xk, dk, hS⟩ := HX.out
    have HS := Lib.hid hS
    clear hS HX
    rcases Nat.lt_or_ge k S with hlt | hge
    · have hki : (k : Int) < (S : Int) := by omega
      have ew : IntKind.i64.wrap ((k : Int) + 1) = ((k + 1 : Nat) : Int) := by rw [show (k : Int) + 1 = ((k + 1 : Nat) : Int) by omega]; exact IntWalk.i64_in _ (by omega)
      have eu : IntKind.u64.wrap (k : Int) = (k : Int) := by simp only [IntKind.wrap_u64]; omega
      have hbl : (rdHead ++ rdRows L k 0).length = 3 + k * (1 + L.length) := by rw [List.length_append, rdRows_len]; rfl
      have hkl : k * (1 + L.length) ≤ 8 * 21 := Nat.mul_le_mul (by omega) (by omega)
      obtain ⟨NB, hNB⟩ : ∃ x, (rdHead ++ rdRows L k 0).length = x := ⟨_, rfl⟩
      obtain ⟨NB1, hNB1⟩ : ∃ x, (rdHead ++ rdRows L k 0 ++ [rdO 1 5 (k : Int)]).length = x := ⟨_, rfl⟩
      obtain ⟨NB2, hNB2⟩ : ∃ x, (rdHead ++ rdRows L k 0 ++ [rdO 1 5 (k : Int)] ++ L).length = x := ⟨_, rfl⟩
      have hl1 : NB1 = NB + 1 := by rw [← hNB1, ← hNB, List.length_append]; rfl
      have KEY : Hid (∀ w22, Below wr.heap.size wr w22 → ∃ X5 c5 w5 X6 c6 w6, (Builtin.append_ #[24, 24] 24 #[.slice (some ⟨Xk, 0, none⟩) NB dk, .slice (some ⟨w22.heap.size, 0, none⟩) 1 1]).run Tryd.prog (w22.alloc (.cells #[.int .i64 1, .int .i64 5, .int .i64 (-1), .int .i64 (-1), .int .i64 (-1), .int .i64 (-1), .int .i64 0, .int .u64 (k : Int)] 33)) = .ok (.slice (some ⟨X5, 0, none⟩) NB1 c5) w5 ∧
          (Builtin.append_ #[24, 24] 24 #[.slice (some ⟨X5, 0, none⟩) NB1 c5, .slice X L.length d]).run Tryd.prog w5 = .ok (.slice (some ⟨X6, 0, none⟩) NB2 c6) w6 ∧
          w22.cell? ⟨gb, 2, none⟩ = some (.slice (some ⟨Xk, 0, none⟩) NB dk) ∧ gb < w22.heap.size ∧ w6.cell? ⟨gb, 2, none⟩ = some (.slice (some ⟨Xk, 0, none⟩) NB dk) ∧ w6.frozen? ⟨gb, 2, none⟩ = false ∧ gb < w6.heap.size ∧
          RdS w (w6.setCell ⟨gb, 2, none⟩ (.slice (some ⟨X6, 0, none⟩) NB2 c6)) A n c ga X15 c15 (rdHead ++ [rdLoop S] ++ L ++ [rdEnd]) gb X6 c6 (rdHead ++ rdRows L (k + 1) 0)) := Lib.hid (fun w22 hb22 => by
        have hlit : Bk (w22.alloc (.cells #[.int .i64 1, .int .i64 5, .int .i64 (-1), .int .i64 (-1), .int .i64 (-1), .int .i64 (-1), .int .i64 0, .int .u64 (k : Int)] 33)) w22.heap.size 33 (row [rdO 1 5 (k : Int)]).toArray := Bk.new _ _ _
        have hrd := bk_rdr (B := w22.heap.size + 1) hlit (by omega)
        have h22 := HS.out.below hb22
        have hA0 := h22.appR.below (bel_al (.cells #[.int .i64 1, .int .i64 5, .int .i64 (-1), .int .i64 (-1), .int .i64 (-1), .int .i64 (-1), .int .i64 0, .int .u64 (k : Int)] 33))
        obtain ⟨X5, c5, w5, hap1, hA1, _⟩ := hA0.app (q := 1) hrd (show 1 ≤ 100000 by decide) (by rw [hbl]; omega) (by rw [hbl]; omega)
        obtain ⟨X6, c6, w6, hap2, hA2, _⟩ := hA1.app (q := d) (HXX.out w5 hA1.b) (by omega) (by rw [hNB1, hl1, ← hNB, hbl]; omega) (by rw [hNB1, hl1]; omega)
        rw [hNB, hNB1] at hap1
        rw [hNB1, hNB2] at hap2
        have hc := h22.kb.cell 2
        rw [hNB] at hc
        have hst := hA2.stored h22.ne h22.la h22.lb NB2 hNB2
        rw [show rdHead ++ rdRows L k 0 ++ [rdO 1 5 (k : Int)] ++ L = rdHead ++ rdRows L (k + 1) 0 by rw [rdRows_snoc, Nat.zero_add]; simp] at hst
        have hc6 := hA2.kb.cell 2
        rw [hNB] at hc6
        exact ⟨X5, c5, w5, X6, c6, w6, hap1, hap2, hc, h22.kb.lt, hc6, hA2.kb.frozen 2, hA2.kb.lt, hst⟩)
      have q2 := HS.out.kb.cell 2
      rw [hNB] at q2
      have HSB := Lib.hid (Below.refl wr.heap.size wr)
      clear hbl hkl hNB hNB1 hNB2 hl1 HS
      go_wp2_with fail
      go_region_law (first
        | (refine step_append_eq rfl (.tmp 62) (.tmp 66) 24 rfl _ _ rfl rfl _ _ hap1 ?_)
        | (refine step_append_eq rfl (.tmp 67) (.tmp 68) 24 rfl _ _ rfl rfl _ _ hap2 ?_)
        | ((try go_simp); go_at_call 12; refine (HOP.out _ _ _ _ _ _ _ _).mono ?_; rintro e w22 ⟨rfl, h22⟩; obtain ⟨X5, c5, w5, X6, c6, w6, hap1, hap2, z0, z1, z2, z3, z4, hst⟩ := KEY.out w22 (by rw [h22]; exact bel_al' (x := wr.drew) (below_drewN (Below.refl _ _) 1) _); clear h22)
        | fail)
      all_goals (
        go_wp2_with fail
        go_roundw
        case rel => exact ⟨k + 1, by omega, by first | rfl | go_num, Lib.hid ⟨X6, c6, hst⟩⟩
        case measure => (simp [intOf] <;> omega))
    · have hkS : k = S := by omega
      rw [hkS] at HS ⊢
      clear hk hge hkS
      subst hnl
      have WA : (rdA bufs L S).wf := ⟨show I64 6 by unfold I64; decide, HBW.out, fun o ho => by
        rcases List.mem_append.1 ho with ho | ho
        · rcases List.mem_append.1 ho with ho | ho
          · rcases List.mem_append.1 ho with ho | ho
            · exact rdO_wf3 ho
            · obtain rfl := List.mem_singleton.1 ho
              exact rdO_wf (show I64 16 by unfold I64; decide) (show I64 5 by unfold I64; decide) (show W (S : Int) by unfold W; omega)
          · exact HLW.out o ho
        · obtain rfl := List.mem_singleton.1 ho
          exact rdO_wf (show I64 17 by unfold I64; decide) (show I64 (-1) by unfold I64; decide) (show W 0 by unfold W; decide)⟩
      have WB : (rdB bufs L S).wf := ⟨show I64 6 by unfold I64; decide, HBW.out, fun o ho => by
        rcases List.mem_append.1 ho with ho | ho
        · exact rdO_wf3 ho
        · exact rdRows_wf HLW.out S 0 (by omega) o ho⟩
      have HTA := Lib.hid (fun (r : Ans) (h : RunP (rdA bufs L S) (hrYs hs) r) => tells WA h)
      have HTB := Lib.hid (fun (r : Ans) (h : RunP (rdB bufs L S) (hrYs hs) r) => tells WB h)
      have HLP := Lib.hid (fun (W : World) (hb : Below wr.heap.size wr W) => lightProg2_l (rdA bufs L S) WA A (some ⟨X15, 0, none⟩) c c15 30 W (HRR.out W (bel_tr HS.out.b hb)))
      have HLR := Lib.hid (fun (W : World) (hb : Below wr.heap.size wr W) => lightRows_l Y mr q hs W (HHH.out W (bel_tr HS.out.b hb)))
      have HCA := Lib.hid (fun (W : World) (hb : Below wr.heap.size wr W) => check_l (rdA bufs L S) WA A (some ⟨X15, 0, none⟩) c c15 W (HTK.out W (bel_tr HS.out.b hb)) (HRR.out W (bel_tr HS.out.b hb)) (rws_rd (T := Lb.Op) (HS.out.below hb).ra).2.1)
      have HRA := Lib.hid (fun (h : mr ≤ 1000000) (W : World) (hb : Below wr.heap.size wr W) => run_l (rdA bufs L S) WA A (some ⟨X15, 0, none⟩) Y c c15 mr q hs W (HTK.out W (bel_tr HS.out.b hb)) (HRR.out W (bel_tr HS.out.b hb)) (rws_rd (T := Lb.Op) (HS.out.below hb).ra).2.1 (HHH.out W (bel_tr HS.out.b hb)) h)
      have HRB := Lib.hid (fun (h : mr ≤ 1000000) (W : World) (hb : Below wr.heap.size wr W) => run_l (rdB bufs L S) WB A (some ⟨Xk, 0, none⟩) Y c dk mr q hs W (HTK.out W (bel_tr HS.out.b hb)) (HRR.out W (bel_tr HS.out.b hb)) (rws_rd (T := Lb.Op) (HS.out.below hb).rb).2.1 (HHH.out W (bel_tr HS.out.b hb)) h)
      have HRD := Lib.hid (fun (h : (chkP (rdA bufs L S)).2 = 0) (hpl : ∀ o ∈ L, o.k ≠ 16 ∧ o.k ≠ 17) (r p : Ans) h1 h2 => rd_same (T := S) (hs := hrYs hs) (r := r) (q := p) h hpl hm20 hS0 hS8 h1 h2)
      have HEV := Lib.hid (fun (hpl : ∀ o ∈ L, o.k ≠ 16 ∧ o.k ≠ 17) => (show evP (rdA bufs L S).op ≤ 171 from by
        rw [evP_a hpl hm20 hS8]
        have : (1 + L.length) * S ≤ 21 * 8 := Nat.mul_le_mul (by omega) hS8
        omega))
      unfold pgV at HLP HCA HRA HRB
      obtain ⟨NBf, hNBf⟩ : ∃ x, (rdHead ++ rdRows L S 0).length = x := ⟨_, rfl⟩
      rw [show (rdA bufs L S).rg = 6 from rfl, show (rdA bufs L S).bf = bufs from rfl, show (rdA bufs L S).op.length = NA from HNA.out] at HLP HCA HRA
      rw [show (rdB bufs L S).rg = 6 from rfl, show (rdB bufs L S).bf = bufs from rfl, show (rdB bufs L S).op.length = NBf from hNBf] at HRB
      have KC := Lib.hid (fun (W : World) (hb : Below wr.heap.size wr W) => (show (W.cell? ⟨ga, 0, none⟩ = some (.int .i64 6) ∧ W.cell? ⟨ga, 1, none⟩ = some (.slice A bufs.length c) ∧ W.cell? ⟨ga, 2, none⟩ = some (.slice (some ⟨X15, 0, none⟩) NA c15)) ∧ (W.cell? ⟨gb, 0, none⟩ = some (.int .i64 6) ∧ W.cell? ⟨gb, 1, none⟩ = some (.slice A bufs.length c) ∧ W.cell? ⟨gb, 2, none⟩ = some (.slice (some ⟨Xk, 0, none⟩) NBf dk)) from by
        have h := HS.out.below hb
        have h1 := c3 h.ka
        have h2 := c3 h.kb
        rw [HNA.out] at h1
        rw [hNBf] at h2
        exact ⟨h1, h2⟩))
      have HSB := Lib.hid HS.out.b
      clear hNBf HS HTK HRR HHH HOP HEN
      obtain ⟨⟨a0, a1, a2⟩, b0, b1, b2⟩ := KC.out wr (Below.refl _ _)
      go_wp2_with fail
      go_at_call 23
      refine (HLP.out _ (Below.refl _ _)).mono ?_
      rintro e w20 ⟨⟨t1, rfl, _⟩, hb20⟩
      have HB20 := Lib.hid hb20
      clear hb20 HLP a0 a1 a2 b0 b1 b2
      cases t1
      · go_wp2_with fail
        go_ret
        exact ⟨rfl, bel_tr HSB.out HB20.out⟩
      go_wp2_with fail
      go_at_call 24
      refine (HLR.out _ HB20.out).mono ?_
      rintro e w21 ⟨⟨t2, rfl, ht2⟩, rfl⟩
      cases t2
      · go_wp2_with fail
        go_ret
        exact ⟨rfl, bel_tr HSB.out HB20.out⟩
      obtain ⟨hm40, hm6⟩ := ht2 rfl
      have HM6 := Lib.hid hm6
      clear ht2 hm6 HLR
      go_wp2_with fail
      go_loopw [13] (fun i W => ∃ k : Nat, k ≤ L.length ∧ i = .int .i64 (k : Int) ∧ W = w21 ∧ Hid (∀ j o, j < k → L[j]? = some o → o.k ≠ 16 ∧ o.k ≠ 17)) (fun i _ => L.length - (intOf i).toNat)
      case atStart => exact ⟨0, Nat.zero_le _, rfl, rfl, Lib.hid (fun j o hj => absurd hj (by omega))⟩
      case round =>
        obtain ⟨k, hk, rfl, rfl, HPL⟩ := hrel
        rcases Nat.lt_or_ge k L.length with hlt | hge
        · have hki : (k : Int) < (L.length : Int) := by omega
          have hk0 : (0 : Int) ≤ (k : Int) := by omega
          have ew : IntKind.i64.wrap ((k : Int) + 1) = ((k + 1 : Nat) : Int) := by rw [show (k : Int) + 1 = ((k + 1 : Nat) : Int) by omega]; exact IntWalk.i64_in _ (by omega)
          obtain ⟨o, ho⟩ : ∃ o, L[k]? = some o := ⟨_, List.getElem?_eq_getElem hlt⟩
          obtain ⟨xb, xo, rfl, _, x0, _, _, _, _, _, _, _⟩ := op_at (HXX.out _ (bel_tr HSB.out HB20.out)) ho
          by_cases h16 : o.k = 16
          · have g16 : (o.k == 16) = true := by rw [beq_iff_eq]; exact h16
            clear ho h16
            obtain ⟨ok, od, oe, oa, ob, oc, obf, oim⟩ := o
            dsimp only at *
            go_wp2_with fail
            go_ret
            exact ⟨rfl, bel_tr HSB.out HB20.out⟩
          by_cases h17 : o.k = 17
          · have g16 : (o.k == 16) = false := by rw [beq_eq_false_iff_ne]; exact h16
            have g17 : (o.k == 17) = true := by rw [beq_iff_eq]; exact h17
            clear ho h16 h17
            obtain ⟨ok, od, oe, oa, ob, oc, obf, oim⟩ := o
            dsimp only at *
            go_wp2_with fail
            go_ret
            exact ⟨rfl, bel_tr HSB.out HB20.out⟩
          have g16 : (o.k == 16) = false := by rw [beq_eq_false_iff_ne]; exact h16
          have g17 : (o.k == 17) = false := by rw [beq_eq_false_iff_ne]; exact h17
          have HP2 : Hid (∀ j o, j < k + 1 → L[j]? = some o → o.k ≠ 16 ∧ o.k ≠ 17) := Lib.hid (fun j o2 hj h2 => by
            rcases Nat.lt_or_ge j k with h | h
            · exact HPL.out j o2 h h2
            · obtain rfl : j = k := by omega
              rw [ho] at h2
              cases h2
              exact ⟨h16, h17⟩)
          clear ho h16 h17 HPL
          obtain ⟨ok, od, oe, oa, ob, oc, obf, oim⟩ := o
          dsimp only at *
          go_wp2_with fail
          go_roundw
          case rel => exact ⟨k + 1, by omega, by first | rfl | go_num, by first | rfl | trivial, HP2⟩
          case measure => (simp [intOf] <;> omega)
        · have hkL : k = L.length := by omega
          rw [hkL] at HPL ⊢
          have HPL2 : Hid (∀ o ∈ L, o.k ≠ 16 ∧ o.k ≠ 17) := Lib.hid (fun o ho => by
            obtain ⟨j, hj⟩ := List.mem_iff_getElem?.1 ho
            exact HPL.out j o (List.getElem?_eq_some_iff.1 hj).1 hj)
          clear hk hge hkL HPL HXX
          obtain ⟨⟨a0, a1, a2⟩, b0, b1, b2⟩ := KC.out _ HB20.out
          obtain ⟨ck, hck⟩ : ∃ ck, chkP (rdA bufs L S) = ck := ⟨_, rfl⟩
          have HE := Lib.hid hck
          rw [hck] at HCA
          clear hck
          obtain ⟨k1, k2⟩ := ck
          dsimp only at HCA
          go_wp2_with fail
          go_at_call 25
          refine (HCA.out _ HB20.out).mono ?_
          rintro e w22 ⟨rfl, hb22⟩
          have HB22 := Lib.hid (bel_tr HB20.out hb22)
          clear hb22 HCA a0 a1 a2 b0 b1 b2
          by_cases h0 : k2 = 0
          case neg =>
            have hne : (k2 != 0) = true := by simpa using h0
            clear h0
            go_wp2_with fail
            go_ret
            exact ⟨rfl, bel_tr HSB.out HB22.out⟩
          subst h0
          obtain ⟨⟨a0, a1, a2⟩, b0, b1, b2⟩ := KC.out _ HB22.out
          go_wp2_with fail
          go_at_call 16
          refine (HRA.out (by omega) _ HB22.out).mono ?_
          rintro e w23 ⟨⟨vo, vl, r, rfl, hrp, hro, hrv⟩, hb23⟩
          have HB23 := Lib.hid (bel_tr HB22.out hb23)
          have ht := HTA.out r hrp
          obtain ⟨Ao, co, ho, rfl, hoh, hoy, hoc⟩ := hro.hr (fun y hy => by have := ht.ol y hy; omega)
          obtain ⟨Av, cv, rfl, hcv⟩ := rws_form hrv
          have HV1 := Lib.hid (rws_rd hrv).2.1
          have HO1 := Lib.hid hoh
          have HT1 := Lib.hid ht
          have HP1 := Lib.hid hrp
          clear hb23 hrp hro hrv ht hoh a0 a1 a2 b0 b1 b2 HTA HRA
          obtain ⟨⟨a0, a1, a2⟩, b0, b1, b2⟩ := KC.out _ HB23.out
          go_wp2_with fail
          go_at_call 16
          refine (HRB.out (by omega) _ HB23.out).mono ?_
          rintro e w24 ⟨⟨vo2, vl2, r2, rfl, hrp2, hro2, hrv2⟩, hb24⟩
          have HB24 := Lib.hid (bel_tr HB23.out hb24)
          have ht2 := HTB.out r2 hrp2
          obtain ⟨Ao2, co2, ho2, rfl, hoh2, hoy2, hoc2⟩ := hro2.hr (fun y hy => by have := ht2.ol y hy; omega)
          obtain ⟨Av2, cv2, rfl, hcv2⟩ := rws_form hrv2
          have HV2 := Lib.hid (rws_rd hrv2).2.1
          have HO2 := Lib.hid hoh2
          obtain ⟨her, hout, hats⟩ := HRD.out (by rw [HE.out]) HPL2.out r r2 HP1.out hrp2
          have HV1' := Lib.hid ((HV1.out.below hb24).more hb24.size)
          have HO1' := Lib.hid ((HO1.out.below hb24).more hb24.size)
          have hstp : stepsP (rdA bufs L S) ≤ 171 := by
            unfold stepsP
            rw [if_pos (by rw [HE.out])]
            exact HEV.out HPL2.out
          have hev : r.ev.length ≤ 171 := by
            by_cases e0 : r.er = 0
            · rw [(HT1.out.e0 e0).1]; exact hstp
            · by_cases e11 : r.er = 11
              · have := HT1.out.e11 e11; omega
              · rw [HT1.out.ee e0 e11]; simp
          have hol : r.out.length ≤ 1000000 := by
            have h1 := hoh2.rd.len
            by_cases e0 : r.er = 0
            · rw [(HT1.out.e0 e0).2.1]
              have := (ref_zero (ok_of (p := rdA bufs L S) (by rw [HE.out])).ref).2.1
              have e : (rdA bufs L S).bf = bufs := rfl
              rw [e] at this ⊢
              omega
            · rw [HT1.out.en e0]; simp
          have KR := Lib.hid (rows_u Ao Ao2 r.out.length co r2.out.length co2 _ _ ho ho2 w24 HO1'.out HO2.out hol (by rw [← hout]; exact hol) (fun x hx => by
            have h1 := HT1.out.ol x.ys (by rw [← hoy]; exact List.mem_map.2 ⟨x, hx, rfl⟩)
            have h2 := (HO1'.out.each x hx).1.len
            omega) (fun x hx => by
            have h1 := ht2.ol x.ys (by rw [← hoy2]; exact List.mem_map.2 ⟨x, hx, rfl⟩)
            have h2 := (HO2.out.each x hx).1.len
            omega))
          rw [hoy, hoy2, hout, decide_eq_true rfl, ← hout] at KR
          rw [← hout]
          have hel : r.ev.length = r2.ev.length := by
            have := congrArg List.length hats
            simpa using this
          have HATS := Lib.hid hats
          have HB25 := Lib.hid (bel_tr HSB.out HB24.out)
          rw [← her, ← hel]
          rw [← hel] at HV2
          obtain ⟨N, hN⟩ : ∃ N, r.ev.length = N := ⟨_, rfl⟩
          rw [hN] at HV1' HV2 hev ⊢
          have g1 : (r.er != r.er) = false := by simp
          have e3 : IntKind.i64.wrap ((N : Int) + 3) = (N : Int) + 3 := IntWalk.i64_in _ (by omega)
          have e4 : decide ((N : Int) + 3 < 0) = false := decide_eq_false (by omega)
          have e5 : ((N : Int) != (N : Int)) = false := by simp
          have HLN := Lib.hid hN
          clear hb24 hrp2 hro2 hrv2 ht2 hoh2 hoy hoy2 hoc hoc2 hcv hcv2 her hout hats hel hstp hol hN HV1 HO1 HO1' HO2 HT1 HP1 HTB HRB HRD HEV HB23 HB24 HM6 KC a0 a1 a2 b0 b1 b2
          have HE1 := Lib.hid hev
          have HG := Lib.hid (And.intro g1 (And.intro e3 (And.intro e4 e5)))
          try clear HNL
          try clear HLEN
          try clear HNA
          try clear HPL2
          try clear HSB
          try clear WA
          try clear WB
          try clear hS0
          try clear hS8
          try clear hT8
          try clear hm20
          try clear eT
          try clear eU
          try clear hm40
          try clear hev
          try clear HE
          try clear HLW
          try clear HBW
          try clear hmq
          try clear hq
          try clear hnc
          try clear hc
          try clear hmd
          try clear hd
          try clear hz
          obtain ⟨eR, hER⟩ : ∃ x, r.er = x := ⟨_, rfl⟩
          rw [hER] at g1 ⊢
          clear hER HG
          generalize r.out.length = n1 at *
          generalize rdHead.length = n3 at *
          generalize L.length = n4 at *
          generalize bufs.length = n5 at *
          go_wp2_with fail
          go_at_call 17
          refine KR.out.mono ?_
          rintro e w25 ⟨rfl, q25, rfl⟩
          go_wp2_with fail
          go_loopw [22] (fun i W => ∃ k : Nat, k ≤ N ∧ i = .int .i64 (k : Int) ∧ Hid (Below w24.heap.size w24 W)) (fun i _ => N - (intOf i).toNat)
          case atStart => exact ⟨0, Nat.zero_le _, rfl, Lib.hid (below_drewN (Below.refl _ _) _)⟩
          case round =>
            obtain ⟨k, hk, rfl, HW⟩ := hrel
            rcases Nat.lt_or_ge k N with hkn | hkn
            · have h171 := HE1.out
              have hkni : (k : Int) < (N : Int) := by omega
              have hk0 : (0 : Int) ≤ (k : Int) := by omega
              have ew : IntKind.i64.wrap ((k : Int) + 1) = ((k + 1 : Nat) : Int) := by rw [show (k : Int) + 1 = ((k + 1 : Nat) : Int) by omega]; exact IntWalk.i64_in _ (by omega)
              obtain ⟨x, hx⟩ : ∃ x, r.ev[k]? = some x := ⟨_, List.getElem?_eq_getElem (by rw [HLN.out]; exact hkn)⟩
              have hm1 : (r.ev.map (·.2))[k]? = some x.2 := by rw [List.getElem?_map, hx]; rfl
              rw [HATS.out, List.getElem?_map] at hm1
              obtain ⟨y, hy, hyx⟩ : ∃ y, r2.ev[k]? = some y ∧ y.2 = x.2 := by
                rcases hq : r2.ev[k]? with _ | y
                · rw [hq] at hm1; cases hm1
                · rw [hq] at hm1; exact ⟨y, rfl, Option.some.inj hm1⟩
              obtain ⟨xb, xo, rfl, _, _, x1⟩ := ev_at (HV1'.out.below HW.out) hx
              obtain ⟨yb, yo, rfl, _, _, y1⟩ := ev_at (HV2.out.below HW.out) hy
              rw [hyx] at y1
              obtain ⟨xa, xv⟩ := x
              dsimp only at x1 y1
              have g2 : (xv != xv) = false := by simp
              clear hx hy hyx hm1
              go_wp2_with fail
              go_quiet (fail)
              go_wp2_with fail
              go_roundw
              case rel => exact ⟨k + 1, by omega, by first | rfl | go_num, Lib.hid (below_drewN HW.out _)⟩
              case measure => (simp [intOf] <;> omega)
            · obtain rfl : k = N := by omega
              go_wp2_with fail
              go_ret
              exact ⟨rfl, bel_tr HB25.out HW.out⟩
end limbRounds
end Go.Proofs.YtfemoipbphianaaDoor
