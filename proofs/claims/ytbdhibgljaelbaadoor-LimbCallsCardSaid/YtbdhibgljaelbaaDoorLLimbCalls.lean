/- LightProg, and what it tells of a program. | Plain: what a run's answer tells. | The document's own: may rows be handed in? | The statements' own helper: rows in memory of their own (Own at words and at rows). | The statements' own helper: OwnRows. | The document's own run: rows made ready; what a run is told to have done. | The document's own run of a program: the walk. | Other rows: rows of one's own that differ from those handed in where buffers are secret; what two runs over them come to. | Two programs compared, by the landed package and by the document's own; a program copied. | Two programs compared by the document's own; a program copied by the landed package. | LimbCalls: programs are looked at, and run, as the document says. -/
import Derived.Test.YtbdhibgljaelbaaDoorN1
import Derived.Test.YtbdhibgljaelbaaDoorMF
import Derived.Test.YtbdhibgljaelbaaDoorR1
import Derived.Test.YtbdhibgljaelbaaDoorH9
import Derived.Test.YtbdhibgljaelbaaDoorH6
import Derived.Test.YtbdhibgljaelbaaDoorMB
import Derived.Test.YtbdhibgljaelbaaDoorSC
import Derived.Test.YtbdhibgljaelbaaDoorS2
import Derived.Test.YtbdhibgljaelbaaDoorS8
import Derived.Test.YtbdhibgljaelbaaDoorF3
import Derived.Test.YtbdhibgljaelbaaDoorN3
import Derived.Test.YtbdhibgljaelbaaDoorN4
import Derived.BigQuiet
import Derived.Deep.CutRange
import Derived.Deep.RegionLaw
import Derived.StillTailTactics
import Derived.Lib.SliceRun
import Derived.Deep.Cut
import Derived.Deep.RegionHeld
namespace Go.Proofs.YtbdhibgljaelbaaDoor
open Go Go.RowKit Go.Sort Go.Shelf
namespace Lb
open Wd Nt Gr
set_option linter.unusedVariables false
set_option linter.unusedSimpArgs false
/-- with what it tells of the program -/
def LgP2 (p : Pg) (most : Int) (w : World) (e : Ending) (w' : World) : Prop := (∃ b, e = .returned (.bool b) ∧ (b = true → p.rg ≤ 100 ∧ p.bf.length ≤ 40 ∧ (p.op.length : Int) ≤ most)) ∧ Below w.heap.size w w'
set_option maxRecDepth 100000 in
set_option maxHeartbeats 4000000 in
theorem lightProg2_l (p : Pg) (hp : p.wf) (A X : Option Addr) (c d : Nat) (most : Int) (w : World) (hR : Rdr w w.heap.size A p.bf.length p.bf) :
    Calls Tryd.prog 20 #[pgV p A c X d, .int .i64 most] w (LgP2 p most w) := by
  unfold pgV at *
  have HB := Lib.hid (bel_al (w := w) (.cells #[.int .i64 p.rg, .slice A p.bf.length c, .slice X p.op.length d] 26))
  have HK := Lib.hid (Bk.new w 26 #[.int .i64 p.rg, .slice A p.bf.length c, .slice X p.op.length d])
  have HR := Lib.hid (hR.below HB.out)
  clear hR
  obtain ⟨W0, hW0⟩ : ∃ W0, W0 = w.alloc (.cells #[.int .i64 p.rg, .slice A p.bf.length c, .slice X p.op.length d] 26) := ⟨_, rfl⟩
  have HW0 := Lib.hid hW0
  rw [← hW0] at HB HK HR
  clear hW0
  go_enter Tryd.func20, Tryd.ntmps20
  go_wp2_with fail
  go_loopw [5, 6] (fun n i W => ∃ (k : Nat) (z : Int), k ≤ p.bf.length ∧ k ≤ 41 ∧ n = .int .i64 z ∧ i = .int .i64 (k : Int) ∧ Hid (W = W0)) (fun _ i _ => 41 - (intOf i).toNat)
  case atStart => exact ⟨0, 0, by omega, by omega, rfl, rfl, Lib.hid HW0.out.symm⟩
  case round =>
    obtain ⟨k, z, hk, hk41, rfl, rfl, HW⟩ := hrel
    have hw := HW.out
    rw [← hw] at HB HK HR
    clear hw
    obtain ⟨a0, a1, a2⟩ := c3 HK.out
    rcases Nat.lt_or_ge k p.bf.length with hlt | hge
    · have hki : (k : Int) < (p.bf.length : Int) := by omega
      have hk0 : (0 : Int) ≤ (k : Int) := by omega
      rcases Nat.lt_or_ge 40 k with h40 | h40
      · have h4 : ¬ (k : Int) ≤ 40 := by omega
        have g2 : ¬ (p.bf.length : Int) ≤ 40 := by omega
        (by_cases g1 : p.rg ≤ 100 <;> (go_wp2_with fail; go_ret; exact ⟨⟨_, rfl, fun h => by first | (cases h; done) | exact ⟨g1, by omega, g3⟩⟩, HB.out⟩))
      · have h4 : (k : Int) ≤ 40 := by omega
        obtain ⟨b, o, rfl, hblt, s0, s1, s2⟩ := bf_at HR.out (bfAt_some hlt)
        have ew : IntKind.i64.wrap ((k : Int) + 1) = ((k + 1 : Nat) : Int) := by rw [show (k : Int) + 1 = ((k + 1 : Nat) : Int) by omega]; exact IntWalk.i64_in _ (by omega)
        generalize bfAt p.bf (k : Int) = bb at *
        obtain ⟨sz, kd, sec⟩ := bb
        dsimp only at *
        by_cases h5 : 0 < sz
        · by_cases h6 : sz ≤ 65536
          · go_wp2_with fail
            go_roundw
            case rel => exact ⟨k + 1, _, by omega, by omega, rfl, by first | rfl | go_num, HW⟩
            case measure => (simp [intOf] <;> omega)
          · go_wp2_with fail
            go_roundw
            case rel => exact ⟨k + 1, _, by omega, by omega, rfl, by first | rfl | go_num, HW⟩
            case measure => (simp [intOf] <;> omega)
        · go_wp2_with fail
          go_roundw
          case rel => exact ⟨k + 1, _, by omega, by omega, rfl, by first | rfl | go_num, HW⟩
          case measure => (simp [intOf] <;> omega)
    · have hki : ¬ (k : Int) < (p.bf.length : Int) := by omega
      rcases Nat.lt_or_ge 40 p.bf.length with h40 | h40
      · have g2 : ¬ (p.bf.length : Int) ≤ 40 := by omega
        (by_cases g1 : p.rg ≤ 100 <;> (go_wp2_with fail; go_ret; exact ⟨⟨_, rfl, fun h => by first | (cases h; done) | exact ⟨g1, by omega, g3⟩⟩, HB.out⟩))
      · have g2 : (p.bf.length : Int) ≤ 40 := by omega
        (by_cases g1 : p.rg ≤ 100 <;> by_cases g3 : (p.op.length : Int) ≤ most <;> by_cases g4 : z ≤ 600 <;> (go_wp2_with fail; go_ret; exact ⟨⟨_, rfl, fun h => by first | (cases h; done) | exact ⟨g1, by omega, g3⟩⟩, HB.out⟩))
end Lb
end Go.Proofs.YtbdhibgljaelbaaDoor
namespace Go.Proofs.YtbdhibgljaelbaaDoor
open Go Go.RowKit
namespace Lb
open Wd Nt Gr
set_option linter.unusedVariables false
set_option linter.unusedSimpArgs false
theorem flt_11 (regs : Int) (bufs : List Bf) (s : Ah) (o : Op) : fltO regs bufs s o = 2 ∨ fltO regs bufs s o = 9 ∨ fltO regs bufs s o = 10 ∨ fltO regs bufs s o = 0 ∨ fltO regs bufs s o = 5 := by
  unfold fltO
  split
  · exact .inl rfl
  · split
    · exact .inr (.inl rfl)
    · split
      · exact .inr (.inr (.inl rfl))
      · split
        · exact .inr (.inr (.inr (.inl rfl)))
        · exact .inr (.inr (.inr (.inr rfl)))
theorem chkG_11 {regs : Int} {bufs : List Bf} : ∀ {ops : List Op} {s : Ah} {n : Nat}, (chkG regs bufs ops s n).2 ≠ 11
  | [], s, n => by unfold chkG; dsimp only; split <;> decide
  | o :: ops, s, n => by
    unfold chkG
    split
    · have := flt_11 regs bufs s o
      dsimp only
      omega
    · exact chkG_11
theorem chk_11 (p : Pg) : (chkP p).2 ≠ 11 := by
  unfold chkP
  split
  · unfold refP
    dsimp only
    split
    · decide
    · split <;> decide
  · exact chkG_11
structure Tells (p : Pg) (h : List (List Int)) (r : Ans) : Prop where
  e0 : r.er = 0 → r.ev.length = stepsP p ∧ r.out.length = p.bf.length ∧ ∀ (i : Nat) (b : Bf), p.bf[i]? = some b → ∃ y : List Int, r.out[i]? = some y ∧ (y.length : Int) = b.sz ∧ (b.kd = 1 → h[i]? = some y)
  e11 : r.er = 11 → r.ev.length < stepsP p
  en : r.er ≠ 0 → r.out = []
  ee : r.er ≠ 0 → r.er ≠ 11 → r.ev = []
  ev : ∀ e ∈ r.ev, GoodEv p e
  ol : ∀ y ∈ r.out, y.length ≤ 65536
theorem tells {p : Pg} (hp : p.wf) {h : List (List Int)} {r : Ans} (hr : RunP p h r) : Tells p h r := by
  unfold RunP at hr
  split at hr
  · rename_i hc
    subst hr
    exact ⟨fun e => absurd e hc, fun e => absurd e (chk_11 p), fun _ => rfl, fun _ _ => rfl, (fun e he => by cases he), (fun y hy => by cases hy)⟩
  rename_i hc
  have hc0 : (chkP p).2 = 0 := by simpa using hc
  have H := ok_of hc0
  have hst : stepsP p = evP p.op := by unfold stepsP; rw [if_pos hc0]
  split at hr
  · subst hr
    exact ⟨(fun e => by cases e), (fun e => by cases e), fun _ => rfl, fun _ _ => rfl, (fun e he => by cases he), (fun y hy => by cases hy)⟩
  rename_i h24
  split at hr
  · subst hr
    exact ⟨(fun e => by cases e), (fun e => by cases e), fun _ => rfl, fun _ _ => rfl, (fun e he => by cases he), (fun y hy => by cases hy)⟩
  rename_i hf
  have hf1 : fitP p.bf h = true := by simpa using hf
  obtain ⟨f, s, ⟨N, hrun⟩, rfl⟩ := hr
  obtain ⟨r1, r2⟩ := H.run2 (by omega) (s := st0 p h) rfl rfl hrun
  have hg := GoodS.run H hp (good_0 H hf1) hrun
  cases f
  · exact ⟨(fun e => by cases e), fun _ => by rw [hst]; exact r2 rfl, fun _ => rfl, (fun _ e => absurd rfl e), hg.ev, (fun y hy => by cases hy)⟩
  · refine ⟨fun _ => ⟨by rw [hst]; exact r1 rfl, hg.rl, hg.row⟩, (fun e => by cases e), (fun e => absurd rfl e), (fun e => absurd rfl e), hg.ev, fun y hy => ?_⟩
    obtain ⟨i, hi⟩ := List.mem_iff_getElem?.1 hy
    have hil := (List.getElem?_eq_some_iff.1 hi).1
    have hil2 : i < p.bf.length := by rw [← hg.rl]; exact hil
    obtain ⟨z, h1, h2, _⟩ := hg.row i _ (List.getElem?_eq_getElem hil2)
    have h3 : some z = some y := h1.symm.trans hi
    cases h3
    have := ((ref_zero H.ref).2.2.2.2 _ (List.getElem_mem hil2)).2.1
    omega
end Lb
end Go.Proofs.YtbdhibgljaelbaaDoor
namespace Go.Proofs.YtbdhibgljaelbaaDoor
open Go Go.RowKit Go.Sort Go.Shelf
namespace Lb
open Wd Nt Gr
set_option linter.unusedVariables false
set_option linter.unusedSimpArgs false
set_option maxRecDepth 100000 in
set_option maxHeartbeats 4000000 in
theorem rows_r (p : Pg) (A X Y : Option Addr) (c d m q : Nat) (hs : List Hr) (w : World) (hR : Rdr w w.heap.size A p.bf.length p.bf) (hH : HrW w w.heap.size Y m hs) (hm : m ≤ 1000000) :
    Calls Tryd.prog 34 #[pgV p A c X d, .slice Y m q] w fun e w' => e = .returned (.bool (fitP p.bf (hrYs hs))) ∧ Below w.heap.size w w' := by
  have HE := Lib.hid (fitP_eq p.bf (hrYs hs))
  have HLY : Hid ((hrYs hs).length = m) := Lib.hid (by unfold hrYs; rw [List.length_map]; exact hH.rd.len)
  generalize fitP p.bf (hrYs hs) = res at *
  have HB0 := Lib.hid (bel_al (w := w) (.cells #[.int .i64 p.rg, .slice A p.bf.length c, .slice X p.op.length d] 26))
  have HK0 := Lib.hid (Bk.new w 26 #[.int .i64 p.rg, .slice A p.bf.length c, .slice X p.op.length d])
  have HR := Lib.hid (hR.below HB0.out)
  have HH := Lib.hid (hH.below HB0.out)
  unfold pgV
  clear hR hH
  obtain ⟨W0, hW0⟩ : ∃ W0, W0 = w.alloc (.cells #[.int .i64 p.rg, .slice A p.bf.length c, .slice X p.op.length d] 26) := ⟨_, rfl⟩
  have HW0 := Lib.hid hW0
  rw [← hW0] at HB0 HK0 HR HH
  clear hW0
  obtain ⟨a0, a1, a2⟩ := c3 HK0.out
  go_enter Tryd.func34, Tryd.ntmps34
  go_upto_region 1 with fail
  rw [← HW0.out]
  by_cases hlen : p.bf.length = m
  · subst hlen
    rw [HLY.out, decide_eq_true rfl, Bool.true_and] at HE
    have hbb : ((p.bf.length : Int) != (p.bf.length : Int)) = false := by simp
    go_wp2_with fail
    go_loopw [5] (fun i W => ∃ k : Nat, k ≤ p.bf.length ∧ i = .int .i64 (k : Int) ∧ Hid (∀ j, j < k → fitB (bfAt p.bf (j : Int)) (rowAt (hrYs hs) (j : Int)) = true) ∧ Hid (W = W0)) (fun i _ => p.bf.length - (intOf i).toNat)
    case atStart => exact ⟨0, Nat.zero_le _, rfl, Lib.hid (fun j h => by omega), Lib.hid rfl⟩
    case round =>
      obtain ⟨k, hk, rfl, HP, HW⟩ := hrel
      rw [HW.out]
      clear HW
      rcases Nat.lt_or_ge k p.bf.length with hlt | hge
      · have hki : (k : Int) < (p.bf.length : Int) := by omega
        have hk0 : (0 : Int) ≤ (k : Int) := by omega
        obtain ⟨bb, bo, rfl, hbb2, s0, s1, s2⟩ := bf_at HR.out (bfAt_some hlt)
        obtain ⟨x, hx⟩ : ∃ x, hs[k]? = some x := ⟨_, List.getElem?_eq_getElem (by rw [HH.out.rd.len]; exact hlt)⟩
        obtain ⟨hb1, ho1, rfl, _, q0⟩ := hr_at HH.out.rd hx
        have ew : IntKind.i64.wrap ((k : Int) + 1) = ((k + 1 : Nat) : Int) := by rw [show (k : Int) + 1 = ((k + 1 : Nat) : Int) by omega]; exact IntWalk.i64_in _ (by omega)
        have hxl : x.ys.length = x.n := (HH.out.each x (List.mem_of_getElem? hx)).1.len
        have hrow : rowAt (hrYs hs) (k : Int) = x.ys := by
          unfold rowAt
          rw [Int.toNat_natCast, hrYs_get hx]
          rfl
        have HF : Hid (fitB (bfAt p.bf (k : Int)) (rowAt (hrYs hs) (k : Int)) = if (bfAt p.bf (k : Int)).kd = 3 then decide ((x.n : Int) = 0) else decide ((x.n : Int) = (bfAt p.bf (k : Int)).sz)) := Lib.hid (by
          rw [hrow]
          unfold fitB
          rw [← hxl]
          split
          · cases x.ys <;> simp; omega
          · rfl)
        have HN := Lib.hid (fun (h : fitB (bfAt p.bf (k : Int)) (rowAt (hrYs hs) (k : Int)) = true) (j : Nat) (hj : j < k + 1) => (show fitB (bfAt p.bf (j : Int)) (rowAt (hrYs hs) (j : Int)) = true from by
          rcases Nat.lt_or_ge j k with h2 | h2
          · exact HP.out j h2
          · obtain rfl : j = k := by omega
            exact h))
        have HNO := Lib.hid (fun (h : fitB (bfAt p.bf (k : Int)) (rowAt (hrYs hs) (k : Int)) = false) => (show res = false from by
          rw [HE.out, Bool.eq_false_iff]
          intro hh
          have := List.all_eq_true.1 hh k (List.mem_range.2 hlt)
          rw [h] at this
          cases this))
        rw [HF.out] at HN HNO
        obtain ⟨sz, hsz⟩ : ∃ z, (bfAt p.bf (k : Int)).sz = z := ⟨_, rfl⟩
        obtain ⟨kd, hkd⟩ : ∃ z, (bfAt p.bf (k : Int)).kd = z := ⟨_, rfl⟩
        rw [hsz] at s0 HN HNO
        rw [hkd] at s1 HN HNO
        generalize x.n = xn at *
        generalize x.A = xA at *
        generalize x.c = xc at *
        clear hsz hkd hx hxl hrow HF hbb2
        by_cases h3 : kd = 3
        · subst h3
          rw [if_pos rfl] at HN HNO
          by_cases h0 : xn = 0
          · subst h0
            have HN1 := Lib.hid (HN.out (by decide))
            clear HN HNO
            go_wp2_with fail
            go_roundw
            case rel => exact ⟨k + 1, by omega, by first | rfl | go_num, HN1, Lib.hid (by first | exact rfl | trivial)⟩
            case measure => (simp [intOf] <;> omega)
          · obtain rfl := HNO.out (by rw [decide_eq_false (by omega)])
            have hne : ((xn : Int) != 0) = true := by simpa using h0
            clear HN HNO h0
            go_wp2_with fail
            go_ret
            exact ⟨rfl, HB0.out⟩
        · have hkf : (kd == 3) = false := by rw [beq_eq_false_iff_ne]; exact h3
          rw [if_neg h3] at HN HNO
          clear h3
          by_cases h0 : (xn : Int) = sz
          · subst h0
            have HN1 := Lib.hid (HN.out (by rw [decide_eq_true rfl]))
            have hne : ((xn : Int) != (xn : Int)) = false := by simp
            clear HN HNO
            go_wp2_with fail
            go_roundw
            case rel => exact ⟨k + 1, by omega, by first | rfl | go_num, HN1, Lib.hid (by first | exact rfl | trivial)⟩
            case measure => (simp [intOf] <;> omega)
          · obtain rfl := HNO.out (by rw [decide_eq_false h0])
            have hne : ((xn : Int) != sz) = true := by simpa using h0
            clear HN HNO h0
            go_wp2_with fail
            go_ret
            exact ⟨rfl, HB0.out⟩
      · obtain rfl : k = p.bf.length := by omega
        have HT : Hid (res = true) := Lib.hid (by
          rw [HE.out, List.all_eq_true]
          intro j hj
          exact HP.out j (List.mem_range.1 hj))
        go_wp2_with fail
        go_ret
        exact ⟨by rw [HT.out]; rfl, HB0.out⟩
  · rw [HLY.out, decide_eq_false hlen, Bool.false_and] at HE
    have hne : ((m : Int) != (p.bf.length : Int)) = true := by simp; omega
    clear hlen
    go_wp2_with fail
    go_ret
    exact ⟨by rw [HE.out]; rfl, HB0.out⟩
end Lb
end Go.Proofs.YtbdhibgljaelbaaDoor
namespace Go.Proofs.YtbdhibgljaelbaaDoor
open Go Go.RowKit Go.Sort Go.Shelf
namespace Lb
open Wd Nt Gr
set_option linter.unusedVariables false
set_option linter.unusedSimpArgs false
/-- a word, as a thing of a row -/
structure Uw where
  z : Int
instance : Sh Uw := ⟨fun x => [.int .u64 x.z], 1, fun _ => rfl, fun o v hv => by
  simp only [List.mem_cons, List.not_mem_nil, or_false] at hv
  subst hv; rfl, by decide⟩
def uws (ys : List Int) : List Uw := ys.map Uw.mk
theorem uws_len (ys : List Int) : (uws ys).length = ys.length := by unfold uws; simp
theorem row_uws (ys : List Int) : row (uws ys) = ys.map (Value.int .u64) := by
  unfold row uws
  induction ys with
  | nil => rfl
  | cons y ys ih =>
    rw [List.map_cons, List.flatMap_cons, ih, List.map_cons]
    rfl
theorem uws_get {ys : List Int} {j : Nat} {y : Int} (h : ys[j]? = some y) : (uws ys)[j]? = some ⟨y⟩ := by unfold uws; rw [List.getElem?_map, h]; rfl
theorem uws_set (ys : List Int) (j : Nat) (v : Int) : (uws ys).set j ⟨v⟩ = uws (ys.set j v) := by unfold uws; rw [List.map_set]
set_option maxRecDepth 100000 in
theorem info_slu : (Tryd.prog.info? 43).map (fun i => (i.zero, i.size, i.bytes)) = some (some (.slice none 0 0), 1, 24) := by kernel_rfl
theorem ownR_c (A : Option Addr) (n c : Nat) (xs : List Hr) (w : World) (h : Rdr w w.heap.size A n xs) (hn : n ≤ 100000) :
    Calls Tryd.prog 53 #[.slice A n c] w (OwnA 43 xs w) := by
  obtain ⟨i, hi, hz, h2, h3⟩ := info_parts info_slu
  obtain ⟨g, c', w3, hap, hb3, hS⟩ := own_run (c := c) 39 43 i _ 24 Tryd.underlying39 hi hz h2 h3 rfl (by omega) h hn
  have hP : Hid (OwnA 43 xs w (.returned (.slice (some ⟨g, 0, none⟩) n c')) w3) := Lib.hid ⟨hb3, g, c', by rw [h.len], by rw [h.len]; exact hS⟩
  clear hi hz h2 h3 hb3 hS h
  go_enter Tryd.func53, Tryd.ntmps53
  go_wp2_with (at_builtin; refine wpList_append_eq rfl (.tmp 3) (.tmp 4) 39 rfl _ _ rfl rfl _ _ hap ?_)
  go_ret
  exact hP.out
theorem ownU_c (A : Option Addr) (n c : Nat) (xs : List Uw) (w : World) (h : Rdr w w.heap.size A n xs) (hn : n ≤ 100000) :
    Calls Tryd.prog 54 #[.slice A n c] w (OwnA 31 xs w) := by
  obtain ⟨i, hi, hz, h2, h3⟩ := info_parts infoU
  obtain ⟨g, c', w3, hap, hb3, hS⟩ := own_run (c := c) 43 31 i _ 8 Tryd.underlying43 hi hz h2 h3 rfl (by omega) h hn
  have hP : Hid (OwnA 31 xs w (.returned (.slice (some ⟨g, 0, none⟩) n c')) w3) := Lib.hid ⟨hb3, g, c', by rw [h.len], by rw [h.len]; exact hS⟩
  clear hi hz h2 h3 hb3 hS h
  go_enter Tryd.func54, Tryd.ntmps54
  go_wp2_with (at_builtin; refine wpList_append_eq rfl (.tmp 3) (.tmp 4) 43 rfl _ _ rfl rfl _ _ hap ?_)
  go_ret
  exact hP.out
end Lb
end Go.Proofs.YtbdhibgljaelbaaDoor
namespace Go.Proofs.YtbdhibgljaelbaaDoor
open Go Go.RowKit Go.Sort Go.Shelf
namespace Lb
open Wd Nt Gr
set_option linter.unusedVariables false
set_option linter.unusedSimpArgs false
/-- a row in memory of its own: the append, of a row that is read cell by cell -/
theorem own_run2 {T : Type} [Sh T] (st et : TypeId) (i : TypeInfo) (z : Value) (bytes : Nat) (hu : Tryd.prog.underlying st = some (.slice et)) (hi : Tryd.prog.info? et = some i) (hz : i.zero = some z) (hs : i.size = Sh.k T) (hb : i.bytes = bytes) (hzs : z.cells.size = Sh.k T) (hb2 : bytes ≤ 1000)
    {w : World} {A : Option Addr} {n c : Nat} {xs : List T} (hlen : xs.length = n) (hrow : 0 < n → ∃ ad, A = some ad ∧ ad.block < w.heap.size ∧ ∀ (j : Nat) (u : Value), (row xs)[j]? = some u → w.cell? (ad.add j) = some u) (hn : n ≤ 100000) :
    ∃ g c' w3, (Builtin.append_ #[st, st] st #[.slice (some ⟨w.heap.size, 0, none⟩) 0 0, .slice A n c]).run Tryd.prog (w.alloc (.cells #[] et)) = .ok (.slice (some ⟨g, 0, none⟩) n c') w3 ∧ Below w.heap.size w w3 ∧ Rws et w.heap.size (.slice (some ⟨g, 0, none⟩) n c') xs w3 := by
  have hb2' : Below w.heap.size w (w.alloc (.cells #[] et)) := bel_al _
  have hown0 := bk_rws (t := et) (B := w.heap.size) (xs := ([] : List T)) (w := w.alloc (.cells #[] et)) (g := w.heap.size) (Bk.new _ _ _) (Nat.le_refl _) (by simp)
  have hown : (w.alloc (.cells #[] et)).ownsRow w.heap.size et (Sh.k T) (.slice (some ⟨w.heap.size, 0, none⟩) 0 0) 0 [] := hown0
  have key : ∃ g c' w3, (Builtin.append_ #[st, st] st #[.slice (some ⟨w.heap.size, 0, none⟩) 0 0, .slice A n c]).run Tryd.prog (w.alloc (.cells #[] et)) = .ok (.slice (some ⟨g, 0, none⟩) n c') w3 ∧ Below w.heap.size w w3 ∧ w3.ownsRow w.heap.size et (Sh.k T) (.slice (some ⟨g, 0, none⟩) n c') n (row xs) := by
    have app : ∀ (ad : Addr) (m : Nat) (news : List Value), m ≤ 100000 → news.length = m * Sh.k T → (∀ (j : Nat) (u : Value), news[j]? = some u → (w.alloc (.cells #[] et)).cell? (ad.add j) = some u) → (∀ u ∈ news, u.oneCell' = true) →
        ∃ g c' w3, (Builtin.append_ #[st, st] st #[.slice (some ⟨w.heap.size, 0, none⟩) 0 0, .slice (some ad) m c]).run Tryd.prog (w.alloc (.cells #[] et)) = .ok (.slice (some ⟨g, 0, none⟩) m c') w3 ∧ Below w.heap.size w w3 ∧ w3.ownsRow w.heap.size et (Sh.k T) (.slice (some ⟨g, 0, none⟩) m c') m news := fun ad m news hm hnl hnews h1 => by
      obtain ⟨v', w3, hrun, h4, h5, h6, _⟩ := run_append_own_at (P := Tryd.prog) (w := w.alloc (.cells #[] et)) w.heap.size st st et i z (Sh.k T) bytes hu hi hz hs hb hzs Sh.pos _ 0 _ hown ad m c news hnl hnews h1 (by simp only [maxLen]; omega) (by rw [Nat.zero_add]; exact Nat.le_trans (Nat.mul_le_mul hm hb2) (by decide)) (by rw [World.size_alloc]; exact Nat.le_succ _)
      have hb3 : Below w.heap.size w w3 := Below.grown hb2' h5 (by rw [World.size_alloc]; exact Nat.le_succ _) (fun k e => by simp [Value.ownBlock] at e; omega)
      rw [List.nil_append, Nat.zero_add] at h4
      rcases h4.2 with ⟨e, _⟩ | ⟨g, c', cur, rfl, _⟩
      · exact absurd (h6.1 e).1 (by intro e; cases e)
      · exact ⟨g, c', w3, hrun, hb3, h4⟩
    rcases Nat.eq_zero_or_pos n with h0 | h0
    · subst h0
      obtain rfl : xs = [] := List.eq_nil_of_length_eq_zero hlen
      rcases A with _ | ad
      · exact ⟨w.heap.size, 0, _, run_append_nil' st st et i hu hi _ _ _ _ _ hown c, hb2', hown⟩
      · exact app ad 0 [] (by omega) (by simp) (fun j u hu => by simp at hu) (fun u hu => by cases hu)
    · obtain ⟨ad, rfl, hbad, hat⟩ := hrow h0
      exact app ad n (row xs) hn (by rw [row_len, hlen]) (fun j u hu => by rw [hb2'.cell (by rw [Nt.block_add]; exact hbad)]; exact hat j u hu) (row_one' xs)
  obtain ⟨g, c', w3, k1, k2, k3⟩ := key
  exact ⟨g, c', w3, k1, k2, by unfold Rws; rw [hlen]; exact k3⟩
theorem rd_row {w : World} {B n : Nat} {A : Option Addr} {ys : List Int} (h : Rd w B A n ys) (h0 : 0 < n) : ∃ ad, A = some ad ∧ ad.block < B ∧ ∀ (j : Nat) (u : Value), (row (uws ys))[j]? = some u → w.cell? (ad.add j) = some u := by
  obtain ⟨ad, e, hb, hc⟩ := h.rd h0
  refine ⟨ad, e, hb, fun j u hu => ?_⟩
  have hj := (List.getElem?_eq_some_iff.1 hu).1
  rw [row_uws] at hu hj
  rw [List.length_map, h.len] at hj
  rw [hc j hj]
  rw [List.getElem?_map, at_lt (by rw [h.len]; exact hj)] at hu
  exact hu
theorem ownU2_c (A : Option Addr) (n c : Nat) (ys : List Int) (w : World) (h : Rd w w.heap.size A n ys) (hn : n ≤ 100000) :
    Calls Tryd.prog 54 #[.slice A n c] w (OwnA 31 (uws ys) w) := by
  obtain ⟨i, hi, hz, h2, h3⟩ := info_parts infoU
  have hl : (uws ys).length = n := by rw [uws_len, h.len]
  obtain ⟨g, c', w3, hap, hb3, hS⟩ := own_run2 (c := c) 43 31 i _ 8 Tryd.underlying43 hi hz h2 h3 rfl (by omega) hl (fun h0 => rd_row h h0) hn
  have hP : Hid (OwnA 31 (uws ys) w (.returned (.slice (some ⟨g, 0, none⟩) n c')) w3) := Lib.hid ⟨hb3, g, c', by rw [hl], by rw [hl]; exact hS⟩
  clear hi hz h2 h3 hb3 hS h
  go_enter Tryd.func54, Tryd.ntmps54
  go_wp2_with (at_builtin; refine wpList_append_eq rfl (.tmp 3) (.tmp 4) 43 rfl _ _ rfl rfl _ _ hap ?_)
  go_ret
  exact hP.out
/-- rows of one's own, each with its room -/
structure RowsW (w : World) (B : Nat) (xs : List (Nat × Nat × List Int)) : Prop where
  each : ∀ x ∈ xs, Rws 31 B (.slice (some ⟨x.1, 0, none⟩) x.2.2.length x.2.1) (uws x.2.2) w ∧ Ws x.2.2
  nd : (xs.map (·.1)).Nodup
def ofW (x : Nat × Nat × List Int) : Hr := ⟨some ⟨x.1, 0, none⟩, x.2.2.length, x.2.1, x.2.2⟩
section
variable {w w' : World} {B : Nat} {xs : List (Nat × Nat × List Int)}
theorem RowsW.below (h : RowsW w B xs) (hb : Below w.heap.size w w') : RowsW w' B xs := ⟨fun x hx => ⟨own_below (h.each x hx).1 hb, (h.each x hx).2⟩, h.nd⟩
theorem RowsW.far {a i : Nat} {t' : TypeId} {cs' : Array Value} {u : Value} (h : RowsW w B xs) (h' : Bk w a t' cs') (hne : 31 ≠ t') : RowsW (w.setCell ⟨a, i, none⟩ u) B xs := ⟨fun x hx => ⟨own_far (h.each x hx).1 h' hne, (h.each x hx).2⟩, h.nd⟩
end
theorem row1_set {xs : List Hr} {j : Nat} {x y : Hr} (hx : xs[j]? = some x) : (Sh.vs x).set 0 (.slice y.A y.n y.c) = Sh.vs y := rfl
theorem setL_mid {T : Type} (ls bs : List T) (b x : T) : (ls ++ b :: bs).set ls.length x = ls ++ [x] ++ bs := by
  rw [List.set_append_right _ _ (Nat.le_refl _), Nat.sub_self, List.set_cons_zero, List.append_assoc]
  rfl
/-- what OwnRows answers -/
def OwnRA (hs : List Hr) (w : World) (e : Ending) (w' : World) : Prop := Below w.heap.size w w' ∧ ∃ g c xs, e = .returned (.slice (some ⟨g, 0, none⟩) hs.length c) ∧ Rws 43 w.heap.size (.slice (some ⟨g, 0, none⟩) hs.length c) (xs.map ofW) w' ∧ RowsW w' w.heap.size xs ∧ xs.map (·.2.2) = hrYs hs
/-- on the way -/
structure OwnRS (w W : World) (hs : List Hr) (g c k : Nat) (xs : List (Nat × Nat × List Int)) : Prop where
  len : xs.length = k
  ys : xs.map (·.2.2) = (hrYs hs).take k
  rw : Rws 43 w.heap.size (.slice (some ⟨g, 0, none⟩) hs.length c) (xs.map ofW ++ hs.drop k) W
  rows : RowsW W w.heap.size xs
  b : Below w.heap.size w W
set_option maxRecDepth 100000 in
set_option maxHeartbeats 4000000 in
theorem ownRows_l (Y : Option Addr) (m q : Nat) (hs : List Hr) (w : World) (hH : HrW w w.heap.size Y m hs) (hm : m ≤ 100000) (h6 : ∀ x ∈ hs, x.n ≤ 100000) :
    Calls Tryd.prog 28 #[.slice Y m q] w (OwnRA hs w) := by
  have HO := Lib.hid (ownR_c Y m q hs w hH.rd hm)
  have HL := Lib.hid hH.rd.len
  have HU := Lib.hid (fun (k : Nat) (x : Hr) (hx : hs[k]? = some x) (W : World) (hb : Below w.heap.size w W) => ownU2_c x.A x.n x.c x.ys W (((hH.each x (List.mem_of_getElem? hx)).1.below hb).more hb.size) (h6 x (List.mem_of_getElem? hx)))
  have HWS := Lib.hid (fun (k : Nat) (x : Hr) (hx : hs[k]? = some x) => (show Ws x.ys ∧ x.ys.length = x.n from ⟨(hH.each x (List.mem_of_getElem? hx)).1.ws, (hH.each x (List.mem_of_getElem? hx)).1.len⟩))
  unfold OwnA at HO HU
  clear hH h6
  go_enter Tryd.func28, Tryd.ntmps28
  go_wp2_with fail
  go_at_call 53
  refine HO.out.mono ?_
  rintro e w1 ⟨hb, g, c, rfl, hr⟩
  have H0 : Hid (OwnRS w w1 hs g c 0 []) := Lib.hid ⟨rfl, by simp, hr, ⟨fun x hx => absurd hx (by simp), List.nodup_nil⟩, hb⟩
  have HL' := HL.out
  subst HL'
  clear hb hr HO HL
  go_wp2_with fail
  go_loopw [4] (fun i W => ∃ k : Nat, k ≤ hs.length ∧ i = .int .i64 (k : Int) ∧ Hid (∃ xs, OwnRS w W hs g c k xs)) (fun i _ => hs.length - (intOf i).toNat)
  case atStart => exact ⟨0, Nat.zero_le _, rfl, Lib.hid ⟨_, H0.out⟩⟩
  case round =>
    obtain ⟨k, hk, rfl, HX⟩ := hrel
    clear H0
    obtain ⟨xs, hS⟩ := HX.out
    have HS := Lib.hid hS
    clear hS HX
    rcases Nat.lt_or_ge k hs.length with hlt | hge
    · have hki : (k : Int) < (hs.length : Int) := by omega
      have hk0 : (0 : Int) ≤ (k : Int) := by omega
      have ew : IntKind.i64.wrap ((k : Int) + 1) = ((k + 1 : Nat) : Int) := by rw [show (k : Int) + 1 = ((k + 1 : Nat) : Int) by omega]; exact IntWalk.i64_in _ (by omega)
      obtain ⟨x, hx⟩ : ∃ x, hs[k]? = some x := ⟨_, List.getElem?_eq_getElem hlt⟩
      have HX := Lib.hid hx
      have hgk : (xs.map ofW ++ hs.drop k)[k]? = some x := by
        rw [List.getElem?_append_right (by rw [List.length_map, HS.out.len]; exact Nat.le_refl _), List.length_map, HS.out.len, Nat.sub_self, List.getElem?_drop, Nat.add_zero, hx]
      obtain ⟨_, _, e0, _, q0⟩ := hr_at (rws_rd HS.out.rw).2.1 hgk
      cases e0
      rw [Nat.zero_add] at q0
      have HUX := Lib.hid (HU.out k x hx wr HS.out.b)
      have HGK := Lib.hid hgk
      obtain ⟨xA, xn, xc, xy⟩ := x
      dsimp only at *
      clear hx hgk
      go_wp2_with fail
      go_at_call 54
      refine HUX.out.mono ?_
      rintro e w5 ⟨hb5, g5, c5, rfl, hr5⟩
      have hR5 := own_below HS.out.rw hb5
      obtain ⟨cs, hcs⟩ := ownBlk hR5
      obtain ⟨cu, hcu⟩ := ownBlk hr5
      have hlo := ownLt hr5
      obtain ⟨_, _, e0, _, p0⟩ := hr_at (rws_rd (T := Hr) hR5).2.1 HGK.out
      cases e0
      rw [Nat.zero_add] at p0
      have hR6 := hR5
      rw [show (xs.map ofW ++ hs.drop k).length = hs.length by rw [List.length_append, List.length_map, List.length_drop, HS.out.len]; omega] at hR6
      have pf := World.ownsRow.frozenAt hR6 k
      have hput := own_put (T := Hr) (d := 0) (y := ofW (g5, c5, xy)) hR5 (by rw [List.length_append, List.length_map, List.length_drop, HS.out.len]; omega) HGK.out (show 0 < Sh.k Hr by decide) rfl
      have hdr : hs.drop k = ⟨xA, xn, xc, xy⟩ :: hs.drop (k + 1) := by
        rw [List.drop_eq_getElem_cons hlt]
        congr 1
        have h := HX.out
        rw [List.getElem?_eq_getElem hlt] at h
        exact Option.some.inj h
      have hset : (xs.map ofW ++ hs.drop k).set k (ofW (g5, c5, xy)) = (xs ++ [(g5, c5, xy)]).map ofW ++ hs.drop (k + 1) := by
        rw [hdr]
        have := setL_mid (xs.map ofW) (hs.drop (k + 1)) ⟨xA, xn, xc, xy⟩ (ofW (g5, c5, xy))
        rw [List.length_map, HS.out.len] at this
        rw [this, List.map_append]
        rfl
      rw [hset] at hput
      have hput2 : Rws 43 w.heap.size (.slice (some ⟨g, 0, none⟩) hs.length c) ((xs ++ [(g5, c5, xy)]).map ofW ++ hs.drop (k + 1)) (w5.setCell ⟨g, k, none⟩ (.slice (some ⟨g5, 0, none⟩) xy.length c5)) := by
        have h := hput
        rw [show k * Sh.k Hr + 0 = k by show k * 1 + 0 = k; omega] at h
        exact h
      have hsz := HS.out.b.size
      have HS2 : Hid (∃ xs', OwnRS w (w5.setCell ⟨g, k, none⟩ (.slice (some ⟨g5, 0, none⟩) (uws xy).length c5)) hs g c (k + 1) xs') := Lib.hid ⟨xs ++ [(g5, c5, xy)], by rw [List.length_append, HS.out.len]; rfl, by
          rw [List.map_append, HS.out.ys, List.take_add_one]
          have : (hrYs hs)[k]? = some xy := hrYs_get HX.out
          rw [this]
          rfl, by rw [uws_len]; exact hput2, by
          have h1 := HS.out.rows.below hb5
          refine ⟨fun x hx => ?_, ?_⟩
          · rcases List.mem_append.1 hx with hx | hx
            · exact ⟨own_far (h1.each x hx).1 hcs (by decide), (h1.each x hx).2⟩
            · obtain rfl := List.mem_singleton.1 hx
              refine ⟨own_far (own_mono (B' := w.heap.size) ?_ hsz) hcs (by decide), (HWS.out k _ HX.out).1⟩
              have h := hr5
              rw [uws_len] at h
              exact h
          · rw [List.map_append]
            refine List.nodup_append.2 ⟨h1.nd, by simp, ?_⟩
            intro a ha b hb2 e
            simp only [List.map_cons, List.map_nil, List.mem_singleton] at hb2
            obtain ⟨y, hy, rfl⟩ := List.mem_map.1 ha
            have h3 := (ownLt (HS.out.rows.each y hy).1).2
            omega, (bel_tr HS.out.b hb5).setCell (p := ⟨g, k, none⟩) (ownLt hR5).1 _⟩
      have hgl := hcs.lt
      clear hR5 hR6 hr5 hcs hcu hlo hput hput2 hdr hset hsz HUX q0 hb5
      go_wp2_with fail
      go_roundw
      case rel => exact ⟨k + 1, by omega, by first | rfl | go_num, HS2⟩
      case measure => (simp [intOf] <;> omega)
    · obtain rfl : k = hs.length := by omega
      go_wp2_with fail
      go_ret
      refine ⟨HS.out.b, g, c, xs, rfl, ?_, HS.out.rows, ?_⟩
      · have h := HS.out.rw
        rw [List.drop_length, List.append_nil] at h
        exact h
      · have h := HS.out.ys
        rw [List.take_of_length_le (by unfold hrYs; rw [List.length_map]; exact Nat.le_refl _)] at h
        exact h
end Lb
end Go.Proofs.YtbdhibgljaelbaaDoor
namespace Go.Proofs.YtbdhibgljaelbaaDoor
open Go Go.RowKit Go.Sort Go.Shelf
namespace Lb
open Wd Nt Gr
set_option linter.unusedVariables false
set_option linter.unusedSimpArgs false
section
variable {w w' : World} {B R : Nat} {pc : Pc} {G nr : Nat} {rg : Nat → Int} {xs : List (Nat × List Int)} {seen : List Ev}
/-- a row more: the append's run, and what is then -/
theorem RfW.addRow (h : RfW w B R pc G nr rg xs seen) {g gl : Nat} {ys : List Int} (hg : Bk w g 31 (us ys)) (hw : Ws ys) (hBg : B ≤ g) (hne : g ≠ G ∧ ∀ x ∈ xs, g ≠ x.1) (hl : Bk w gl 43 #[.slice (some ⟨g, 0, none⟩) ys.length ys.length]) (hB : B ≤ w.heap.size) (hx : xs.length ≤ 1000) :
    ∃ A n c A' n' c' w3, w.cell? ⟨R, 4, none⟩ = some (.slice A n c) ∧ (Builtin.append_ #[39, 39] 39 #[.slice A n c, .slice (some ⟨gl, 0, none⟩) 1 1]).run Tryd.prog w = .ok (.slice A' n' c') w3 ∧ (w3.cell? ⟨R, 4, none⟩ = some (.slice A n c) ∧ w3.frozen? ⟨R, 4, none⟩ = false ∧ R < w3.heap.size) ∧ RfW (w3.setCell ⟨R, 4, none⟩ (.slice A' n' c')) B R pc G nr rg (xs ++ [(g, ys)]) seen ∧ Below B w w3 := by
  obtain ⟨bv, sv, h1, h2, h3⟩ := h.ex
  obtain ⟨i, hi, hz, q2, q3⟩ := info_parts infoS
  obtain ⟨A, c, rfl, hc⟩ := rws_form h2
  have hxl : (xs.map toHr).length = xs.length := List.length_map _
  obtain ⟨A', c', w3, h4, h5, h6, h7⟩ := app_one (z := toHr (g, ys)) 39 39 i _ 24 Tryd.underlying39 hi hz q2 q3 rfl h2 hl (by rw [hxl]; omega) (by rw [hxl]; simp only [maxLen]; omega) hB
  have k1 := own_other h2 h1 (show (43 : TypeId) ≠ 89 by decide) h6
  have k2 := own_own h3 h2 (show (46 : TypeId) ≠ 43 by decide) h6
  have k3 := h.rk.grown h2 (show (43 : TypeId) ≠ 31 by decide) h6
  have k4 := own_other h2 hg (show (43 : TypeId) ≠ 31 by decide) h6
  have k5 : RowsK w3 B ((G, rgN rg nr) :: (xs ++ [(g, ys)])) := by
    refine ⟨fun x hx => ?_, ?_⟩
    · rcases List.mem_cons.1 hx with rfl | hx
      · exact k3.each _ List.mem_cons_self
      · rcases List.mem_append.1 hx with hx | hx
        · exact k3.each _ (List.mem_cons_of_mem _ hx)
        · obtain rfl := List.mem_singleton.1 hx
          exact ⟨hBg, k4, hw⟩
    · have hnd := k3.nd
      rw [show ((G, rgN rg nr) :: (xs ++ [(g, ys)])).map (·.1) = ((G, rgN rg nr) :: xs).map (·.1) ++ [g] by simp]
      refine List.nodup_append.2 ⟨hnd, by simp, fun a ha b hb e => ?_⟩
      obtain rfl := List.mem_singleton.1 hb
      obtain ⟨x, hx, rfl⟩ := List.mem_map.1 ha
      rcases List.mem_cons.1 hx with rfl | hx
      · exact hne.1 e.symm
      · exact hne.2 x hx e.symm
  refine ⟨A, _, c, A', _, c', w3, h1.cell 4, h4, ⟨k1.cell 4, k1.frozen 4, k1.lt⟩, ⟨⟨_, sv, k1.set_ 4 _, ?_, own_far k2 k1 (show (46 : TypeId) ≠ 89 by decide)⟩, h.hR, k5.far k1 (show (31 : TypeId) ≠ 89 by decide), h.rgs, own_far (own_own h.en h2 (show (3 : TypeId) ≠ 43 by decide) h6) k1 (show (3 : TypeId) ≠ 89 by decide)⟩, own_grown h2 h6 (Below.refl _ _) (Nat.le_refl _) hB⟩
  rw [List.map_append]
  exact own_far h5 k1 (show (43 : TypeId) ≠ 89 by decide)
/-- the rows of a run that is done, as rows that are handed on -/
theorem RfW.out (h : RfW w B R pc G nr rg xs seen) (hle : ∀ x ∈ xs, x.2.length ≤ 65536) : ∃ A c, w.cell? ⟨R, 4, none⟩ = some (.slice A xs.length c) ∧ HrW w w.heap.size A xs.length (xs.map toHr) ∧ hrYs (xs.map toHr) = xs.map (·.2) := by
  obtain ⟨bv, sv, h1, h2, h3⟩ := h.ex
  obtain ⟨A, c, rfl, hc⟩ := rws_form h2
  have hxl : (xs.map toHr).length = xs.length := List.length_map _
  have h4 := h1.cell 4
  have h5 := (rws_rd h2).2.1
  rw [hxl] at h4 h5
  refine ⟨A, c, h4, ⟨h5, fun x hx => ?_⟩, toHr_ys xs⟩
  obtain ⟨y, hy, rfl⟩ := List.mem_map.1 hx
  obtain ⟨e1, e2, e3⟩ := h.rk.each y (List.mem_cons_of_mem _ hy)
  exact ⟨e2.rd0 e2.lt e3 rfl, Nat.le_refl _, by have := hle y hy; show y.2.length ≤ _; omega⟩
/-- the events of a run -/
theorem RfW.evs (h : RfW w B R pc G nr rg xs seen) : ∃ A c, w.cell? ⟨R, 5, none⟩ = some (.slice A seen.length c) ∧ Rdr w w.heap.size A seen.length seen := by
  obtain ⟨bv, sv, h1, h2, h3⟩ := h.ex
  obtain ⟨A, c, rfl, hc⟩ := rws_form h3
  exact ⟨A, c, h1.cell 5, (rws_rd h3).2.1⟩
end
/-- what the document's own Run answers -/
def RunR (p : Pg) (h : List (List Int)) (e : Ending) (w' : World) : Prop := ∃ Ao co ho Ae ce r, e = .returned (.tuple #[.slice Ao r.out.length co, .slice Ae r.ev.length ce, .int .i64 r.er]) ∧ RunP p h r ∧ HrW w' w'.heap.size Ao r.out.length ho ∧ hrYs ho = r.out ∧ Rdr w' w'.heap.size Ae r.ev.length r.ev
end Lb
end Go.Proofs.YtbdhibgljaelbaaDoor
namespace Go.Proofs.YtbdhibgljaelbaaDoor
open Go Go.RowKit Go.Sort Go.Shelf
namespace Lb
open Wd Nt Gr
set_option linter.unusedVariables false
set_option linter.unusedSimpArgs false
/-- no row of ints yet -/
def en0 : EnV := ⟨.slice none 0 0, []⟩
theorem rws_less {α : Type} [Sh α] {e : TypeId} {B B' : Nat} {v : Value} {xs : List α} {w : World} (h : Rws e B v xs w) (hB : B' ≤ B) : Rws e B' v xs w := by
  refine ⟨h.1, ?_⟩
  rcases h.2 with h1 | ⟨g, c, cur, h1, h2, h3⟩
  · exact .inl h1
  · exact .inr ⟨g, c, cur, h1, Nat.le_trans hB h2, h3⟩
theorem RfW.withI {w : World} {B R : Nat} {pc : Pc} {G nr : Nat} {rg : Nat → Int} {xs : List (Nat × List Int)} {seen : List Ev} (h : RfW w B R pc G nr rg xs seen) {ev : EnV} (he : Rws 3 B ev.v ev.xs w) : RfW w B R ⟨pc.rg, pc.A, pc.n, pc.c, pc.X, pc.m, pc.d, ev⟩ G nr rg xs seen :=
  ⟨h.ex, h.hR, h.rk, h.rgs, he⟩
/-- an end's loop -/
theorem Ok.en_lp {p : Pg} (H : Ok p) {k : Nat} {o : Op} (ho : p.op[k]? = some o) (h17 : o.k = 17) : ∃ (l : Nat) (lo : Op), enAt (enP p.op) k = (l : Int) ∧ l < k ∧ p.op[l]? = some lo ∧ lo.k = 16 ∧ 0 ≤ lo.d ∧ (lo.d : Int) < p.rg := by
  have hk := (List.getElem?_eq_some_iff.1 ho).1
  have ht := H.top ho h17
  obtain ⟨lo, h1, h2⟩ := (H.li k (by omega)).loops _ ht
  obtain ⟨q1, q2, q3, q4, q5, q6⟩ := H.rgs h1
  exact ⟨_, lo, H.en_of ho h17, (H.nok k (by omega)).lt _ ht, h1, h2, q4 (by rw [h2]; rfl), (H.rgl (List.mem_of_getElem? h1)).d.2⟩
/-- rows under way -/
structure MrI (w0 W : World) (p : Pg) (hs : List (List Int)) (R : Nat) (pc : Pc) (G nr k : Nat) (xs : List (Nat × List Int)) : Prop where
  rf : RfW W w0.heap.size R pc G nr (fun _ => 0) xs []
  len : xs.length = k
  val : xs.map (·.2) = (rows0 p.bf hs).take k
  b : Below w0.heap.size w0 W
/-- a run under way at operation i: b: whether a loop begins anew there; else its register is put, its event is still to come -/
structure DrI (w3 W : World) (p : Pg) (R : Nat) (pc : Pc) (G nr : Nat) (f : Bool) (s' : St) (m : Nat) (b : Bool) (i : Nat) : Prop where
  ex : ∃ xs rg seen, RfW W w3.heap.size R pc G nr rg xs seen ∧ Dim p.bf.length xs ∧ (b = true → ∃ n, 2 * n ≤ m ∧ runF p.op (enP p.op) n ⟨i, rg, xs.map (·.2), seen⟩ = some (f, s')) ∧ (b = false → ∃ n o, 2 * n + 1 ≤ m ∧ p.op[i]? = some o ∧ o.k = 16 ∧ runF p.op (enP p.op) n ⟨i + 1, rg, xs.map (·.2), seen ++ [((i : Int), -1)]⟩ = some (f, s'))
  b : Below w3.heap.size w3 W
theorem runR_none {p : Pg} {h : List (List Int)} {er : Int} {w' : World} (hr : RunP p h ⟨[], [], er⟩) : RunR p h (.returned (.tuple #[.slice none 0 0, .slice none 0 0, .int .i64 er])) w' :=
  ⟨none, 0, [], none, 0, ⟨[], [], er⟩, rfl, hr, ⟨Rdr.nil, fun x hx => by cases hx⟩, rfl, Rdr.nil⟩
set_option maxRecDepth 100000 in
set_option maxHeartbeats 16000000 in
theorem run_r (p : Pg) (hp : p.wf) (A X Y : Option Addr) (c d m q : Nat) (hs : List Hr) (w : World) (hR : Rdr w w.heap.size A p.bf.length p.bf) (hX : Rdr w w.heap.size X p.op.length p.op) (hH : HrW w w.heap.size Y m hs) (hm : m ≤ 1000000) :
    Calls Tryd.prog 29 #[pgV p A c X d, .slice Y m q] w fun e w' => RunR p (hrYs hs) e w' ∧ Below w.heap.size w w' := by
  have HC := Lib.hid (fun (W : World) (hb : Below w.heap.size w W) => check_r p hp A X c d W ((hR.below hb).more hb.size) ((hX.below hb).more hb.size))
  have HST := Lib.hid (fun (W : World) (hb : Below w.heap.size w W) => steps_r p hp A X c d W ((hR.below hb).more hb.size) ((hX.below hb).more hb.size))
  have HEN := Lib.hid (fun (W : World) (hb : Below w.heap.size w W) => ends_r p hp A X c d W ((hR.below hb).more hb.size) ((hX.below hb).more hb.size))
  have HRO := Lib.hid (fun (W : World) (hb : Below w.heap.size w W) => rows_r p A X Y c d m q hs W ((hR.below hb).more hb.size) ((hH.below hb).more hb.size) hm)
  have HRR := Lib.hid (fun (W : World) (hb : Below w.heap.size w W) => (hR.below hb).more hb.size)
  have HXX := Lib.hid (fun (W : World) (hb : Below w.heap.size w W) => (hX.below hb).more hb.size)
  have HHH := Lib.hid (fun (W : World) (hb : Below w.heap.size w W) => (hH.below hb).more hb.size)
  have HSV : Hid ((chkP p).2 = 0 → stepsP p = evP p.op) := Lib.hid (fun h0 => by unfold stepsP; rw [if_pos h0])
  have R1 := Lib.hid (@runP_chk p (hrYs hs))
  have R2 := Lib.hid (@runP_full p (hrYs hs))
  have R3 := Lib.hid (@runP_arg p (hrYs hs))
  have R4 := Lib.hid (@runP_run p (hrYs hs))
  have HPW := Lib.hid hp
  clear hR hX hH hp
  have HB0 := Lib.hid (bel_al (w := w) (.cells #[.int .i64 p.rg, .slice A p.bf.length c, .slice X p.op.length d] 26))
  have HK0 := Lib.hid (Bk.new w 26 #[.int .i64 p.rg, .slice A p.bf.length c, .slice X p.op.length d])
  obtain ⟨ck, hck⟩ : ∃ ck, chkP p = ck := ⟨_, rfl⟩
  have HE := Lib.hid hck
  rw [hck] at HC HSV R1 R2 R3 R4
  clear hck
  obtain ⟨k1, k2⟩ := ck
  dsimp only at HC HSV R1 R2 R3 R4
  unfold pgV at *
  obtain ⟨nb, hnb⟩ : ∃ n, p.bf.length = n := ⟨_, rfl⟩
  obtain ⟨no, hno⟩ : ∃ n, p.op.length = n := ⟨_, rfl⟩
  have HNB := Lib.hid hnb
  have HNO := Lib.hid hno
  rw [hnb, hno] at HC HST HEN HRO HB0 HK0 ⊢
  rw [hnb] at HRR
  rw [hno] at HXX
  clear hnb hno
  go_enter Tryd.func29, Tryd.ntmps29
  go_wp2_with fail
  go_at_call 23
  refine (HC.out _ HB0.out).mono ?_
  rintro e w1 ⟨rfl, hb⟩
  have HB1 := Lib.hid (bel_tr HB0.out hb)
  have HK1 := Lib.hid (HK0.out.below hb HK0.out.lt)
  clear hb HC HB0 HK0
  obtain ⟨a0, a1, a2⟩ := c3 HK1.out
  by_cases h0 : k2 = 0
  case neg =>
    have hne : (k2 == 0) = false := by simpa using h0
    have hne2 : (k2 != 0) = true := by simpa using h0
    have HF := Lib.hid (runR_none (w' := w1) (R1.out h0))
    clear h0
    go_wp2_with fail
    go_ret3
    exact ⟨HF.out, HB1.out⟩
  subst h0
  obtain ⟨st, hst⟩ : ∃ s, stepsP p = s := ⟨_, rfl⟩
  rw [hst] at HST HSV
  clear hst
  go_wp2_with fail
  go_at_call 24
  refine (HST.out _ HB1.out).mono ?_
  rintro e w2 ⟨rfl, hb⟩
  have HB2 := Lib.hid (bel_tr HB1.out hb)
  have HK2 := Lib.hid (HK1.out.below hb HK1.out.lt)
  clear hb HST HB1 HK1 a0 a1 a2
  obtain ⟨a0, a1, a2⟩ := c3 HK2.out
  have hev : st = evP p.op := HSV.out (by first | rfl | trivial)
  have HEV := Lib.hid hev
  clear hev HSV
  by_cases h24 : (16777216 : Int) < (st : Int)
  · have HF := Lib.hid (runR_none (w' := w2) (R2.out (by first | rfl | trivial) (by rw [← HEV.out]; omega)))
    go_wp2_with fail
    go_ret3
    exact ⟨HF.out, HB2.out⟩
  have h24' : st ≤ 16777216 := by omega
  go_wp2_with fail
  go_at_call 34
  refine (HRO.out _ HB2.out).mono ?_
  rintro e w3 ⟨rfl, hb⟩
  have HB3 := Lib.hid (bel_tr HB2.out hb)
  have HK3 := Lib.hid (HK2.out.below hb HK2.out.lt)
  clear hb HRO HB2 HK2 a0 a1 a2
  obtain ⟨ft, hft⟩ : ∃ b, fitP p.bf (hrYs hs) = b := ⟨_, rfl⟩
  rw [hft]
  have HFT := Lib.hid hft
  clear hft
  obtain ⟨a0, a1, a2⟩ := c3 HK3.out
  cases ft
  · have HF := Lib.hid (runR_none (w' := w3) (R3.out (by first | rfl | trivial) (by rw [← HEV.out]; omega) HFT.out))
    go_wp2_with fail
    go_ret3
    exact ⟨HF.out, HB3.out⟩
  have HOK : Hid (Ok p) := Lib.hid (ok_of (by rw [HE.out]))
  obtain ⟨hr6, hb32, hop6, hr0, hbz⟩ := ref_zero HOK.out.ref
  have HBZ := Lib.hid hbz
  have hml : m = nb := by rw [← HNB.out]; exact fit_rows (HHH.out w (Below.refl _ _)) HFT.out
  have hno6 : no ≤ 65536 := by rw [← HNO.out]; exact hop6
  have hnb6 : nb ≤ 32 := by rw [← HNB.out]; exact hb32
  subst hml
  clear hop6 hb32
  obtain ⟨nr, hnr⟩ : ∃ n : Nat, p.rg = (n : Int) := ⟨p.rg.toNat, by omega⟩
  have hnr6 : nr ≤ 64 := by omega
  have HNR := Lib.hid hnr
  rw [hnr] at HK3 HEN a0 ⊢
  clear hnr hr6 hr0 hbz R1 R2 R3
  have hmk := fun W => make_u64 nr (by omega) W
  have hw3 : w.heap.size < w3.heap.size := HK3.out.lt
  have HI0 : Hid (MrI w3 ((w3.alloc (.cells (us (List.replicate nr 0)) 31)).alloc (.cells #[.int .i64 (nr : Int), .slice A m c, .slice X no d, .slice (some ⟨w3.heap.size, 0, none⟩) nr nr, .slice none 0 0, .slice none 0 0] 89)).drew p (hrYs hs) (w3.heap.size + 1) ⟨(nr : Int), A, m, c, X, no, d, en0⟩ w3.heap.size nr 0 []) := Lib.hid (by
    have hz : rgN (fun _ => 0) nr = List.replicate nr 0 := by unfold rgN; rw [List.map_const', List.length_range]
    have hk : Bk ((w3.alloc (.cells (us (List.replicate nr 0)) 31)).alloc (.cells #[.int .i64 (nr : Int), .slice A m c, .slice X no d, .slice (some ⟨w3.heap.size, 0, none⟩) nr nr, .slice none 0 0, .slice none 0 0] 89)) (w3.heap.size + 1) 89 #[.int .i64 (nr : Int), .slice A m c, .slice X no d, .slice (some ⟨w3.heap.size, 0, none⟩) nr nr, .slice none 0 0, .slice none 0 0] := Bk.new' (by rw [World.size_alloc])
    have hg : Bk ((w3.alloc (.cells (us (List.replicate nr 0)) 31)).alloc (.cells #[.int .i64 (nr : Int), .slice A m c, .slice X no d, .slice (some ⟨w3.heap.size, 0, none⟩) nr nr, .slice none 0 0, .slice none 0 0] 89)) w3.heap.size 31 (us (List.replicate nr 0)) := (Bk.new w3 _ _).alloc _
    refine ⟨⟨⟨.slice none 0 0, .slice none 0 0, Bk.drew hk, World.ownsRow_nil _ _ _ _, World.ownsRow_nil _ _ _ _⟩, Nat.le_succ _, ⟨fun x hx => ?_, by simp⟩, fun i => by unfold Wd.W; decide, World.ownsRow_nil _ _ _ _⟩, rfl, rfl, ((bel_al' (bel_al _) _).drew)⟩
    obtain rfl := List.mem_singleton.1 hx
    exact ⟨Nat.le_refl _, by rw [hz]; exact Bk.drew hg, by rw [hz]; exact Ws.zeros _⟩)
  go_upto_region 8 with fail
  go_cut [9] from 40 to 45 (fun v9 W => v9 = .pointer (some ⟨w3.heap.size + 1, 0, none⟩) ∧ Hid (MrI w3 W p (hrYs hs) (w3.heap.size + 1) ⟨(nr : Int), A, m, c, X, no, d, en0⟩ w3.heap.size nr 0 []))
  case first =>
    go_region_law (fail)
    all_goals (
      go_wp2_with fail
      go_meet
      case rel => exact ⟨rfl, HI0⟩)
  case rest =>
    obtain ⟨rfl, HI⟩ := hcut
    clear HI0 hmk a0 a1 a2
    have HBXF := Lib.hid (fun (W : World) (hb : Below w3.heap.size w3 W) => c3 (HK3.out.below hb HK3.out.lt))
    go_wp2_with fail
    go_loopw [10] (fun i W => ∃ k : Nat, k ≤ m ∧ i = .int .i64 (k : Int) ∧ Hid (∃ xs, MrI w3 W p (hrYs hs) (w3.heap.size + 1) ⟨(nr : Int), A, m, c, X, no, d, en0⟩ w3.heap.size nr k xs)) (fun i _ => m - (intOf i).toNat)
    case atStart => exact ⟨0, Nat.zero_le _, rfl, Lib.hid ⟨[], HI.out⟩⟩
    case round =>
      obtain ⟨k, hk, rfl, HX⟩ := hrel
      clear HI
      obtain ⟨xs, hI⟩ := HX.out
      have HI := Lib.hid hI
      clear hI HX
      obtain ⟨a0, a1, a2⟩ := HBXF.out wr HI.out.b
      have HBW := Lib.hid (bel_tr HB3.out HI.out.b)
      rcases Nat.lt_or_ge k m with hlt | hge
      · have hki : (k : Int) < (m : Int) := by omega
        have hk0 : (0 : Int) ≤ (k : Int) := by omega
        have ew : IntKind.i64.wrap ((k : Int) + 1) = ((k + 1 : Nat) : Int) := by rw [show (k : Int) + 1 = ((k + 1 : Nat) : Int) by omega]; exact IntWalk.i64_in _ (by omega)
        have hkl : k < p.bf.length := by rw [HNB.out]; exact hlt
        obtain ⟨bb, bo, rfl, hbb, s0, s1, s2⟩ := bf_at (HRR.out wr HBW.out) (bfAt_some hkl)
        obtain ⟨x, hx⟩ : ∃ x, hs[k]? = some x := ⟨_, List.getElem?_eq_getElem (by rw [(HHH.out wr HBW.out).rd.len]; exact hlt)⟩
        obtain ⟨b2, o2, rfl, hb2, x0⟩ := hr_at (HHH.out wr HBW.out).rd hx
        have HXE := Lib.hid ((HHH.out wr HBW.out).each x (List.mem_of_getElem? hx))
        have HXR : Hid (rowAt (hrYs hs) (k : Int) = x.ys) := Lib.hid (by unfold rowAt hrYs; rw [Int.toNat_natCast, List.getElem?_map, hx]; rfl)
        have HGET := Lib.hid (rows0_get HFT.out hkl)
        rw [HXR.out] at HGET
        have HBSZ := Lib.hid (HBZ.out _ (List.mem_of_getElem? (bfAt_some hkl)))
        have HFL : Hid (x.ys.length ≤ (bfAt p.bf (k : Int)).sz.toNat) := Lib.hid (by
          have h := HFT.out
          rw [fitP_eq, Bool.and_eq_true, List.all_eq_true] at h
          have h2 := h.2 k (List.mem_range.2 hkl)
          rw [HXR.out] at h2
          exact fit_len h2 HBSZ.out.1)
        generalize bfAt p.bf (k : Int) = bq at *
        obtain ⟨sz, kd, sec⟩ := bq
        dsimp only at *
        obtain ⟨n, hq⟩ : ∃ q : Nat, sz = (q : Int) := ⟨sz.toNat, by have := HBSZ.out.1; omega⟩
        subst hq
        have hq6 : n ≤ 65536 := by have := HBSZ.out.2; omega
        have hmk2 := fun W => make_u64 n (by omega) W
        obtain ⟨xA, xn, xc, xys⟩ := x
        dsimp only at *
        have hxn : xn ≤ n := by
          have h1 := HFL.out
          have h2 := HXE.out.1.len
          rw [Int.toNat_natCast] at h1
          omega
        have hN2 : Bk (wr.alloc (.cells (us (List.replicate n 0)) 31)) wr.heap.size 31 (us (List.replicate n 0)) := Bk.new _ _ _
        obtain ⟨w5, hcp, hk5, hg5⟩ := copy_run (dLen := n) (dCap := n) (c := xc) 43 43 3 Tryd.underlying43 hN2 (by simp) (HXE.out.1.below (bel_al (.cells (us (List.replicate n 0)) 31))) hxn
        have hrl : (row0 ⟨(n : Int), kd, sec⟩ xys).length = n := by rw [row0_len HFL.out]; exact Int.toNat_natCast n
        have hk5' : Bk w5 wr.heap.size 31 (us (row0 ⟨(n : Int), kd, sec⟩ xys)) := by
          rw [row0_eq HFL.out, HXE.out.1.len]
          exact hk5
        have hb5 : Below wr.heap.size wr w5 := (bel_al (w := wr) (.cells (us (List.replicate n 0)) 31)).trans ⟨hg5.os, hg5.tape, hg5.output, hg5.size, fun j hj => (hg5.block j (by rw [World.size_alloc]; omega) (by intro e; injection e with e; omega)).trans rfl⟩
        have hws : Ws (row0 ⟨(n : Int), kd, sec⟩ xys) := by
          rw [row0_eq HFL.out]
          exact HXE.out.1.ws.append ((Ws.zeros _).drop _)
        have hsz3 := HI.out.b.size
        have hG : w3.heap.size < wr.heap.size := HI.out.rf.cells.2.2.2.2.2.2
        obtain ⟨Ae, ne, ce, An, nn, cn, w7, k1, hap, ⟨z0, z1, z2⟩, hrf, hb7⟩ := ((HI.out.rf.below hb5).below (bel_al (.cells #[.slice (some ⟨wr.heap.size, 0, none⟩) n n] 43))).addRow (hk5'.alloc _) hws hsz3 ⟨by omega, fun x hx => by have := (HI.out.rf.rk.each x (List.mem_cons_of_mem _ hx)).2.1.lt; omega⟩ (by rw [hrl]; exact Bk.new w5 _ _) (by rw [World.size_alloc]; have := hb5.size; omega) (by rw [HI.out.len]; omega)
        have k0 : w5.cell? ⟨w3.heap.size + 1, 4, none⟩ = some (.slice Ae ne ce) := (World.cell?_alloc_lt _ _ _ (HI.out.rf.below hb5).cells.2.2.2.2.1).symm.trans k1
        have HN : Hid (∃ xs', MrI w3 (w7.setCell ⟨w3.heap.size + 1, 4, none⟩ (.slice An nn cn)) p (hrYs hs) (w3.heap.size + 1) ⟨(nr : Int), some ⟨bb, bo, none⟩, m, c, X, no, d, en0⟩ w3.heap.size nr (k + 1) xs') := Lib.hid ⟨_, hrf, by rw [List.length_append, HI.out.len]; rfl, by
          rw [List.map_append, HI.out.val, List.take_add_one, HGET.out]
          rfl, (bel_tr' (HI.out.b.trans (hb5.mono hsz3)) (bel_al (w := w5) _) hb7 (Nat.le_trans hsz3 hb5.size)).setCell (p := ⟨w3.heap.size + 1, 4, none⟩) (Nat.le_succ _) _⟩
        clear hrf hb7 hk5 hk5' hg5 hws hN2 hx hkl
        go_wp2_with (first | (at_builtin; refine wpList_cpy rfl _ _ 43 rfl _ _ rfl rfl _ _ hcp ?_) | (at_builtin; refine wpList_append_eq rfl _ _ 39 rfl _ _ rfl rfl _ _ hap ?_) | fail)
        go_roundw
        case rel => exact ⟨k + 1, by omega, by first | rfl | go_num, HN⟩
        case measure => (simp [intOf] <;> omega)
      · have hkm : k = m := by omega
        rw [hkm] at HI ⊢
        clear hkm hge hk
        have HVAL : Hid (xs.map (·.2) = rows0 p.bf (hrYs hs)) := Lib.hid (by rw [HI.out.val, List.take_of_length_le (by rw [rows0_len HFT.out, HNB.out]; exact Nat.le_refl _)])
        have HDIM : Hid (Dim p.bf.length xs) := Lib.hid ⟨by rw [HI.out.len, HNB.out], fun x hx => rows0_le HFT.out (fun b hb => ⟨(HBZ.out b hb).1, (HBZ.out b hb).2.1⟩) x.2 (by rw [← HVAL.out]; exact List.mem_map.2 ⟨x, hx, rfl⟩)⟩
        obtain ⟨N, f, s', hrun, hseen⟩ := HOK.out.run (by rw [← HEV.out]; exact h24') (st0 p (hrYs hs)) rfl rfl
        have HRN := Lib.hid (R4.out (by first | rfl | trivial) (by rw [← HEV.out]; omega) HFT.out hrun)
        have HSN : Hid (s'.seen.length ≤ 16777216) := Lib.hid (by rw [← HEV.out] at hseen; omega)
        have HEN2 := Lib.hid (HEN.out wr HBW.out)
        have HRUN := Lib.hid hrun
        clear hrun hseen HEN R4
        go_wp2_with fail
        go_at_call 25
        refine HEN2.out.mono ?_
        rintro e w4 ⟨⟨ve, rfl, hve⟩, hb4⟩
        have hes : endsP p = enP p.op := by unfold endsP; rw [if_pos (by rw [HE.out])]
        rw [hes] at hve
        have hel : (enP p.op).length = no := by rw [HOK.out.enlen, HNO.out]
        obtain ⟨Ae, ce, rfl, hce⟩ := rws_form hve
        have hve2 := rws_less hve HI.out.b.size
        rw [hel] at hve hve2 ⊢
        obtain ⟨ev, hev⟩ : ∃ ev : EnV, ev = ⟨.slice Ae no ce, enP p.op⟩ := ⟨_, rfl⟩
        have HEE := Lib.hid hev
        have HB4 := Lib.hid (HI.out.b.trans (hb4.mono HI.out.b.size))
        have HF4 := Lib.hid ((HI.out.rf.below hb4).withI (ev := ev) (by rw [hev]; exact hve2))
        have HX4 : Hid (RfW w4 w3.heap.size (w3.heap.size + 1) ⟨(nr : Int), A, m, c, X, no, d, ev⟩ w3.heap.size nr (fun _ => 0) xs [] ∧ Dim p.bf.length xs ∧ runF p.op (enP p.op) N ⟨0, fun _ => 0, xs.map (·.2), []⟩ = some (f, s')) := Lib.hid ⟨HF4.out, HDIM.out, by rw [HVAL.out]; exact HRUN.out⟩
        clear hve hve2 hev hes hel hce hb4 HI HF4 HDIM HVAL HRUN HEN2 a0 a1 a2
        go_wp2_with fail
        go_loopg [13, 14] (2 * N) (fun mm v13 v14 W => ∃ (fb : Bool) (k : Nat), v13 = .bool fb ∧ v14 = .int .i64 (k : Int) ∧ Hid (DrI w3 W p (w3.heap.size + 1) ⟨(nr : Int), A, m, c, X, no, d, ev⟩ w3.heap.size nr f s' mm fb k))
        case atStart => exact ⟨true, 0, rfl, rfl, Lib.hid ⟨⟨xs, _, [], HX4.out.1, HX4.out.2.1, fun _ => ⟨N, Nat.le_refl _, HX4.out.2.2⟩, fun e => (by cases e)⟩, HB4.out⟩⟩
        case round =>
          obtain ⟨fb, k, rfl, rfl, HD⟩ := hrel
          clear HX4 HB4
          obtain ⟨xs2, rg, seen, hrf, hdim, hT, hF⟩ := HD.out.ex
          have HBW := Lib.hid HD.out.b
          have HRF := Lib.hid hrf
          have HDM := Lib.hid hdim
          have HT := Lib.hid hT
          have HF := Lib.hid hF
          obtain ⟨a0, a1, a2⟩ := HBXF.out wr HBW.out
          obtain ⟨r0, r1, r2, r3, hRl, hBG, hGl⟩ := hrf.cells
          have hk0 : (0 : Int) ≤ (k : Int) := by omega
          clear HD hrf hdim hT hF
          rcases Nat.lt_or_ge k no with hlt | hge
          · have hki : (k : Int) < (no : Int) := by omega
            have ew : IntKind.i64.wrap ((k : Int) + 1) = ((k + 1 : Nat) : Int) := by rw [show (k : Int) + 1 = ((k + 1 : Nat) : Int) by omega]; exact IntWalk.i64_in _ (by omega)
            have hkl : k < p.op.length := by rw [HNO.out]; exact hlt
            obtain ⟨o, ho⟩ : ∃ o, p.op[k]? = some o := ⟨_, List.getElem?_eq_getElem hkl⟩
            have HXW := Lib.hid ((HXX.out w3 HB3.out).below HBW.out)
            obtain ⟨xb, xo, e1, hxb, x0, x1, x2, x3, x4, x5, x6, x7⟩ := op_at (HXX.out wr (bel_tr HB3.out HBW.out)) ho
            obtain ⟨W14, hW14⟩ : ∃ W, W = wr.alloc (.cells #[.int .i64 o.k, .int .i64 o.d, .int .i64 o.e, .int .i64 o.a, .int .i64 o.b, .int .i64 o.c, .int .i64 o.bf, .int .u64 o.im] 33) := ⟨_, rfl⟩
            have HRF14 : Hid (RfW W14 w3.heap.size (w3.heap.size + 1) ⟨(nr : Int), A, m, c, X, no, d, ev⟩ w3.heap.size nr rg xs2 seen) := Lib.hid (by rw [hW14]; exact HRF.out.below (bel_al _))
            have HB14 : Hid (Below w3.heap.size w3 W14) := Lib.hid (by rw [hW14]; exact HBW.out.trans ((bel_al (w := wr) _).mono HBW.out.size))
            have HO14 : Hid (Bk W14 wr.heap.size 33 #[.int .i64 o.k, .int .i64 o.d, .int .i64 o.e, .int .i64 o.a, .int .i64 o.b, .int .i64 o.c, .int .i64 o.bf, .int .u64 o.im]) := Lib.hid (by rw [hW14]; exact Bk.new _ _ _)
            have HOO := Lib.hid ho
            have HKL := Lib.hid hkl
            by_cases h16 : o.k = 16
            · have hod := (HOK.out.rgl (List.mem_of_getElem? ho)).d
              have hod0 := (HOK.out.rgs ho).2.2.2.1 (by rw [h16]; rfl)
              have hpr := HNR.out
              have HOD : Hid (0 ≤ o.d ∧ o.d < (nr : Int)) := Lib.hid (by omega)
              have HS16 := Lib.hid (fun (rg0 : Nat → Int) (rows : List (List Int)) (sn : List Ev) (n : Nat) (h : runF p.op (enP p.op) (n + 1) ⟨k, rg0, rows, sn⟩ = some (f, s')) => (show runF p.op (enP p.op) n ⟨k + 1, Lb.put rg0 o.d 0, rows, sn ++ [((k : Int), -1)]⟩ = some (f, s') from by rw [runF_lt ho (stp_16 ho h16)] at h; exact h))
              have HSL : Hid (seen.length ≤ 16777216) := Lib.hid (by
                cases fb
                · obtain ⟨n, o', _, _, _, hr⟩ := HF.out rfl
                  have h1 := runF_mono hr
                  have h2 := HSN.out
                  have h3 : (⟨k + 1, rg, xs2.map (·.2), seen ++ [((k : Int), -1)]⟩ : St).seen.length = seen.length + 1 := by simp
                  omega
                · obtain ⟨n, _, hr⟩ := HT.out rfl
                  exact Nat.le_trans (show (⟨k, rg, xs2.map (·.2), seen⟩ : St).seen.length ≤ _ from runF_mono hr) HSN.out)
              have hsl := HSL.out
              clear hod hod0 hpr ho hkl
              subst e1
              obtain ⟨ok, od, oe, oa, ob, oc, obf, oim⟩ := o
              dsimp only at *
              subst h16
              go_upto_region 21 with fail
              rw [← hW14]
              have y0 : W14.cell? ⟨wr.heap.size, 0, none⟩ = some (.int .i64 16) := HO14.out.cell 0
              have y1 : W14.cell? ⟨wr.heap.size, 1, none⟩ = some (.int .i64 od) := HO14.out.cell 1
              obtain ⟨g14, hg14⟩ : ∃ g, wr.heap.size = g := ⟨_, rfl⟩
              rw [hg14] at y0 y1 HO14 ⊢
              clear hW14 hg14 x0 x1 x2 x3 x4 x5 x6 x7 r0 r1 r2 r3 a0 a1 a2
              cases fb
              · obtain ⟨n, o', hn1, _, _, hr⟩ := HF.out rfl
                have HNX := Lib.hid hr
                have HN1 := Lib.hid hn1
                have HQ := HRF14
                have HBQ := HB14
                clear hr hn1 HT HF
                obtain ⟨Ae6, ne6, ce6, An6, nn6, cn6, w6, k1', hap, ⟨z0, z1, z2⟩, hrf6, hb6⟩ := (HQ.out.below (bel_al (.cells #[.int .i64 (k : Int), .int .i64 (-1)] 46))).see (Bk.new W14 _ _) (by rw [World.size_alloc]; have := HBQ.out.size; omega) (by omega)
                have k0' : W14.cell? ⟨w3.heap.size + 1, 5, none⟩ = some (.slice Ae6 ne6 ce6) := (World.cell?_alloc_lt _ _ _ HQ.out.cells.2.2.2.2.1).symm.trans k1'
                have HNEW : Hid (DrI w3 (w6.setCell ⟨w3.heap.size + 1, 5, none⟩ (.slice An6 nn6 cn6)) p (w3.heap.size + 1) ⟨(nr : Int), A, m, c, some ⟨xb, xo, none⟩, no, d, ev⟩ w3.heap.size nr f s' (2 * n) true (k + 1)) := Lib.hid ⟨⟨xs2, rg, seen ++ [((k : Int), -1)], hrf6, HDM.out, fun _ => ⟨n, Nat.le_refl _, HNX.out⟩, fun e => (by cases e)⟩, (bel_tr' HBQ.out (bel_al (w := W14) _) hb6 HBQ.out.size).setCell (p := ⟨w3.heap.size + 1, 5, none⟩) (Nat.le_succ _) _⟩
                clear hrf6 hb6 k1'
                go_wp2_with (first | (at_builtin; refine wpList_append_eq rfl _ _ 40 rfl _ _ rfl rfl _ _ hap ?_) | fail)
                go_roundg (2 * n)
                case measure => have := HN1.out; omega
                case rel => exact ⟨true, k + 1, rfl, by first | rfl | go_num, HNEW⟩
              · obtain ⟨n1, hn1, hr⟩ := HT.out rfl
                obtain ⟨n, rfl⟩ : ∃ n, n1 = n + 1 := by
                  cases n1 with
                  | zero => cases hr
                  | succ n => exact ⟨n, rfl⟩
                have HNX := Lib.hid (HS16.out _ _ _ _ hr)
                have HN1 := Lib.hid hn1
                obtain ⟨j, hj⟩ : ∃ j : Nat, od = (j : Int) := ⟨od.toNat, by have := HOD.out; omega⟩
                have hjn : j < nr := by have := HOD.out; omega
                have hjl : (j : Int) < (nr : Int) := by omega
                have hj0 : (0 : Int) ≤ (j : Int) := by omega
                have yd : W14.drew.cell? ⟨g14, 1, none⟩ = some (.int .i64 (j : Int)) := by rw [← hj]; exact y1
                have r3 : W14.drew.cell? ⟨w3.heap.size + 1, 1 + 2, none⟩ = some (.slice (some ⟨w3.heap.size, 0, none⟩) nr nr) := HRF14.out.cells.2.2.2.1
                have r3' : W14.drew.cell? ⟨w3.heap.size + 1, 3, none⟩ = some (.slice (some ⟨w3.heap.size, 0, none⟩) nr nr) := r3
                have c1 : W14.drew.cell? ⟨w3.heap.size, j, none⟩ = some (.int .u64 (rg j)) := (HRF14.out.reg hjn).1
                have f1 : W14.drew.frozen? ⟨w3.heap.size, j, none⟩ = false := (HRF14.out.reg hjn).2
                have HQ0 : Hid (RfW (W14.drew.setCell ⟨w3.heap.size, j, none⟩ (.int .u64 0)) w3.heap.size (w3.heap.size + 1) ⟨(nr : Int), A, m, c, some ⟨xb, xo, none⟩, no, d, ev⟩ w3.heap.size nr (Lb.put rg od 0) xs2 seen ∧ Below w3.heap.size w3 (W14.drew.setCell ⟨w3.heap.size, j, none⟩ (.int .u64 0))) := Lib.hid ⟨by rw [hj]; exact (HRF14.out.drewN 1).put hjn (by unfold Wd.W; decide), (below_drewN HB14.out 1).setCell (p := ⟨w3.heap.size, j, none⟩) (Nat.le_refl _) _⟩
                clear hr hn1 HT HF hj
                go_upto_region 26 with fail
                refine wp_region_still_tail 7 (by kernel_rfl) (by kernel_rfl) ?_
                simp only [List.take_succ_cons, List.take_zero, List.drop_succ_cons, List.drop_zero]
                iterate 7 still_step
                refine wpStill_nil ?_
                go_upto_region 27 with fail
                generalize hW6 : World.drew (World.setCell _ _ _) = W6
                have HQ : Hid (RfW W6 w3.heap.size (w3.heap.size + 1) ⟨(nr : Int), A, m, c, some ⟨xb, xo, none⟩, no, d, ev⟩ w3.heap.size nr (Lb.put rg od 0) xs2 seen) := Lib.hid (by rw [← hW6]; exact HQ0.out.1)
                have HBQ : Hid (Below w3.heap.size w3 W6) := Lib.hid (by rw [← hW6]; exact HQ0.out.2)
                clear hW6 HQ0 yd r3 r3' c1 f1 y0 y1
                obtain ⟨Ae6, ne6, ce6, An6, nn6, cn6, w6, k1', hap, ⟨z0, z1, z2⟩, hrf6, hb6⟩ := (HQ.out.below (bel_al (.cells #[.int .i64 (k : Int), .int .i64 (-1)] 46))).see (Bk.new W6 _ _) (by rw [World.size_alloc]; have := HBQ.out.size; omega) (by omega)
                have k0' : W6.cell? ⟨w3.heap.size + 1, 5, none⟩ = some (.slice Ae6 ne6 ce6) := (World.cell?_alloc_lt _ _ _ HQ.out.cells.2.2.2.2.1).symm.trans k1'
                have HNEW : Hid (DrI w3 (w6.setCell ⟨w3.heap.size + 1, 5, none⟩ (.slice An6 nn6 cn6)) p (w3.heap.size + 1) ⟨(nr : Int), A, m, c, some ⟨xb, xo, none⟩, no, d, ev⟩ w3.heap.size nr f s' (2 * n) true (k + 1)) := Lib.hid ⟨⟨xs2, (Lb.put rg od 0), seen ++ [((k : Int), -1)], hrf6, HDM.out, fun _ => ⟨n, Nat.le_refl _, HNX.out⟩, fun e => (by cases e)⟩, (bel_tr' HBQ.out (bel_al (w := W6) _) hb6 HBQ.out.size).setCell (p := ⟨w3.heap.size + 1, 5, none⟩) (Nat.le_succ _) _⟩
                clear hrf6 hb6 k1'
                go_wp2_with (first | (at_builtin; refine wpList_append_eq rfl _ _ 40 rfl _ _ rfl rfl _ _ hap ?_) | fail)
                go_roundg (2 * n)
                case measure => have := HN1.out; omega
                case rel => exact ⟨true, k + 1, rfl, by first | rfl | go_num, HNEW⟩
            by_cases h17 : o.k = 17
            · have hfb : fb = true := by
                cases fb
                · obtain ⟨n, o', _, ho', h, _⟩ := HF.out rfl
                  rw [ho] at ho'
                  cases ho'
                  exact absurd h h16
                · rfl
              subst hfb
              obtain ⟨n1, hn1, hr⟩ := HT.out rfl
              obtain ⟨n, rfl⟩ : ∃ n, n1 = n + 1 := by
                cases n1 with
                | zero => cases hr
                | succ n => exact ⟨n, rfl⟩
              obtain ⟨l, lo, he, hlk, hlo, hl16, hld0, hldr⟩ := HOK.out.en_lp ho h17
              have hx : (enP p.op)[k]? = some (l : Int) := by
                have h1 : k < (enP p.op).length := by rw [HOK.out.enlen]; exact hkl
                unfold enAt at he
                rw [List.getElem?_eq_getElem h1] at he ⊢
                exact congrArg some he
              have hen : Rws 3 w3.heap.size ev.v ev.xs W14 := HRF14.out.en
              rw [HEE.out] at hen
              obtain ⟨eb, eo, hAe, heb, t0⟩ := int_at (rws_rd hen).2.1 hx
              subst hAe
              obtain ⟨xb2, xo2, e2, hxb2, p0, p1, p2, p3, p4, p5, p6, p7⟩ := op_at (HXX.out W14 (bel_tr HB3.out HB14.out)) hlo
              subst e1
              cases e2
              obtain ⟨lk, ld, le, la, lb, lc, lbf, lim⟩ := lo
              dsimp only at hl16 hld0 hldr p0 p1 p2 p3 p4 p5 p6 p7
              obtain ⟨j, hj⟩ : ∃ j : Nat, ld = (j : Int) := ⟨ld.toNat, by omega⟩
              have hjn : j < nr := by have := HNR.out; omega
              have hjl : (j : Int) < (nr : Int) := by omega
              have hj0 : (0 : Int) ≤ (j : Int) := by omega
              have hl4 : (l : Int) < (no : Int) := by omega
              have hl0 : (0 : Int) ≤ (l : Int) := by omega
              obtain ⟨t, ht⟩ : ∃ t, (rg j + 1) % 18446744073709551616 = t := ⟨_, rfl⟩
              have hwt : Wd.W t := by rw [← ht]; exact W_mod _
              have ewt : IntKind.u64.wrap (rg j + 1) = t := by rw [IntKind.wrap_u64]; exact ht
              have hjd : ld.toNat = j := by rw [hj, Int.toNat_natCast]
              have HNT : Hid (t < lim → runF p.op (enP p.op) n ⟨l + 1, Lb.put rg ld t, xs2.map (·.2), seen ++ [((l : Int), -1)]⟩ = some (f, s')) := Lib.hid (fun hlt2 => by
                have h := hr
                rw [runF_lt ho (stp_17t ho h17 he hlo (by show (rg ld.toNat + 1) % 18446744073709551616 < lim; rw [hjd, ht]; exact hlt2))] at h
                dsimp only at h
                rw [hjd, ht] at h
                exact h)
              have HNF : Hid (¬ t < lim → runF p.op (enP p.op) n ⟨k + 1, rg, xs2.map (·.2), seen⟩ = some (f, s')) := Lib.hid (fun hlt2 => by
                have h := hr
                rw [runF_lt ho (stp_17f ho h17 he hlo (by show ¬ (rg ld.toNat + 1) % 18446744073709551616 < lim; rw [hjd, ht]; exact hlt2))] at h
                exact h)
              have HN1 := Lib.hid hn1
              have HXE := Lib.hid hx
              have HL : Hid (p.op[l]? = some ⟨lk, ld, le, la, lb, lc, lbf, lim⟩ ∧ lk = 16) := Lib.hid ⟨hlo, hl16⟩
              obtain ⟨q0, q1, q2⟩ := HBXF.out W14 HB14.out
              have HHJ := Lib.hid hj
              rw [hj] at p1
              clear ho hkl hr hn1 HF HT h16 hen hx he ht hld0 hldr hl16 hlo hlk hjd hj
              obtain ⟨ok, od, oe, oa, ob, oc, obf, oim⟩ := o
              dsimp only at *
              subst h17
              go_upto_region 21 with fail
              rw [← hW14]
              have y0 : W14.cell? ⟨wr.heap.size, 0, none⟩ = some (.int .i64 17) := HO14.out.cell 0
              obtain ⟨g14, hg14⟩ : ∃ g, wr.heap.size = g := ⟨_, rfl⟩
              rw [hg14] at y0 HO14 ⊢
              have HC0 : Hid (RfW (W14.alloc (.cells #[.int .i64 lk, .int .i64 (j : Int), .int .i64 le, .int .i64 la, .int .i64 lb, .int .i64 lc, .int .i64 lbf, .int .u64 lim] 33)).drew w3.heap.size (w3.heap.size + 1) ⟨(nr : Int), A, m, c, some ⟨xb, xo, none⟩, no, d, ev⟩ w3.heap.size nr rg xs2 seen ∧ Bk (W14.alloc (.cells #[.int .i64 lk, .int .i64 (j : Int), .int .i64 le, .int .i64 la, .int .i64 lb, .int .i64 lc, .int .i64 lbf, .int .u64 lim] 33)).drew W14.heap.size 33 #[.int .i64 lk, .int .i64 (j : Int), .int .i64 le, .int .i64 la, .int .i64 lb, .int .i64 lc, .int .i64 lbf, .int .u64 lim] ∧ Below w3.heap.size w3 (W14.alloc (.cells #[.int .i64 lk, .int .i64 (j : Int), .int .i64 le, .int .i64 la, .int .i64 lb, .int .i64 lc, .int .i64 lbf, .int .u64 lim] 33)).drew) := Lib.hid ⟨(HRF14.out.below (bel_al _)).drewN 1, Bk.drew (Bk.new _ _ _), below_drewN (HB14.out.trans ((bel_al (w := W14) _).mono HB14.out.size)) 1⟩
              have hq2 : w.heap.size < W14.heap.size := by have := HB14.out.size; omega
              clear hW14 hg14 x0 x1 x2 x3 x4 x5 x6 x7 r0 r1 r2 r3 a0 a1 a2
              go_upto_region 30 with fail
              go_cut [16] from 122 to 129 (fun v16 W => v16 = .pointer (some ⟨W14.heap.size, 0, none⟩) ∧ Hid (RfW W w3.heap.size (w3.heap.size + 1) ⟨(nr : Int), A, m, c, some ⟨xb, xo, none⟩, no, d, ev⟩ w3.heap.size nr rg xs2 seen ∧ Bk W W14.heap.size 33 #[.int .i64 lk, .int .i64 (j : Int), .int .i64 le, .int .i64 la, .int .i64 lb, .int .i64 lc, .int .i64 lbf, .int .u64 lim] ∧ Below w3.heap.size w3 W))
              case first =>
                go_region_law (fail)
                all_goals (
                  go_wp2_with fail
                  go_meet
                  case rel => exact ⟨rfl, HC0⟩)
              case rest =>
                obtain ⟨rfl, HC⟩ := hcut
                clear HC0 p0 p1 p2 p3 p4 p5 p6 p7 t0 q0 q1 q2 y0
                obtain ⟨g16, hg16⟩ : ∃ g, W14.heap.size = g := ⟨_, rfl⟩
                rw [hg16] at HC ⊢
                clear hg16 HRF14 HB14 HO14
                obtain ⟨r0, r1, r2, r3, hRl, hBG, hGl⟩ := HC.out.1.cells
                have c1 := (HC.out.1.reg hjn).1
                have y1 : wc.cell? ⟨g16, 1, none⟩ = some (.int .i64 (j : Int)) := HC.out.2.1.cell 1
                have y7 : wc.cell? ⟨g16, 7, none⟩ = some (.int .u64 lim) := HC.out.2.1.cell 7
                by_cases hlt2 : t < lim
                · have HNX := Lib.hid (HNT.out hlt2)
                  clear HNT HNF
                  go_upto_region 31 with fail
                  go_quiet (fail)
                  go_upto_region 32 with fail
                  generalize hW5 : wc.drewN _ = W5
                  have HC5 : Hid (RfW W5 w3.heap.size (w3.heap.size + 1) ⟨(nr : Int), A, m, c, some ⟨xb, xo, none⟩, no, d, ev⟩ w3.heap.size nr rg xs2 seen ∧ Bk W5 g16 33 #[.int .i64 lk, .int .i64 (j : Int), .int .i64 le, .int .i64 la, .int .i64 lb, .int .i64 lc, .int .i64 lbf, .int .u64 lim] ∧ Below w3.heap.size w3 W5) := Lib.hid (by rw [← hW5]; exact ⟨HC.out.1.drewN _, HC.out.2.1.below (below_drewN (Below.refl _ _) _) HC.out.2.1.lt, below_drewN HC.out.2.2 _⟩)
                  clear hW5 HC r0 r1 r2 r3 c1 y1 y7 hRl hBG hGl
                  have yd : W5.drew.cell? ⟨g16, 1, none⟩ = some (.int .i64 (j : Int)) := HC5.out.2.1.cell 1
                  have r3 : W5.drew.cell? ⟨w3.heap.size + 1, 1 + 2, none⟩ = some (.slice (some ⟨w3.heap.size, 0, none⟩) nr nr) := HC5.out.1.cells.2.2.2.1
                  have r3' : W5.drew.cell? ⟨w3.heap.size + 1, 3, none⟩ = some (.slice (some ⟨w3.heap.size, 0, none⟩) nr nr) := r3
                  have c1 : W5.drew.cell? ⟨w3.heap.size, j, none⟩ = some (.int .u64 (rg j)) := (HC5.out.1.reg hjn).1
                  have f1 : W5.drew.frozen? ⟨w3.heap.size, j, none⟩ = false := (HC5.out.1.reg hjn).2
                  have HQ0 : Hid (RfW (W5.drew.setCell ⟨w3.heap.size, j, none⟩ (.int .u64 t)) w3.heap.size (w3.heap.size + 1) ⟨(nr : Int), A, m, c, some ⟨xb, xo, none⟩, no, d, ev⟩ w3.heap.size nr (Lb.put rg ld t) xs2 seen ∧ Below w3.heap.size w3 (W5.drew.setCell ⟨w3.heap.size, j, none⟩ (.int .u64 t))) := Lib.hid ⟨by rw [HHJ.out]; exact (HC5.out.1.drewN 1).put hjn hwt, (below_drewN HC5.out.2.2 1).setCell (p := ⟨w3.heap.size, j, none⟩) (Nat.le_refl _) _⟩
                  refine wp_region_still_tail 10 (by kernel_rfl) (by kernel_rfl) ?_
                  simp only [List.take_succ_cons, List.take_zero, List.drop_succ_cons, List.drop_zero]
                  iterate 10 still_step
                  refine wpStill_nil ?_
                  go_upto_region 33 with fail
                  generalize hW6 : World.drew (World.setCell _ _ _) = W6
                  have HQ : Hid (RfW W6 w3.heap.size (w3.heap.size + 1) ⟨(nr : Int), A, m, c, some ⟨xb, xo, none⟩, no, d, ev⟩ w3.heap.size nr (Lb.put rg ld t) xs2 seen ∧ Below w3.heap.size w3 W6) := Lib.hid (by rw [← hW6]; exact HQ0.out)
                  clear hW6 HQ0 yd r3 r3' c1 f1 HC5
                  have hen : Rws 3 w3.heap.size ev.v ev.xs W6 := HQ.out.1.en
                  rw [HEE.out] at hen
                  have hx : (enP p.op)[k]? = some (l : Int) := HXE.out
                  obtain ⟨eb2, eo2, hAe, heb2, t0⟩ := int_at (rws_rd hen).2.1 hx
                  cases hAe
                  have ew1 : IntKind.i64.wrap ((l : Int) - 1) = (l : Int) - 1 := IntWalk.i64_in _ (by omega)
                  have ew2 : IntKind.i64.wrap ((l : Int) - 1 + 1) = (l : Int) := by rw [show (l : Int) - 1 + 1 = (l : Int) by omega]; exact IntWalk.i64_in _ (by omega)
                  have ew3 : IntKind.i64.wrap (l : Int) = (l : Int) := IntWalk.i64_in _ (by omega)
                  have HNEW : Hid (DrI w3 W6 p (w3.heap.size + 1) ⟨(nr : Int), A, m, c, some ⟨xb, xo, none⟩, no, d, ev⟩ w3.heap.size nr f s' (2 * n + 1) false l) := Lib.hid ⟨⟨xs2, Lb.put rg ld t, seen, HQ.out.1, HDM.out, fun e => (by cases e), fun _ => ⟨n, _, Nat.le_refl _, HL.out.1, HL.out.2, HNX.out⟩⟩, HQ.out.2⟩
                  clear hen hx HQ
                  go_wp2_with fail
                  go_roundg (2 * n + 1)
                  case measure => have := HN1.out; omega
                  case rel => exact ⟨false, l, rfl, by first | rfl | go_num, HNEW⟩
                · have HNX := Lib.hid (HNF.out hlt2)
                  clear HNT HNF
                  go_upto_region 31 with fail
                  go_quiet (fail)
                  have HNEW := Lib.hid (fun q : Nat => (show DrI w3 (wc.drewN q) p (w3.heap.size + 1) ⟨(nr : Int), A, m, c, some ⟨xb, xo, none⟩, no, d, ev⟩ w3.heap.size nr f s' (2 * n) true (k + 1) from ⟨⟨xs2, rg, seen, HC.out.1.drewN _, HDM.out, fun _ => ⟨n, Nat.le_refl _, HNX.out⟩, fun e => (by cases e)⟩, below_drewN HC.out.2.2 _⟩))
                  go_wp2_with fail
                  go_roundg (2 * n)
                  case measure => have := HN1.out; omega
                  case rel => exact ⟨true, k + 1, rfl, by first | rfl | go_num, Lib.hid (HNEW.out _)⟩
            have n16 : (o.k == 16) = false := by rw [beq_eq_false_iff_ne]; exact h16
            have n17 : (o.k == 17) = false := by rw [beq_eq_false_iff_ne]; exact h17
            have hfb : fb = true := by
              cases fb
              · obtain ⟨n, o', _, ho', h, _⟩ := HF.out rfl
                rw [ho] at ho'
                cases ho'
                exact absurd h h16
              · rfl
            subst hfb
            obtain ⟨n1, hn1, hr⟩ := HT.out rfl
            obtain ⟨n, rfl⟩ : ∃ n, n1 = n + 1 := by
              cases n1 with
              | zero => cases hr
              | succ n => exact ⟨n, rfl⟩
            have hsl : seen.length ≤ 16777216 := Nat.le_trans (show (⟨k, rg, xs2.map (·.2), seen⟩ : St).seen.length ≤ _ from runF_mono hr) HSN.out
            have HDO := Lib.hid (do_r w3.heap.size (w3.heap.size + 1) ⟨(nr : Int), A, m, c, X, no, d, ev⟩ w3.heap.size nr rg xs2 seen p.op (enP p.op) k o hnr6 ho hlt hno6 h16 h17 (by rw [HDM.out.len]; exact HOK.out.stOk HPW.out k o ho) (by rw [← HNR.out]; exact HOK.out.rgl (List.mem_of_getElem? ho)) (by rw [HDM.out.len]; exact HDM.out) ⟨(HOK.out.rgs ho).2.2.2.2.1, (HOK.out.rgs ho).2.2.2.2.2⟩ W14 HRF14.out ((HXX.out w3 HB3.out).below HB14.out) HB14.out.size hsl)
            have HNX0 := Lib.hid (fun (ht : stp p.op (enP p.op) ⟨k, rg, xs2.map (·.2), seen⟩ = none) => (show some (false, (⟨k, rg, xs2.map (·.2), seen⟩ : St)) = some (f, s') from by have h := hr; rw [runF_lt ho ht] at h; exact h))
            have HNX1 := Lib.hid (fun (s2 : St) (ht : stp p.op (enP p.op) ⟨k, rg, xs2.map (·.2), seen⟩ = some s2) => (show runF p.op (enP p.op) n s2 = some (f, s') from by have h := hr; rw [runF_lt ho ht] at h; exact h))
            have HPN := Lib.hid (fun (s2 : St) (h : stp p.op (enP p.op) ⟨k, rg, xs2.map (·.2), seen⟩ = some s2) => (stp_plain (s := ⟨k, rg, xs2.map (·.2), seen⟩) ho h16 h17 h).1)
            have HN1 := Lib.hid hn1
            clear ho hkl hr hn1 hsl HF HT h16 h17
            subst e1
            obtain ⟨ok, od, oe, oa, ob, oc, obf, oim⟩ := o
            dsimp only at *
            go_upto_region 21 with fail
            rw [← hW14]
            have y0 : W14.cell? ⟨wr.heap.size, 0, none⟩ = some (.int .i64 ok) := HO14.out.cell 0
            obtain ⟨g14, hg14⟩ : ∃ g, wr.heap.size = g := ⟨_, rfl⟩
            rw [hg14] at y0 HO14 ⊢
            clear hW14 hg14 x0 x1 x2 x3 x4 x5 x6 x7 r0 r1 r2 r3 a0 a1 a2
            go_wp2_with fail
            go_at_call 55
            refine HDO.out.mono ?_
            rintro e w15 hdo
            unfold DoA at hdo
            obtain ⟨hb15, hdo⟩ := hdo
            have HB15 := Lib.hid (HB14.out.trans hb15)
            rcases hdo with ⟨hst5, rfl, hrf⟩ | ⟨s2, xs3, hst5, rfl, hrf, hmap, hdim⟩
            · have hh := HNX0.out hst5
              obtain ⟨rfl, rfl⟩ : false = f ∧ (⟨k, rg, xs2.map (·.2), seen⟩ : St) = s' := by injection hh with hh; exact ⟨congrArg Prod.fst hh, congrArg Prod.snd hh⟩
              obtain ⟨Ae5, ce5, t5, hv5⟩ := hrf.evs
              have HRES : Hid (∀ n, RunR p (hrYs hs) (.returned (.tuple #[.slice none 0 0, .slice Ae5 seen.length ce5, .int .i64 11])) (w15.drewN n)) := Lib.hid (fun n => ⟨none, 0, [], Ae5, ce5, ⟨[], seen, 11⟩, rfl, by have h := HRN.out; rw [if_neg (by decide)] at h; exact h, ⟨Rdr.nil, fun x hx => by cases hx⟩, rfl, hv5.below (below_drewN (Below.refl _ _) n)⟩)
              have HBF := Lib.hid (bel_tr HB3.out HB15.out)
              clear hst5 hrf hb15 hv5 hh
              generalize seen.length = n3 at *
              go_wp2_with fail
              go_quiet (fail)
              go_wp2_with fail
              go_ret3
              exact ⟨HRES.out _, below_drewN HBF.out _⟩
            · have hh := HNX1.out _ hst5
              have hat := HPN.out _ hst5
              try dsimp only at hh hat
              obtain ⟨k2, rg2, rows2, seen2⟩ := s2
              dsimp only at hat hmap hrf
              subst hat hmap
              have HNEW : Hid (DrI w3 w15 p (w3.heap.size + 1) ⟨(nr : Int), A, m, c, some ⟨xb, xo, none⟩, no, d, ev⟩ w3.heap.size nr f s' (2 * n) true (k + 1)) := Lib.hid ⟨⟨xs3, rg2, seen2, hrf, by rw [HDM.out.len] at hdim; exact hdim, fun _ => ⟨n, Nat.le_refl _, hh⟩, fun e => (by cases e)⟩, HB15.out⟩
              clear hst5 hrf hb15 hh hdim
              go_wp2_with fail
              go_roundg (2 * n)
              case measure => have := HN1.out; omega
              case rel => exact ⟨true, k + 1, rfl, by first | rfl | go_num, HNEW⟩
          · have hki : ¬ (k : Int) < (no : Int) := by omega
            have hfb : fb = true := by
              cases fb
              · obtain ⟨n, o, _, ho, _⟩ := HF.out rfl
                have h1 := (List.getElem?_eq_some_iff.1 ho).1
                have h2 := HNO.out
                omega
              · rfl
            subst hfb
            obtain ⟨n, _, hr⟩ := HT.out rfl
            have hs : f = true ∧ s' = ⟨k, rg, xs2.map (·.2), seen⟩ := by
              cases n with
              | zero => cases hr
              | succ n =>
                unfold runF at hr
                rw [if_neg (by show ¬ k < p.op.length; rw [HNO.out]; omega)] at hr
                cases hr
                exact ⟨rfl, rfl⟩
            obtain ⟨rfl, rfl⟩ := hs
            obtain ⟨Ao, co, t4, ho4, hy4⟩ := HRF.out.out HDM.out.le
            obtain ⟨Ae5, ce5, t5, hv5⟩ := HRF.out.evs
            have HRES : Hid (∀ n, RunR p (hrYs hs) (.returned (.tuple #[.slice Ao xs2.length co, .slice Ae5 seen.length ce5, .int .i64 0])) (wr.drewN n)) := Lib.hid (fun n => ⟨Ao, co, xs2.map toHr, Ae5, ce5, ⟨xs2.map (·.2), seen, 0⟩, by simp only [List.length_map], by have h := HRN.out; rw [if_pos rfl] at h; exact h, by
              have h := ho4.below (below_drewN (Below.refl _ _) n)
              rw [show (⟨xs2.map (·.2), seen, 0⟩ : Ans).out.length = xs2.length from List.length_map _]
              exact h, hy4, hv5.below (below_drewN (Below.refl _ _) n)⟩)
            have HBF := Lib.hid (bel_tr HB3.out HBW.out)
            clear hr ho4 hv5 hy4
            generalize xs2.length = n2 at *
            generalize seen.length = n3 at *
            go_wp2_with fail
            go_quiet (fail)
            go_wp2_with fail
            go_ret3
            exact ⟨HRES.out _, below_drewN HBF.out _⟩
end Lb
end Go.Proofs.YtbdhibgljaelbaaDoor
namespace Go.Proofs.YtbdhibgljaelbaaDoor
open Go Go.RowKit Go.Sort Go.Shelf
namespace Lb
open Wd Nt Gr
set_option linter.unusedVariables false
set_option linter.unusedSimpArgs false
/-- rows b are rows a but in secret buffers -/
structure OtR (bf : List Bf) (a b : List (List Int)) : Prop where
  len : b.length = a.length
  row : ∀ j : Nat, (rowAt b (j : Int)).length = (rowAt a (j : Int)).length ∧ ((bfAt bf (j : Int)).sec = false → rowAt b (j : Int) = rowAt a (j : Int))
theorem OtR.refl {bf : List Bf} {a : List (List Int)} : OtR bf a a := ⟨rfl, fun _ => ⟨rfl, fun _ => rfl⟩⟩
theorem OtR.set {bf : List Bf} {a b : List (List Int)} (h : OtR bf a b) {i : Nat} {r : List Int} (hr : r.length = (rowAt b (i : Int)).length) (hs : (bfAt bf (i : Int)).sec = true) : OtR bf a (b.set i r) := by
  refine ⟨by rw [List.length_set]; exact h.len, fun j => ?_⟩
  rw [rowAt_set]
  split
  · rename_i hc
    obtain ⟨rfl, _⟩ := hc
    refine ⟨hr.trans (h.row i).1, fun hn => ?_⟩
    rw [hs] at hn
    cases hn
  · exact h.row j
theorem fitB_len {b : Bf} {x y : List Int} (h : x.length = y.length) : fitB b x = fitB b y := by
  unfold fitB
  split
  · cases x with
    | nil => cases y with
      | nil => rfl
      | cons _ _ => simp at h
    | cons _ _ => cases y with
      | nil => simp at h
      | cons _ _ => rfl
  · rw [h]
theorem OtR.fit {bf : List Bf} {a b : List (List Int)} (h : OtR bf a b) : fitP bf b = fitP bf a := by
  rw [fitP_eq, fitP_eq, h.len]
  congr 1
  rw [Bool.eq_iff_iff, List.all_eq_true, List.all_eq_true]
  constructor
  · intro k j hj
    rw [← fitB_len (h.row j).1]
    exact k j hj
  · intro k j hj
    rw [fitB_len (h.row j).1]
    exact k j hj
theorem OtR.agree {bf : List Bf} {a b : List (List Int)} (h : OtR bf a b) : agreeP bf a b = true := by
  unfold agreeP
  rw [List.all_eq_true]
  intro j hj
  cases hs : (bfAt bf (j : Int)).sec
  · rw [(h.row j).2 hs]
    simp
  · rfl
theorem OtR.pub {p : Pg} {a b : List (List Int)} (h : OtR p.bf a b) (h0 : (chkP p).2 = 0) : pubP p a b = fitP p.bf a := by
  unfold pubP
  rw [decide_eq_true h0, h.fit, h.agree, Bool.true_and, Bool.and_true, Bool.and_self]
theorem row0_same {b : Bf} {x y : List Int} (hs : 0 < b.sz) (hx : fitB b x = true) (hy : fitB b y = true) : (row0 b x).length = (row0 b y).length := by
  rw [row0_len (fit_len hx hs), row0_len (fit_len hy hs)]
theorem OtR.sim {p : Pg} {s : Nat} {a b : List (List Int)} (H : Ok p) (h : OtR p.bf a b) (hf : fitP p.bf a = true) : Sim p s (st0 p a) (st0 p b) := by
  have hg : fitP p.bf b = true := by rw [h.fit]; exact hf
  obtain ⟨_, _, _, _, hbz⟩ := ref_zero H.ref
  have hla := rows0_len hf
  have hlb := rows0_len hg
  refine ⟨rfl, rfl, fun _ _ => rfl, fun i => ?_, by show (rows0 p.bf a).length = (rows0 p.bf b).length; rw [hla, hlb]⟩
  show (rowAt (rows0 p.bf a) (i : Int)).length = (rowAt (rows0 p.bf b) (i : Int)).length ∧ ((bfAt p.bf (i : Int)).sec = false → rowAt (rows0 p.bf a) (i : Int) = rowAt (rows0 p.bf b) (i : Int))
  rcases Nat.lt_or_ge i p.bf.length with hi | hi
  · have ga := rows0_get hf hi
    have gb := rows0_get hg hi
    have ea : rowAt (rows0 p.bf a) (i : Int) = row0 (bfAt p.bf (i : Int)) (rowAt a (i : Int)) := by
      conv => lhs; unfold rowAt
      rw [Int.toNat_natCast, ga]; rfl
    have eb : rowAt (rows0 p.bf b) (i : Int) = row0 (bfAt p.bf (i : Int)) (rowAt b (i : Int)) := by
      conv => lhs; unfold rowAt
      rw [Int.toNat_natCast, gb]; rfl
    rw [ea, eb]
    have fa := hf
    have fb := hg
    rw [fitP_eq, Bool.and_eq_true, List.all_eq_true] at fa fb
    have fa2 := fa.2 i (List.mem_range.2 hi)
    have fb2 := fb.2 i (List.mem_range.2 hi)
    exact ⟨row0_same (hbz _ (List.mem_of_getElem? (bfAt_some hi))).1 fa2 fb2, fun hs => by rw [(h.row i).2 hs]⟩
  · have ea : rowAt (rows0 p.bf a) (i : Int) = [] := by
      unfold rowAt
      rw [Int.toNat_natCast, List.getElem?_eq_none (by omega)]; rfl
    have eb : rowAt (rows0 p.bf b) (i : Int) = [] := by
      unfold rowAt
      rw [Int.toNat_natCast, List.getElem?_eq_none (by omega)]; rfl
    rw [ea, eb]
    exact ⟨rfl, fun _ => rfl⟩
/-- two runs that agree on all that is public -/
theorem pub_same {p : Pg} {a b : List (List Int)} {x y : Ans} {r : Nat × Int} (hp : p.wf) (h0 : (chkP p).2 = 0) (hs : SecA p r) (hr : r.2 = 0) (h : OtR p.bf a b) (hx : RunP p a x) (hy : RunP p b y) :
    x.er = y.er ∧ x.ev = y.ev ∧ x.out.length = y.out.length ∧ ∀ (i : Nat), (bfAt p.bf (i : Int)).sec = false → rowAt x.out (i : Int) = rowAt y.out (i : Int) := by
  have H := ok_of h0
  unfold SecA at hs
  rw [if_neg (by simpa using h0)] at hs
  obtain ⟨s, hsn, rfl⟩ := hs
  have hal := chkL_ok.1 hr
  unfold RunP at hx hy
  rw [if_neg (by simpa using h0)] at hx hy
  split at hx
  · rename_i h24
    rw [if_pos h24] at hy
    subst hx hy
    exact ⟨rfl, rfl, rfl, fun _ _ => rfl⟩
  · rename_i h24
    rw [if_neg h24] at hy
    rw [h.fit] at hy
    split at hx
    · rename_i hf
      rw [if_pos hf] at hy
      subst hx hy
      exact ⟨rfl, rfl, rfl, fun _ _ => rfl⟩
    · rename_i hf
      rw [if_neg hf] at hy
      have hf1 : fitP p.bf a = true := by simpa using hf
      obtain ⟨f, sx, ⟨N, hN⟩, rfl⟩ := hx
      obtain ⟨g, sy, ⟨M, hM⟩, rfl⟩ := hy
      obtain ⟨y', hy', hsim⟩ := Sim.run H hp hsn.1.closed hal (h.sim (s := s) H hf1) hN
      have he := runF_det hM hy'
      injection he with e1 e2
      subst e1 e2
      cases g
      · exact ⟨rfl, hsim.seen, rfl, fun _ _ => rfl⟩
      · exact ⟨rfl, hsim.seen, hsim.len, fun i hi => (hsim.row i).2 hi⟩
section
variable {w w' : World} {B : Nat}
theorem own_apart {e : TypeId} {s m g n c : Nat} {ys : List Value} {p : Addr} {u : Value} (h : w.ownsRow B e s (.slice (some ⟨g, 0, none⟩) n c) m ys) (hne : g ≠ p.block) : (w.setCell p u).ownsRow B e s (.slice (some ⟨g, 0, none⟩) n c) m ys := by
  refine ⟨h.1, ?_⟩
  rcases h.2 with ⟨e1, _⟩ | ⟨g', cap, cur, e1, h2, hg, h3⟩
  · cases e1
  · cases e1
    exact .inr ⟨g, c, cur, rfl, h2, Bk.far hg hne u, h3⟩
theorem us_rd {g n c : Nat} {ys : List Int} (h : Rws 31 B (.slice (some ⟨g, 0, none⟩) n c) (uws ys) w) (hw : Ws ys) : Rd w w.heap.size (some ⟨g, 0, none⟩) n ys ∧ n ≤ c ∧ c ≤ 9223372036854775807 := by
  obtain ⟨h1, _, h3, _⟩ := rws_rd h
  rw [uws_len] at h1
  subst h1
  refine ⟨⟨rfl, hw, fun h0 => ⟨_, rfl, (ownLt h).2, fun j hj => ?_⟩⟩, h3, ?_⟩
  · have hc := World.ownsRow.cellAt (by have h5 := h; unfold Rws at h5; rw [uws_len] at h5; exact h5) j (by show j < ys.length * 1; omega)
    rw [show (⟨g, 0, none⟩ : Addr).add j = ⟨g, j, none⟩ by unfold Addr.add; split <;> simp_all]
    rw [hc, row_uws, List.getElem?_map, at_lt hj]
    rfl
  · have h5 := h
    unfold Rws at h5
    rw [uws_len] at h5
    rcases h5.2 with ⟨e1, _⟩ | ⟨g', cap, cur, e1, h2, hg, _, h4, _⟩
    · cases e1
    · cases e1
      exact h4
theorem ofW_row {xs : List (Nat × Nat × List Int)} {i g c : Nat} {ys zs : List Int} (hl : zs.length = ys.length) (hi : xs[i]? = some (g, c, ys)) : row ((xs.set i (g, c, zs)).map ofW) = row (xs.map ofW) := by
  have hil := (List.getElem?_eq_some_iff.1 hi).1
  have e : ∀ l : List (Nat × Nat × List Int), row (l.map ofW) = l.map (fun x => Value.slice (some ⟨x.1, 0, none⟩) x.2.2.length x.2.1) := by
    intro l
    induction l with
    | nil => rfl
    | cons x l ih => 
      rw [List.map_cons, List.map_cons, ← ih]
      rfl
  rw [e, e]
  apply List.ext_getElem?
  intro k
  rw [List.getElem?_map, List.getElem?_map, List.getElem?_set]
  by_cases ek : i = k
  · subst ek
    rw [if_pos rfl, if_pos hil, hi]
    simp [hl]
  · rw [if_neg ek]
/-- rows of one's own, and the row that holds them -/
structure OtW (w : World) (B g c : Nat) (xs : List (Nat × Nat × List Int)) : Prop where
  rw : Rws 43 B (.slice (some ⟨g, 0, none⟩) xs.length c) (xs.map ofW) w
  rows : RowsW w B xs
variable {g c : Nat} {xs : List (Nat × Nat × List Int)}
theorem OtW.below (h : OtW w B g c xs) (hb : Below w.heap.size w w') : OtW w' B g c xs := ⟨own_below h.rw hb, h.rows.below hb⟩
theorem OtW.cells (h : OtW w B g c xs) {i gi ci : Nat} {ys : List Int} (hi : xs[i]? = some (gi, ci, ys)) : w.cell? ⟨g, i, none⟩ = some (.slice (some ⟨gi, 0, none⟩) ys.length ci) ∧ (∀ k, k < ys.length → w.cell? ⟨gi, k, none⟩ = some (.int .u64 (Nt.at_ ys k)) ∧ w.frozen? ⟨gi, k, none⟩ = false) ∧ B ≤ gi ∧ gi < w.heap.size ∧ Ws ys ∧ g < w.heap.size ∧ ys.length ≤ ci ∧ ci ≤ 9223372036854775807 := by
  obtain ⟨e1, e2⟩ := h.rows.each _ (List.mem_of_getElem? hi)
  dsimp only at e1 e2
  obtain ⟨r1, r2, r3⟩ := us_rd e1 e2
  obtain ⟨b, o, e, hb, hc⟩ := hr_at (rws_rd h.rw).2.1 (show (xs.map ofW)[i]? = some (ofW (gi, ci, ys)) by rw [List.getElem?_map, hi]; rfl)
  cases e
  rw [Nat.zero_add] at hc
  have e3 := e1
  unfold Rws at e3
  rw [uws_len] at e3
  refine ⟨hc, fun k hk => ⟨?_, World.ownsRow.frozenAt e3 k⟩, (ownLt e1).1, (ownLt e1).2, e2, (ownLt h.rw).2, r2, r3⟩
  rw [World.ownsRow.cellAt e3 k (by show k < ys.length * 1; omega), row_uws, List.getElem?_map, at_lt hk]
  rfl
theorem OtW.store (h : OtW w B g c xs) {i gi ci : Nat} {ys : List Int} (hi : xs[i]? = some (gi, ci, ys)) {k : Nat} (hk : k < ys.length) {v : Int} (hv : W v) : OtW (w.setCell ⟨gi, k, none⟩ (.int .u64 v)) B g c (xs.set i (gi, ci, ys.set k v)) := by
  obtain ⟨e1, e2⟩ := h.rows.each _ (List.mem_of_getElem? hi)
  dsimp only at e1 e2
  have hil := (List.getElem?_eq_some_iff.1 hi).1
  obtain ⟨cs, hcs⟩ := ownBlk e1
  have h4 := own_far (i := k) (u := .int .u64 v) h.rw hcs (show (43 : TypeId) ≠ 31 by decide)
  refine ⟨?_, ?_, ?_⟩
  · unfold Rws at h4 ⊢
    rw [ofW_row (by simp) hi, List.length_map, List.length_set]
    rw [List.length_map] at h4
    exact h4
  · intro x hx
    obtain ⟨q, hq, hxq⟩ := List.getElem_of_mem hx
    have hql : q < xs.length := by rw [List.length_set] at hq; exact hq
    by_cases e : i = q
    · subst e
      rw [List.getElem_set_self] at hxq
      subst hxq
      refine ⟨?_, e2.set k hv⟩
      show Rws 31 B (.slice (some ⟨gi, 0, none⟩) (ys.set k v).length ci) (uws (ys.set k v)) _
      have h5 := own_put (T := Uw) (j := k) (d := 0) (x := ⟨Nt.at_ ys k⟩) (y := ⟨v⟩) (u := .int .u64 v) e1 (by rw [uws_len]) (uws_get (at_lt hk)) (by decide) rfl
      rw [uws_set, show k * Sh.k Uw + 0 = k by show k * 1 + 0 = k; omega] at h5
      rw [List.length_set]
      exact h5
    · rw [List.getElem_set_ne e] at hxq
      subst hxq
      obtain ⟨k1, k2⟩ := h.rows.each _ (List.getElem_mem hql)
      refine ⟨own_apart (p := ⟨gi, k, none⟩) k1 ?_, k2⟩
      intro e4
      have hn := List.pairwise_iff_getElem.1 h.rows.nd
      have ei : xs[i] = (gi, ci, ys) := by rw [List.getElem?_eq_getElem hil] at hi; exact Option.some.inj hi
      rcases Nat.lt_or_gt_of_ne e with h5 | h5
      · refine hn i q (by rw [List.length_map]; exact hil) (by rw [List.length_map]; exact hql) h5 ?_
        rw [List.getElem_map, List.getElem_map, ei]
        exact e4.symm
      · refine hn q i (by rw [List.length_map]; exact hql) (by rw [List.length_map]; exact hil) h5 ?_
        rw [List.getElem_map, List.getElem_map, ei]
        exact e4
  · have e : (xs.set i (gi, ci, ys.set k v)).map (·.1) = xs.map (·.1) := by
      apply List.ext_getElem?
      intro q
      rw [List.getElem?_map, List.getElem?_map, List.getElem?_set]
      by_cases e : i = q
      · subst e
        rw [if_pos rfl, if_pos hil, hi]
        rfl
      · rw [if_neg e]
    rw [e]
    exact h.rows.nd
theorem OtW.hr (h : OtW w B g c xs) : HrW w w.heap.size (some ⟨g, 0, none⟩) xs.length (xs.map ofW) ∧ hrYs (xs.map ofW) = xs.map (·.2.2) := by
  refine ⟨⟨(rws_rd h.rw).2.1, fun x hx => ?_⟩, by unfold hrYs; rw [List.map_map]; rfl⟩
  obtain ⟨y, hy, rfl⟩ := List.mem_map.1 hx
  obtain ⟨e1, e2⟩ := h.rows.each y hy
  exact us_rd e1 e2
theorem ys_set {i gi ci : Nat} {zs : List Int} : (xs.set i (gi, ci, zs)).map (·.2.2) = (xs.map (·.2.2)).set i zs := by rw [List.map_set]
theorem ys_at {i gi ci : Nat} {ys : List Int} (hi : xs[i]? = some (gi, ci, ys)) : rowAt (xs.map (·.2.2)) (i : Int) = ys := by
  unfold rowAt
  rw [Int.toNat_natCast, List.getElem?_map, hi]
  rfl
end
end Lb
end Go.Proofs.YtbdhibgljaelbaaDoor
namespace Go.Proofs.YtbdhibgljaelbaaDoor
open Go Go.RowKit Go.Sort Go.Shelf
namespace Lb
open Wd Nt Gr
set_option linter.unusedVariables false
set_option linter.unusedSimpArgs false
/-- what a comparison answers -/
def IffA {α : Type} (x y : α) (w : World) (e : Ending) (w' : World) : Prop := (∃ r : Bool, e = .returned (.bool r) ∧ (r = true ↔ x = y)) ∧ ∃ q, w' = w.drewN q
set_option maxRecDepth 100000 in
theorem bufEq (x y : Bf) (W : World) : ∃ r : Bool, (Op.equalIn 10000 29 (.agg #[.int .i64 x.sz, .int .i64 x.kd, .bool x.sec]) (.agg #[.int .i64 y.sz, .int .i64 y.kd, .bool y.sec])).run Tryd.prog W = .ok r W ∧ (r = true ↔ x = y) := by
  obtain ⟨a, b, c⟩ := x
  obtain ⟨a', b', c'⟩ := y
  dsimp only
  refine ⟨decide (a = a') && decide (b = b') && decide (c = c'), ?_, by simp [and_assoc]⟩
  have u3 := Tryd.underlying3
  have a3 := Tryd.isAgg3
  have z3 := Tryd.sizeOf3
  have u4 := Tryd.underlying4
  have a4 := Tryd.isAgg4
  have z4 := Tryd.sizeOf4
  have hS : Tryd.prog.underlying 29 = some (.struct (Tryd.prog.fieldsOf 29)) := by kernel_rfl
  have hp : Tryd.prog.stoodInHeld 29 = false := by kernel_rfl
  rw [show (10000 : Nat) = 9999 + 1 from rfl, run_equalIn_agg W 9999 29 _ _ hS hp]
  simp only [Program.fieldsOf, Tryd.underlying29]
  go_simp
  by_cases h1 : a = a'
  case neg => simp [h1]
  by_cases h2 : b = b'
  case neg => simp [h1, h2]
  cases c <;> cases c' <;> simp [h1, h2]
set_option maxRecDepth 100000 in
set_option maxHeartbeats 2000000 in
theorem opEq (x y : Op) (W : World) : ∃ r : Bool, (Go.Op.equalIn 10000 33 (.agg #[.int .i64 x.k, .int .i64 x.d, .int .i64 x.e, .int .i64 x.a, .int .i64 x.b, .int .i64 x.c, .int .i64 x.bf, .int .u64 x.im]) (.agg #[.int .i64 y.k, .int .i64 y.d, .int .i64 y.e, .int .i64 y.a, .int .i64 y.b, .int .i64 y.c, .int .i64 y.bf, .int .u64 y.im])).run Tryd.prog W = .ok r W ∧ (r = true ↔ x = y) := by
  obtain ⟨a1, a2, a3, a4, a5, a6, a7, a8⟩ := x
  obtain ⟨b1, b2, b3, b4, b5, b6, b7, b8⟩ := y
  dsimp only
  refine ⟨decide (a1 = b1) && decide (a2 = b2) && decide (a3 = b3) && decide (a4 = b4) && decide (a5 = b5) && decide (a6 = b6) && decide (a7 = b7) && decide (a8 = b8), ?_, by simp [and_assoc]⟩
  have u3 := Tryd.underlying3
  have i3 := Tryd.isAgg3
  have z3 := Tryd.sizeOf3
  have u4 := Tryd.underlying31
  have i4 := Tryd.isAgg31
  have z4 := Tryd.sizeOf31
  have hS : Tryd.prog.underlying 33 = some (.struct (Tryd.prog.fieldsOf 33)) := by kernel_rfl
  have hp : Tryd.prog.stoodInHeld 33 = false := by kernel_rfl
  rw [show (10000 : Nat) = 9999 + 1 from rfl, run_equalIn_agg W 9999 33 _ _ hS hp]
  simp only [Program.fieldsOf, Tryd.underlying33]
  go_simp
  by_cases h1 : a1 = b1
  case neg => simp [h1]
  by_cases h2 : a2 = b2
  case neg => simp [h1, h2]
  by_cases h3 : a3 = b3
  case neg => simp [h1, h2, h3]
  by_cases h4 : a4 = b4
  case neg => simp [h1, h2, h3, h4]
  by_cases h5 : a5 = b5
  case neg => simp [h1, h2, h3, h4, h5]
  by_cases h6 : a6 = b6
  case neg => simp [h1, h2, h3, h4, h5, h6]
  by_cases h7 : a7 = b7
  case neg => simp [h1, h2, h3, h4, h5, h6, h7]
  by_cases h8 : a8 = b8 <;> simp [h1, h2, h3, h4, h5, h6, h7, h8]
set_option maxRecDepth 100000 in
set_option maxHeartbeats 4000000 in
theorem equal_b (A B : Option Addr) (n c m d Ba Bb : Nat) (xs ys : List Bf) (w : World) (ha : Rdr w Ba A n xs) (hb : Rdr w Bb B m ys) (hn : n ≤ 1000000) (hm : m ≤ 1000000) :
    Calls Tryd.prog 41 #[.slice A n c, .slice B m d] w (IffA xs ys w) := by
  unfold IffA
  by_cases hnm : n = m
  · subst hnm
    have HLA := Lib.hid ha.len
    have HLB := Lib.hid hb.len
    go_enter Tryd.func41, Tryd.ntmps41
    go_wp2_with fail
    go_loopw [13] (fun i wr => ∃ k q : Nat, k ≤ n ∧ i = .int .i64 k ∧ Hid (xs.take k = ys.take k) ∧ wr = w.drewN q) (fun i _ => n - (intOf i).toNat)
    case atStart => exact ⟨0, 0, Nat.zero_le _, rfl, Lib.hid rfl, rfl⟩
    case round =>
      obtain ⟨k, q, hk, rfl, hz, rfl⟩ := hrel
      by_cases hlt : k < n
      · obtain ⟨x, hx⟩ : ∃ x, xs[k]? = some x := ⟨_, List.getElem?_eq_getElem (by rw [HLA.out]; exact hlt)⟩
        obtain ⟨y, hy⟩ : ∃ y, ys[k]? = some y := ⟨_, List.getElem?_eq_getElem (by rw [HLB.out]; exact hlt)⟩
        obtain ⟨ab, ao, rfl, _, p0, p1, p2⟩ := bf_at ha hx
        obtain ⟨bb, bo, rfl, _, q0, q1, q2⟩ := bf_at hb hy
        have hki : (k : Int) < (n : Int) := by omega
        have hk0 : (0 : Int) ≤ (k : Int) := by omega
        by_cases hxy : x = y
        · have HZ : Hid (xs.take (k + 1) = ys.take (k + 1)) := Lib.hid (take_more hz.out hx (by rw [hxy]; exact hy))
          have hne2 : ∀ W, (Go.Op.equalIn 10000 29 (.agg #[.int .i64 x.sz, .int .i64 x.kd, .bool x.sec]) (.agg #[.int .i64 y.sz, .int .i64 y.kd, .bool y.sec])).run Tryd.prog W = .ok true W := fun W => by obtain ⟨r, h1, h2⟩ := bufEq x y W; rw [h2.2 hxy] at h1; exact h1
          obtain ⟨x1, x2, x3⟩ := x
          obtain ⟨y1, y2, y3⟩ := y
          dsimp only at p0 p1 p2 q0 q1 q2 hne2
          clear hxy hx hy hz ha hb
          go_wp2_with fail
          go_quiet (fail)
          go_wp2_with fail
          go_roundw
          case rel => exact ⟨k + 1, _, by omega, by go_num, HZ, rfl⟩
          case measure => (simp [intOf] <;> omega)
        · have HN := Lib.hid (ne_at hx hy hxy)
          have hne2 : ∀ W, (Go.Op.equalIn 10000 29 (.agg #[.int .i64 x.sz, .int .i64 x.kd, .bool x.sec]) (.agg #[.int .i64 y.sz, .int .i64 y.kd, .bool y.sec])).run Tryd.prog W = .ok false W := fun W => by obtain ⟨r, h1, h2⟩ := bufEq x y W; rw [Bool.eq_false_iff.2 (fun e => hxy (h2.1 e))] at h1; exact h1
          obtain ⟨x1, x2, x3⟩ := x
          obtain ⟨y1, y2, y3⟩ := y
          dsimp only at p0 p1 p2 q0 q1 q2 hne2
          clear hxy hx hy hz ha hb
          go_wp2_with fail
          go_quiet (fail)
          go_wp2_with fail
          go_ret
          exact ⟨⟨false, rfl, by simpa using HN.out⟩, _, World.drewN_drewN _ _ _⟩
      · obtain rfl : k = n := by omega
        have HE := Lib.hid (take_all hz.out HLA.out HLB.out)
        clear hz ha hb
        go_wp2_with fail
        go_ret
        exact ⟨⟨true, rfl, by simpa using HE.out⟩, _, rfl⟩
  · have hne : xs ≠ ys := fun e => hnm (by rw [← ha.len, ← hb.len, e])
    have HN := Lib.hid hne
    clear hne ha hb
    have hmi : ¬ ((n : Int) = (m : Int)) := by omega
    have hmb : ((n : Int) == (m : Int)) = false := by rw [beq_eq_false_iff_ne]; exact hmi
    have hmn : ((n : Int) != (m : Int)) = true := by rw [bne, hmb]; rfl
    go_enter Tryd.func41, Tryd.ntmps41
    go_wp2_with fail
    go_ret
    exact ⟨⟨false, rfl, by simpa using HN.out⟩, 0, rfl⟩
set_option maxRecDepth 100000 in
set_option maxHeartbeats 4000000 in
theorem equal_o (A B : Option Addr) (n c m d Ba Bb : Nat) (xs ys : List Op) (w : World) (ha : Rdr w Ba A n xs) (hb : Rdr w Bb B m ys) (hn : n ≤ 1000000) (hm : m ≤ 1000000) :
    Calls Tryd.prog 42 #[.slice A n c, .slice B m d] w (IffA xs ys w) := by
  unfold IffA
  by_cases hnm : n = m
  · subst hnm
    have HLA := Lib.hid ha.len
    have HLB := Lib.hid hb.len
    go_enter Tryd.func42, Tryd.ntmps42
    go_wp2_with fail
    go_loopw [13] (fun i wr => ∃ k q : Nat, k ≤ n ∧ i = .int .i64 k ∧ Hid (xs.take k = ys.take k) ∧ wr = w.drewN q) (fun i _ => n - (intOf i).toNat)
    case atStart => exact ⟨0, 0, Nat.zero_le _, rfl, Lib.hid rfl, rfl⟩
    case round =>
      obtain ⟨k, q, hk, rfl, hz, rfl⟩ := hrel
      by_cases hlt : k < n
      · obtain ⟨x, hx⟩ : ∃ x, xs[k]? = some x := ⟨_, List.getElem?_eq_getElem (by rw [HLA.out]; exact hlt)⟩
        obtain ⟨y, hy⟩ : ∃ y, ys[k]? = some y := ⟨_, List.getElem?_eq_getElem (by rw [HLB.out]; exact hlt)⟩
        obtain ⟨ab, ao, rfl, _, p0, p1, p2, p3, p4, p5, p6, p7⟩ := op_at ha hx
        obtain ⟨bb, bo, rfl, _, q0, q1, q2, q3, q4, q5, q6, q7⟩ := op_at hb hy
        have hki : (k : Int) < (n : Int) := by omega
        have hk0 : (0 : Int) ≤ (k : Int) := by omega
        by_cases hxy : x = y
        · have HZ : Hid (xs.take (k + 1) = ys.take (k + 1)) := Lib.hid (take_more hz.out hx (by rw [hxy]; exact hy))
          have hne2 : ∀ W, (Go.Op.equalIn 10000 33 (.agg #[.int .i64 x.k, .int .i64 x.d, .int .i64 x.e, .int .i64 x.a, .int .i64 x.b, .int .i64 x.c, .int .i64 x.bf, .int .u64 x.im]) (.agg #[.int .i64 y.k, .int .i64 y.d, .int .i64 y.e, .int .i64 y.a, .int .i64 y.b, .int .i64 y.c, .int .i64 y.bf, .int .u64 y.im])).run Tryd.prog W = .ok true W := fun W => by obtain ⟨r, h1, h2⟩ := opEq x y W; rw [h2.2 hxy] at h1; exact h1
          obtain ⟨x1, x2, x3, x4, x5, x6, x7, x8⟩ := x
          obtain ⟨y1, y2, y3, y4, y5, y6, y7, y8⟩ := y
          dsimp only at p0 p1 p2 p3 p4 p5 p6 p7 q0 q1 q2 q3 q4 q5 q6 q7 hne2
          clear hxy hx hy hz ha hb
          go_wp2_with fail
          go_quiet (fail)
          go_wp2_with fail
          go_roundw
          case rel => exact ⟨k + 1, _, by omega, by go_num, HZ, rfl⟩
          case measure => (simp [intOf] <;> omega)
        · have HN := Lib.hid (ne_at hx hy hxy)
          have hne2 : ∀ W, (Go.Op.equalIn 10000 33 (.agg #[.int .i64 x.k, .int .i64 x.d, .int .i64 x.e, .int .i64 x.a, .int .i64 x.b, .int .i64 x.c, .int .i64 x.bf, .int .u64 x.im]) (.agg #[.int .i64 y.k, .int .i64 y.d, .int .i64 y.e, .int .i64 y.a, .int .i64 y.b, .int .i64 y.c, .int .i64 y.bf, .int .u64 y.im])).run Tryd.prog W = .ok false W := fun W => by obtain ⟨r, h1, h2⟩ := opEq x y W; rw [Bool.eq_false_iff.2 (fun e => hxy (h2.1 e))] at h1; exact h1
          obtain ⟨x1, x2, x3, x4, x5, x6, x7, x8⟩ := x
          obtain ⟨y1, y2, y3, y4, y5, y6, y7, y8⟩ := y
          dsimp only at p0 p1 p2 p3 p4 p5 p6 p7 q0 q1 q2 q3 q4 q5 q6 q7 hne2
          clear hxy hx hy hz ha hb
          go_wp2_with fail
          go_quiet (fail)
          go_wp2_with fail
          go_ret
          exact ⟨⟨false, rfl, by simpa using HN.out⟩, _, World.drewN_drewN _ _ _⟩
      · obtain rfl : k = n := by omega
        have HE := Lib.hid (take_all hz.out HLA.out HLB.out)
        clear hz ha hb
        go_wp2_with fail
        go_ret
        exact ⟨⟨true, rfl, by simpa using HE.out⟩, _, rfl⟩
  · have hne : xs ≠ ys := fun e => hnm (by rw [← ha.len, ← hb.len, e])
    have HN := Lib.hid hne
    clear hne ha hb
    have hmi : ¬ ((n : Int) = (m : Int)) := by omega
    have hmb : ((n : Int) == (m : Int)) = false := by rw [beq_eq_false_iff_ne]; exact hmi
    have hmn : ((n : Int) != (m : Int)) = true := by rw [bne, hmb]; rfl
    go_enter Tryd.func42, Tryd.ntmps42
    go_wp2_with fail
    go_ret
    exact ⟨⟨false, rfl, by simpa using HN.out⟩, 0, rfl⟩
theorem pg_ext {p q : Pg} : p = q ↔ (p.rg = q.rg ∧ p.bf = q.bf ∧ p.op = q.op) := by
  obtain ⟨a, b, c⟩ := p
  obtain ⟨a', b', c'⟩ := q
  simp
set_option maxRecDepth 100000 in
set_option maxHeartbeats 4000000 in
theorem psame_l (p q : Pg) (A X A2 X2 : Option Addr) (c d c2 d2 : Nat) (w : World) (hR : Rdr w w.heap.size A p.bf.length p.bf) (hX : Rdr w w.heap.size X p.op.length p.op) (hR2 : Rdr w w.heap.size A2 q.bf.length q.bf) (hX2 : Rdr w w.heap.size X2 q.op.length q.op) (hn : p.bf.length ≤ 1000000 ∧ p.op.length ≤ 1000000 ∧ q.bf.length ≤ 1000000 ∧ q.op.length ≤ 1000000) :
    Calls Tryd.prog 18 #[pgV p A c X d, pgV q A2 c2 X2 d2] w fun e w' => (∃ r : Bool, e = .returned (.bool r) ∧ (r = true ↔ p = q)) ∧ Below w.heap.size w w' := by
  have KB := Lib.hid (fun (W : World) (hb : Below w.heap.size w W) => equal_b A A2 p.bf.length c q.bf.length c2 _ _ p.bf q.bf W (hR.below hb) (hR2.below hb) hn.1 hn.2.2.1)
  have KO := Lib.hid (fun (W : World) (hb : Below w.heap.size w W) => equal_o X X2 p.op.length d q.op.length d2 _ _ p.op q.op W (hX.below hb) (hX2.below hb) hn.2.1 hn.2.2.2)
  have HE := Lib.hid (@pg_ext p q)
  unfold IffA at KB KO
  unfold pgV
  clear hR hX hR2 hX2 hn
  have HB0 := Lib.hid (bel_al' (bel_al (w := w) (.cells #[.int .i64 p.rg, .slice A p.bf.length c, .slice X p.op.length d] 26)) (.cells #[.int .i64 q.rg, .slice A2 q.bf.length c2, .slice X2 q.op.length d2] 26))
  have HK0 : Hid (Bk ((w.alloc (.cells #[.int .i64 p.rg, .slice A p.bf.length c, .slice X p.op.length d] 26)).alloc (.cells #[.int .i64 q.rg, .slice A2 q.bf.length c2, .slice X2 q.op.length d2] 26)) w.heap.size 26 #[.int .i64 p.rg, .slice A p.bf.length c, .slice X p.op.length d]) := Lib.hid ((Bk.new w _ _).alloc _)
  have HZ0 : Hid (Bk ((w.alloc (.cells #[.int .i64 p.rg, .slice A p.bf.length c, .slice X p.op.length d] 26)).alloc (.cells #[.int .i64 q.rg, .slice A2 q.bf.length c2, .slice X2 q.op.length d2] 26)) (w.heap.size + 1) 26 #[.int .i64 q.rg, .slice A2 q.bf.length c2, .slice X2 q.op.length d2]) := Lib.hid (Bk.new' (by simp))
  obtain ⟨W0, hW0⟩ : ∃ W0, W0 = ((w.alloc (.cells #[.int .i64 p.rg, .slice A p.bf.length c, .slice X p.op.length d] 26)).alloc (.cells #[.int .i64 q.rg, .slice A2 q.bf.length c2, .slice X2 q.op.length d2] 26)) := ⟨_, rfl⟩
  have HW0 := Lib.hid hW0
  rw [← hW0] at HB0 HK0 HZ0
  clear hW0
  obtain ⟨a0, a1, a2⟩ := c3 HK0.out
  obtain ⟨b0, b1, b2⟩ := c3 HZ0.out
  generalize p.bf.length = n1 at *
  generalize p.op.length = n2 at *
  generalize q.bf.length = n3 at *
  generalize q.op.length = n4 at *
  go_enter Tryd.func18, Tryd.ntmps18
  go_upto_region 1 with fail
  rw [← HW0.out]
  clear HW0
  by_cases h1 : p.rg = q.rg
  case neg =>
    have HN := Lib.hid (show ¬ (p = q) from fun e => h1 (by rw [e]))
    have hb : (p.rg == q.rg) = false := by rw [beq_eq_false_iff_ne]; exact h1
    clear h1
    generalize p.rg = r1 at *
    generalize q.rg = r2 at *
    go_wp2_with fail
    go_ret
    exact ⟨⟨false, rfl, by simpa using HN.out⟩, HB0.out⟩
  have hb : (p.rg == q.rg) = true := by rw [beq_iff_eq]; exact h1
  have H1 := Lib.hid h1
  clear h1
  generalize p.rg = r1 at *
  generalize q.rg = r2 at *
  go_wp2_with fail
  go_at_call 41
  refine (KB.out _ HB0.out).mono ?_
  rintro e w1 ⟨⟨r, rfl, hr⟩, q1, rfl⟩
  cases r
  · have HN := Lib.hid (show ¬ (p = q) from fun e => absurd (hr.2 (by rw [e])) (by decide))
    clear hr
    go_wp2_with fail
    go_ret
    exact ⟨⟨false, rfl, by simpa using HN.out⟩, below_drewN HB0.out _⟩
  have H2 := Lib.hid (hr.1 rfl)
  clear hr
  have HB1 := Lib.hid (below_drewN HB0.out q1)
  have a2' : (W0.drewN q1).cell? ⟨w.heap.size, 2, none⟩ = some (.slice X n2 d) := a2
  have b2' : (W0.drewN q1).cell? ⟨w.heap.size + 1, 2, none⟩ = some (.slice X2 n4 d2) := b2
  go_wp2_with fail
  go_at_call 42
  refine (KO.out _ HB1.out).mono ?_
  rintro e w2 ⟨⟨r, rfl, hr⟩, q2, rfl⟩
  have HR := Lib.hid (show r = true ↔ p = q from ⟨fun e => HE.out.2 ⟨H1.out, H2.out, hr.1 e⟩, fun e => hr.2 (by rw [e])⟩)
  clear hr
  go_wp2_with fail
  go_ret
  exact ⟨⟨r, rfl, HR.out⟩, below_drewN HB0.out _⟩
/-- what Clone answers -/
def clone_bA (xs : List Bf) (w : World) (e : Ending) (w' : World) : Prop := Below w.heap.size w w' ∧ ∃ A c, e = .returned (.slice A xs.length c) ∧ Rws 29 w.heap.size (.slice A xs.length c) xs w'
set_option maxRecDepth 100000 in
theorem clone_b (A : Option Addr) (n c : Nat) (xs : List Bf) (w : World) (h : Rdr w w.heap.size A n xs) (hn : n ≤ 100000) :
    Calls Tryd.prog 43 #[.slice A n c] w (clone_bA xs w) := by
  unfold clone_bA
  rcases A with _ | ad
  · obtain rfl : n = 0 := by
      rcases Nat.eq_zero_or_pos n with h0 | h0
      · exact h0
      · obtain ⟨b, o, e, _⟩ := h.rd h0
        cases e
    have hx : xs = [] := List.eq_nil_of_length_eq_zero h.len
    subst hx
    clear h
    have hnil : ∀ W, (binOp .eql 23 (.slice none 0 c) (.slice none 0 0)).run Tryd.prog W = .ok (.bool true) W := fun W => Go.Lib.run_eql_slice_nil (P := Tryd.prog) W 23 29 none 0 c 0 0 Tryd.underlying23
    go_enter Tryd.func43, Tryd.ntmps43
    go_wp2_with fail
    go_ret
    exact ⟨Below.refl _ _, none, 0, rfl, World.ownsRow_nil _ _ _ _⟩
  obtain ⟨i, hi, hz, h2, h3⟩ := info_parts info_bf
  obtain ⟨g, c', w3, hap, hb3, hS⟩ := own_run (c := c) 23 29 i _ 24 Tryd.underlying23 hi hz h2 h3 rfl (by omega) h hn
  have hP : Hid (Below w.heap.size w w3 ∧ ∃ A c, (Ending.returned (.slice (some ⟨g, 0, none⟩) n c')) = .returned (.slice A xs.length c) ∧ Rws 29 w.heap.size (.slice A xs.length c) xs w3) := Lib.hid ⟨hb3, some ⟨g, 0, none⟩, c', by rw [h.len], by rw [h.len]; exact hS⟩
  clear hi hz h2 h3 hb3 hS h
  have hnil : ∀ W, (binOp .eql 23 (.slice (some ad) n c) (.slice none 0 0)).run Tryd.prog W = .ok (.bool false) W := fun W => Go.Lib.run_eql_slice_nil (P := Tryd.prog) W 23 29 (some ad) n c 0 0 Tryd.underlying23
  go_enter Tryd.func43, Tryd.ntmps43
  go_wp2_with (at_builtin; refine wpList_append_eq rfl _ _ 23 rfl _ _ rfl rfl _ _ hap ?_)
  go_ret
  exact hP.out
/-- what Clone answers -/
def clone_oA (xs : List Op) (w : World) (e : Ending) (w' : World) : Prop := Below w.heap.size w w' ∧ ∃ A c, e = .returned (.slice A xs.length c) ∧ Rws 33 w.heap.size (.slice A xs.length c) xs w'
set_option maxRecDepth 100000 in
theorem clone_o (A : Option Addr) (n c : Nat) (xs : List Op) (w : World) (h : Rdr w w.heap.size A n xs) (hn : n ≤ 100000) :
    Calls Tryd.prog 44 #[.slice A n c] w (clone_oA xs w) := by
  unfold clone_oA
  rcases A with _ | ad
  · obtain rfl : n = 0 := by
      rcases Nat.eq_zero_or_pos n with h0 | h0
      · exact h0
      · obtain ⟨b, o, e, _⟩ := h.rd h0
        cases e
    have hx : xs = [] := List.eq_nil_of_length_eq_zero h.len
    subst hx
    clear h
    have hnil : ∀ W, (binOp .eql 24 (.slice none 0 c) (.slice none 0 0)).run Tryd.prog W = .ok (.bool true) W := fun W => Go.Lib.run_eql_slice_nil (P := Tryd.prog) W 24 33 none 0 c 0 0 Tryd.underlying24
    go_enter Tryd.func44, Tryd.ntmps44
    go_wp2_with fail
    go_ret
    exact ⟨Below.refl _ _, none, 0, rfl, World.ownsRow_nil _ _ _ _⟩
  obtain ⟨i, hi, hz, h2, h3⟩ := info_parts info_lop
  obtain ⟨g, c', w3, hap, hb3, hS⟩ := own_run (c := c) 24 33 i _ 64 Tryd.underlying24 hi hz h2 h3 rfl (by omega) h hn
  have hP : Hid (Below w.heap.size w w3 ∧ ∃ A c, (Ending.returned (.slice (some ⟨g, 0, none⟩) n c')) = .returned (.slice A xs.length c) ∧ Rws 33 w.heap.size (.slice A xs.length c) xs w3) := Lib.hid ⟨hb3, some ⟨g, 0, none⟩, c', by rw [h.len], by rw [h.len]; exact hS⟩
  clear hi hz h2 h3 hb3 hS h
  have hnil : ∀ W, (binOp .eql 24 (.slice (some ad) n c) (.slice none 0 0)).run Tryd.prog W = .ok (.bool false) W := fun W => Go.Lib.run_eql_slice_nil (P := Tryd.prog) W 24 33 (some ad) n c 0 0 Tryd.underlying24
  go_enter Tryd.func44, Tryd.ntmps44
  go_wp2_with (at_builtin; refine wpList_append_eq rfl _ _ 24 rfl _ _ rfl rfl _ _ hap ?_)
  go_ret
  exact hP.out
end Lb
end Go.Proofs.YtbdhibgljaelbaaDoor
namespace Go.Proofs.YtbdhibgljaelbaaDoor
open Go Go.RowKit Go.Sort Go.Shelf
namespace Lb
open Wd Nt Gr
set_option linter.unusedVariables false
set_option linter.unusedSimpArgs false
/-- what a comparison of programs answers -/
def IffB (p q : Pg) (w : World) (e : Ending) (w' : World) : Prop := (∃ r : Bool, e = .returned (.bool r) ∧ (r = true ↔ p = q)) ∧ Below w.heap.size w w'
set_option maxRecDepth 100000 in
set_option maxHeartbeats 8000000 in
theorem psame_r (p q : Pg) (A X A2 X2 : Option Addr) (c d c2 d2 : Nat) (w : World) (hR : Rdr w w.heap.size A p.bf.length p.bf) (hX : Rdr w w.heap.size X p.op.length p.op) (hR2 : Rdr w w.heap.size A2 q.bf.length q.bf) (hX2 : Rdr w w.heap.size X2 q.op.length q.op) (hn : p.bf.length ≤ 1000000 ∧ p.op.length ≤ 1000000 ∧ q.bf.length ≤ 1000000 ∧ q.op.length ≤ 1000000) :
    Calls Tryd.prog 26 #[pgV p A c X d, pgV q A2 c2 X2 d2] w fun e w' => (∃ r : Bool, e = .returned (.bool r) ∧ (r = true ↔ p = q)) ∧ Below w.heap.size w w' := by
  show Calls Tryd.prog 26 #[pgV p A c X d, pgV q A2 c2 X2 d2] w (IffB p q w)
  have HE := Lib.hid (@pg_ext p q)
  unfold pgV
  have HB0 := Lib.hid (bel_al' (bel_al (w := w) (.cells #[.int .i64 p.rg, .slice A p.bf.length c, .slice X p.op.length d] 26)) (.cells #[.int .i64 q.rg, .slice A2 q.bf.length c2, .slice X2 q.op.length d2] 26))
  have HK0 : Hid (Bk ((w.alloc (.cells #[.int .i64 p.rg, .slice A p.bf.length c, .slice X p.op.length d] 26)).alloc (.cells #[.int .i64 q.rg, .slice A2 q.bf.length c2, .slice X2 q.op.length d2] 26)) w.heap.size 26 #[.int .i64 p.rg, .slice A p.bf.length c, .slice X p.op.length d]) := Lib.hid ((Bk.new w _ _).alloc _)
  have HZ0 : Hid (Bk ((w.alloc (.cells #[.int .i64 p.rg, .slice A p.bf.length c, .slice X p.op.length d] 26)).alloc (.cells #[.int .i64 q.rg, .slice A2 q.bf.length c2, .slice X2 q.op.length d2] 26)) (w.heap.size + 1) 26 #[.int .i64 q.rg, .slice A2 q.bf.length c2, .slice X2 q.op.length d2]) := Lib.hid (Bk.new' (by simp))
  obtain ⟨W0, hW0⟩ : ∃ W0, W0 = ((w.alloc (.cells #[.int .i64 p.rg, .slice A p.bf.length c, .slice X p.op.length d] 26)).alloc (.cells #[.int .i64 q.rg, .slice A2 q.bf.length c2, .slice X2 q.op.length d2] 26)) := ⟨_, rfl⟩
  have HW0 := Lib.hid hW0
  rw [← hW0] at HB0 HK0 HZ0
  clear hW0
  have HA := Lib.hid (hR.below HB0.out)
  have HX := Lib.hid (hX.below HB0.out)
  have HA2 := Lib.hid (hR2.below HB0.out)
  have HX2 := Lib.hid (hX2.below HB0.out)
  clear hR hX hR2 hX2
  obtain ⟨a0, a1, a2⟩ := c3 HK0.out
  obtain ⟨b0, b1, b2⟩ := c3 HZ0.out
  obtain ⟨n1, e1⟩ : ∃ n, p.bf.length = n := ⟨_, rfl⟩
  obtain ⟨n2, e2⟩ : ∃ n, p.op.length = n := ⟨_, rfl⟩
  obtain ⟨n3, e3⟩ : ∃ n, q.bf.length = n := ⟨_, rfl⟩
  obtain ⟨n4, e4⟩ : ∃ n, q.op.length = n := ⟨_, rfl⟩
  have HL1 := Lib.hid e1
  have HL2 := Lib.hid e2
  have HL3 := Lib.hid e3
  have HL4 := Lib.hid e4
  rw [e1, e2, e3, e4] at hn HW0 
  rw [e1, e2] at HK0
  rw [e3, e4] at HZ0
  rw [e1] at HA a1
  rw [e2] at HX a2
  rw [e3] at HA2 b1
  rw [e4] at HX2 b2
  rw [e1, e2, e3, e4]
  clear e1 e2 e3 e4
  obtain ⟨m1, m2, m3, m4⟩ := hn
  go_enter Tryd.func26, Tryd.ntmps26
  go_upto_region 1 with fail
  rw [← HW0.out]
  clear HW0
  by_cases h1 : p.rg = q.rg
  case neg =>
    have HN := Lib.hid (show ¬ (p = q) from fun e => h1 (by rw [e]))
    have hb : (p.rg != q.rg) = true := by rw [bne_iff_ne]; exact h1
    clear h1
    generalize p.rg = r1 at *
    generalize q.rg = r2 at *
    go_wp2_with fail
    go_ret
    unfold IffB
    exact ⟨⟨false, rfl, by simpa using HN.out⟩, HB0.out⟩
  have hb : (p.rg != q.rg) = false := by rw [h1]; simp
  have H1 := Lib.hid h1
  clear h1
  by_cases h2 : n1 = n3
  case neg =>
    have HN := Lib.hid (show ¬ (p = q) from fun e => h2 (by rw [← HL1.out, ← HL3.out, e]))
    have hb2 : ((n1 : Int) != (n3 : Int)) = true := by rw [bne_iff_ne]; omega
    clear h2
    generalize p.rg = r1 at *
    generalize q.rg = r2 at *
    go_wp2_with fail
    go_ret
    unfold IffB
    exact ⟨⟨false, rfl, by simpa using HN.out⟩, HB0.out⟩
  subst h2
  have hb2 : ((n1 : Int) != (n1 : Int)) = false := by simp
  by_cases h3 : n2 = n4
  case neg =>
    have HN := Lib.hid (show ¬ (p = q) from fun e => h3 (by rw [← HL2.out, ← HL4.out, e]))
    have hb3 : ((n2 : Int) != (n4 : Int)) = true := by rw [bne_iff_ne]; omega
    clear h3
    generalize p.rg = r1 at *
    generalize q.rg = r2 at *
    go_wp2_with fail
    go_ret
    unfold IffB
    exact ⟨⟨false, rfl, by simpa using HN.out⟩, HB0.out⟩
  subst h3
  have hb3 : ((n2 : Int) != (n2 : Int)) = false := by simp
  generalize p.rg = r1 at *
  generalize q.rg = r2 at *
  go_wp2_with fail
  go_loopw [5] (fun i W => ∃ k q0 : Nat, k ≤ n1 ∧ i = .int .i64 (k : Int) ∧ Hid (p.bf.take k = q.bf.take k) ∧ W = W0.drewN q0) (fun i _ => n1 - (intOf i).toNat)
  case atStart => exact ⟨0, 0, Nat.zero_le _, rfl, Lib.hid rfl, rfl⟩
  case round =>
    obtain ⟨k, q0, hk, rfl, hz, rfl⟩ := hrel
    rcases Nat.lt_or_ge k n1 with hlt | hge
    · obtain ⟨x, hx⟩ : ∃ x, p.bf[k]? = some x := ⟨_, List.getElem?_eq_getElem (by rw [HL1.out]; exact hlt)⟩
      obtain ⟨y, hy⟩ : ∃ y, q.bf[k]? = some y := ⟨_, List.getElem?_eq_getElem (by rw [HL3.out]; exact hlt)⟩
      obtain ⟨ab, ao, rfl, _, p0, p1, p2⟩ := bf_at HA.out hx
      obtain ⟨bb, bo, rfl, _, q1, q2, q3⟩ := bf_at HA2.out hy
      have hki : (k : Int) < (n1 : Int) := by omega
      have hk0 : (0 : Int) ≤ (k : Int) := by omega
      have ew : IntKind.i64.wrap ((k : Int) + 1) = ((k + 1 : Nat) : Int) := by rw [show (k : Int) + 1 = ((k + 1 : Nat) : Int) by omega]; exact IntWalk.i64_in _ (by omega)
      by_cases hxy : x = y
      · have HZ : Hid (p.bf.take (k + 1) = q.bf.take (k + 1)) := Lib.hid (take_more hz.out hx (by rw [hxy]; exact hy))
        have hne2 : ∀ W, (Go.Op.equalIn 10000 29 (.agg #[.int .i64 x.sz, .int .i64 x.kd, .bool x.sec]) (.agg #[.int .i64 y.sz, .int .i64 y.kd, .bool y.sec])).run Tryd.prog W = .ok true W := fun W => by obtain ⟨r, h1, h2⟩ := bufEq x y W; rw [h2.2 hxy] at h1; exact h1
        obtain ⟨x1, x2, x3⟩ := x
        obtain ⟨y1, y2, y3⟩ := y
        dsimp only at p0 p1 p2 q1 q2 q3 hne2
        clear hxy hx hy hz
        go_wp2_with fail
        go_quiet (fail)
        go_wp2_with fail
        go_roundw
        case rel => exact ⟨k + 1, _, by omega, by first | rfl | go_num, HZ, rfl⟩
        case measure => (simp [intOf] <;> omega)
      · have HN := Lib.hid (show ¬ (p = q) from fun e => ne_at hx hy hxy (by rw [e]))
        have hne2 : ∀ W, (Go.Op.equalIn 10000 29 (.agg #[.int .i64 x.sz, .int .i64 x.kd, .bool x.sec]) (.agg #[.int .i64 y.sz, .int .i64 y.kd, .bool y.sec])).run Tryd.prog W = .ok false W := fun W => by obtain ⟨r, h1, h2⟩ := bufEq x y W; rw [Bool.eq_false_iff.2 (fun e => hxy (h2.1 e))] at h1; exact h1
        obtain ⟨x1, x2, x3⟩ := x
        obtain ⟨y1, y2, y3⟩ := y
        dsimp only at p0 p1 p2 q1 q2 q3 hne2
        clear hxy hx hy hz
        go_wp2_with fail
        go_quiet (fail)
        go_wp2_with fail
        go_ret
        unfold IffB
        exact ⟨⟨false, rfl, by simpa using HN.out⟩, below_drewN (below_drewN HB0.out _) _⟩
    · obtain rfl : k = n1 := by omega
      have HBF := Lib.hid (take_all hz.out HL1.out HL3.out)
      have hki : ¬ (k : Int) < (k : Int) := by omega
      clear hz
      have HB1 := Lib.hid (below_drewN HB0.out q0)
      go_wp2_with fail
      go_loopw [6] (fun i W => ∃ k q1 : Nat, k ≤ n2 ∧ i = .int .i64 (k : Int) ∧ Hid (p.op.take k = q.op.take k) ∧ W = W0.drewN q1) (fun i _ => n2 - (intOf i).toNat)
      case atStart => exact ⟨0, q0, Nat.zero_le _, rfl, Lib.hid rfl, rfl⟩
      case round =>
        obtain ⟨k, q1, hk, rfl, hz, rfl⟩ := hrel
        rcases Nat.lt_or_ge k n2 with hlt | hge
        · obtain ⟨x, hx⟩ : ∃ x, p.op[k]? = some x := ⟨_, List.getElem?_eq_getElem (by rw [HL2.out]; exact hlt)⟩
          obtain ⟨y, hy⟩ : ∃ y, q.op[k]? = some y := ⟨_, List.getElem?_eq_getElem (by rw [HL4.out]; exact hlt)⟩
          obtain ⟨ab, ao, rfl, _, p0, p1, p2, p3, p4, p5, p6, p7⟩ := op_at HX.out hx
          obtain ⟨bb, bo, rfl, _, s0, s1, s2, s3, s4, s5, s6, s7⟩ := op_at HX2.out hy
          have hki : (k : Int) < (n2 : Int) := by omega
          have hk0 : (0 : Int) ≤ (k : Int) := by omega
          have ew : IntKind.i64.wrap ((k : Int) + 1) = ((k + 1 : Nat) : Int) := by rw [show (k : Int) + 1 = ((k + 1 : Nat) : Int) by omega]; exact IntWalk.i64_in _ (by omega)
          by_cases hxy : x = y
          · have HZ : Hid (p.op.take (k + 1) = q.op.take (k + 1)) := Lib.hid (take_more hz.out hx (by rw [hxy]; exact hy))
            have hne2 : ∀ W, (Go.Op.equalIn 10000 33 (.agg #[.int .i64 x.k, .int .i64 x.d, .int .i64 x.e, .int .i64 x.a, .int .i64 x.b, .int .i64 x.c, .int .i64 x.bf, .int .u64 x.im]) (.agg #[.int .i64 y.k, .int .i64 y.d, .int .i64 y.e, .int .i64 y.a, .int .i64 y.b, .int .i64 y.c, .int .i64 y.bf, .int .u64 y.im])).run Tryd.prog W = .ok true W := fun W => by obtain ⟨r, h1, h2⟩ := opEq x y W; rw [h2.2 hxy] at h1; exact h1
            obtain ⟨x1, x2, x3, x4, x5, x6, x7, x8⟩ := x
            obtain ⟨y1, y2, y3, y4, y5, y6, y7, y8⟩ := y
            dsimp only at p0 p1 p2 p3 p4 p5 p6 p7 s0 s1 s2 s3 s4 s5 s6 s7 hne2
            clear hxy hx hy hz
            go_wp2_with fail
            go_quiet (fail)
            go_wp2_with fail
            go_roundw
            case rel => exact ⟨k + 1, _, by omega, by first | rfl | go_num, HZ, rfl⟩
            case measure => (simp [intOf] <;> omega)
          · have HN := Lib.hid (show ¬ (p = q) from fun e => ne_at hx hy hxy (by rw [e]))
            have hne2 : ∀ W, (Go.Op.equalIn 10000 33 (.agg #[.int .i64 x.k, .int .i64 x.d, .int .i64 x.e, .int .i64 x.a, .int .i64 x.b, .int .i64 x.c, .int .i64 x.bf, .int .u64 x.im]) (.agg #[.int .i64 y.k, .int .i64 y.d, .int .i64 y.e, .int .i64 y.a, .int .i64 y.b, .int .i64 y.c, .int .i64 y.bf, .int .u64 y.im])).run Tryd.prog W = .ok false W := fun W => by obtain ⟨r, h1, h2⟩ := opEq x y W; rw [Bool.eq_false_iff.2 (fun e => hxy (h2.1 e))] at h1; exact h1
            obtain ⟨x1, x2, x3, x4, x5, x6, x7, x8⟩ := x
            obtain ⟨y1, y2, y3, y4, y5, y6, y7, y8⟩ := y
            dsimp only at p0 p1 p2 p3 p4 p5 p6 p7 s0 s1 s2 s3 s4 s5 s6 s7 hne2
            clear hxy hx hy hz
            go_wp2_with fail
            go_quiet (fail)
            go_wp2_with fail
            go_ret
            unfold IffB
            exact ⟨⟨false, rfl, by simpa using HN.out⟩, below_drewN (below_drewN HB0.out _) _⟩
        · obtain rfl : k = n2 := by omega
          have HOP := Lib.hid (take_all hz.out HL2.out HL4.out)
          have hki : ¬ (k : Int) < (k : Int) := by omega
          clear hz
          have HP : Hid (p = q) := Lib.hid (HE.out.2 ⟨H1.out, HBF.out, HOP.out⟩)
          clear HBF HOP H1
          go_wp2_with fail
          go_ret
          unfold IffB
          exact ⟨⟨true, rfl, by simpa using HP.out⟩, below_drewN HB0.out _⟩
/-- what Copy answers -/
def CopyA (p : Pg) (w : World) (e : Ending) (w' : World) : Prop := Below w.heap.size w w' ∧ ∃ A c X d, e = .returned (pgV p A c X d) ∧ Rws 29 w.heap.size (.slice A p.bf.length c) p.bf w' ∧ Rws 33 w.heap.size (.slice X p.op.length d) p.op w'
/-- what the region comes to -/
structure CpE (w W : World) (p : Pg) : Prop where
  ex : ∃ A c X d, Bk W (w.heap.size + 1) 26 #[.int .i64 p.rg, .slice A p.bf.length c, .slice X p.op.length d] ∧ Rws 29 w.heap.size (.slice A p.bf.length c) p.bf W ∧ Rws 33 w.heap.size (.slice X p.op.length d) p.op W
  b : Below w.heap.size w W
set_option maxRecDepth 100000 in
set_option maxHeartbeats 4000000 in
theorem copy_l (p : Pg) (A X : Option Addr) (c d : Nat) (w : World) (hR : Rdr w w.heap.size A p.bf.length p.bf) (hX : Rdr w w.heap.size X p.op.length p.op) (hb : p.bf.length ≤ 100000) (ho : p.op.length ≤ 100000) :
    Calls Tryd.prog 19 #[pgV p A c X d] w (CopyA p w) := by
  unfold CopyA pgV
  have HOB := Lib.hid (fun (W : World) (h : Below w.heap.size w W) => clone_b A p.bf.length c p.bf W ((hR.below h).more h.size) hb)
  have HOO := Lib.hid (fun (W : World) (h : Below w.heap.size w W) => clone_o X p.op.length d p.op W ((hX.below h).more h.size) ho)
  unfold clone_bA at HOB
  unfold clone_oA at HOO
  have HB0 := Lib.hid (bel_al' (bel_al (w := w) (.cells #[.int .i64 p.rg, .slice A p.bf.length c, .slice X p.op.length d] 26)) (.cells #[.int .i64 0, .slice none 0 0, .slice none 0 0] 26))
  have HK0 : Hid (Bk ((w.alloc (.cells #[.int .i64 p.rg, .slice A p.bf.length c, .slice X p.op.length d] 26)).alloc (.cells #[.int .i64 0, .slice none 0 0, .slice none 0 0] 26)) w.heap.size 26 #[.int .i64 p.rg, .slice A p.bf.length c, .slice X p.op.length d]) := Lib.hid ((Bk.new w _ _).alloc _)
  have HZ0 : Hid (Bk ((w.alloc (.cells #[.int .i64 p.rg, .slice A p.bf.length c, .slice X p.op.length d] 26)).alloc (.cells #[.int .i64 0, .slice none 0 0, .slice none 0 0] 26)) (w.heap.size + 1) 26 #[.int .i64 0, .slice none 0 0, .slice none 0 0]) := Lib.hid (Bk.new' (by simp))
  clear hR hX hb ho
  obtain ⟨W0, hW0⟩ : ∃ W0, W0 = ((w.alloc (.cells #[.int .i64 p.rg, .slice A p.bf.length c, .slice X p.op.length d] 26)).alloc (.cells #[.int .i64 0, .slice none 0 0, .slice none 0 0] 26)) := ⟨_, rfl⟩
  have HW0 := Lib.hid hW0
  rw [← hW0] at HB0 HK0 HZ0
  clear hW0
  go_enter Tryd.func19, Tryd.ntmps19
  go_upto_region 1 with fail
  rw [← HW0.out]
  go_cut [] from 3 to 11 (fun W => Hid (CpE w W p))
  case first =>
    have a0 := HK0.out.cell 0
    have a1 := HK0.out.cell 1
    have a2 := HK0.out.cell 2
    go_region_law (first | ((try go_simp); go_at_call 43; refine (HOB.out _ (by first | exact HB0.out.drew | exact hbO2)).mono ?_; rintro e wB ⟨hbB, gB, cB, rfl, hrB⟩; have hbB2 : Below w.heap.size w wB := (by first | exact bel_tr HB0.out.drew hbB | exact bel_tr hbO2 hbB); have hKB : Bk wB w.heap.size 26 #[.int .i64 p.rg, .slice A p.bf.length c, .slice X p.op.length d] := (by first | exact (Bk.drew HK0.out).below hbB (Bk.lt (Bk.drew HK0.out)) | exact hKO.below hbB hKO.lt); have hZB : Bk wB (w.heap.size + 1) 26 #[.int .i64 0, .slice none 0 0, .slice none 0 0] := (by first | exact (Bk.drew HZ0.out).below hbB (Bk.lt (Bk.drew HZ0.out)) | exact hZO.below hbB hZO.lt); have c0B := hKB.cell 0; have c1B := hKB.cell 1; have c2B := hKB.cell 2; have f0B := hZB.frozen 0; have f1B := hZB.frozen 1; have f2B := hZB.frozen 2; have z0B := hZB.cell 0; have z1B := hZB.cell 1; have z2B := hZB.cell 2) | ((try go_simp); go_at_call 44; refine (HOO.out _ (by first | exact HB0.out.drew | exact hbB2)).mono ?_; rintro e wO ⟨hbO, gO, cO, rfl, hrO⟩; have hbO2 : Below w.heap.size w wO := (by first | exact bel_tr HB0.out.drew hbO | exact bel_tr hbB2 hbO); have hKO : Bk wO w.heap.size 26 #[.int .i64 p.rg, .slice A p.bf.length c, .slice X p.op.length d] := (by first | exact (Bk.drew HK0.out).below hbO (Bk.lt (Bk.drew HK0.out)) | exact hKB.below hbO hKB.lt); have hZO : Bk wO (w.heap.size + 1) 26 #[.int .i64 0, .slice none 0 0, .slice none 0 0] := (by first | exact (Bk.drew HZ0.out).below hbO (Bk.lt (Bk.drew HZ0.out)) | exact hZB.below hbO hZB.lt); have c0O := hKO.cell 0; have c1O := hKO.cell 1; have c2O := hKO.cell 2; have f0O := hZO.frozen 0; have f1O := hZO.frozen 1; have f2O := hZO.frozen 2; have z0O := hZO.cell 0; have z1O := hZO.cell 1; have z2O := hZO.cell 2) | fail)
    all_goals (
      go_wp2_with fail
      go_meet
      case rel =>
        have hrB2 := own_mono (own_below hrB hbO) (B' := w.heap.size) (by exact HB0.out.size)
        have hrO2 := own_mono hrO (B' := w.heap.size) (by exact hbB2.size)
        refine Lib.hid ⟨⟨gB, cB, gO, cO, ((hZO.set_ 0 _).set_ 1 _).set_ 2 _, ?_, ?_⟩, ((hbO2.setCell (p := ⟨w.heap.size + 1, 0, none⟩) (Nat.le_succ _) _).setCell (p := ⟨w.heap.size + 1, 1, none⟩) (Nat.le_succ _) _).setCell (p := ⟨w.heap.size + 1, 2, none⟩) (Nat.le_succ _) _⟩
        · exact own_far (own_far (own_far hrB2 hZO (show (29 : TypeId) ≠ 26 by decide)) (hZO.set_ 0 _) (show (29 : TypeId) ≠ 26 by decide)) ((hZO.set_ 0 _).set_ 1 _) (show (29 : TypeId) ≠ 26 by decide)
        · exact own_far (own_far (own_far hrO2 hZO (show (33 : TypeId) ≠ 26 by decide)) (hZO.set_ 0 _) (show (33 : TypeId) ≠ 26 by decide)) ((hZO.set_ 0 _).set_ 1 _) (show (33 : TypeId) ≠ 26 by decide))
  case rest =>
    have HE := hcut
    obtain ⟨⟨gA, cA, gX, cX, hz, hA, hX⟩, hb⟩ := HE.out
    have HA := Lib.hid hA
    have HX := Lib.hid hX
    have HB := Lib.hid hb
    have HZ := Lib.hid hz
    clear hA hX hb hz HE hcut HOB HOO HB0 HK0 HZ0 HW0
    go_wp2_with fail
    refine bodyPost_ret (results_cell_row rfl _ _ (w.heap.size + 1) 26 #[.int .i64 p.rg, .slice gA p.bf.length cA, .slice gX p.op.length cX] (0, 0) _ rfl HZ.out Tryd.underlying26 rfl (by kernel_rfl)) rfl ⟨HB.out, gA, cA, gX, cX, rfl, HA.out, HX.out⟩
end Lb
end Go.Proofs.YtbdhibgljaelbaaDoor
namespace Go.Proofs.YtbdhibgljaelbaaDoor
open Go Go.RowKit Go.Sort Go.Shelf
namespace limbCalls
open Wd Nt Gr Lb
set_option linter.unusedVariables false
set_option linter.unusedSimpArgs false
theorem runP_det {p : Pg} {h : List (List Int)} {r x : Ans} (h1 : RunP p h r) (h2 : RunP p h x) : r = x := by
  unfold RunP at h1 h2
  split at h1
  · rename_i hc
    rw [if_pos hc] at h2
    rw [h1, h2]
  · rename_i hc
    rw [if_neg hc] at h2
    split at h1
    · rename_i h24
      rw [if_pos h24] at h2
      rw [h1, h2]
    · rename_i h24
      rw [if_neg h24] at h2
      split at h1
      · rename_i hf
        rw [if_pos hf] at h2
        rw [h1, h2]
      · rename_i hf
        rw [if_neg hf] at h2
        obtain ⟨f, s, ⟨N, hN⟩, rfl⟩ := h1
        obtain ⟨g, t, ⟨M, hM⟩, rfl⟩ := h2
        have he := runF_det hM hN
        injection he with e1 e2
        subst e1 e2
        rfl
theorem runP_ev {p : Pg} {h : List (List Int)} {r : Ans} (hr : RunP p h r) (h24 : 16777216 < stepsP p) : r.ev = [] := by
  unfold RunP at hr
  split at hr
  · rw [hr]
  · rename_i hc
    have hs : stepsP p = evP p.op := by unfold stepsP; rw [if_pos (by simpa using hc)]
    rw [if_pos (by omega)] at hr
    rw [hr]
theorem ends_le (p : Pg) : (endsP p).length ≤ p.op.length := by
  unfold endsP
  split
  · rename_i hc
    rw [(ok_of hc).enlen]
    exact Nat.le_refl _
  · exact Nat.zero_le _
/-- the two programs' boxes -/
structure TwoB (w W : World) (p q : Pg) (A X A2 X2 : Option Addr) (c d c2 d2 : Nat) : Prop where
  b : Below w.heap.size w W
  k : Bk W w.heap.size 26 #[.int .i64 p.rg, .slice A p.bf.length c, .slice X p.op.length d]
  z : Bk W (w.heap.size + 1) 26 #[.int .i64 q.rg, .slice A2 q.bf.length c2, .slice X2 q.op.length d2]
section
variable {w W W' : World} {p q : Pg} {A X A2 X2 : Option Addr} {c d c2 d2 : Nat}
theorem TwoB.below (h : TwoB w W p q A X A2 X2 c d c2 d2) (hb : Below W.heap.size W W') : TwoB w W' p q A X A2 X2 c d c2 d2 := ⟨bel_tr h.b hb, h.k.below hb h.k.lt, h.z.below hb h.z.lt⟩
theorem TwoB.t (h : TwoB w W p q A X A2 X2 c d c2 d2) : W.cell? ⟨w.heap.size, 0, none⟩ = some (.int .i64 p.rg) ∧ W.cell? ⟨w.heap.size, 1, none⟩ = some (.slice A p.bf.length c) ∧ W.cell? ⟨w.heap.size, 2, none⟩ = some (.slice X p.op.length d) ∧ W.cell? ⟨w.heap.size + 1, 0, none⟩ = some (.int .i64 q.rg) ∧ W.cell? ⟨w.heap.size + 1, 1, none⟩ = some (.slice A2 q.bf.length c2) ∧ W.cell? ⟨w.heap.size + 1, 2, none⟩ = some (.slice X2 q.op.length d2) ∧ TwoB w W p q A X A2 X2 c d c2 d2 :=
  ⟨h.k.cell 0, h.k.cell 1, h.k.cell 2, h.z.cell 0, h.z.cell 1, h.z.cell 2, h⟩
end
set_option maxRecDepth 100000 in
set_option maxHeartbeats 16000000 in
theorem walk_ (w : World) (hT : TabF w) (p : Pg) (A X : Option Addr) (c d : Nat) (q : Pg) (A2 X2 : Option Addr) (c2 d2 : Nat) (Y : Option Addr) (mr qr : Nat) (hs : List Hr) (hp : p.wf) (hR : Rdr w w.heap.size A p.bf.length p.bf) (hX : Rdr w w.heap.size X p.op.length p.op)
    (hpc : p.bf.length ≤ c ∧ c ≤ 9223372036854775807) (hpd : p.op.length ≤ d ∧ d ≤ 9223372036854775807) (hp2 : q.wf) (hR2 : Rdr w w.heap.size A2 q.bf.length q.bf) (hX2 : Rdr w w.heap.size X2 q.op.length q.op)
    (hpc2 : q.bf.length ≤ c2 ∧ c2 ≤ 9223372036854775807) (hpd2 : q.op.length ≤ d2 ∧ d2 ≤ 9223372036854775807) (hH : HrW w w.heap.size Y mr hs) (hmq : mr ≤ qr) (hq : qr ≤ 9223372036854775807) :
    Calls Tryd.prog 4 #[pgV p A c X d, pgV q A2 c2 X2 d2, .slice Y mr qr] w fun e w' => e = .returned (.bool true) ∧ Below w.heap.size w w' := by
  have HL := Lib.hid (fun (W : World) (hb : Below w.heap.size w W) => lives_l W (hT.keep hb))
  have HTK := Lib.hid (fun (W : World) (hb : Below w.heap.size w W) => hT.keep hb)
  have HRR := Lib.hid (fun (W : World) (hb : Below w.heap.size w W) => (hR.below hb).more hb.size)
  have HXX := Lib.hid (fun (W : World) (hb : Below w.heap.size w W) => (hX.below hb).more hb.size)
  have HHH := Lib.hid (fun (W : World) (hb : Below w.heap.size w W) => (hH.below hb).more hb.size)
  have HLP := Lib.hid (fun (W : World) (hb : Below w.heap.size w W) => lightProg2_l p hp A X c d 60 W ((hR.below hb).more hb.size))
  have HLQ := Lib.hid (fun (W : World) (hb : Below w.heap.size w W) => lightProg2_l q hp2 A2 X2 c2 d2 60 W ((hR2.below hb).more hb.size))
  have HLR := Lib.hid (fun (W : World) (hb : Below w.heap.size w W) => lightRows_l Y mr qr hs W ((hH.below hb).more hb.size))
  have HCA := Lib.hid (fun (W : World) (hb : Below w.heap.size w W) => check_l p hp A X c d W (hT.keep hb) ((hR.below hb).more hb.size) ((hX.below hb).more hb.size))
  have HCR := Lib.hid (fun (W : World) (hb : Below w.heap.size w W) => check_r p hp A X c d W ((hR.below hb).more hb.size) ((hX.below hb).more hb.size))
  have HSR := Lib.hid (fun (W : World) (hb : Below w.heap.size w W) => steps_r p hp A X c d W ((hR.below hb).more hb.size) ((hX.below hb).more hb.size))
  have HSL := Lib.hid (fun (W : World) (hb : Below w.heap.size w W) => steps_l p hp A X c d W (hT.keep hb) ((hR.below hb).more hb.size) ((hX.below hb).more hb.size))
  have HEL := Lib.hid (fun (W : World) (hb : Below w.heap.size w W) => endsX_l p hp A X c d W (hT.keep hb) ((hR.below hb).more hb.size) ((hX.below hb).more hb.size))
  have HER := Lib.hid (fun (W : World) (hb : Below w.heap.size w W) => ends_r p hp A X c d W ((hR.below hb).more hb.size) ((hX.below hb).more hb.size))
  have HPS := Lib.hid (fun (hn : p.bf.length ≤ 1000000 ∧ p.op.length ≤ 1000000 ∧ q.bf.length ≤ 1000000 ∧ q.op.length ≤ 1000000) (W : World) (hb : Below w.heap.size w W) => psame_l p q A X A2 X2 c d c2 d2 W ((hR.below hb).more hb.size) ((hX.below hb).more hb.size) ((hR2.below hb).more hb.size) ((hX2.below hb).more hb.size) hn)
  have HPR := Lib.hid (fun (hn : p.bf.length ≤ 1000000 ∧ p.op.length ≤ 1000000 ∧ q.bf.length ≤ 1000000 ∧ q.op.length ≤ 1000000) (W : World) (hb : Below w.heap.size w W) => psame_r p q A X A2 X2 c d c2 d2 W ((hR.below hb).more hb.size) ((hX.below hb).more hb.size) ((hR2.below hb).more hb.size) ((hX2.below hb).more hb.size) hn)
  have HPC := Lib.hid (fun (hn : p.bf.length ≤ 1000000 ∧ p.op.length ≤ 1000000) (A' X' : Option Addr) (c' d' : Nat) (W : World) (hb : Below w.heap.size w W) (ha : Rdr W W.heap.size A' p.bf.length p.bf) (hx : Rdr W W.heap.size X' p.op.length p.op) => psame_r p p A' X' A X c' d' c d W ha hx ((hR.below hb).more hb.size) ((hX.below hb).more hb.size) ⟨hn.1, hn.2, hn.1, hn.2⟩)
  have HCP := Lib.hid (fun (h1 : p.bf.length ≤ 100000) (h2 : p.op.length ≤ 100000) (W : World) (hb : Below w.heap.size w W) => copy_l p A X c d W ((hR.below hb).more hb.size) ((hX.below hb).more hb.size) h1 h2)
  have HOP := Lib.hid (fun (h1 : p.bf.length ≤ 100000) (h2 : p.op.length ≤ 100000) (W : World) (hb : Below w.heap.size w W) => ownProg_l p A X c d W ((hR.below hb).more hb.size) ((hX.below hb).more hb.size) h1 h2)
  have HOR := Lib.hid (fun (h1 : mr ≤ 100000) (h2 : ∀ x ∈ hs, x.n ≤ 100000) (W : World) (hb : Below w.heap.size w W) => ownRows_l Y mr qr hs W ((hH.below hb).more hb.size) h1 h2)
  have HRL := Lib.hid (fun (A' X' Z : Option Addr) (c' d' mz qz : Nat) (gs : List Hr) (h : mz ≤ 1000000) (W : World) (hb : Below w.heap.size w W) (ha : Rdr W W.heap.size A' p.bf.length p.bf) (hx : Rdr W W.heap.size X' p.op.length p.op) (hG : HrW W W.heap.size Z mz gs) => run_l p hp A' X' Z c' d' mz qz gs W (hT.keep hb) ha hx hG h)
  have HRZ := Lib.hid (fun (h : mr ≤ 1000000) (W : World) (hb : Below w.heap.size w W) => run_r p hp A X Y c d mr qr hs W ((hR.below hb).more hb.size) ((hX.below hb).more hb.size) ((hH.below hb).more hb.size) h)
  have HTA := Lib.hid (fun (h : List (List Int)) (r : Ans) (hr : RunP p h r) => tells hp hr)
  have HML : Hid (hs.length = mr) := Lib.hid hH.rd.len
  clear hT hR hX hH hp hR2 hX2 hp2
  unfold OwnP at HOP
  unfold CopyA at HCP
  have HF0 : Hid (TwoB w ((w.alloc (.cells #[.int .i64 p.rg, .slice A p.bf.length c, .slice X p.op.length d] 26)).alloc (.cells #[.int .i64 q.rg, .slice A2 q.bf.length c2, .slice X2 q.op.length d2] 26)) p q A X A2 X2 c d c2 d2) := Lib.hid ⟨bel_al' (bel_al _) _, (Bk.new w _ _).alloc _, Bk.new' (by simp)⟩
  obtain ⟨ck, hck⟩ : ∃ ck, chkP p = ck := ⟨_, rfl⟩
  rw [hck] at HCA HCR
  clear hck
  obtain ⟨k1, k2⟩ := ck
  dsimp only at HCA HCR
  obtain ⟨st, hst⟩ : ∃ s, stepsP p = s := ⟨_, rfl⟩
  have HSTP := Lib.hid hst
  rw [hst] at HSR HSL
  clear hst
  unfold pgV at *
  go_enter Tryd.func4, Tryd.ntmps4
  go_wp2_with fail
  go_at_call 6
  refine (HL.out _ HF0.out.b).mono ?_
  rintro e w1 ⟨rfl, hb⟩
  have HF1 := Lib.hid (HF0.out.below hb)
  clear hb HL HF0
  obtain ⟨a0, a1, a2, b0, b1, b2, _⟩ := HF1.out.t
  go_wp2_with fail
  go_at_call 20
  refine (HLP.out _ HF1.out.b).mono ?_
  rintro e w2 ⟨⟨t1, rfl, ht1⟩, hb⟩
  have HF2 := Lib.hid (HF1.out.below hb)
  clear hb HLP HF1 a0 a1 a2 b0 b1 b2
  cases t1
  · have HBF := Lib.hid HF2.out.b
    clear HF2
    go_wp2_with fail
    go_ret
    exact ⟨rfl, HBF.out⟩
  obtain ⟨l1, l2, l3⟩ := ht1 rfl
  have l3' : p.op.length ≤ 60 := by omega
  clear l1 l3 ht1
  obtain ⟨a0, a1, a2, b0, b1, b2, _⟩ := HF2.out.t
  go_wp2_with fail
  go_at_call 20
  refine (HLQ.out _ HF2.out.b).mono ?_
  rintro e w3 ⟨⟨t1, rfl, ht1⟩, hb⟩
  have HF3 := Lib.hid (HF2.out.below hb)
  clear hb HLQ HF2 a0 a1 a2 b0 b1 b2
  cases t1
  · have HBF := Lib.hid HF3.out.b
    clear HF3
    go_wp2_with fail
    go_ret
    exact ⟨rfl, HBF.out⟩
  obtain ⟨l1, l4, l3⟩ := ht1 rfl
  have l5 : q.op.length ≤ 60 := by omega
  clear l1 l3 ht1
  go_wp2_with fail
  go_at_call 21
  refine (HLR.out _ HF3.out.b).mono ?_
  rintro e w3b ⟨⟨t2, rfl, ht2⟩, rfl⟩
  cases t2
  · have HBF := Lib.hid HF3.out.b
    clear HF3
    go_wp2_with fail
    go_ret
    exact ⟨rfl, HBF.out⟩
  obtain ⟨hm40, hm6⟩ := ht2 rfl
  have HM6 := Lib.hid hm6
  clear ht2 hm6 HLR
  obtain ⟨a0, a1, a2, b0, b1, b2, _⟩ := HF3.out.t
  go_wp2_with fail
  go_at_call 22
  refine (HCA.out _ HF3.out.b).mono ?_
  rintro e w4 ⟨rfl, hb⟩
  have HF4 := Lib.hid (HF3.out.below hb)
  clear hb HCA HF3 a0 a1 a2 b0 b1 b2
  obtain ⟨a0, a1, a2, b0, b1, b2, _⟩ := HF4.out.t
  go_wp2_with fail
  go_at_call 23
  refine (HCR.out _ HF4.out.b).mono ?_
  rintro e w5 ⟨rfl, hb⟩
  have HF5 := Lib.hid (HF4.out.below hb)
  clear hb HCR HF4 a0 a1 a2 b0 b1 b2
  obtain ⟨a0, a1, a2, b0, b1, b2, _⟩ := HF5.out.t
  go_wp2_with fail
  go_at_call 24
  refine (HSR.out _ HF5.out.b).mono ?_
  rintro e w6 ⟨rfl, hb⟩
  have HF6 := Lib.hid (HF5.out.below hb)
  clear hb HSR HF5 a0 a1 a2 b0 b1 b2
  have HN : Hid (p.bf.length ≤ 1000000 ∧ p.op.length ≤ 1000000 ∧ q.bf.length ≤ 1000000 ∧ q.op.length ≤ 1000000) := Lib.hid (by omega)
  have HN2 : Hid (p.bf.length ≤ 100000 ∧ p.op.length ≤ 100000) := Lib.hid (by omega)
  have HC1 := Lib.hid (fun (W : World) (h : TwoB w W p q A X A2 X2 c d c2 d2) => HSL.out W h.b)
  have HC2 := Lib.hid (fun (W : World) (h : TwoB w W p q A X A2 X2 c d c2 d2) => HEL.out W h.b)
  have HC3 := Lib.hid (fun (W : World) (h : TwoB w W p q A X A2 X2 c d c2 d2) => HER.out W h.b)
  have HC4 := Lib.hid (fun (va vb : Value) (W : World) (B1 B2 : Nat) (h1 : Rws 3 B1 va (endsP p) W) (h2 : Rws 3 B2 vb (endsP p) W) => (show Calls Tryd.prog 16 #[va, vb] W fun e w' => e = .returned (.bool true) ∧ ∃ q, w' = W.drewN q from by
    obtain ⟨Aa, ca, rfl, _⟩ := rws_form h1
    obtain ⟨Ab, cb, rfl, _⟩ := rws_form h2
    have h := same_i Aa Ab _ ca _ cb _ _ _ _ W (rws_rd h1).2.1 (rws_rd h2).2.1 (by have := ends_le p; omega) (by have := ends_le p; omega)
    rw [decide_eq_true rfl] at h
    exact h))
  have HC5 := Lib.hid (fun (W : World) (h : TwoB w W p q A X A2 X2 c d c2 d2) => HPS.out HN.out W h.b)
  have HC6 := Lib.hid (fun (W : World) (h : TwoB w W p q A X A2 X2 c d c2 d2) => HPR.out HN.out W h.b)
  have HC7 := Lib.hid (fun (W : World) (h : TwoB w W p q A X A2 X2 c d c2 d2) => HCP.out HN2.out.1 HN2.out.2 W h.b)
  have HC8 := Lib.hid (fun (A' X' : Option Addr) (c' d' : Nat) (W : World) (h : TwoB w W p q A X A2 X2 c d c2 d2) (ha : Rdr W W.heap.size A' p.bf.length p.bf) (hx : Rdr W W.heap.size X' p.op.length p.op) => (HPC.out ⟨HN.out.1, HN.out.2.1⟩ A' X' c' d' W h.b ha hx).mono (fun e w' h => (show e = .returned (.bool true) ∧ Below W.heap.size W w' from by
    obtain ⟨⟨r, rfl, hr⟩, hb⟩ := h
    rw [show r = true from by first | exact hr.2 rfl | exact hr.2 trivial]
    exact ⟨rfl, hb⟩)))
  have HTT := Lib.hid (fun (W : World) (h : TwoB w W p q A X A2 X2 c d c2 d2) => h.t)
  have HFD : Hid (TwoB w w6.drew p q A X A2 X2 c d c2 d2) := Lib.hid (HF6.out.below (below_drewN (Below.refl _ _) 1))
  have e1 : ((k1 : Int) != (k1 : Int)) = false := by simp
  have e2 : (k2 != k2) = false := by simp
  have e3 : ((st : Int) != (st : Int)) = false := by simp
  have HBN := Lib.hid (fun (r1 r2 : Bool) (h1 : r1 = true ↔ p = q) (h2 : r2 = true ↔ p = q) => (show r1 = r2 from by rw [Bool.eq_iff_iff]; exact h1.trans h2.symm))
  clear HSL HEL HER HPS HPR HCP HPC HF6
  go_upto_region 8 with fail
  go_cut [82] from 45 to 81 (fun v82 W => v82 = .bool false ∧ Hid (TwoB w W p q A X A2 X2 c d c2 d2))
  case first =>
    go_region_held3 (fun w' => w'.cell? ⟨w.heap.size, 0, none⟩ = some (.int .i64 p.rg) ∧ w'.cell? ⟨w.heap.size, 1, none⟩ = some (.slice A p.bf.length c) ∧ w'.cell? ⟨w.heap.size, 2, none⟩ = some (.slice X p.op.length d) ∧ w'.cell? ⟨w.heap.size + 1, 0, none⟩ = some (.int .i64 q.rg) ∧ w'.cell? ⟨w.heap.size + 1, 1, none⟩ = some (.slice A2 q.bf.length c2) ∧ w'.cell? ⟨w.heap.size + 1, 2, none⟩ = some (.slice X2 q.op.length d2) ∧ TwoB w w' p q A X A2 X2 c d c2 d2)
      (first | with_reducible exact HTT.out _ HFD.out | with_reducible exact HTT.out _ hFH | with_reducible exact HTT.out _ hFG | with_reducible exact HTT.out _ hFF | with_reducible exact HTT.out _ hFE | with_reducible exact HTT.out _ hFD | with_reducible exact HTT.out _ hFC | with_reducible exact HTT.out _ hFB | with_reducible exact HTT.out _ hFA | fail)
      (first
        | (have hq := hbG; clear hq; go_at_call 26; refine (HC8.out _ _ _ _ _ hFG hxA hxX).mono ?_; rintro e wH ⟨rfl, hbH⟩; have hFH := hFG.below hbH)
        | (have hq := hbF; clear hq; go_at_call 19; refine (HC7.out _ hFF).mono ?_; rintro e wG ⟨hbG, Ac, cc, Xc, dc, rfl, hA', hX'⟩; have hFG := hFF.below hbG; have hxA := (rws_rd hA').2.1; have hxX := (rws_rd hX').2.1)
        | (have hq := hbE; clear hq; go_at_call 26; refine (HC6.out _ hFE).mono ?_; rintro e wF ⟨⟨r2, rfl, hr2⟩, hbF⟩; have hFF := hFE.below hbF; obtain rfl := HBN.out _ _ hr2 hr1; have e4 : (r2 != r2) = false := (by simp))
        | (have hq := hFD; clear hq; go_at_call 18; refine (HC5.out _ hFD).mono ?_; rintro e wE ⟨⟨r1, rfl, hr1⟩, hbE⟩; have hFE := hFD.below hbE)
        | (have hq := hbC; clear hq; go_at_call 16; refine (HC4.out _ _ _ _ _ (own_below hvB hbC) hvC).mono ?_; rintro e wD ⟨rfl, qD, hqD⟩; have hFD : TwoB w wD p q A X A2 X2 c d c2 d2 := (by rw [hqD]; exact hFC.below (below_drewN (Below.refl _ _) _)); clear hqD)
        | (have hq := hbB; clear hq; go_at_call 25; refine (HC3.out _ hFB).mono ?_; rintro e wC ⟨⟨vC, rfl, hvC⟩, hbC⟩; have hFC := hFB.below hbC)
        | (have hq := hbA; clear hq; go_at_call 17; refine (HC2.out _ hFA).mono ?_; rintro e wB ⟨⟨vB, rfl, hvB⟩, hbB⟩; have hFB := hFA.below hbB)
        | (go_at_call 15; refine (HC1.out _ HFD.out).mono ?_; rintro e wA ⟨rfl, hbA⟩; have hFA := HFD.out.below hbA)
        | fail)
    all_goals (
      go_wp2_with fail
      go_meet
      case rel => exact ⟨rfl, Lib.hid hFH⟩)
  case rest =>
    obtain ⟨rfl, HF⟩ := hcut
    clear HFD HC1 HC2 HC3 HC4 HC5 HC6 HC7 HC8 HBN e1 e2 e3 HTT
    by_cases hbig : (5000 : Int) < (st : Int) ∧ (st : Int) ≤ 16777216
    · obtain ⟨g1, g2⟩ := hbig
      go_wp2_with fail
      go_ret
      exact ⟨rfl, HF.out.b⟩
    go_upto_region 10 with fail
    go_cut [88] from 83 to 87 (fun v88 W => v88 = .bool false ∧ Hid (TwoB w W p q A X A2 X2 c d c2 d2))
    case first =>
      by_cases g1 : (5000 : Int) < (st : Int)
      · have g2 : ¬ (st : Int) ≤ 16777216 := fun h => hbig ⟨g1, h⟩
        clear hbig
        go_wp2_with fail
        go_meet
        case rel => exact ⟨rfl, HF⟩
      · clear hbig
        go_wp2_with fail
        go_meet
        case rel => exact ⟨rfl, HF⟩
    case rest =>
      obtain ⟨rfl, HG⟩ := hcut
      have HBIG : Hid (st ≤ 5000 ∨ 16777216 < st) := Lib.hid (by omega)
      clear HF hbig
      obtain ⟨a0, a1, a2, b0, b1, b2, _⟩ := HG.out.t
      have HOP2 := Lib.hid (HOP.out HN2.out.1 HN2.out.2 _ HG.out.b)
      clear HOP
      go_wp2_with fail
      go_at_call 27
      refine HOP2.out.mono ?_
      rintro e w7 ⟨hb7, gA, cA, gX, cX, rfl, hA7, hX7⟩
      have HF7 := Lib.hid (HG.out.below hb7)
      have HA7 := Lib.hid hA7
      have HX7 := Lib.hid hX7
      clear hb7 hA7 hX7 HOP2 HG a0 a1 a2 b0 b1 b2
      have HOR2 := Lib.hid (HOR.out (by omega) (fun x hx => by have := HM6.out x hx; omega) w7 HF7.out.b)
      clear HOR
      go_wp2_with fail
      go_at_call 28
      refine HOR2.out.mono ?_
      rintro e w8 ⟨hb8, g, c8, xs, rfl, hrw8, hrs8, hys8⟩
      have HF8 := Lib.hid (HF7.out.below hb8)
      have hxl : xs.length = mr := by
        have h := congrArg List.length hys8
        unfold hrYs at h
        rw [List.length_map, List.length_map, HML.out] at h
        exact h
      have hO8 : OtW w8 w7.heap.size g c8 xs := ⟨by rw [hxl]; rw [HML.out] at hrw8; exact hrw8, hrs8⟩
      obtain ⟨hHR, hHY⟩ := hO8.hr
      rw [hxl] at hHR
      rw [hys8] at hHY
      have HRL2 := Lib.hid (HRL.out (some ⟨gA, 0, none⟩) (some ⟨gX, 0, none⟩) (some ⟨g, 0, none⟩) cA cX mr c8 (xs.map ofW) (by omega) w8 HF8.out.b (rws_rd (own_below HA7.out hb8)).2.1 (rws_rd (own_below HX7.out hb8)).2.1 hHR)
      rw [hHY] at HRL2
      rw [HML.out]
      clear hb8 hrw8 hrs8 hys8 hxl hO8 hHR hHY HOR2 HF7 HA7 HX7 HRL
      go_wp2_with fail
      go_at_call 13
      refine HRL2.out.mono ?_
      rintro e w9 ⟨⟨vo, vl, r, rfl, hr, ho, hv⟩, hb⟩
      have HF9 := Lib.hid (HF8.out.below hb)
      have t1 := HTA.out _ _ hr
      obtain ⟨Ao, co, hso, rfl, hoh, hoy, hoc⟩ := ho.hr (fun y hy => by have := t1.ol y hy; omega)
      obtain ⟨Av, cv, rfl, hcv⟩ := rws_form hv
      have HV := Lib.hid (rws_rd hv).2.1
      have HR9 := Lib.hid hr
      have HOH := Lib.hid hoh
      have HOY := Lib.hid hoy
      have HT1 := Lib.hid t1
      obtain ⟨nx, hnx⟩ : ∃ n, r.out.length = n := ⟨_, rfl⟩
      obtain ⟨ne, hne⟩ : ∃ n, r.ev.length = n := ⟨_, rfl⟩
      obtain ⟨er, her⟩ : ∃ n, r.er = n := ⟨_, rfl⟩
      have HXL := Lib.hid (show r.out.length = nx ∧ r.ev.length = ne ∧ r.er = er from ⟨hnx, hne, her⟩)
      rw [hnx, hne, her]
      have hnx6 : nx ≤ 1000000 := by
        rw [← hnx]
        by_cases e0 : r.er = 0
        · rw [(t1.e0 e0).2.1]; omega
        · rw [t1.en e0]; simp
      have hne6 : ne ≤ 1000000 := by
        rw [← hne]
        rcases HBIG.out with h5 | h6
        · have h4 : stepsP p ≤ 5000 := by rw [HSTP.out]; exact h5
          by_cases e0 : r.er = 0
          · have := (t1.e0 e0).1; omega
          · by_cases e11 : r.er = 11
            · have := t1.e11 e11; omega
            · rw [t1.ee e0 e11]; simp
        · rw [runP_ev hr (by rw [HSTP.out]; exact h6)]; simp
      clear hb hr ho hv hcv hoh hoy hoc hnx hne her t1 HRL2 HF8 HT1
      obtain ⟨a0, a1, a2, b0, b1, b2, _⟩ := HF9.out.t
      have HRZ2 := Lib.hid (HRZ.out (by omega) w9 HF9.out.b)
      clear HRZ
      go_wp2_with fail
      go_at_call 29
      refine HRZ2.out.mono ?_
      rintro e w10 ⟨⟨Bo, do_, ho, Be, de, y, rfl, hrp, hho, hoy2, hev⟩, hb⟩
      obtain rfl := runP_det hrp HR9.out
      have HB10 := Lib.hid (bel_tr HF9.out.b hb)
      have t2 := HTA.out _ _ hrp
      rw [HXL.out.1] at hho
      rw [HXL.out.2.1] at hev
      have hoh := HOH.out
      rw [HXL.out.1] at hoh
      have hv9 := HV.out
      rw [HXL.out.2.1] at hv9
      have KR := Lib.hid (rows_u Ao Bo nx co nx do_ _ _ hso ho w10 ((hoh.below hb).more hb.size) hho hnx6 hnx6 (fun v hv => by
          have h1 := t2.ol v.ys (by rw [← HOY.out]; exact List.mem_map.2 ⟨v, hv, rfl⟩)
          have h2 := (hoh.each v hv).1.len
          omega) (fun v hv => by
          have h1 := t2.ol v.ys (by rw [← hoy2]; exact List.mem_map.2 ⟨v, hv, rfl⟩)
          have h2 := (hho.each v hv).1.len
          omega))
      rw [HOY.out, hoy2, decide_eq_true rfl] at KR
      have KE := Lib.hid (fun (W : World) (hW : Below w10.heap.size w10 W) => same_ev Av Be ne cv ne de _ _ y.ev y.ev W (hv9.below (hb.trans (hW.mono hb.size))) (hev.below hW) hne6 hne6)
      rw [decide_eq_true rfl] at KE
      rw [HXL.out.1, HXL.out.2.1, HXL.out.2.2]
      have b3 : (er == er) = true := by simp
      clear hb hrp hho hoy2 hev hoh hv9 t2 HR9 HOH HOY HV HRZ2 HF9 a0 a1 a2 b0 b1 b2 HXL
      go_wp2_with fail
      go_at_call 14
      refine KR.out.mono ?_
      rintro e w11 ⟨rfl, q11, rfl⟩
      have KE2 := Lib.hid (KE.out _ (below_drewN (Below.refl _ _) q11))
      have HB11 := Lib.hid (below_drewN HB10.out q11)
      clear KR KE
      go_wp2_with fail
      go_at_call 30
      refine KE2.out.mono ?_
      rintro e w12 ⟨rfl, q12, hq12⟩
      have HB12 : Hid (Below w.heap.size w w12) := Lib.hid (by rw [hq12]; exact below_drewN HB11.out _)
      clear hq12 KE2
      go_wp2_with fail
      go_ret
      exact ⟨rfl, HB12.out⟩
end limbCalls
end Go.Proofs.YtbdhibgljaelbaaDoor
