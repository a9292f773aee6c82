/- Plain: what a run's answer tells. | The statements' own helper: rows in memory of their own (Own at words and at rows). | The statements' own helper: OwnRows. | Two programs compared, by the landed package and by the document's own; a program copied. | Two programs compared by the document's own; a program copied by the landed package. | The example's kin: programs of LimbNames, what they come to; with, checks. | Programs in boxes, as LimbNames lays them: an environment of boxes; rows that grow. -/
import Derived.Test.YtbdhibgljaelbaaDoorMF
import Derived.Test.YtbdhibgljaelbaaDoorH9
import Derived.Test.YtbdhibgljaelbaaDoorF3
import Derived.Test.YtbdhibgljaelbaaDoorN3
import Derived.Test.YtbdhibgljaelbaaDoorN4
import Derived.Test.YtbdhibgljaelbaaDoorF4
import Derived.Test.YtbdhibgljaelbaaDoorF2
import Derived.Test.YtbdhibgljaelbaaDoorR4
import Derived.BigQuiet
import Derived.Lib.SliceRun
import Derived.Deep.RegionLaw
import Derived.Deep.CutRange
import Derived.Deep.Cut
namespace Go.Proofs.YtbdhibgljaelbaaDoor
open Go Go.RowKit
namespace Lb
open Wd Nt Gr
set_option linter.unusedVariables false
set_option linter.unusedSimpArgs false
theorem flt_11 (regs : Int) (bufs : List Bf) (s : Ah) (o : Op) : fltO regs bufs s o = 2 ∨ fltO regs bufs s o = 9 ∨ fltO regs bufs s o = 10 ∨ fltO regs bufs s o = 0 ∨ fltO regs bufs s o = 5 := by
  unfold fltO
  split
  · exact .inl rfl
  · split
    · exact .inr (.inl rfl)
    · split
      · exact .inr (.inr (.inl rfl))
      · split
        · exact .inr (.inr (.inr (.inl rfl)))
        · exact .inr (.inr (.inr (.inr rfl)))
theorem chkG_11 {regs : Int} {bufs : List Bf} : ∀ {ops : List Op} {s : Ah} {n : Nat}, (chkG regs bufs ops s n).2 ≠ 11
  | [], s, n => by unfold chkG; dsimp only; split <;> decide
  | o :: ops, s, n => by
    unfold chkG
    split
    · have := flt_11 regs bufs s o
      dsimp only
      omega
    · exact chkG_11
theorem chk_11 (p : Pg) : (chkP p).2 ≠ 11 := by
  unfold chkP
  split
  · unfold refP
    dsimp only
    split
    · decide
    · split <;> decide
  · exact chkG_11
structure Tells (p : Pg) (h : List (List Int)) (r : Ans) : Prop where
  e0 : r.er = 0 → r.ev.length = stepsP p ∧ r.out.length = p.bf.length ∧ ∀ (i : Nat) (b : Bf), p.bf[i]? = some b → ∃ y : List Int, r.out[i]? = some y ∧ (y.length : Int) = b.sz ∧ (b.kd = 1 → h[i]? = some y)
  e11 : r.er = 11 → r.ev.length < stepsP p
  en : r.er ≠ 0 → r.out = []
  ee : r.er ≠ 0 → r.er ≠ 11 → r.ev = []
  ev : ∀ e ∈ r.ev, GoodEv p e
  ol : ∀ y ∈ r.out, y.length ≤ 65536
theorem tells {p : Pg} (hp : p.wf) {h : List (List Int)} {r : Ans} (hr : RunP p h r) : Tells p h r := by
  unfold RunP at hr
  split at hr
  · rename_i hc
    subst hr
    exact ⟨fun e => absurd e hc, fun e => absurd e (chk_11 p), fun _ => rfl, fun _ _ => rfl, (fun e he => by cases he), (fun y hy => by cases hy)⟩
  rename_i hc
  have hc0 : (chkP p).2 = 0 := by simpa using hc
  have H := ok_of hc0
  have hst : stepsP p = evP p.op := by unfold stepsP; rw [if_pos hc0]
  split at hr
  · subst hr
    exact ⟨(fun e => by cases e), (fun e => by cases e), fun _ => rfl, fun _ _ => rfl, (fun e he => by cases he), (fun y hy => by cases hy)⟩
  rename_i h24
  split at hr
  · subst hr
    exact ⟨(fun e => by cases e), (fun e => by cases e), fun _ => rfl, fun _ _ => rfl, (fun e he => by cases he), (fun y hy => by cases hy)⟩
  rename_i hf
  have hf1 : fitP p.bf h = true := by simpa using hf
  obtain ⟨f, s, ⟨N, hrun⟩, rfl⟩ := hr
  obtain ⟨r1, r2⟩ := H.run2 (by omega) (s := st0 p h) rfl rfl hrun
  have hg := GoodS.run H hp (good_0 H hf1) hrun
  cases f
  · exact ⟨(fun e => by cases e), fun _ => by rw [hst]; exact r2 rfl, fun _ => rfl, (fun _ e => absurd rfl e), hg.ev, (fun y hy => by cases hy)⟩
  · refine ⟨fun _ => ⟨by rw [hst]; exact r1 rfl, hg.rl, hg.row⟩, (fun e => by cases e), (fun e => absurd rfl e), (fun e => absurd rfl e), hg.ev, fun y hy => ?_⟩
    obtain ⟨i, hi⟩ := List.mem_iff_getElem?.1 hy
    have hil := (List.getElem?_eq_some_iff.1 hi).1
    have hil2 : i < p.bf.length := by rw [← hg.rl]; exact hil
    obtain ⟨z, h1, h2, _⟩ := hg.row i _ (List.getElem?_eq_getElem hil2)
    have h3 : some z = some y := h1.symm.trans hi
    cases h3
    have := ((ref_zero H.ref).2.2.2.2 _ (List.getElem_mem hil2)).2.1
    omega
end Lb
end Go.Proofs.YtbdhibgljaelbaaDoor
namespace Go.Proofs.YtbdhibgljaelbaaDoor
open Go Go.RowKit Go.Sort Go.Shelf
namespace Lb
open Wd Nt Gr
set_option linter.unusedVariables false
set_option linter.unusedSimpArgs false
/-- a word, as a thing of a row -/
structure Uw where
  z : Int
instance : Sh Uw := ⟨fun x => [.int .u64 x.z], 1, fun _ => rfl, fun o v hv => by
  simp only [List.mem_cons, List.not_mem_nil, or_false] at hv
  subst hv; rfl, by decide⟩
def uws (ys : List Int) : List Uw := ys.map Uw.mk
theorem uws_len (ys : List Int) : (uws ys).length = ys.length := by unfold uws; simp
theorem row_uws (ys : List Int) : row (uws ys) = ys.map (Value.int .u64) := by
  unfold row uws
  induction ys with
  | nil => rfl
  | cons y ys ih =>
    rw [List.map_cons, List.flatMap_cons, ih, List.map_cons]
    rfl
theorem uws_get {ys : List Int} {j : Nat} {y : Int} (h : ys[j]? = some y) : (uws ys)[j]? = some ⟨y⟩ := by unfold uws; rw [List.getElem?_map, h]; rfl
theorem uws_set (ys : List Int) (j : Nat) (v : Int) : (uws ys).set j ⟨v⟩ = uws (ys.set j v) := by unfold uws; rw [List.map_set]
set_option maxRecDepth 100000 in
theorem info_slu : (Tryd.prog.info? 43).map (fun i => (i.zero, i.size, i.bytes)) = some (some (.slice none 0 0), 1, 24) := by kernel_rfl
theorem ownR_c (A : Option Addr) (n c : Nat) (xs : List Hr) (w : World) (h : Rdr w w.heap.size A n xs) (hn : n ≤ 100000) :
    Calls Tryd.prog 53 #[.slice A n c] w (OwnA 43 xs w) := by
  obtain ⟨i, hi, hz, h2, h3⟩ := info_parts info_slu
  obtain ⟨g, c', w3, hap, hb3, hS⟩ := own_run (c := c) 39 43 i _ 24 Tryd.underlying39 hi hz h2 h3 rfl (by omega) h hn
  have hP : Hid (OwnA 43 xs w (.returned (.slice (some ⟨g, 0, none⟩) n c')) w3) := Lib.hid ⟨hb3, g, c', by rw [h.len], by rw [h.len]; exact hS⟩
  clear hi hz h2 h3 hb3 hS h
  go_enter Tryd.func53, Tryd.ntmps53
  go_wp2_with (at_builtin; refine wpList_append_eq rfl (.tmp 3) (.tmp 4) 39 rfl _ _ rfl rfl _ _ hap ?_)
  go_ret
  exact hP.out
theorem ownU_c (A : Option Addr) (n c : Nat) (xs : List Uw) (w : World) (h : Rdr w w.heap.size A n xs) (hn : n ≤ 100000) :
    Calls Tryd.prog 54 #[.slice A n c] w (OwnA 31 xs w) := by
  obtain ⟨i, hi, hz, h2, h3⟩ := info_parts infoU
  obtain ⟨g, c', w3, hap, hb3, hS⟩ := own_run (c := c) 43 31 i _ 8 Tryd.underlying43 hi hz h2 h3 rfl (by omega) h hn
  have hP : Hid (OwnA 31 xs w (.returned (.slice (some ⟨g, 0, none⟩) n c')) w3) := Lib.hid ⟨hb3, g, c', by rw [h.len], by rw [h.len]; exact hS⟩
  clear hi hz h2 h3 hb3 hS h
  go_enter Tryd.func54, Tryd.ntmps54
  go_wp2_with (at_builtin; refine wpList_append_eq rfl (.tmp 3) (.tmp 4) 43 rfl _ _ rfl rfl _ _ hap ?_)
  go_ret
  exact hP.out
end Lb
end Go.Proofs.YtbdhibgljaelbaaDoor
namespace Go.Proofs.YtbdhibgljaelbaaDoor
open Go Go.RowKit Go.Sort Go.Shelf
namespace Lb
open Wd Nt Gr
set_option linter.unusedVariables false
set_option linter.unusedSimpArgs false
/-- a row in memory of its own: the append, of a row that is read cell by cell -/
theorem own_run2 {T : Type} [Sh T] (st et : TypeId) (i : TypeInfo) (z : Value) (bytes : Nat) (hu : Tryd.prog.underlying st = some (.slice et)) (hi : Tryd.prog.info? et = some i) (hz : i.zero = some z) (hs : i.size = Sh.k T) (hb : i.bytes = bytes) (hzs : z.cells.size = Sh.k T) (hb2 : bytes ≤ 1000)
    {w : World} {A : Option Addr} {n c : Nat} {xs : List T} (hlen : xs.length = n) (hrow : 0 < n → ∃ ad, A = some ad ∧ ad.block < w.heap.size ∧ ∀ (j : Nat) (u : Value), (row xs)[j]? = some u → w.cell? (ad.add j) = some u) (hn : n ≤ 100000) :
    ∃ g c' w3, (Builtin.append_ #[st, st] st #[.slice (some ⟨w.heap.size, 0, none⟩) 0 0, .slice A n c]).run Tryd.prog (w.alloc (.cells #[] et)) = .ok (.slice (some ⟨g, 0, none⟩) n c') w3 ∧ Below w.heap.size w w3 ∧ Rws et w.heap.size (.slice (some ⟨g, 0, none⟩) n c') xs w3 := by
  have hb2' : Below w.heap.size w (w.alloc (.cells #[] et)) := bel_al _
  have hown0 := bk_rws (t := et) (B := w.heap.size) (xs := ([] : List T)) (w := w.alloc (.cells #[] et)) (g := w.heap.size) (Bk.new _ _ _) (Nat.le_refl _) (by simp)
  have hown : (w.alloc (.cells #[] et)).ownsRow w.heap.size et (Sh.k T) (.slice (some ⟨w.heap.size, 0, none⟩) 0 0) 0 [] := hown0
  have key : ∃ g c' w3, (Builtin.append_ #[st, st] st #[.slice (some ⟨w.heap.size, 0, none⟩) 0 0, .slice A n c]).run Tryd.prog (w.alloc (.cells #[] et)) = .ok (.slice (some ⟨g, 0, none⟩) n c') w3 ∧ Below w.heap.size w w3 ∧ w3.ownsRow w.heap.size et (Sh.k T) (.slice (some ⟨g, 0, none⟩) n c') n (row xs) := by
    have app : ∀ (ad : Addr) (m : Nat) (news : List Value), m ≤ 100000 → news.length = m * Sh.k T → (∀ (j : Nat) (u : Value), news[j]? = some u → (w.alloc (.cells #[] et)).cell? (ad.add j) = some u) → (∀ u ∈ news, u.oneCell' = true) →
        ∃ g c' w3, (Builtin.append_ #[st, st] st #[.slice (some ⟨w.heap.size, 0, none⟩) 0 0, .slice (some ad) m c]).run Tryd.prog (w.alloc (.cells #[] et)) = .ok (.slice (some ⟨g, 0, none⟩) m c') w3 ∧ Below w.heap.size w w3 ∧ w3.ownsRow w.heap.size et (Sh.k T) (.slice (some ⟨g, 0, none⟩) m c') m news := fun ad m news hm hnl hnews h1 => by
      obtain ⟨v', w3, hrun, h4, h5, h6, _⟩ := run_append_own_at (P := Tryd.prog) (w := w.alloc (.cells #[] et)) w.heap.size st st et i z (Sh.k T) bytes hu hi hz hs hb hzs Sh.pos _ 0 _ hown ad m c news hnl hnews h1 (by simp only [maxLen]; omega) (by rw [Nat.zero_add]; exact Nat.le_trans (Nat.mul_le_mul hm hb2) (by decide)) (by rw [World.size_alloc]; exact Nat.le_succ _)
      have hb3 : Below w.heap.size w w3 := Below.grown hb2' h5 (by rw [World.size_alloc]; exact Nat.le_succ _) (fun k e => by simp [Value.ownBlock] at e; omega)
      rw [List.nil_append, Nat.zero_add] at h4
      rcases h4.2 with ⟨e, _⟩ | ⟨g, c', cur, rfl, _⟩
      · exact absurd (h6.1 e).1 (by intro e; cases e)
      · exact ⟨g, c', w3, hrun, hb3, h4⟩
    rcases Nat.eq_zero_or_pos n with h0 | h0
    · subst h0
      obtain rfl : xs = [] := List.eq_nil_of_length_eq_zero hlen
      rcases A with _ | ad
      · exact ⟨w.heap.size, 0, _, run_append_nil' st st et i hu hi _ _ _ _ _ hown c, hb2', hown⟩
      · exact app ad 0 [] (by omega) (by simp) (fun j u hu => by simp at hu) (fun u hu => by cases hu)
    · obtain ⟨ad, rfl, hbad, hat⟩ := hrow h0
      exact app ad n (row xs) hn (by rw [row_len, hlen]) (fun j u hu => by rw [hb2'.cell (by rw [Nt.block_add]; exact hbad)]; exact hat j u hu) (row_one' xs)
  obtain ⟨g, c', w3, k1, k2, k3⟩ := key
  exact ⟨g, c', w3, k1, k2, by unfold Rws; rw [hlen]; exact k3⟩
theorem rd_row {w : World} {B n : Nat} {A : Option Addr} {ys : List Int} (h : Rd w B A n ys) (h0 : 0 < n) : ∃ ad, A = some ad ∧ ad.block < B ∧ ∀ (j : Nat) (u : Value), (row (uws ys))[j]? = some u → w.cell? (ad.add j) = some u := by
  obtain ⟨ad, e, hb, hc⟩ := h.rd h0
  refine ⟨ad, e, hb, fun j u hu => ?_⟩
  have hj := (List.getElem?_eq_some_iff.1 hu).1
  rw [row_uws] at hu hj
  rw [List.length_map, h.len] at hj
  rw [hc j hj]
  rw [List.getElem?_map, at_lt (by rw [h.len]; exact hj)] at hu
  exact hu
theorem ownU2_c (A : Option Addr) (n c : Nat) (ys : List Int) (w : World) (h : Rd w w.heap.size A n ys) (hn : n ≤ 100000) :
    Calls Tryd.prog 54 #[.slice A n c] w (OwnA 31 (uws ys) w) := by
  obtain ⟨i, hi, hz, h2, h3⟩ := info_parts infoU
  have hl : (uws ys).length = n := by rw [uws_len, h.len]
  obtain ⟨g, c', w3, hap, hb3, hS⟩ := own_run2 (c := c) 43 31 i _ 8 Tryd.underlying43 hi hz h2 h3 rfl (by omega) hl (fun h0 => rd_row h h0) hn
  have hP : Hid (OwnA 31 (uws ys) w (.returned (.slice (some ⟨g, 0, none⟩) n c')) w3) := Lib.hid ⟨hb3, g, c', by rw [hl], by rw [hl]; exact hS⟩
  clear hi hz h2 h3 hb3 hS h
  go_enter Tryd.func54, Tryd.ntmps54
  go_wp2_with (at_builtin; refine wpList_append_eq rfl (.tmp 3) (.tmp 4) 43 rfl _ _ rfl rfl _ _ hap ?_)
  go_ret
  exact hP.out
/-- rows of one's own, each with its room -/
structure RowsW (w : World) (B : Nat) (xs : List (Nat × Nat × List Int)) : Prop where
  each : ∀ x ∈ xs, Rws 31 B (.slice (some ⟨x.1, 0, none⟩) x.2.2.length x.2.1) (uws x.2.2) w ∧ Ws x.2.2
  nd : (xs.map (·.1)).Nodup
def ofW (x : Nat × Nat × List Int) : Hr := ⟨some ⟨x.1, 0, none⟩, x.2.2.length, x.2.1, x.2.2⟩
section
variable {w w' : World} {B : Nat} {xs : List (Nat × Nat × List Int)}
theorem RowsW.below (h : RowsW w B xs) (hb : Below w.heap.size w w') : RowsW w' B xs := ⟨fun x hx => ⟨own_below (h.each x hx).1 hb, (h.each x hx).2⟩, h.nd⟩
theorem RowsW.far {a i : Nat} {t' : TypeId} {cs' : Array Value} {u : Value} (h : RowsW w B xs) (h' : Bk w a t' cs') (hne : 31 ≠ t') : RowsW (w.setCell ⟨a, i, none⟩ u) B xs := ⟨fun x hx => ⟨own_far (h.each x hx).1 h' hne, (h.each x hx).2⟩, h.nd⟩
end
theorem row1_set {xs : List Hr} {j : Nat} {x y : Hr} (hx : xs[j]? = some x) : (Sh.vs x).set 0 (.slice y.A y.n y.c) = Sh.vs y := rfl
theorem setL_mid {T : Type} (ls bs : List T) (b x : T) : (ls ++ b :: bs).set ls.length x = ls ++ [x] ++ bs := by
  rw [List.set_append_right _ _ (Nat.le_refl _), Nat.sub_self, List.set_cons_zero, List.append_assoc]
  rfl
/-- what OwnRows answers -/
def OwnRA (hs : List Hr) (w : World) (e : Ending) (w' : World) : Prop := Below w.heap.size w w' ∧ ∃ g c xs, e = .returned (.slice (some ⟨g, 0, none⟩) hs.length c) ∧ Rws 43 w.heap.size (.slice (some ⟨g, 0, none⟩) hs.length c) (xs.map ofW) w' ∧ RowsW w' w.heap.size xs ∧ xs.map (·.2.2) = hrYs hs
/-- on the way -/
structure OwnRS (w W : World) (hs : List Hr) (g c k : Nat) (xs : List (Nat × Nat × List Int)) : Prop where
  len : xs.length = k
  ys : xs.map (·.2.2) = (hrYs hs).take k
  rw : Rws 43 w.heap.size (.slice (some ⟨g, 0, none⟩) hs.length c) (xs.map ofW ++ hs.drop k) W
  rows : RowsW W w.heap.size xs
  b : Below w.heap.size w W
set_option maxRecDepth 100000 in
set_option maxHeartbeats 4000000 in
theorem ownRows_l (Y : Option Addr) (m q : Nat) (hs : List Hr) (w : World) (hH : HrW w w.heap.size Y m hs) (hm : m ≤ 100000) (h6 : ∀ x ∈ hs, x.n ≤ 100000) :
    Calls Tryd.prog 28 #[.slice Y m q] w (OwnRA hs w) := by
  have HO := Lib.hid (ownR_c Y m q hs w hH.rd hm)
  have HL := Lib.hid hH.rd.len
  have HU := Lib.hid (fun (k : Nat) (x : Hr) (hx : hs[k]? = some x) (W : World) (hb : Below w.heap.size w W) => ownU2_c x.A x.n x.c x.ys W (((hH.each x (List.mem_of_getElem? hx)).1.below hb).more hb.size) (h6 x (List.mem_of_getElem? hx)))
  have HWS := Lib.hid (fun (k : Nat) (x : Hr) (hx : hs[k]? = some x) => (show Ws x.ys ∧ x.ys.length = x.n from ⟨(hH.each x (List.mem_of_getElem? hx)).1.ws, (hH.each x (List.mem_of_getElem? hx)).1.len⟩))
  unfold OwnA at HO HU
  clear hH h6
  go_enter Tryd.func28, Tryd.ntmps28
  go_wp2_with fail
  go_at_call 53
  refine HO.out.mono ?_
  rintro e w1 ⟨hb, g, c, rfl, hr⟩
  have H0 : Hid (OwnRS w w1 hs g c 0 []) := Lib.hid ⟨rfl, by simp, hr, ⟨fun x hx => absurd hx (by simp), List.nodup_nil⟩, hb⟩
  have HL' := HL.out
  subst HL'
  clear hb hr HO HL
  go_wp2_with fail
  go_loopw [4] (fun i W => ∃ k : Nat, k ≤ hs.length ∧ i = .int .i64 (k : Int) ∧ Hid (∃ xs, OwnRS w W hs g c k xs)) (fun i _ => hs.length - (intOf i).toNat)
  case atStart => exact ⟨0, Nat.zero_le _, rfl, Lib.hid ⟨_, H0.out⟩⟩
  case round =>
    obtain ⟨k, hk, rfl, HX⟩ := hrel
    clear H0
    obtain ⟨xs, hS⟩ := HX.out
    have HS := Lib.hid hS
    clear hS HX
    rcases Nat.lt_or_ge k hs.length with hlt | hge
    · have hki : (k : Int) < (hs.length : Int) := by omega
      have hk0 : (0 : Int) ≤ (k : Int) := by omega
      have ew : IntKind.i64.wrap ((k : Int) + 1) = ((k + 1 : Nat) : Int) := by rw [show (k : Int) + 1 = ((k + 1 : Nat) : Int) by omega]; exact IntWalk.i64_in _ (by omega)
      obtain ⟨x, hx⟩ : ∃ x, hs[k]? = some x := ⟨_, List.getElem?_eq_getElem hlt⟩
      have HX := Lib.hid hx
      have hgk : (xs.map ofW ++ hs.drop k)[k]? = some x := by
        rw [List.getElem?_append_right (by rw [List.length_map, HS.out.len]; exact Nat.le_refl _), List.length_map, HS.out.len, Nat.sub_self, List.getElem?_drop, Nat.add_zero, hx]
      obtain ⟨_, _, e0, _, q0⟩ := hr_at (rws_rd HS.out.rw).2.1 hgk
      cases e0
      rw [Nat.zero_add] at q0
      have HUX := Lib.hid (HU.out k x hx wr HS.out.b)
      have HGK := Lib.hid hgk
      obtain ⟨xA, xn, xc, xy⟩ := x
      dsimp only at *
      clear hx hgk
      go_wp2_with fail
      go_at_call 54
      refine HUX.out.mono ?_
      rintro e w5 ⟨hb5, g5, c5, rfl, hr5⟩
      have hR5 := own_below HS.out.rw hb5
      obtain ⟨cs, hcs⟩ := ownBlk hR5
      obtain ⟨cu, hcu⟩ := ownBlk hr5
      have hlo := ownLt hr5
      obtain ⟨_, _, e0, _, p0⟩ := hr_at (rws_rd (T := Hr) hR5).2.1 HGK.out
      cases e0
      rw [Nat.zero_add] at p0
      have hR6 := hR5
      rw [show (xs.map ofW ++ hs.drop k).length = hs.length by rw [List.length_append, List.length_map, List.length_drop, HS.out.len]; omega] at hR6
      have pf := World.ownsRow.frozenAt hR6 k
      have hput := own_put (T := Hr) (d := 0) (y := ofW (g5, c5, xy)) hR5 (by rw [List.length_append, List.length_map, List.length_drop, HS.out.len]; omega) HGK.out (show 0 < Sh.k Hr by decide) rfl
      have hdr : hs.drop k = ⟨xA, xn, xc, xy⟩ :: hs.drop (k + 1) := by
        rw [List.drop_eq_getElem_cons hlt]
        congr 1
        have h := HX.out
        rw [List.getElem?_eq_getElem hlt] at h
        exact Option.some.inj h
      have hset : (xs.map ofW ++ hs.drop k).set k (ofW (g5, c5, xy)) = (xs ++ [(g5, c5, xy)]).map ofW ++ hs.drop (k + 1) := by
        rw [hdr]
        have := setL_mid (xs.map ofW) (hs.drop (k + 1)) ⟨xA, xn, xc, xy⟩ (ofW (g5, c5, xy))
        rw [List.length_map, HS.out.len] at this
        rw [this, List.map_append]
        rfl
      rw [hset] at hput
      have hput2 : Rws 43 w.heap.size (.slice (some ⟨g, 0, none⟩) hs.length c) ((xs ++ [(g5, c5, xy)]).map ofW ++ hs.drop (k + 1)) (w5.setCell ⟨g, k, none⟩ (.slice (some ⟨g5, 0, none⟩) xy.length c5)) := by
        have h := hput
        rw [show k * Sh.k Hr + 0 = k by show k * 1 + 0 = k; omega] at h
        exact h
      have hsz := HS.out.b.size
      have HS2 : Hid (∃ xs', OwnRS w (w5.setCell ⟨g, k, none⟩ (.slice (some ⟨g5, 0, none⟩) (uws xy).length c5)) hs g c (k + 1) xs') := Lib.hid ⟨xs ++ [(g5, c5, xy)], by rw [List.length_append, HS.out.len]; rfl, by
          rw [List.map_append, HS.out.ys, List.take_add_one]
          have : (hrYs hs)[k]? = some xy := hrYs_get HX.out
          rw [this]
          rfl, by rw [uws_len]; exact hput2, by
          have h1 := HS.out.rows.below hb5
          refine ⟨fun x hx => ?_, ?_⟩
          · rcases List.mem_append.1 hx with hx | hx
            · exact ⟨own_far (h1.each x hx).1 hcs (by decide), (h1.each x hx).2⟩
            · obtain rfl := List.mem_singleton.1 hx
              refine ⟨own_far (own_mono (B' := w.heap.size) ?_ hsz) hcs (by decide), (HWS.out k _ HX.out).1⟩
              have h := hr5
              rw [uws_len] at h
              exact h
          · rw [List.map_append]
            refine List.nodup_append.2 ⟨h1.nd, by simp, ?_⟩
            intro a ha b hb2 e
            simp only [List.map_cons, List.map_nil, List.mem_singleton] at hb2
            obtain ⟨y, hy, rfl⟩ := List.mem_map.1 ha
            have h3 := (ownLt (HS.out.rows.each y hy).1).2
            omega, (bel_tr HS.out.b hb5).setCell (p := ⟨g, k, none⟩) (ownLt hR5).1 _⟩
      have hgl := hcs.lt
      clear hR5 hR6 hr5 hcs hcu hlo hput hput2 hdr hset hsz HUX q0 hb5
      go_wp2_with fail
      go_roundw
      case rel => exact ⟨k + 1, by omega, by first | rfl | go_num, HS2⟩
      case measure => (simp [intOf] <;> omega)
    · obtain rfl : k = hs.length := by omega
      go_wp2_with fail
      go_ret
      refine ⟨HS.out.b, g, c, xs, rfl, ?_, HS.out.rows, ?_⟩
      · have h := HS.out.rw
        rw [List.drop_length, List.append_nil] at h
        exact h
      · have h := HS.out.ys
        rw [List.take_of_length_le (by unfold hrYs; rw [List.length_map]; exact Nat.le_refl _)] at h
        exact h
end Lb
end Go.Proofs.YtbdhibgljaelbaaDoor
namespace Go.Proofs.YtbdhibgljaelbaaDoor
open Go Go.RowKit Go.Sort Go.Shelf
namespace Lb
open Wd Nt Gr
set_option linter.unusedVariables false
set_option linter.unusedSimpArgs false
/-- what a comparison answers -/
def IffA {α : Type} (x y : α) (w : World) (e : Ending) (w' : World) : Prop := (∃ r : Bool, e = .returned (.bool r) ∧ (r = true ↔ x = y)) ∧ ∃ q, w' = w.drewN q
set_option maxRecDepth 100000 in
theorem bufEq (x y : Bf) (W : World) : ∃ r : Bool, (Op.equalIn 10000 29 (.agg #[.int .i64 x.sz, .int .i64 x.kd, .bool x.sec]) (.agg #[.int .i64 y.sz, .int .i64 y.kd, .bool y.sec])).run Tryd.prog W = .ok r W ∧ (r = true ↔ x = y) := by
  obtain ⟨a, b, c⟩ := x
  obtain ⟨a', b', c'⟩ := y
  dsimp only
  refine ⟨decide (a = a') && decide (b = b') && decide (c = c'), ?_, by simp [and_assoc]⟩
  have u3 := Tryd.underlying3
  have a3 := Tryd.isAgg3
  have z3 := Tryd.sizeOf3
  have u4 := Tryd.underlying4
  have a4 := Tryd.isAgg4
  have z4 := Tryd.sizeOf4
  have hS : Tryd.prog.underlying 29 = some (.struct (Tryd.prog.fieldsOf 29)) := by kernel_rfl
  have hp : Tryd.prog.stoodInHeld 29 = false := by kernel_rfl
  rw [show (10000 : Nat) = 9999 + 1 from rfl, run_equalIn_agg W 9999 29 _ _ hS hp]
  simp only [Program.fieldsOf, Tryd.underlying29]
  go_simp
  by_cases h1 : a = a'
  case neg => simp [h1]
  by_cases h2 : b = b'
  case neg => simp [h1, h2]
  cases c <;> cases c' <;> simp [h1, h2]
set_option maxRecDepth 100000 in
set_option maxHeartbeats 2000000 in
theorem opEq (x y : Op) (W : World) : ∃ r : Bool, (Go.Op.equalIn 10000 33 (.agg #[.int .i64 x.k, .int .i64 x.d, .int .i64 x.e, .int .i64 x.a, .int .i64 x.b, .int .i64 x.c, .int .i64 x.bf, .int .u64 x.im]) (.agg #[.int .i64 y.k, .int .i64 y.d, .int .i64 y.e, .int .i64 y.a, .int .i64 y.b, .int .i64 y.c, .int .i64 y.bf, .int .u64 y.im])).run Tryd.prog W = .ok r W ∧ (r = true ↔ x = y) := by
  obtain ⟨a1, a2, a3, a4, a5, a6, a7, a8⟩ := x
  obtain ⟨b1, b2, b3, b4, b5, b6, b7, b8⟩ := y
  dsimp only
  refine ⟨decide (a1 = b1) && decide (a2 = b2) && decide (a3 = b3) && decide (a4 = b4) && decide (a5 = b5) && decide (a6 = b6) && decide (a7 = b7) && decide (a8 = b8), ?_, by simp [and_assoc]⟩
  have u3 := Tryd.underlying3
  have i3 := Tryd.isAgg3
  have z3 := Tryd.sizeOf3
  have u4 := Tryd.underlying31
  have i4 := Tryd.isAgg31
  have z4 := Tryd.sizeOf31
  have hS : Tryd.prog.underlying 33 = some (.struct (Tryd.prog.fieldsOf 33)) := by kernel_rfl
  have hp : Tryd.prog.stoodInHeld 33 = false := by kernel_rfl
  rw [show (10000 : Nat) = 9999 + 1 from rfl, run_equalIn_agg W 9999 33 _ _ hS hp]
  simp only [Program.fieldsOf, Tryd.underlying33]
  go_simp
  by_cases h1 : a1 = b1
  case neg => simp [h1]
  by_cases h2 : a2 = b2
  case neg => simp [h1, h2]
  by_cases h3 : a3 = b3
  case neg => simp [h1, h2, h3]
  by_cases h4 : a4 = b4
  case neg => simp [h1, h2, h3, h4]
  by_cases h5 : a5 = b5
  case neg => simp [h1, h2, h3, h4, h5]
  by_cases h6 : a6 = b6
  case neg => simp [h1, h2, h3, h4, h5, h6]
  by_cases h7 : a7 = b7
  case neg => simp [h1, h2, h3, h4, h5, h6, h7]
  by_cases h8 : a8 = b8 <;> simp [h1, h2, h3, h4, h5, h6, h7, h8]
set_option maxRecDepth 100000 in
set_option maxHeartbeats 4000000 in
theorem equal_b (A B : Option Addr) (n c m d Ba Bb : Nat) (xs ys : List Bf) (w : World) (ha : Rdr w Ba A n xs) (hb : Rdr w Bb B m ys) (hn : n ≤ 1000000) (hm : m ≤ 1000000) :
    Calls Tryd.prog 41 #[.slice A n c, .slice B m d] w (IffA xs ys w) := by
  unfold IffA
  by_cases hnm : n = m
  · subst hnm
    have HLA := Lib.hid ha.len
    have HLB := Lib.hid hb.len
    go_enter Tryd.func41, Tryd.ntmps41
    go_wp2_with fail
    go_loopw [13] (fun i wr => ∃ k q : Nat, k ≤ n ∧ i = .int .i64 k ∧ Hid (xs.take k = ys.take k) ∧ wr = w.drewN q) (fun i _ => n - (intOf i).toNat)
    case atStart => exact ⟨0, 0, Nat.zero_le _, rfl, Lib.hid rfl, rfl⟩
    case round =>
      obtain ⟨k, q, hk, rfl, hz, rfl⟩ := hrel
      by_cases hlt : k < n
      · obtain ⟨x, hx⟩ : ∃ x, xs[k]? = some x := ⟨_, List.getElem?_eq_getElem (by rw [HLA.out]; exact hlt)⟩
        obtain ⟨y, hy⟩ : ∃ y, ys[k]? = some y := ⟨_, List.getElem?_eq_getElem (by rw [HLB.out]; exact hlt)⟩
        obtain ⟨ab, ao, rfl, _, p0, p1, p2⟩ := bf_at ha hx
        obtain ⟨bb, bo, rfl, _, q0, q1, q2⟩ := bf_at hb hy
        have hki : (k : Int) < (n : Int) := by omega
        have hk0 : (0 : Int) ≤ (k : Int) := by omega
        by_cases hxy : x = y
        · have HZ : Hid (xs.take (k + 1) = ys.take (k + 1)) := Lib.hid (take_more hz.out hx (by rw [hxy]; exact hy))
          have hne2 : ∀ W, (Go.Op.equalIn 10000 29 (.agg #[.int .i64 x.sz, .int .i64 x.kd, .bool x.sec]) (.agg #[.int .i64 y.sz, .int .i64 y.kd, .bool y.sec])).run Tryd.prog W = .ok true W := fun W => by obtain ⟨r, h1, h2⟩ := bufEq x y W; rw [h2.2 hxy] at h1; exact h1
          obtain ⟨x1, x2, x3⟩ := x
          obtain ⟨y1, y2, y3⟩ := y
          dsimp only at p0 p1 p2 q0 q1 q2 hne2
          clear hxy hx hy hz ha hb
          go_wp2_with fail
          go_quiet (fail)
          go_wp2_with fail
          go_roundw
          case rel => exact ⟨k + 1, _, by omega, by go_num, HZ, rfl⟩
          case measure => (simp [intOf] <;> omega)
        · have HN := Lib.hid (ne_at hx hy hxy)
          have hne2 : ∀ W, (Go.Op.equalIn 10000 29 (.agg #[.int .i64 x.sz, .int .i64 x.kd, .bool x.sec]) (.agg #[.int .i64 y.sz, .int .i64 y.kd, .bool y.sec])).run Tryd.prog W = .ok false W := fun W => by obtain ⟨r, h1, h2⟩ := bufEq x y W; rw [Bool.eq_false_iff.2 (fun e => hxy (h2.1 e))] at h1; exact h1
          obtain ⟨x1, x2, x3⟩ := x
          obtain ⟨y1, y2, y3⟩ := y
          dsimp only at p0 p1 p2 q0 q1 q2 hne2
          clear hxy hx hy hz ha hb
          go_wp2_with fail
          go_quiet (fail)
          go_wp2_with fail
          go_ret
          exact ⟨⟨false, rfl, by simpa using HN.out⟩, _, World.drewN_drewN _ _ _⟩
      · obtain rfl : k = n := by omega
        have HE := Lib.hid (take_all hz.out HLA.out HLB.out)
        clear hz ha hb
        go_wp2_with fail
        go_ret
        exact ⟨⟨true, rfl, by simpa using HE.out⟩, _, rfl⟩
  · have hne : xs ≠ ys := fun e => hnm (by rw [← ha.len, ← hb.len, e])
    have HN := Lib.hid hne
    clear hne ha hb
    have hmi : ¬ ((n : Int) = (m : Int)) := by omega
    have hmb : ((n : Int) == (m : Int)) = false := by rw [beq_eq_false_iff_ne]; exact hmi
    have hmn : ((n : Int) != (m : Int)) = true := by rw [bne, hmb]; rfl
    go_enter Tryd.func41, Tryd.ntmps41
    go_wp2_with fail
    go_ret
    exact ⟨⟨false, rfl, by simpa using HN.out⟩, 0, rfl⟩
set_option maxRecDepth 100000 in
set_option maxHeartbeats 4000000 in
theorem equal_o (A B : Option Addr) (n c m d Ba Bb : Nat) (xs ys : List Op) (w : World) (ha : Rdr w Ba A n xs) (hb : Rdr w Bb B m ys) (hn : n ≤ 1000000) (hm : m ≤ 1000000) :
    Calls Tryd.prog 42 #[.slice A n c, .slice B m d] w (IffA xs ys w) := by
  unfold IffA
  by_cases hnm : n = m
  · subst hnm
    have HLA := Lib.hid ha.len
    have HLB := Lib.hid hb.len
    go_enter Tryd.func42, Tryd.ntmps42
    go_wp2_with fail
    go_loopw [13] (fun i wr => ∃ k q : Nat, k ≤ n ∧ i = .int .i64 k ∧ Hid (xs.take k = ys.take k) ∧ wr = w.drewN q) (fun i _ => n - (intOf i).toNat)
    case atStart => exact ⟨0, 0, Nat.zero_le _, rfl, Lib.hid rfl, rfl⟩
    case round =>
      obtain ⟨k, q, hk, rfl, hz, rfl⟩ := hrel
      by_cases hlt : k < n
      · obtain ⟨x, hx⟩ : ∃ x, xs[k]? = some x := ⟨_, List.getElem?_eq_getElem (by rw [HLA.out]; exact hlt)⟩
        obtain ⟨y, hy⟩ : ∃ y, ys[k]? = some y := ⟨_, List.getElem?_eq_getElem (by rw [HLB.out]; exact hlt)⟩
        obtain ⟨ab, ao, rfl, _, p0, p1, p2, p3, p4, p5, p6, p7⟩ := op_at ha hx
        obtain ⟨bb, bo, rfl, _, q0, q1, q2, q3, q4, q5, q6, q7⟩ := op_at hb hy
        have hki : (k : Int) < (n : Int) := by omega
        have hk0 : (0 : Int) ≤ (k : Int) := by omega
        by_cases hxy : x = y
        · have HZ : Hid (xs.take (k + 1) = ys.take (k + 1)) := Lib.hid (take_more hz.out hx (by rw [hxy]; exact hy))
          have hne2 : ∀ W, (Go.Op.equalIn 10000 33 (.agg #[.int .i64 x.k, .int .i64 x.d, .int .i64 x.e, .int .i64 x.a, .int .i64 x.b, .int .i64 x.c, .int .i64 x.bf, .int .u64 x.im]) (.agg #[.int .i64 y.k, .int .i64 y.d, .int .i64 y.e, .int .i64 y.a, .int .i64 y.b, .int .i64 y.c, .int .i64 y.bf, .int .u64 y.im])).run Tryd.prog W = .ok true W := fun W => by obtain ⟨r, h1, h2⟩ := opEq x y W; rw [h2.2 hxy] at h1; exact h1
          obtain ⟨x1, x2, x3, x4, x5, x6, x7, x8⟩ := x
          obtain ⟨y1, y2, y3, y4, y5, y6, y7, y8⟩ := y
          dsimp only at p0 p1 p2 p3 p4 p5 p6 p7 q0 q1 q2 q3 q4 q5 q6 q7 hne2
          clear hxy hx hy hz ha hb
          go_wp2_with fail
          go_quiet (fail)
          go_wp2_with fail
          go_roundw
          case rel => exact ⟨k + 1, _, by omega, by go_num, HZ, rfl⟩
          case measure => (simp [intOf] <;> omega)
        · have HN := Lib.hid (ne_at hx hy hxy)
          have hne2 : ∀ W, (Go.Op.equalIn 10000 33 (.agg #[.int .i64 x.k, .int .i64 x.d, .int .i64 x.e, .int .i64 x.a, .int .i64 x.b, .int .i64 x.c, .int .i64 x.bf, .int .u64 x.im]) (.agg #[.int .i64 y.k, .int .i64 y.d, .int .i64 y.e, .int .i64 y.a, .int .i64 y.b, .int .i64 y.c, .int .i64 y.bf, .int .u64 y.im])).run Tryd.prog W = .ok false W := fun W => by obtain ⟨r, h1, h2⟩ := opEq x y W; rw [Bool.eq_false_iff.2 (fun e => hxy (h2.1 e))] at h1; exact h1
          obtain ⟨x1, x2, x3, x4, x5, x6, x7, x8⟩ := x
          obtain ⟨y1, y2, y3, y4, y5, y6, y7, y8⟩ := y
          dsimp only at p0 p1 p2 p3 p4 p5 p6 p7 q0 q1 q2 q3 q4 q5 q6 q7 hne2
          clear hxy hx hy hz ha hb
          go_wp2_with fail
          go_quiet (fail)
          go_wp2_with fail
          go_ret
          exact ⟨⟨false, rfl, by simpa using HN.out⟩, _, World.drewN_drewN _ _ _⟩
      · obtain rfl : k = n := by omega
        have HE := Lib.hid (take_all hz.out HLA.out HLB.out)
        clear hz ha hb
        go_wp2_with fail
        go_ret
        exact ⟨⟨true, rfl, by simpa using HE.out⟩, _, rfl⟩
  · have hne : xs ≠ ys := fun e => hnm (by rw [← ha.len, ← hb.len, e])
    have HN := Lib.hid hne
    clear hne ha hb
    have hmi : ¬ ((n : Int) = (m : Int)) := by omega
    have hmb : ((n : Int) == (m : Int)) = false := by rw [beq_eq_false_iff_ne]; exact hmi
    have hmn : ((n : Int) != (m : Int)) = true := by rw [bne, hmb]; rfl
    go_enter Tryd.func42, Tryd.ntmps42
    go_wp2_with fail
    go_ret
    exact ⟨⟨false, rfl, by simpa using HN.out⟩, 0, rfl⟩
theorem pg_ext {p q : Pg} : p = q ↔ (p.rg = q.rg ∧ p.bf = q.bf ∧ p.op = q.op) := by
  obtain ⟨a, b, c⟩ := p
  obtain ⟨a', b', c'⟩ := q
  simp
set_option maxRecDepth 100000 in
set_option maxHeartbeats 4000000 in
theorem psame_l (p q : Pg) (A X A2 X2 : Option Addr) (c d c2 d2 : Nat) (w : World) (hR : Rdr w w.heap.size A p.bf.length p.bf) (hX : Rdr w w.heap.size X p.op.length p.op) (hR2 : Rdr w w.heap.size A2 q.bf.length q.bf) (hX2 : Rdr w w.heap.size X2 q.op.length q.op) (hn : p.bf.length ≤ 1000000 ∧ p.op.length ≤ 1000000 ∧ q.bf.length ≤ 1000000 ∧ q.op.length ≤ 1000000) :
    Calls Tryd.prog 18 #[pgV p A c X d, pgV q A2 c2 X2 d2] w fun e w' => (∃ r : Bool, e = .returned (.bool r) ∧ (r = true ↔ p = q)) ∧ Below w.heap.size w w' := by
  have KB := Lib.hid (fun (W : World) (hb : Below w.heap.size w W) => equal_b A A2 p.bf.length c q.bf.length c2 _ _ p.bf q.bf W (hR.below hb) (hR2.below hb) hn.1 hn.2.2.1)
  have KO := Lib.hid (fun (W : World) (hb : Below w.heap.size w W) => equal_o X X2 p.op.length d q.op.length d2 _ _ p.op q.op W (hX.below hb) (hX2.below hb) hn.2.1 hn.2.2.2)
  have HE := Lib.hid (@pg_ext p q)
  unfold IffA at KB KO
  unfold pgV
  clear hR hX hR2 hX2 hn
  have HB0 := Lib.hid (bel_al' (bel_al (w := w) (.cells #[.int .i64 p.rg, .slice A p.bf.length c, .slice X p.op.length d] 26)) (.cells #[.int .i64 q.rg, .slice A2 q.bf.length c2, .slice X2 q.op.length d2] 26))
  have HK0 : Hid (Bk ((w.alloc (.cells #[.int .i64 p.rg, .slice A p.bf.length c, .slice X p.op.length d] 26)).alloc (.cells #[.int .i64 q.rg, .slice A2 q.bf.length c2, .slice X2 q.op.length d2] 26)) w.heap.size 26 #[.int .i64 p.rg, .slice A p.bf.length c, .slice X p.op.length d]) := Lib.hid ((Bk.new w _ _).alloc _)
  have HZ0 : Hid (Bk ((w.alloc (.cells #[.int .i64 p.rg, .slice A p.bf.length c, .slice X p.op.length d] 26)).alloc (.cells #[.int .i64 q.rg, .slice A2 q.bf.length c2, .slice X2 q.op.length d2] 26)) (w.heap.size + 1) 26 #[.int .i64 q.rg, .slice A2 q.bf.length c2, .slice X2 q.op.length d2]) := Lib.hid (Bk.new' (by simp))
  obtain ⟨W0, hW0⟩ : ∃ W0, W0 = ((w.alloc (.cells #[.int .i64 p.rg, .slice A p.bf.length c, .slice X p.op.length d] 26)).alloc (.cells #[.int .i64 q.rg, .slice A2 q.bf.length c2, .slice X2 q.op.length d2] 26)) := ⟨_, rfl⟩
  have HW0 := Lib.hid hW0
  rw [← hW0] at HB0 HK0 HZ0
  clear hW0
  obtain ⟨a0, a1, a2⟩ := c3 HK0.out
  obtain ⟨b0, b1, b2⟩ := c3 HZ0.out
  generalize p.bf.length = n1 at *
  generalize p.op.length = n2 at *
  generalize q.bf.length = n3 at *
  generalize q.op.length = n4 at *
  go_enter Tryd.func18, Tryd.ntmps18
  go_upto_region 1 with fail
  rw [← HW0.out]
  clear HW0
  by_cases h1 : p.rg = q.rg
  case neg =>
    have HN := Lib.hid (show ¬ (p = q) from fun e => h1 (by rw [e]))
    have hb : (p.rg == q.rg) = false := by rw [beq_eq_false_iff_ne]; exact h1
    clear h1
    generalize p.rg = r1 at *
    generalize q.rg = r2 at *
    go_wp2_with fail
    go_ret
    exact ⟨⟨false, rfl, by simpa using HN.out⟩, HB0.out⟩
  have hb : (p.rg == q.rg) = true := by rw [beq_iff_eq]; exact h1
  have H1 := Lib.hid h1
  clear h1
  generalize p.rg = r1 at *
  generalize q.rg = r2 at *
  go_wp2_with fail
  go_at_call 41
  refine (KB.out _ HB0.out).mono ?_
  rintro e w1 ⟨⟨r, rfl, hr⟩, q1, rfl⟩
  cases r
  · have HN := Lib.hid (show ¬ (p = q) from fun e => absurd (hr.2 (by rw [e])) (by decide))
    clear hr
    go_wp2_with fail
    go_ret
    exact ⟨⟨false, rfl, by simpa using HN.out⟩, below_drewN HB0.out _⟩
  have H2 := Lib.hid (hr.1 rfl)
  clear hr
  have HB1 := Lib.hid (below_drewN HB0.out q1)
  have a2' : (W0.drewN q1).cell? ⟨w.heap.size, 2, none⟩ = some (.slice X n2 d) := a2
  have b2' : (W0.drewN q1).cell? ⟨w.heap.size + 1, 2, none⟩ = some (.slice X2 n4 d2) := b2
  go_wp2_with fail
  go_at_call 42
  refine (KO.out _ HB1.out).mono ?_
  rintro e w2 ⟨⟨r, rfl, hr⟩, q2, rfl⟩
  have HR := Lib.hid (show r = true ↔ p = q from ⟨fun e => HE.out.2 ⟨H1.out, H2.out, hr.1 e⟩, fun e => hr.2 (by rw [e])⟩)
  clear hr
  go_wp2_with fail
  go_ret
  exact ⟨⟨r, rfl, HR.out⟩, below_drewN HB0.out _⟩
/-- what Clone answers -/
def clone_bA (xs : List Bf) (w : World) (e : Ending) (w' : World) : Prop := Below w.heap.size w w' ∧ ∃ A c, e = .returned (.slice A xs.length c) ∧ Rws 29 w.heap.size (.slice A xs.length c) xs w'
set_option maxRecDepth 100000 in
theorem clone_b (A : Option Addr) (n c : Nat) (xs : List Bf) (w : World) (h : Rdr w w.heap.size A n xs) (hn : n ≤ 100000) :
    Calls Tryd.prog 43 #[.slice A n c] w (clone_bA xs w) := by
  unfold clone_bA
  rcases A with _ | ad
  · obtain rfl : n = 0 := by
      rcases Nat.eq_zero_or_pos n with h0 | h0
      · exact h0
      · obtain ⟨b, o, e, _⟩ := h.rd h0
        cases e
    have hx : xs = [] := List.eq_nil_of_length_eq_zero h.len
    subst hx
    clear h
    have hnil : ∀ W, (binOp .eql 23 (.slice none 0 c) (.slice none 0 0)).run Tryd.prog W = .ok (.bool true) W := fun W => Go.Lib.run_eql_slice_nil (P := Tryd.prog) W 23 29 none 0 c 0 0 Tryd.underlying23
    go_enter Tryd.func43, Tryd.ntmps43
    go_wp2_with fail
    go_ret
    exact ⟨Below.refl _ _, none, 0, rfl, World.ownsRow_nil _ _ _ _⟩
  obtain ⟨i, hi, hz, h2, h3⟩ := info_parts info_bf
  obtain ⟨g, c', w3, hap, hb3, hS⟩ := own_run (c := c) 23 29 i _ 24 Tryd.underlying23 hi hz h2 h3 rfl (by omega) h hn
  have hP : Hid (Below w.heap.size w w3 ∧ ∃ A c, (Ending.returned (.slice (some ⟨g, 0, none⟩) n c')) = .returned (.slice A xs.length c) ∧ Rws 29 w.heap.size (.slice A xs.length c) xs w3) := Lib.hid ⟨hb3, some ⟨g, 0, none⟩, c', by rw [h.len], by rw [h.len]; exact hS⟩
  clear hi hz h2 h3 hb3 hS h
  have hnil : ∀ W, (binOp .eql 23 (.slice (some ad) n c) (.slice none 0 0)).run Tryd.prog W = .ok (.bool false) W := fun W => Go.Lib.run_eql_slice_nil (P := Tryd.prog) W 23 29 (some ad) n c 0 0 Tryd.underlying23
  go_enter Tryd.func43, Tryd.ntmps43
  go_wp2_with (at_builtin; refine wpList_append_eq rfl _ _ 23 rfl _ _ rfl rfl _ _ hap ?_)
  go_ret
  exact hP.out
/-- what Clone answers -/
def clone_oA (xs : List Op) (w : World) (e : Ending) (w' : World) : Prop := Below w.heap.size w w' ∧ ∃ A c, e = .returned (.slice A xs.length c) ∧ Rws 33 w.heap.size (.slice A xs.length c) xs w'
set_option maxRecDepth 100000 in
theorem clone_o (A : Option Addr) (n c : Nat) (xs : List Op) (w : World) (h : Rdr w w.heap.size A n xs) (hn : n ≤ 100000) :
    Calls Tryd.prog 44 #[.slice A n c] w (clone_oA xs w) := by
  unfold clone_oA
  rcases A with _ | ad
  · obtain rfl : n = 0 := by
      rcases Nat.eq_zero_or_pos n with h0 | h0
      · exact h0
      · obtain ⟨b, o, e, _⟩ := h.rd h0
        cases e
    have hx : xs = [] := List.eq_nil_of_length_eq_zero h.len
    subst hx
    clear h
    have hnil : ∀ W, (binOp .eql 24 (.slice none 0 c) (.slice none 0 0)).run Tryd.prog W = .ok (.bool true) W := fun W => Go.Lib.run_eql_slice_nil (P := Tryd.prog) W 24 33 none 0 c 0 0 Tryd.underlying24
    go_enter Tryd.func44, Tryd.ntmps44
    go_wp2_with fail
    go_ret
    exact ⟨Below.refl _ _, none, 0, rfl, World.ownsRow_nil _ _ _ _⟩
  obtain ⟨i, hi, hz, h2, h3⟩ := info_parts info_lop
  obtain ⟨g, c', w3, hap, hb3, hS⟩ := own_run (c := c) 24 33 i _ 64 Tryd.underlying24 hi hz h2 h3 rfl (by omega) h hn
  have hP : Hid (Below w.heap.size w w3 ∧ ∃ A c, (Ending.returned (.slice (some ⟨g, 0, none⟩) n c')) = .returned (.slice A xs.length c) ∧ Rws 33 w.heap.size (.slice A xs.length c) xs w3) := Lib.hid ⟨hb3, some ⟨g, 0, none⟩, c', by rw [h.len], by rw [h.len]; exact hS⟩
  clear hi hz h2 h3 hb3 hS h
  have hnil : ∀ W, (binOp .eql 24 (.slice (some ad) n c) (.slice none 0 0)).run Tryd.prog W = .ok (.bool false) W := fun W => Go.Lib.run_eql_slice_nil (P := Tryd.prog) W 24 33 (some ad) n c 0 0 Tryd.underlying24
  go_enter Tryd.func44, Tryd.ntmps44
  go_wp2_with (at_builtin; refine wpList_append_eq rfl _ _ 24 rfl _ _ rfl rfl _ _ hap ?_)
  go_ret
  exact hP.out
end Lb
end Go.Proofs.YtbdhibgljaelbaaDoor
namespace Go.Proofs.YtbdhibgljaelbaaDoor
open Go Go.RowKit Go.Sort Go.Shelf
namespace Lb
open Wd Nt Gr
set_option linter.unusedVariables false
set_option linter.unusedSimpArgs false
/-- what a comparison of programs answers -/
def IffB (p q : Pg) (w : World) (e : Ending) (w' : World) : Prop := (∃ r : Bool, e = .returned (.bool r) ∧ (r = true ↔ p = q)) ∧ Below w.heap.size w w'
set_option maxRecDepth 100000 in
set_option maxHeartbeats 8000000 in
theorem psame_r (p q : Pg) (A X A2 X2 : Option Addr) (c d c2 d2 : Nat) (w : World) (hR : Rdr w w.heap.size A p.bf.length p.bf) (hX : Rdr w w.heap.size X p.op.length p.op) (hR2 : Rdr w w.heap.size A2 q.bf.length q.bf) (hX2 : Rdr w w.heap.size X2 q.op.length q.op) (hn : p.bf.length ≤ 1000000 ∧ p.op.length ≤ 1000000 ∧ q.bf.length ≤ 1000000 ∧ q.op.length ≤ 1000000) :
    Calls Tryd.prog 26 #[pgV p A c X d, pgV q A2 c2 X2 d2] w fun e w' => (∃ r : Bool, e = .returned (.bool r) ∧ (r = true ↔ p = q)) ∧ Below w.heap.size w w' := by
  show Calls Tryd.prog 26 #[pgV p A c X d, pgV q A2 c2 X2 d2] w (IffB p q w)
  have HE := Lib.hid (@pg_ext p q)
  unfold pgV
  have HB0 := Lib.hid (bel_al' (bel_al (w := w) (.cells #[.int .i64 p.rg, .slice A p.bf.length c, .slice X p.op.length d] 26)) (.cells #[.int .i64 q.rg, .slice A2 q.bf.length c2, .slice X2 q.op.length d2] 26))
  have HK0 : Hid (Bk ((w.alloc (.cells #[.int .i64 p.rg, .slice A p.bf.length c, .slice X p.op.length d] 26)).alloc (.cells #[.int .i64 q.rg, .slice A2 q.bf.length c2, .slice X2 q.op.length d2] 26)) w.heap.size 26 #[.int .i64 p.rg, .slice A p.bf.length c, .slice X p.op.length d]) := Lib.hid ((Bk.new w _ _).alloc _)
  have HZ0 : Hid (Bk ((w.alloc (.cells #[.int .i64 p.rg, .slice A p.bf.length c, .slice X p.op.length d] 26)).alloc (.cells #[.int .i64 q.rg, .slice A2 q.bf.length c2, .slice X2 q.op.length d2] 26)) (w.heap.size + 1) 26 #[.int .i64 q.rg, .slice A2 q.bf.length c2, .slice X2 q.op.length d2]) := Lib.hid (Bk.new' (by simp))
  obtain ⟨W0, hW0⟩ : ∃ W0, W0 = ((w.alloc (.cells #[.int .i64 p.rg, .slice A p.bf.length c, .slice X p.op.length d] 26)).alloc (.cells #[.int .i64 q.rg, .slice A2 q.bf.length c2, .slice X2 q.op.length d2] 26)) := ⟨_, rfl⟩
  have HW0 := Lib.hid hW0
  rw [← hW0] at HB0 HK0 HZ0
  clear hW0
  have HA := Lib.hid (hR.below HB0.out)
  have HX := Lib.hid (hX.below HB0.out)
  have HA2 := Lib.hid (hR2.below HB0.out)
  have HX2 := Lib.hid (hX2.below HB0.out)
  clear hR hX hR2 hX2
  obtain ⟨a0, a1, a2⟩ := c3 HK0.out
  obtain ⟨b0, b1, b2⟩ := c3 HZ0.out
  obtain ⟨n1, e1⟩ : ∃ n, p.bf.length = n := ⟨_, rfl⟩
  obtain ⟨n2, e2⟩ : ∃ n, p.op.length = n := ⟨_, rfl⟩
  obtain ⟨n3, e3⟩ : ∃ n, q.bf.length = n := ⟨_, rfl⟩
  obtain ⟨n4, e4⟩ : ∃ n, q.op.length = n := ⟨_, rfl⟩
  have HL1 := Lib.hid e1
  have HL2 := Lib.hid e2
  have HL3 := Lib.hid e3
  have HL4 := Lib.hid e4
  rw [e1, e2, e3, e4] at hn HW0 
  rw [e1, e2] at HK0
  rw [e3, e4] at HZ0
  rw [e1] at HA a1
  rw [e2] at HX a2
  rw [e3] at HA2 b1
  rw [e4] at HX2 b2
  rw [e1, e2, e3, e4]
  clear e1 e2 e3 e4
  obtain ⟨m1, m2, m3, m4⟩ := hn
  go_enter Tryd.func26, Tryd.ntmps26
  go_upto_region 1 with fail
  rw [← HW0.out]
  clear HW0
  by_cases h1 : p.rg = q.rg
  case neg =>
    have HN := Lib.hid (show ¬ (p = q) from fun e => h1 (by rw [e]))
    have hb : (p.rg != q.rg) = true := by rw [bne_iff_ne]; exact h1
    clear h1
    generalize p.rg = r1 at *
    generalize q.rg = r2 at *
    go_wp2_with fail
    go_ret
    unfold IffB
    exact ⟨⟨false, rfl, by simpa using HN.out⟩, HB0.out⟩
  have hb : (p.rg != q.rg) = false := by rw [h1]; simp
  have H1 := Lib.hid h1
  clear h1
  by_cases h2 : n1 = n3
  case neg =>
    have HN := Lib.hid (show ¬ (p = q) from fun e => h2 (by rw [← HL1.out, ← HL3.out, e]))
    have hb2 : ((n1 : Int) != (n3 : Int)) = true := by rw [bne_iff_ne]; omega
    clear h2
    generalize p.rg = r1 at *
    generalize q.rg = r2 at *
    go_wp2_with fail
    go_ret
    unfold IffB
    exact ⟨⟨false, rfl, by simpa using HN.out⟩, HB0.out⟩
  subst h2
  have hb2 : ((n1 : Int) != (n1 : Int)) = false := by simp
  by_cases h3 : n2 = n4
  case neg =>
    have HN := Lib.hid (show ¬ (p = q) from fun e => h3 (by rw [← HL2.out, ← HL4.out, e]))
    have hb3 : ((n2 : Int) != (n4 : Int)) = true := by rw [bne_iff_ne]; omega
    clear h3
    generalize p.rg = r1 at *
    generalize q.rg = r2 at *
    go_wp2_with fail
    go_ret
    unfold IffB
    exact ⟨⟨false, rfl, by simpa using HN.out⟩, HB0.out⟩
  subst h3
  have hb3 : ((n2 : Int) != (n2 : Int)) = false := by simp
  generalize p.rg = r1 at *
  generalize q.rg = r2 at *
  go_wp2_with fail
  go_loopw [5] (fun i W => ∃ k q0 : Nat, k ≤ n1 ∧ i = .int .i64 (k : Int) ∧ Hid (p.bf.take k = q.bf.take k) ∧ W = W0.drewN q0) (fun i _ => n1 - (intOf i).toNat)
  case atStart => exact ⟨0, 0, Nat.zero_le _, rfl, Lib.hid rfl, rfl⟩
  case round =>
    obtain ⟨k, q0, hk, rfl, hz, rfl⟩ := hrel
    rcases Nat.lt_or_ge k n1 with hlt | hge
    · obtain ⟨x, hx⟩ : ∃ x, p.bf[k]? = some x := ⟨_, List.getElem?_eq_getElem (by rw [HL1.out]; exact hlt)⟩
      obtain ⟨y, hy⟩ : ∃ y, q.bf[k]? = some y := ⟨_, List.getElem?_eq_getElem (by rw [HL3.out]; exact hlt)⟩
      obtain ⟨ab, ao, rfl, _, p0, p1, p2⟩ := bf_at HA.out hx
      obtain ⟨bb, bo, rfl, _, q1, q2, q3⟩ := bf_at HA2.out hy
      have hki : (k : Int) < (n1 : Int) := by omega
      have hk0 : (0 : Int) ≤ (k : Int) := by omega
      have ew : IntKind.i64.wrap ((k : Int) + 1) = ((k + 1 : Nat) : Int) := by rw [show (k : Int) + 1 = ((k + 1 : Nat) : Int) by omega]; exact IntWalk.i64_in _ (by omega)
      by_cases hxy : x = y
      · have HZ : Hid (p.bf.take (k + 1) = q.bf.take (k + 1)) := Lib.hid (take_more hz.out hx (by rw [hxy]; exact hy))
        have hne2 : ∀ W, (Go.Op.equalIn 10000 29 (.agg #[.int .i64 x.sz, .int .i64 x.kd, .bool x.sec]) (.agg #[.int .i64 y.sz, .int .i64 y.kd, .bool y.sec])).run Tryd.prog W = .ok true W := fun W => by obtain ⟨r, h1, h2⟩ := bufEq x y W; rw [h2.2 hxy] at h1; exact h1
        obtain ⟨x1, x2, x3⟩ := x
        obtain ⟨y1, y2, y3⟩ := y
        dsimp only at p0 p1 p2 q1 q2 q3 hne2
        clear hxy hx hy hz
        go_wp2_with fail
        go_quiet (fail)
        go_wp2_with fail
        go_roundw
        case rel => exact ⟨k + 1, _, by omega, by first | rfl | go_num, HZ, rfl⟩
        case measure => (simp [intOf] <;> omega)
      · have HN := Lib.hid (show ¬ (p = q) from fun e => ne_at hx hy hxy (by rw [e]))
        have hne2 : ∀ W, (Go.Op.equalIn 10000 29 (.agg #[.int .i64 x.sz, .int .i64 x.kd, .bool x.sec]) (.agg #[.int .i64 y.sz, .int .i64 y.kd, .bool y.sec])).run Tryd.prog W = .ok false W := fun W => by obtain ⟨r, h1, h2⟩ := bufEq x y W; rw [Bool.eq_false_iff.2 (fun e => hxy (h2.1 e))] at h1; exact h1
        obtain ⟨x1, x2, x3⟩ := x
        obtain ⟨y1, y2, y3⟩ := y
        dsimp only at p0 p1 p2 q1 q2 q3 hne2
        clear hxy hx hy hz
        go_wp2_with fail
        go_quiet (fail)
        go_wp2_with fail
        go_ret
        unfold IffB
        exact ⟨⟨false, rfl, by simpa using HN.out⟩, below_drewN (below_drewN HB0.out _) _⟩
    · obtain rfl : k = n1 := by omega
      have HBF := Lib.hid (take_all hz.out HL1.out HL3.out)
      have hki : ¬ (k : Int) < (k : Int) := by omega
      clear hz
      have HB1 := Lib.hid (below_drewN HB0.out q0)
      go_wp2_with fail
      go_loopw [6] (fun i W => ∃ k q1 : Nat, k ≤ n2 ∧ i = .int .i64 (k : Int) ∧ Hid (p.op.take k = q.op.take k) ∧ W = W0.drewN q1) (fun i _ => n2 - (intOf i).toNat)
      case atStart => exact ⟨0, q0, Nat.zero_le _, rfl, Lib.hid rfl, rfl⟩
      case round =>
        obtain ⟨k, q1, hk, rfl, hz, rfl⟩ := hrel
        rcases Nat.lt_or_ge k n2 with hlt | hge
        · obtain ⟨x, hx⟩ : ∃ x, p.op[k]? = some x := ⟨_, List.getElem?_eq_getElem (by rw [HL2.out]; exact hlt)⟩
          obtain ⟨y, hy⟩ : ∃ y, q.op[k]? = some y := ⟨_, List.getElem?_eq_getElem (by rw [HL4.out]; exact hlt)⟩
          obtain ⟨ab, ao, rfl, _, p0, p1, p2, p3, p4, p5, p6, p7⟩ := op_at HX.out hx
          obtain ⟨bb, bo, rfl, _, s0, s1, s2, s3, s4, s5, s6, s7⟩ := op_at HX2.out hy
          have hki : (k : Int) < (n2 : Int) := by omega
          have hk0 : (0 : Int) ≤ (k : Int) := by omega
          have ew : IntKind.i64.wrap ((k : Int) + 1) = ((k + 1 : Nat) : Int) := by rw [show (k : Int) + 1 = ((k + 1 : Nat) : Int) by omega]; exact IntWalk.i64_in _ (by omega)
          by_cases hxy : x = y
          · have HZ : Hid (p.op.take (k + 1) = q.op.take (k + 1)) := Lib.hid (take_more hz.out hx (by rw [hxy]; exact hy))
            have hne2 : ∀ W, (Go.Op.equalIn 10000 33 (.agg #[.int .i64 x.k, .int .i64 x.d, .int .i64 x.e, .int .i64 x.a, .int .i64 x.b, .int .i64 x.c, .int .i64 x.bf, .int .u64 x.im]) (.agg #[.int .i64 y.k, .int .i64 y.d, .int .i64 y.e, .int .i64 y.a, .int .i64 y.b, .int .i64 y.c, .int .i64 y.bf, .int .u64 y.im])).run Tryd.prog W = .ok true W := fun W => by obtain ⟨r, h1, h2⟩ := opEq x y W; rw [h2.2 hxy] at h1; exact h1
            obtain ⟨x1, x2, x3, x4, x5, x6, x7, x8⟩ := x
            obtain ⟨y1, y2, y3, y4, y5, y6, y7, y8⟩ := y
            dsimp only at p0 p1 p2 p3 p4 p5 p6 p7 s0 s1 s2 s3 s4 s5 s6 s7 hne2
            clear hxy hx hy hz
            go_wp2_with fail
            go_quiet (fail)
            go_wp2_with fail
            go_roundw
            case rel => exact ⟨k + 1, _, by omega, by first | rfl | go_num, HZ, rfl⟩
            case measure => (simp [intOf] <;> omega)
          · have HN := Lib.hid (show ¬ (p = q) from fun e => ne_at hx hy hxy (by rw [e]))
            have hne2 : ∀ W, (Go.Op.equalIn 10000 33 (.agg #[.int .i64 x.k, .int .i64 x.d, .int .i64 x.e, .int .i64 x.a, .int .i64 x.b, .int .i64 x.c, .int .i64 x.bf, .int .u64 x.im]) (.agg #[.int .i64 y.k, .int .i64 y.d, .int .i64 y.e, .int .i64 y.a, .int .i64 y.b, .int .i64 y.c, .int .i64 y.bf, .int .u64 y.im])).run Tryd.prog W = .ok false W := fun W => by obtain ⟨r, h1, h2⟩ := opEq x y W; rw [Bool.eq_false_iff.2 (fun e => hxy (h2.1 e))] at h1; exact h1
            obtain ⟨x1, x2, x3, x4, x5, x6, x7, x8⟩ := x
            obtain ⟨y1, y2, y3, y4, y5, y6, y7, y8⟩ := y
            dsimp only at p0 p1 p2 p3 p4 p5 p6 p7 s0 s1 s2 s3 s4 s5 s6 s7 hne2
            clear hxy hx hy hz
            go_wp2_with fail
            go_quiet (fail)
            go_wp2_with fail
            go_ret
            unfold IffB
            exact ⟨⟨false, rfl, by simpa using HN.out⟩, below_drewN (below_drewN HB0.out _) _⟩
        · obtain rfl : k = n2 := by omega
          have HOP := Lib.hid (take_all hz.out HL2.out HL4.out)
          have hki : ¬ (k : Int) < (k : Int) := by omega
          clear hz
          have HP : Hid (p = q) := Lib.hid (HE.out.2 ⟨H1.out, HBF.out, HOP.out⟩)
          clear HBF HOP H1
          go_wp2_with fail
          go_ret
          unfold IffB
          exact ⟨⟨true, rfl, by simpa using HP.out⟩, below_drewN HB0.out _⟩
/-- what Copy answers -/
def CopyA (p : Pg) (w : World) (e : Ending) (w' : World) : Prop := Below w.heap.size w w' ∧ ∃ A c X d, e = .returned (pgV p A c X d) ∧ Rws 29 w.heap.size (.slice A p.bf.length c) p.bf w' ∧ Rws 33 w.heap.size (.slice X p.op.length d) p.op w'
/-- what the region comes to -/
structure CpE (w W : World) (p : Pg) : Prop where
  ex : ∃ A c X d, Bk W (w.heap.size + 1) 26 #[.int .i64 p.rg, .slice A p.bf.length c, .slice X p.op.length d] ∧ Rws 29 w.heap.size (.slice A p.bf.length c) p.bf W ∧ Rws 33 w.heap.size (.slice X p.op.length d) p.op W
  b : Below w.heap.size w W
set_option maxRecDepth 100000 in
set_option maxHeartbeats 4000000 in
theorem copy_l (p : Pg) (A X : Option Addr) (c d : Nat) (w : World) (hR : Rdr w w.heap.size A p.bf.length p.bf) (hX : Rdr w w.heap.size X p.op.length p.op) (hb : p.bf.length ≤ 100000) (ho : p.op.length ≤ 100000) :
    Calls Tryd.prog 19 #[pgV p A c X d] w (CopyA p w) := by
  unfold CopyA pgV
  have HOB := Lib.hid (fun (W : World) (h : Below w.heap.size w W) => clone_b A p.bf.length c p.bf W ((hR.below h).more h.size) hb)
  have HOO := Lib.hid (fun (W : World) (h : Below w.heap.size w W) => clone_o X p.op.length d p.op W ((hX.below h).more h.size) ho)
  unfold clone_bA at HOB
  unfold clone_oA at HOO
  have HB0 := Lib.hid (bel_al' (bel_al (w := w) (.cells #[.int .i64 p.rg, .slice A p.bf.length c, .slice X p.op.length d] 26)) (.cells #[.int .i64 0, .slice none 0 0, .slice none 0 0] 26))
  have HK0 : Hid (Bk ((w.alloc (.cells #[.int .i64 p.rg, .slice A p.bf.length c, .slice X p.op.length d] 26)).alloc (.cells #[.int .i64 0, .slice none 0 0, .slice none 0 0] 26)) w.heap.size 26 #[.int .i64 p.rg, .slice A p.bf.length c, .slice X p.op.length d]) := Lib.hid ((Bk.new w _ _).alloc _)
  have HZ0 : Hid (Bk ((w.alloc (.cells #[.int .i64 p.rg, .slice A p.bf.length c, .slice X p.op.length d] 26)).alloc (.cells #[.int .i64 0, .slice none 0 0, .slice none 0 0] 26)) (w.heap.size + 1) 26 #[.int .i64 0, .slice none 0 0, .slice none 0 0]) := Lib.hid (Bk.new' (by simp))
  clear hR hX hb ho
  obtain ⟨W0, hW0⟩ : ∃ W0, W0 = ((w.alloc (.cells #[.int .i64 p.rg, .slice A p.bf.length c, .slice X p.op.length d] 26)).alloc (.cells #[.int .i64 0, .slice none 0 0, .slice none 0 0] 26)) := ⟨_, rfl⟩
  have HW0 := Lib.hid hW0
  rw [← hW0] at HB0 HK0 HZ0
  clear hW0
  go_enter Tryd.func19, Tryd.ntmps19
  go_upto_region 1 with fail
  rw [← HW0.out]
  go_cut [] from 3 to 11 (fun W => Hid (CpE w W p))
  case first =>
    have a0 := HK0.out.cell 0
    have a1 := HK0.out.cell 1
    have a2 := HK0.out.cell 2
    go_region_law (first | ((try go_simp); go_at_call 43; refine (HOB.out _ (by first | exact HB0.out.drew | exact hbO2)).mono ?_; rintro e wB ⟨hbB, gB, cB, rfl, hrB⟩; have hbB2 : Below w.heap.size w wB := (by first | exact bel_tr HB0.out.drew hbB | exact bel_tr hbO2 hbB); have hKB : Bk wB w.heap.size 26 #[.int .i64 p.rg, .slice A p.bf.length c, .slice X p.op.length d] := (by first | exact (Bk.drew HK0.out).below hbB (Bk.lt (Bk.drew HK0.out)) | exact hKO.below hbB hKO.lt); have hZB : Bk wB (w.heap.size + 1) 26 #[.int .i64 0, .slice none 0 0, .slice none 0 0] := (by first | exact (Bk.drew HZ0.out).below hbB (Bk.lt (Bk.drew HZ0.out)) | exact hZO.below hbB hZO.lt); have c0B := hKB.cell 0; have c1B := hKB.cell 1; have c2B := hKB.cell 2; have f0B := hZB.frozen 0; have f1B := hZB.frozen 1; have f2B := hZB.frozen 2; have z0B := hZB.cell 0; have z1B := hZB.cell 1; have z2B := hZB.cell 2) | ((try go_simp); go_at_call 44; refine (HOO.out _ (by first | exact HB0.out.drew | exact hbB2)).mono ?_; rintro e wO ⟨hbO, gO, cO, rfl, hrO⟩; have hbO2 : Below w.heap.size w wO := (by first | exact bel_tr HB0.out.drew hbO | exact bel_tr hbB2 hbO); have hKO : Bk wO w.heap.size 26 #[.int .i64 p.rg, .slice A p.bf.length c, .slice X p.op.length d] := (by first | exact (Bk.drew HK0.out).below hbO (Bk.lt (Bk.drew HK0.out)) | exact hKB.below hbO hKB.lt); have hZO : Bk wO (w.heap.size + 1) 26 #[.int .i64 0, .slice none 0 0, .slice none 0 0] := (by first | exact (Bk.drew HZ0.out).below hbO (Bk.lt (Bk.drew HZ0.out)) | exact hZB.below hbO hZB.lt); have c0O := hKO.cell 0; have c1O := hKO.cell 1; have c2O := hKO.cell 2; have f0O := hZO.frozen 0; have f1O := hZO.frozen 1; have f2O := hZO.frozen 2; have z0O := hZO.cell 0; have z1O := hZO.cell 1; have z2O := hZO.cell 2) | fail)
    all_goals (
      go_wp2_with fail
      go_meet
      case rel =>
        have hrB2 := own_mono (own_below hrB hbO) (B' := w.heap.size) (by exact HB0.out.size)
        have hrO2 := own_mono hrO (B' := w.heap.size) (by exact hbB2.size)
        refine Lib.hid ⟨⟨gB, cB, gO, cO, ((hZO.set_ 0 _).set_ 1 _).set_ 2 _, ?_, ?_⟩, ((hbO2.setCell (p := ⟨w.heap.size + 1, 0, none⟩) (Nat.le_succ _) _).setCell (p := ⟨w.heap.size + 1, 1, none⟩) (Nat.le_succ _) _).setCell (p := ⟨w.heap.size + 1, 2, none⟩) (Nat.le_succ _) _⟩
        · exact own_far (own_far (own_far hrB2 hZO (show (29 : TypeId) ≠ 26 by decide)) (hZO.set_ 0 _) (show (29 : TypeId) ≠ 26 by decide)) ((hZO.set_ 0 _).set_ 1 _) (show (29 : TypeId) ≠ 26 by decide)
        · exact own_far (own_far (own_far hrO2 hZO (show (33 : TypeId) ≠ 26 by decide)) (hZO.set_ 0 _) (show (33 : TypeId) ≠ 26 by decide)) ((hZO.set_ 0 _).set_ 1 _) (show (33 : TypeId) ≠ 26 by decide))
  case rest =>
    have HE := hcut
    obtain ⟨⟨gA, cA, gX, cX, hz, hA, hX⟩, hb⟩ := HE.out
    have HA := Lib.hid hA
    have HX := Lib.hid hX
    have HB := Lib.hid hb
    have HZ := Lib.hid hz
    clear hA hX hb hz HE hcut HOB HOO HB0 HK0 HZ0 HW0
    go_wp2_with fail
    refine bodyPost_ret (results_cell_row rfl _ _ (w.heap.size + 1) 26 #[.int .i64 p.rg, .slice gA p.bf.length cA, .slice gX p.op.length cX] (0, 0) _ rfl HZ.out Tryd.underlying26 rfl (by kernel_rfl)) rfl ⟨HB.out, gA, cA, gX, cX, rfl, HA.out, HX.out⟩
end Lb
end Go.Proofs.YtbdhibgljaelbaaDoor
namespace Go.Proofs.YtbdhibgljaelbaaDoor
open Go Go.RowKit Go.Sort Go.Shelf
namespace Lb
open Wd Nt Gr
set_option linter.unusedVariables false
set_option linter.unusedSimpArgs false
def bigP : Pg := ⟨65, [exB], [exO1, exO2, endO]⟩
def inP : Pg := ⟨2, [⟨2, 1, false⟩], [exO1, exO2, endO]⟩
/-- the example with operations more -/
def wP (os : List Op) : Pg := ⟨2, [exB], [exO1, exO2, endO] ++ os⟩
def oMade : List Op := [⟨1, 0, -1, -1, -1, -1, 0, 3⟩, ⟨16, 0, -1, -1, -1, -1, 0, 2⟩, endO]
def oOwn : List Op := [⟨16, 1, -1, -1, -1, -1, 0, 2⟩, ⟨1, 1, -1, -1, -1, -1, 0, 2⟩, endO]
def oM1 : List Op := [⟨2, 1, -1, 0, -1, -1, 0, 0⟩]
def oM2 : List Op := [endO]
def oM3 : List Op := [⟨16, 1, -1, -1, -1, -1, 0, 2⟩]
def oM4 : List Op := [⟨1, 1, -1, 0, -1, -1, 0, 2⟩]
def oM5 : List Op := [⟨14, 1, -1, -1, -1, -1, 0, 2⟩]
def oP : List Op := [⟨1, 0, -1, -1, -1, -1, 0, 18446744073709551615⟩, ⟨1, 1, -1, -1, -1, -1, 0, 1⟩, ⟨11, 0, 1, 0, 1, 1, 0, 0⟩, ⟨15, -1, -1, 1, 0, -1, 0, 18446744073709551615⟩, ⟨15, -1, -1, -1, 1, -1, 0, 1⟩]
def oQ : List Op := [⟨1, 0, -1, -1, -1, -1, 0, 2⟩, ⟨14, 1, -1, 0, -1, -1, 0, 0⟩]
def nestO (k : Nat) : List Op := (List.range k).map fun (i : Nat) => ⟨16, (i : Int), -1, -1, -1, -1, 0, 1048576⟩
theorem nestO_len (k : Nat) : (nestO k).length = k := by unfold nestO; simp
theorem nestO_succ (k : Nat) : nestO (k + 1) = nestO k ++ [⟨16, (k : Int), -1, -1, -1, -1, 0, 1048576⟩] := by
  unfold nestO
  rw [List.range_succ, List.map_append]
  rfl
def deepO (k : Nat) : List Op := nestO 8 ++ List.replicate k endO
theorem deepO_len (k : Nat) : (deepO k).length = 8 + k := by unfold deepO; rw [List.length_append, nestO_len, List.length_replicate]
theorem deepO_succ (k : Nat) : deepO (k + 1) = deepO k ++ [endO] := by
  unfold deepO
  rw [List.replicate_succ', List.append_assoc]
def nestP : Pg := ⟨9, [], nestO 9⟩
def deepP : Pg := ⟨9, [], deepO 8⟩
theorem c_big : chkP bigP = (0, 3) := by decide +kernel
theorem c_in : chkP inP = (1, 2) := by decide +kernel
theorem c_m1 : chkP (wP oM1) = (3, 5) := by decide +kernel
theorem c_m2 : chkP (wP oM2) = (3, 9) := by decide +kernel
theorem c_made : chkP (wP oMade) = (4, 9) := by decide +kernel
theorem c_own : chkP (wP oOwn) = (4, 9) := by decide +kernel
theorem c_nest : chkP nestP = (8, 10) := by decide +kernel
theorem c_m3 : chkP (wP oM3) = (4, 9) := by decide +kernel
theorem c_m4 : chkP (wP oM4) = (3, 2) := by decide +kernel
theorem c_m5 : chkP (wP oM5) = (3, 2) := by decide +kernel
theorem s_deep : stepsP deepP = 1125899906842624 := by decide +kernel
theorem s_ex : stepsP exP = 4 := by decide +kernel
theorem n_ex : endsP exP = [2, -1, 0] := by decide +kernel
theorem op_wf {o : Op} (h : (decide (-100 ≤ o.k ∧ o.k ≤ 100 ∧ -100 ≤ o.d ∧ o.d ≤ 100 ∧ -100 ≤ o.e ∧ o.e ≤ 100) && decide (-100 ≤ o.a ∧ o.a ≤ 100 ∧ -100 ≤ o.b ∧ o.b ≤ 100 ∧ -100 ≤ o.c ∧ o.c ≤ 100 ∧ -100 ≤ o.bf ∧ o.bf ≤ 100 ∧ 0 ≤ o.im ∧ o.im ≤ 18446744073709551615)) = true) : o.wf := by
  simp only [Bool.and_eq_true, decide_eq_true_eq] at h
  exact ⟨by unfold I64; omega, by unfold I64; omega, by unfold I64; omega, by unfold I64; omega, by unfold I64; omega, by unfold I64; omega, by unfold I64; omega, by unfold W; omega⟩
def okOp (o : Op) : Bool := decide (-100 ≤ o.k ∧ o.k ≤ 100 ∧ -100 ≤ o.d ∧ o.d ≤ 100 ∧ -100 ≤ o.e ∧ o.e ≤ 100) && decide (-100 ≤ o.a ∧ o.a ≤ 100 ∧ -100 ≤ o.b ∧ o.b ≤ 100 ∧ -100 ≤ o.c ∧ o.c ≤ 100 ∧ -100 ≤ o.bf ∧ o.bf ≤ 100 ∧ 0 ≤ o.im ∧ o.im ≤ 18446744073709551615)
def okBf (b : Bf) : Bool := decide (-100 ≤ b.sz ∧ b.sz ≤ 100 ∧ -100 ≤ b.kd ∧ b.kd ≤ 100)
def okPg (p : Pg) : Bool := decide (-100 ≤ p.rg ∧ p.rg ≤ 100) && p.bf.all okBf && p.op.all okOp
theorem okPg_wf {p : Pg} (h : okPg p = true) : p.wf := by
  unfold okPg at h
  simp only [Bool.and_eq_true, decide_eq_true_eq, List.all_eq_true] at h
  refine ⟨by unfold I64; omega, fun b hb => ?_, fun o ho => op_wf (h.2 o ho)⟩
  have := h.1.2 b hb
  unfold okBf at this
  rw [decide_eq_true_eq] at this
  exact ⟨by unfold I64; omega, by unfold I64; omega⟩
theorem r_p {r : Ans} (hr : RunP (wP oP) [[0, 0]] r) : r = ⟨[[1, 1]], [(0, -1), (1, 0), (0, -1), (1, 1), (3, -1), (4, -1), (5, -1), (6, 0), (7, 1)], 0⟩ :=
  hr.told (N := 60) (f := true) (by decide +kernel) (by decide +kernel)
theorem r_q {r : Ans} (hr : RunP (wP oQ) [[0, 0]] r) : r.er = 11 ∧ r.ev.length = 5 ∧ r.out = [] := by
  have h := hr.told (N := 60) (f := false) (rows := [[0, 1]]) (seen := [(0, -1), (1, 0), (0, -1), (1, 1), (3, -1)]) (by decide +kernel) (by decide +kernel)
  rw [h]
  exact ⟨rfl, rfl, rfl⟩
theorem r_q1 {r : Ans} (hr : RunP (wP oQ) [[0]] r) : r = ⟨[], [], 2⟩ := by
  unfold RunP at hr
  rw [if_neg (by decide +kernel), if_neg (by decide +kernel), if_pos (by decide +kernel)] at hr
  exact hr
theorem r_deep {r : Ans} {h : List (List Int)} (hr : RunP deepP h r) : r = ⟨[], [], 10⟩ := by
  unfold RunP at hr
  rw [if_neg (by decide +kernel), if_pos (by decide +kernel)] at hr
  exact hr
theorem wf_big : bigP.wf := okPg_wf (by decide +kernel)
theorem wf_in : inP.wf := okPg_wf (by decide +kernel)
theorem wf_made : (wP oMade).wf := okPg_wf (by decide +kernel)
theorem wf_own : (wP oOwn).wf := okPg_wf (by decide +kernel)
theorem wf_m1 : (wP oM1).wf := okPg_wf (by decide +kernel)
theorem wf_m2 : (wP oM2).wf := okPg_wf (by decide +kernel)
theorem wf_m3 : (wP oM3).wf := okPg_wf (by decide +kernel)
theorem wf_m4 : (wP oM4).wf := okPg_wf (by decide +kernel)
theorem wf_m5 : (wP oM5).wf := okPg_wf (by decide +kernel)
theorem wf_p : (wP oP).wf := okPg_wf (by decide +kernel)
theorem wf_q : (wP oQ).wf := okPg_wf (by decide +kernel)
theorem wf_nest : nestP.wf := okPg_wf (by decide +kernel)
theorem wf_deep : deepP.wf := okPg_wf (by decide +kernel)
set_option maxRecDepth 100000 in
theorem lop2_l (k d e a b c im : Int) (w : World) : Calls Tryd.prog 9 #[.int .i64 k, .int .i64 d, .int .i64 e, .int .i64 a, .int .i64 b, .int .i64 c, .int .u64 im] w fun r w' => r = .returned (.agg #[.int .i64 k, .int .i64 d, .int .i64 e, .int .i64 a, .int .i64 b, .int .i64 c, .int .i64 0, .int .u64 im]) ∧ Below w.heap.size w w' :=
  (lop_l k d e a b c im w).mono (fun r w' h => ⟨h.1, by rw [h.2]; exact bel_al _⟩)
theorem lend2_l (w : World) : Calls Tryd.prog 10 #[] w fun r w' => r = .returned (.agg #[.int .i64 17, .int .i64 (-1), .int .i64 (-1), .int .i64 (-1), .int .i64 (-1), .int .i64 (-1), .int .i64 0, .int .u64 0]) ∧ Below w.heap.size w w' :=
  (lend_l w).mono (fun r w' h => ⟨h.1, by rw [h.2]; exact bel_al' (bel_al _) _⟩)
/-- what with answers -/
def WithA (os : List Op) (m : Nat) (w : World) (e : Ending) (w' : World) : Prop := Below w.heap.size w w' ∧ ∃ A c X d, e = .returned (.agg #[.int .i64 2, .slice A 1 c, .slice X m d]) ∧ Rdr w' w'.heap.size A 1 [exB] ∧ Rdr w' w'.heap.size X m ([exO1, exO2, endO] ++ os)
set_option maxRecDepth 100000 in
set_option maxHeartbeats 4000000 in
theorem lwith_l (os : List Op) (A : Option Addr) (n c m : Nat) (w : World) (h : Rdr w w.heap.size A n os) (hn : n ≤ 1000) (hm : 3 + n = m) :
    Calls Tryd.prog 8 #[.slice A n c] w (WithA os m w) := by
  unfold WithA
  have HEX := Lib.hid (fun W => lexample_l W)
  have HH := Lib.hid h
  have HM := Lib.hid hm
  have HB0 := Lib.hid (bel_al (w := w) (.cells #[.int .i64 0, .slice none 0 0, .slice none 0 0] 26))
  have HZ0 := Lib.hid (Bk.new w 26 #[.int .i64 0, .slice none 0 0, .slice none 0 0])
  clear h hm
  go_enter Tryd.func8, Tryd.ntmps8
  go_wp2_with fail
  go_at_call 7
  refine (HEX.out _).mono ?_
  rintro e w2 ⟨⟨A2, X2, c2, d2, rfl, hA, hX⟩, hb⟩
  have HB2 := Lib.hid (bel_tr HB0.out hb)
  have HZ2 := Lib.hid (HZ0.out.below hb HZ0.out.lt)
  have HA2 := Lib.hid (own_mono (B' := w.heap.size) hA HB0.out.size)
  have HX2 := Lib.hid (own_mono (B' := w.heap.size) hX HB0.out.size)
  clear hb hA hX HB0 HZ0 HEX
  unfold pgV exP
  dsimp only [List.length_cons, List.length_nil]
  have HK3 := Lib.hid (Bk.new w2 26 #[.int .i64 2, .slice A2 1 c2, .slice X2 3 d2])
  have HB3 := Lib.hid (bel_al' HB2.out (.cells #[.int .i64 2, .slice A2 1 c2, .slice X2 3 d2] 26))
  have HZ3 := Lib.hid (HZ2.out.alloc (.cells #[.int .i64 2, .slice A2 1 c2, .slice X2 3 d2] 26))
  have HA3 := Lib.hid (own_below HA2.out (bel_al (.cells #[.int .i64 2, .slice A2 1 c2, .slice X2 3 d2] 26)))
  have HX3 := Lib.hid (own_below HX2.out (bel_al (.cells #[.int .i64 2, .slice A2 1 c2, .slice X2 3 d2] 26)))
  go_upto_region 2 with fail
  obtain ⟨W3, hW3⟩ : ∃ W3, W3 = w2.alloc (.cells #[.int .i64 2, .slice A2 1 c2, .slice X2 3 d2] 26) := ⟨_, rfl⟩
  rw [← hW3] at HK3 HB3 HZ3 HA3 HX3
  rw [← hW3]
  have HS2 : Hid (w.heap.size < w2.heap.size) := Lib.hid HZ2.out.lt
  obtain ⟨g3, hg3⟩ : ∃ g, w2.heap.size = g := ⟨_, rfl⟩
  rw [hg3] at HK3 HS2 ⊢
  clear hW3 hg3 HB2 HZ2 HA2 HX2
  obtain ⟨i, hi, hz, q2, q3⟩ := info_parts info_lop
  obtain ⟨v9, w9, hap, h9, hgr9, _⟩ := app_run (c := c) 24 33 24 i _ 64 Tryd.underlying24 hi hz q2 q3 rfl (by omega) HX3.out (HH.out.below HB3.out) (by omega) (by decide) HB3.out.size
  obtain ⟨A9, c9, rfl, hc9⟩ := rws_form h9
  have hln : (exP.op ++ os).length = m := by rw [List.length_append, HH.out.len]; exact HM.out
  rw [hln] at hap h9
  have hk9 := own_other HX3.out HK3.out (show (33 : TypeId) ≠ 26 by decide) hgr9
  have hz9 := own_other HX3.out HZ3.out (show (33 : TypeId) ≠ 26 by decide) hgr9
  have ha9 := own_own HA3.out HX3.out (show (29 : TypeId) ≠ 33 by decide) hgr9
  have hb9 := own_grown (C := w.heap.size) HX3.out hgr9 HB3.out (Nat.le_refl _) HB3.out.size
  obtain ⟨a0, a1, a2⟩ := c3 HK3.out
  have k2 := hk9.cell 2
  have f2 := hk9.frozen 2
  have l2 := hk9.lt
  go_upto_region 3 with (first | (at_builtin; refine wpList_append_eq rfl _ _ 24 rfl _ _ rfl rfl _ _ hap ?_) | fail)
  have HK10 := Lib.hid (hk9.set_ 2 (.slice A9 m c9))
  have HZ10 := Lib.hid (hz9.far (p := ⟨g3, 2, none⟩) (show w.heap.size ≠ g3 from Nat.ne_of_lt HS2.out) (.slice A9 m c9))
  have HA10 := Lib.hid (own_far (i := 2) (u := .slice A9 m c9) ha9 hk9 (show (29 : TypeId) ≠ 26 by decide))
  have HX10 := Lib.hid (own_far (i := 2) (u := .slice A9 m c9) h9 hk9 (show (33 : TypeId) ≠ 26 by decide))
  have HB10 := Lib.hid (hb9.setCell (p := ⟨g3, 2, none⟩) (Nat.le_of_lt HS2.out) (.slice A9 m c9))
  obtain ⟨W10, hW10⟩ : ∃ W, W = w9.setCell ⟨g3, 2, none⟩ (.slice A9 m c9) := ⟨_, rfl⟩
  rw [← hW10] at HK10 HZ10 HA10 HX10 HB10
  rw [← hW10]
  clear hW10 hap h9 hgr9 hk9 hz9 ha9 hb9 k2 f2 l2 a0 a1 a2 HK3 HZ3 HA3 HX3 HB3 hi hz q2 q3
  obtain ⟨a0, a1, a2⟩ : W10.cell? ⟨g3, 0, none⟩ = some (.int .i64 2) ∧ W10.cell? ⟨g3, 1, none⟩ = some (.slice A2 1 c2) ∧ W10.cell? ⟨g3, 2, none⟩ = some (.slice A9 m c9) := c3 HK10.out
  obtain ⟨z0, z1, z2⟩ := c3 HZ10.out
  have f0 := HZ10.out.frozen 0
  have f1 := HZ10.out.frozen 1
  have f2 := HZ10.out.frozen 2
  have l1 := HZ10.out.lt
  go_wp2_with fail
  refine bodyPost_ret (results_cell_row rfl _ _ w.heap.size 26 #[.int .i64 2, .slice A2 1 c2, .slice A9 m c9] (0, 0) _ rfl (((HZ10.out.set_ 0 _).set_ 1 _).set_ 2 _) Tryd.underlying26 rfl (by kernel_rfl)) rfl ⟨?_, A2, c2, A9, c9, rfl, ?_, ?_⟩
  · exact ((HB10.out.setCell (p := ⟨w.heap.size, 0, none⟩) (Nat.le_refl _) _).setCell (p := ⟨w.heap.size, 1, none⟩) (Nat.le_refl _) _).setCell (p := ⟨w.heap.size, 2, none⟩) (Nat.le_refl _) _
  · exact (rws_rd (T := Bf) (xs := [exB]) (own_far (own_far (own_far HA10.out HZ10.out (show (29 : TypeId) ≠ 26 by decide)) (HZ10.out.set_ 0 _) (show (29 : TypeId) ≠ 26 by decide)) ((HZ10.out.set_ 0 _).set_ 1 _) (show (29 : TypeId) ≠ 26 by decide))).2.1
  · exact (rws_rd (T := Op) (own_far (own_far (own_far HX10.out HZ10.out (show (33 : TypeId) ≠ 26 by decide)) (HZ10.out.set_ 0 _) (show (33 : TypeId) ≠ 26 by decide)) ((HZ10.out.set_ 0 _).set_ 1 _) (show (33 : TypeId) ≠ 26 by decide))).2.1
set_option maxRecDepth 100000 in
set_option maxHeartbeats 2000000 in
theorem lchecks_l (p : Pg) (hp : p.wf) {k : Nat} {er : Int} (hc : chkP p = (k, er)) (A X : Option Addr) (c d : Nat) (w : World) (hT : TabF w) (hR : Rdr w w.heap.size A p.bf.length p.bf) (hX : Rdr w w.heap.size X p.op.length p.op) :
    Calls Tryd.prog 12 #[pgV p A c X d, .int .i64 (k : Int), .int .i64 er] w fun e w' => e = .returned (.bool true) ∧ Below w.heap.size w w' := by
  have HC := Lib.hid (fun (W : World) (hb : Below w.heap.size w W) => check_l p hp A X c d W (hT.keep hb) ((hR.below hb).more hb.size) ((hX.below hb).more hb.size))
  have HB0 := Lib.hid (bel_al (w := w) (.cells #[.int .i64 p.rg, .slice A p.bf.length c, .slice X p.op.length d] 26))
  rw [hc] at HC
  have h1 : ((k : Int) == (k : Int)) = true := by simp
  have h2 : (er == er) = true := by simp
  clear hT hR hX hp hc
  dsimp only at HC
  unfold pgV at *
  generalize p.bf.length = n1 at *
  generalize p.op.length = n2 at *
  go_enter Tryd.func12, Tryd.ntmps12
  go_wp2_with fail
  go_at_call 22
  refine (HC.out _ HB0.out).mono ?_
  rintro e w2 ⟨rfl, hb⟩
  have HB2 := Lib.hid (bel_tr HB0.out hb)
  clear hb HC HB0
  go_wp2_with fail
  go_ret
  exact ⟨rfl, HB2.out⟩
end Lb
end Go.Proofs.YtbdhibgljaelbaaDoor
namespace Go.Proofs.YtbdhibgljaelbaaDoor
open Go Go.RowKit Go.Sort Go.Shelf
namespace Lb
open Wd Nt Gr
set_option linter.unusedVariables false
set_option linter.unusedSimpArgs false
/-- a box: where it lies, its program, the slices in it -/
structure Bx where
  g : Nat
  p : Pg
  A : Option Addr
  c : Nat
  X : Option Addr
  d : Nat
structure PgE (W : World) (x : Bx) : Prop where
  k : Bk W x.g 26 #[.int .i64 x.p.rg, .slice x.A x.p.bf.length x.c, .slice x.X x.p.op.length x.d]
  bs : Rdr W W.heap.size x.A x.p.bf.length x.p.bf
  os : Rdr W W.heap.size x.X x.p.op.length x.p.op
structure Env (w W : World) (L : List Bx) : Prop where
  b : Below w.heap.size w W
  all : ∀ x ∈ L, PgE W x
section
variable {w W W' : World} {L : List Bx} {x : Bx}
theorem PgE.below (h : PgE W x) (hb : Below W.heap.size W W') : PgE W' x := ⟨h.k.below hb h.k.lt, (h.bs.below hb).more hb.size, (h.os.below hb).more hb.size⟩
theorem PgE.t (h : PgE W x) : W.cell? ⟨x.g, 0, none⟩ = some (.int .i64 x.p.rg) ∧ W.cell? ⟨x.g, 1, none⟩ = some (.slice x.A x.p.bf.length x.c) ∧ W.cell? ⟨x.g, 2, none⟩ = some (.slice x.X x.p.op.length x.d) := c3 h.k
theorem Env.below (h : Env w W L) (hb : Below W.heap.size W W') : Env w W' L := ⟨bel_tr h.b hb, fun x hx => (h.all x hx).below hb⟩
theorem Env.add (h : Env w W L) (hx : PgE W x) : Env w W (x :: L) := ⟨h.b, fun y hy => by
  rcases List.mem_cons.1 hy with rfl | hy
  · exact hx
  · exact h.all y hy⟩
theorem Env.at (h : Env w W L) (i : Nat) (hi : L[i]? = some x) : PgE W x := h.all x (List.mem_of_getElem? hi)
theorem Env.box (h : Env w W L) (hb : Below W.heap.size W W') (p : Pg) (A : Option Addr) (c : Nat) (X : Option Addr) (d : Nat) (hA : Rdr W' W'.heap.size A p.bf.length p.bf) (hX : Rdr W' W'.heap.size X p.op.length p.op) :
    Env w (W'.alloc (.cells #[.int .i64 p.rg, .slice A p.bf.length c, .slice X p.op.length d] 26)) (⟨W'.heap.size, p, A, c, X, d⟩ :: L) :=
  ((h.below hb).below (bel_al _)).add ⟨Bk.new _ _ _, (hA.below (bel_al _)).more (bel_al _).size, (hX.below (bel_al _)).more (bel_al _).size⟩
end
theorem lex2_l (w : World) : Calls Tryd.prog 7 #[] w fun r w' => (∃ gA c gX d, r = .returned (.agg #[.int .i64 2, .slice (some ⟨gA, 0, none⟩) 1 c, .slice (some ⟨gX, 0, none⟩) 3 d]) ∧ Rws 29 w.heap.size (.slice (some ⟨gA, 0, none⟩) 1 c) [exB] w' ∧ Rws 33 w.heap.size (.slice (some ⟨gX, 0, none⟩) 3 d) [exO1, exO2, endO] w') ∧ Below w.heap.size w w' :=
  (lexample_l w).mono (fun r w' h => by
    obtain ⟨⟨A, X, c, d, rfl, hA, hX⟩, hb⟩ := h
    obtain ⟨gA, rfl, _⟩ := own_blk hA (by decide)
    obtain ⟨gX, rfl, _⟩ := own_blk hX (by decide)
    exact ⟨⟨gA, c, gX, d, rfl, hA, hX⟩, hb⟩)
/-- the nested loops under way -/
structure NestI (Wb W : World) (gn k : Nat) (X : Option Addr) (d : Nat) : Prop where
  b : Below Wb.heap.size Wb W
  hg : Wb.heap.size ≤ gn
  bk : Bk W gn 26 #[.int .i64 9, .slice none 0 0, .slice X k d]
  os : Rws 33 Wb.heap.size (.slice X k d) (nestO k) W
theorem NestI.app {Wb W : World} {gn k : Nat} {X : Option Addr} {d : Nat} (h : NestI Wb W gn k X d) (hk : k ≤ 100) (w22 : World) (hb22 : Below W.heap.size W w22) :
    ∃ A9 c9 w9, (Builtin.append_ #[24, 24] 24 #[.slice X k d, .slice (some ⟨w22.heap.size, 0, none⟩) 1 1]).run Tryd.prog (w22.alloc (.cells #[.int .i64 16, .int .i64 (k : Int), .int .i64 (-1), .int .i64 (-1), .int .i64 (-1), .int .i64 (-1), .int .i64 0, .int .u64 1048576] 33)) = .ok (.slice A9 (k + 1) c9) w9 ∧
      (w9.cell? ⟨gn, 2, none⟩ = some (.slice X k d) ∧ w9.frozen? ⟨gn, 2, none⟩ = false ∧ w22.cell? ⟨gn, 2, none⟩ = some (.slice X k d) ∧ gn < w22.heap.size ∧ gn < w9.heap.size) ∧ NestI Wb (w9.setCell ⟨gn, 2, none⟩ (.slice A9 (k + 1) c9)) gn (k + 1) A9 c9 := by
  obtain ⟨i, hi, hz, q2, q3⟩ := info_parts info_lop
  have hb23 : Below W.heap.size W (w22.alloc (.cells #[.int .i64 16, .int .i64 (k : Int), .int .i64 (-1), .int .i64 (-1), .int .i64 (-1), .int .i64 (-1), .int .i64 0, .int .u64 1048576] 33)) := bel_al' hb22 _
  have hlit : Bk (w22.alloc (.cells #[.int .i64 16, .int .i64 (k : Int), .int .i64 (-1), .int .i64 (-1), .int .i64 (-1), .int .i64 (-1), .int .i64 0, .int .u64 1048576] 33)) w22.heap.size 33 (row [(⟨16, (k : Int), -1, -1, -1, -1, 0, 1048576⟩ : Op)]).toArray := Bk.new _ _ _
  have hrd := bk_rdr (B := w22.heap.size + 1) hlit (by omega)
  have hown := own_below h.os hb23
  have hsz := h.b.size
  have hsz2 := hb23.size
  obtain ⟨v9, w9, hap, h9, hgr9, _⟩ := app_run (c := 1) 24 33 24 i _ 64 Tryd.underlying24 hi hz q2 q3 rfl (by omega) hown hrd (by simp) (by rw [nestO_len]; omega) (by omega)
  obtain ⟨A9, c9, rfl, hc9⟩ := rws_form h9
  rw [← nestO_succ] at hap h9
  rw [nestO_len] at hap h9
  have hk9 := own_other hown (h.bk.below hb23 h.bk.lt) (show (33 : TypeId) ≠ 26 by decide) hgr9
  have hb9 := own_grown (C := Wb.heap.size) hown hgr9 (h.b.trans (hb23.mono h.b.size)) (Nat.le_refl _) (by omega)
  exact ⟨A9, c9, w9, hap, ⟨hk9.cell 2, hk9.frozen 2, (h.bk.below hb22 h.bk.lt).cell 2, (h.bk.below hb22 h.bk.lt).lt, hk9.lt⟩, hb9.setCell (p := ⟨gn, 2, none⟩) h.hg _, h.hg, hk9.set_ 2 _, own_far h9 hk9 (show (33 : TypeId) ≠ 26 by decide)⟩
/-- the ends under way -/
structure DeepI (Wb W : World) (gn n k : Nat) (X : Option Addr) (d : Nat) : Prop where
  b : Below Wb.heap.size Wb W
  hg : Wb.heap.size ≤ gn
  bk : Bk W gn 26 #[.int .i64 9, .slice none 0 0, .slice X n d]
  os : Rdr W W.heap.size X n (deepO k)
  hn : n = 8 + k
/-- a row of one's own, and an end more -/
theorem DeepI.app {Wb W w22 : World} {gn n k g c : Nat} {X : Option Addr} {d : Nat} (h : DeepI Wb W gn n k X d) (hk : k ≤ 100) (hb22 : Below W.heap.size W w22) (hown0 : Rws 33 W.heap.size (.slice (some ⟨g, 0, none⟩) n c) (deepO k) w22) :
    ∃ A9 c9 w9, (Builtin.append_ #[24, 24] 24 #[.slice (some ⟨g, 0, none⟩) n c, .slice (some ⟨w22.heap.size, 0, none⟩) 1 1]).run Tryd.prog (w22.alloc (.cells #[.int .i64 17, .int .i64 (-1), .int .i64 (-1), .int .i64 (-1), .int .i64 (-1), .int .i64 (-1), .int .i64 0, .int .u64 0] 33)) = .ok (.slice A9 (n + 1) c9) w9 ∧
      (w9.cell? ⟨gn, 2, none⟩ = some (.slice X n d) ∧ w9.frozen? ⟨gn, 2, none⟩ = false ∧ gn < w9.heap.size) ∧ DeepI Wb (w9.setCell ⟨gn, 2, none⟩ (.slice A9 (n + 1) c9)) gn (n + 1) (k + 1) A9 c9 := by
  obtain ⟨i, hi, hz, q2, q3⟩ := info_parts info_lop
  have hb23 : Below W.heap.size W (w22.alloc (.cells #[.int .i64 17, .int .i64 (-1), .int .i64 (-1), .int .i64 (-1), .int .i64 (-1), .int .i64 (-1), .int .i64 0, .int .u64 0] 33)) := bel_al' hb22 _
  have hlit : Bk (w22.alloc (.cells #[.int .i64 17, .int .i64 (-1), .int .i64 (-1), .int .i64 (-1), .int .i64 (-1), .int .i64 (-1), .int .i64 0, .int .u64 0] 33)) w22.heap.size 33 (row [endO]).toArray := Bk.new _ _ _
  have hrd := bk_rdr (B := w22.heap.size + 1) hlit (by omega)
  have hown := own_below hown0 (bel_al (.cells #[.int .i64 17, .int .i64 (-1), .int .i64 (-1), .int .i64 (-1), .int .i64 (-1), .int .i64 (-1), .int .i64 0, .int .u64 0] 33))
  have hsz := h.b.size
  have hsz2 := hb23.size
  have hn := h.hn
  obtain ⟨v9, w9, hap, h9, hgr9, _⟩ := app_run (c := 1) 24 33 24 i _ 64 Tryd.underlying24 hi hz q2 q3 rfl (by omega) hown hrd (by simp) (by rw [deepO_len]; omega) (by omega)
  obtain ⟨A9, c9, rfl, hc9⟩ := rws_form h9
  rw [← deepO_succ] at hap h9
  rw [deepO_len, show 8 + (k + 1) = n + 1 by omega] at hap h9
  have hk9 := own_other hown (h.bk.below hb23 h.bk.lt) (show (33 : TypeId) ≠ 26 by decide) hgr9
  have hb9 := own_grown (C := Wb.heap.size) (own_mono (B' := Wb.heap.size) hown hsz) hgr9 (h.b.trans (hb23.mono h.b.size)) (Nat.le_refl _) (by omega)
  exact ⟨A9, c9, w9, hap, ⟨hk9.cell 2, hk9.frozen 2, hk9.lt⟩, hb9.setCell (p := ⟨gn, 2, none⟩) h.hg _, h.hg, hk9.set_ 2 _, (rws_rd (own_far h9 hk9 (show (33 : TypeId) ≠ 26 by decide))).2.1, by omega⟩
end Lb
end Go.Proofs.YtbdhibgljaelbaaDoor
