/- The landed package memory: regions as the cells that they lie in, lists of such, and what a sort leaves of them. | The library's iterator over a slice of regions, and what is collected from it: slices.Values, AppendSeq, Collect at regions. | slices.AppendSeq and slices.Collect at regions, against whatever iterator. | The landed package's byAddress: the regions by their first addresses, a row of one's own. | The landed package's Check: too long, wrong, overlapping. | The landed package's Check. | The landed package's Check, whole. | The landed package's copies: the regions by their first addresses, their bytes one's own. | The landed package's memory as it lies; New, Regions, Clone; none. -/
import Derived.Test.YtmiphnocgepdgaaGreatDoorA11
import Derived.Test.YtmiphnocgepdgaaGreatDoorShelf
import Derived.Test.YtmiphnocgepdgaaGreatDoorShelf2
import Derived.RangeFuncNested
import Derived.RangeFuncBound
import Derived.RangeFuncCalls
import Derived.RangeFuncLeaves
import Derived.Shelf.Abstract
import Derived.Shelf.RegionOpen
import Derived.WalkKit
import Derived.OwnWalkIn
import Derived.TacticsInMore
import Derived.LoopNIn
import Derived.LoopIn
import Derived.Maps.AppendAt
import Derived.BigQuiet
import Derived.Deep.QuietTactic
import Derived.Shelf.SlSortCmp.QuietGrown
import Derived.Shelf.RegionOpenPlain
import Derived.LaidEqlPtr
namespace Go.Proofs.YtmiphnocgepdgaaGreatDoor
open Go Go.RowKit Go.Sort
namespace Mm
open Wd Nt
set_option linter.unusedVariables false
/-- a region and the slice that its bytes lie in -/
structure Cel where
  r : Reg
  A : Option Addr
  n : Nat
  c : Nat
  hb : W r.base
  hn : n ≤ 9223372036854775807
instance : Inhabited Cel := ⟨⟨⟨0, [], false⟩, none, 0, 0, by unfold Wd.W; decide, by decide⟩⟩
def Cel.vs (x : Cel) : List Value := [.int .u64 x.r.base, .slice x.A x.n x.c, .bool x.r.write]
def celRow (xs : List Cel) : List Value := xs.flatMap Cel.vs
structure CelOk (w : World) (B : Nat) (x : Cel) : Prop where
  ok : x.r.ok
  rd : Rd8 w B x.A x.n x.r.bytes
  room : x.n ≤ x.c
  cap : x.c ≤ 9223372036854775807
theorem CelOk.below {w w' : World} {B : Nat} {x : Cel} (h : CelOk w B x) (hb : Below B w w') : CelOk w' B x := ⟨h.ok, h.rd.keep (fun _ hp => hb.cell hp), h.room, h.cap⟩
theorem CelOk.more {w : World} {B B' : Nat} {x : Cel} (h : CelOk w B x) (hb : B ≤ B') : CelOk w B' x := ⟨h.ok, h.rd.more hb, h.room, h.cap⟩
theorem Cel.vs_len (x : Cel) : x.vs.length = 3 := rfl
theorem Cel.vs_one (x : Cel) : ∀ v ∈ x.vs, v.oneCell' = true := by
  intro v hv
  unfold Cel.vs at hv
  simp only [List.mem_cons, List.not_mem_nil, or_false] at hv
  rcases hv with rfl | rfl | rfl <;> rfl
theorem celRow_app (xs ys : List Cel) : celRow (xs ++ ys) = celRow xs ++ celRow ys := List.flatMap_append
theorem celRow_one (x : Cel) : celRow [x] = x.vs := by unfold celRow; simp
theorem celRow_len (xs : List Cel) : (celRow xs).length = xs.length * 3 := by
  induction xs with
  | nil => rfl
  | cons x xs ih =>
    show (x.vs ++ celRow xs).length = _
    rw [List.length_append, ih, List.length_cons, Cel.vs_len]
    omega
theorem celRow_get {xs : List Cel} {j d : Nat} {x : Cel} (h : xs[j]? = some x) (hd : d < 3) : (celRow xs)[j * 3 + d]? = x.vs[d]? := by
  induction xs generalizing j with
  | nil => cases h
  | cons p xs ih =>
    show (p.vs ++ celRow xs)[j * 3 + d]? = _
    cases j with
    | zero =>
      obtain rfl : p = x := by simpa using h
      rw [Nat.zero_mul, Nat.zero_add, List.getElem?_append_left (by show d < 3; exact hd)]
    | succ j =>
      have h' : xs[j]? = some x := by simpa using h
      rw [List.getElem?_append_right (by show 3 ≤ _; omega)]
      show (celRow xs)[(j + 1) * 3 + d - 3]? = _
      rw [show (j + 1) * 3 + d - 3 = j * 3 + d by omega]
      exact ih h'

/-! ### the slice at hand, as its cells -/
theorem spot_none {w : World} {ad : Addr} {v : Value} (h : w.cell? ad = some v) : ad = ⟨ad.block, ad.off, none⟩ := by
  obtain ⟨b, o, s⟩ := ad
  cases s with
  | none => rfl
  | some k =>
    exfalso
    unfold World.cell? at h
    split at h
    · simp at h
    · cases h
theorem add_at (b o k : Nat) : (⟨b, o, none⟩ : Addr).add k = ⟨b, o + k, none⟩ := by
  unfold Addr.add; split
  · rename_i e; rw [e]; rfl
  · rfl
/-- where the cells of a slice lie -/
def CelsAt (w : World) (A : Option Addr) (xs : List Cel) : Prop := xs ≠ [] → ∃ b off, A = some ⟨b, off, none⟩ ∧ b < w.heap.size ∧ ∀ (j d : Nat) (x : Cel), xs[j]? = some x → d < 3 → w.cell? ⟨b, off + j * 3 + d, none⟩ = x.vs[d]?
structure Cels (w : World) (A : Option Addr) (n : Nat) (rs : List Reg) (xs : List Cel) : Prop where
  regs : xs.map (·.r) = rs
  len : xs.length = n
  ok : ∀ x ∈ xs, CelOk w w.heap.size x
  at_ : CelsAt w A xs
theorem Cels.below {w w' : World} {A : Option Addr} {n : Nat} {rs : List Reg} {xs : List Cel} (h : Cels w A n rs xs) (hb : Below w.heap.size w w') : Cels w' A n rs xs :=
  ⟨h.regs, h.len, fun x hx => ((h.ok x hx).below hb).more hb.size, fun hne => by
    obtain ⟨b, off, e, hlt, hc⟩ := h.at_ hne
    exact ⟨b, off, e, Nat.lt_of_lt_of_le hlt hb.size, fun j d x hj hd => (hb.cell (p := ⟨b, off + j * 3 + d, none⟩) hlt).trans (hc j d x hj hd)⟩⟩
theorem AtR.cels {w : World} {A : Option Addr} {n : Nat} {rs : List Reg} (h : AtR w A n rs) : ∃ xs, Cels w A n rs xs := by
  rcases Nat.eq_zero_or_pos n with h0 | h0
  · subst h0
    obtain rfl : rs = [] := List.eq_nil_of_length_eq_zero h.len
    exact ⟨[], rfl, rfl, (fun x hx => by cases hx), fun hne => absurd rfl hne⟩
  · obtain ⟨ad, rfl, hb, hc⟩ := h.rd h0
    obtain ⟨r0, hr0⟩ := get_lt (rs := rs) (j := 0) (by rw [h.len]; exact h0)
    have hsp : ad = ⟨ad.block, ad.off, none⟩ := by
      obtain ⟨A1, n1, c1, h1, _⟩ := hc 0 r0 hr0
      have e : ad.add (0 * 3) = ad := by unfold Addr.add; simp
      rw [e] at h1
      exact spot_none h1
    have key : ∀ k, k ≤ rs.length → ∃ xs : List Cel, xs.map (·.r) = rs.take k ∧ (∀ x ∈ xs, CelOk w w.heap.size x) ∧ ∀ (j d : Nat) (x : Cel), xs[j]? = some x → d < 3 → w.cell? ⟨ad.block, ad.off + j * 3 + d, none⟩ = x.vs[d]? := by
      intro k
      induction k with
      | zero => intro _; exact ⟨[], by simp, (fun x hx => by cases hx), fun j d x hj => by cases hj⟩
      | succ k ih =>
        intro hk
        obtain ⟨xs, h1, h2, h3⟩ := ih (by omega)
        obtain ⟨r, hr⟩ := get_lt (rs := rs) (j := k) (by omega)
        obtain ⟨A1, n1, c1, k1, k2, k3, k4, k5, k6⟩ := hc k r hr
        have hxl : xs.length = k := by
          have := congrArg List.length h1
          rw [List.length_map, List.length_take] at this
          omega
        have hok := h.oks r (List.mem_of_getElem? hr)
        rw [hsp, add_at] at k1 k2 k3
        refine ⟨xs ++ [⟨r, A1, n1, c1, hok.base, by omega⟩], ?_, fun x hx => ?_, fun j d x hj hd => ?_⟩
        · rw [List.map_append, h1, List.take_add_one, hr]; rfl
        · rcases List.mem_append.1 hx with hx | hx
          · exact h2 x hx
          · obtain rfl : x = _ := by simpa using hx
            exact ⟨hok, k4, k5, k6⟩
        · rcases Nat.lt_or_ge j xs.length with hlt | hge
          · rw [List.getElem?_append_left hlt] at hj
            exact h3 j d x hj hd
          · rw [List.getElem?_append_right hge] at hj
            have hj0 : j - xs.length = 0 := by
              rcases Nat.eq_zero_or_pos (j - xs.length) with h | h
              · exact h
              · rw [List.getElem?_eq_none (by simp; omega)] at hj; cases hj
            rw [hj0] at hj
            obtain rfl : _ = x := by simpa using hj
            obtain rfl : j = k := by omega
            unfold Cel.vs
            rcases d with _ | _ | _ | d
            · exact k1
            · exact k2
            · exact k3
            · omega
    obtain ⟨xs, h1, h2, h3⟩ := key rs.length (Nat.le_refl _)
    rw [List.take_length] at h1
    exact ⟨xs, h1, by rw [← h.len, ← h1, List.length_map], h2, fun _ => ⟨ad.block, ad.off, by rw [← hsp], hb, h3⟩⟩

/-! ### sorted by first addresses -/
def cmpI (a b : Int) : Int := if a < b then -1 else if b < a then 1 else 0
def celCmp (x y : Cel) : Int := cmpI x.r.base y.r.base
theorem cel_lt (x y : Cel) : ltOf celCmp x y = decide (x.r.base < y.r.base) := by
  unfold ltOf celCmp cmpI
  by_cases h1 : x.r.base < y.r.base
  · rw [if_pos h1]; simp [h1]
  · rw [if_neg h1]
    by_cases h2 : y.r.base < x.r.base
    · rw [if_pos h2]; simp [h1]
    · rw [if_neg h2]; simp [h1]
theorem cel_swo : SWO (ltOf celCmp) := by
  refine ⟨fun x => ?_, fun x y z h1 h2 => ?_, fun x y z h1 h2 => ?_⟩
  · rw [cel_lt]; simp
  · rw [cel_lt] at *; simp at *; omega
  · rw [cel_lt] at *; simp at *; omega
theorem sorted_cels {xs : List Cel} {d : Array Cel} (hp : PermIn 0 xs.toArray.size xs.toArray d) (hs : SortedIn (ltOf celCmp) 0 xs.toArray.size d) : d.toList.Perm xs ∧ (d.toList.map (·.r)).Pairwise (fun r s => r.base ≤ s.base) := by
  have hl : d.size = xs.length := by have := hp.1; simpa using this
  have hpp := hp.2.2
  have e1 : xs.toArray.extract 0 xs.toArray.size = xs.toArray := Array.extract_eq_self_of_le (Nat.le_refl _)
  have e2 : d.extract 0 xs.toArray.size = d := Array.extract_eq_self_of_le (by rw [hl]; simp)
  rw [e1, e2] at hpp
  refine ⟨by simpa using hpp, ?_⟩
  rw [List.pairwise_map, List.pairwise_iff_getElem]
  intro i j hi hj hij
  have hi' : i < d.size := by simpa using hi
  have hj' : j < d.size := by simpa using hj
  have h := hs i j (Nat.zero_le _) hij (by simp; omega)
  rw [cel_lt, getElem!_pos d j hj', getElem!_pos d i hi'] at h
  simp at h
  simpa using h

/-! ### a row of one's own, as the sort has it -/
theorem flat_row (xs : List Cel) : (flatK Cel.vs 3 xs.toArray).toList = celRow xs := by
  apply List.ext_getElem?
  intro t
  rcases Nat.lt_or_ge t (xs.length * 3) with ht | ht
  · obtain ⟨x, hx⟩ : ∃ x, xs[t / 3]? = some x := ⟨_, List.getElem?_eq_getElem (by omega)⟩
    have e : t = t / 3 * 3 + t % 3 := by omega
    have h1 := celRow_get (d := t % 3) hx (by omega)
    rw [← e] at h1
    rw [h1]
    have h2 := get_flatK Cel.vs 3 xs.toArray t (by simpa using ht)
    have h3 : t < (flatK Cel.vs 3 xs.toArray).size := by simpa using ht
    rw [Array.getElem?_toList, Array.getElem?_eq_getElem h3, ← getElem!_pos (flatK Cel.vs 3 xs.toArray) t h3, h2]
    have h4 : xs.toArray[t / 3]! = x := by
      obtain ⟨h5, h6⟩ := List.getElem?_eq_some_iff.1 hx
      rw [getElem!_pos _ _ (by simpa using h5)]
      simpa using h6
    rw [h4, getElem!_pos _ _ (by rw [Cel.vs_len]; omega), List.getElem?_eq_getElem (by rw [Cel.vs_len]; omega)]
  · rw [List.getElem?_eq_none (by rw [Array.length_toList, size_flatK]; simpa using ht), List.getElem?_eq_none (by rw [celRow_len]; exact ht)]
theorem holds_cels {w : World} {B g n c : Nat} {e : TypeId} {xs : List Cel} (h : w.ownsRow B e 3 (.slice (some ⟨g, 0, none⟩) n c) n (celRow xs)) (hl : xs.length = n) : HoldsK Cel.vs 3 w g 0 xs.toArray := by
  intro j hj
  have hj' : j < xs.length * 3 := by simpa using hj
  have h3 : j < (flatK Cel.vs 3 xs.toArray).size := by simpa using hj
  have h1 := h.cellAt j (by omega)
  refine ⟨?_, by rw [Nat.zero_add]; exact h.frozenAt j⟩
  rw [Nat.zero_add, h1, ← flat_row, Array.getElem?_toList, Array.getElem?_eq_getElem h3, getElem!_pos (flatK Cel.vs 3 xs.toArray) j h3]
  rfl
theorem take_put (cur F : Array Value) (h : F.size ≤ cur.size) : (putCells id 0 F cur).toList.take F.size = F.toList := by
  apply List.ext_getElem?
  intro j
  by_cases hj : j < F.size
  · rw [List.getElem?_take_of_lt hj, Array.getElem?_toList]
    simp [putCells, hj, show j < cur.size by omega]
  · rw [List.getElem?_take_eq_none (by omega), List.getElem?_eq_none (by simp; omega)]
theorem own_sorted {w : World} {B g n c m : Nat} {e : TypeId} {xs ys : List Cel} {os : Array Obj} (h : w.ownsRow B e 3 (.slice (some ⟨g, 0, none⟩) n c) n (celRow xs)) (hl : ys.length = n) :
    (sortWorldK Cel.vs 3 w g 0 m ys.toArray os).ownsRow B e 3 (.slice (some ⟨g, 0, none⟩) n c) n (celRow ys) ∧ w.grownBy (sortWorldK Cel.vs 3 w g 0 m ys.toArray os) (some g) := by
  unfold sortWorldK putRowK
  rcases h.2 with ⟨e0, _⟩ | ⟨g', c', cur, e0, hB, hg, hn, hm, hs, ht⟩
  · cases e0
  · injection e0 with e1 _ e3
    injection e1 with e1
    injection e1 with e1
    subst e1; subst e3
    have hgl : g < w.heap.size := (Array.getElem?_eq_some_iff.1 hg).1
    have hF : (flatK Cel.vs 3 ys.toArray).size = n * 3 := by simp [hl]
    refine ⟨⟨by rw [celRow_len, hl], .inr ⟨g, c, putCells id 0 (flatK Cel.vs 3 ys.toArray) cur, rfl, hB, ?_, hn, hm, by simpa [putCells] using hs, ?_⟩⟩, rfl, rfl, rfl, by simp, fun k hk hne => ?_⟩
    · rw [heap_grow_old _ _ (by simpa using hgl)]
      simp [putRow, mapBlock, Sort.ahead, Array.getElem?_modify, hg, onCells]
    · rw [← hF, take_put _ _ (by rw [hF]; omega), flat_row]
    · rw [heap_grow_old _ _ (by simpa using hk)]
      have : g ≠ k := fun e => hne (by rw [e])
      simp [putRow, mapBlock, Sort.ahead, Array.getElem?_modify, this]
end Mm
end Go.Proofs.YtmiphnocgepdgaaGreatDoor
namespace Go.Proofs.YtmiphnocgepdgaaGreatDoor
open Go Go.RowKit Go.Shelf
namespace Mm
open Wd Nt
set_option linter.unusedVariables false
attribute [local go_sem] Oper.semAt_some
theorem take_one {xs : List Cel} {k : Nat} {x : Cel} (h : xs[k]? = some x) : xs.take (k + 1) = xs.take k ++ [x] := by rw [List.take_add_one, h]; rfl
theorem take_length {xs : List Cel} {k : Nat} (h : k ≤ xs.length) : (xs.take k).length = k := by rw [List.length_take]; omega
set_option maxRecDepth 100000 in
set_option maxHeartbeats 2000000 in
/-- the closure that slices.Values hands back -/
theorem vals1_in (F : Fence) (n : Nat) (h7 : F.fn 140) (hro : F.round = none) (hn : 1 ≤ n) (l Bs n₀ b off len cap : Nat) (xs : List Cel) (hxl : xs.length = len) (hreach : len ≤ 1000000) (hb : b < n₀) (J Jx : List Cel → World → Prop)
    (hY : ∀ pre x W, J pre W → pre.length < len → YieldAt F (n - 1) Tryz.prog l #[.agg x.vs.toArray] W fun e W' =>
      (e = .returned (.bool true) ∧ J (pre ++ [x]) W' ∧ Below n₀ W W') ∨ (e = .returned (.bool false) ∧ Jx (pre ++ [x]) W'))
    (W : World) (hn0 : n₀ ≤ W.heap.size) (hJ : AbidesFrom W.heap.size J) (hBs : W.cell? ⟨Bs, 0, none⟩ = some (.slice (some ⟨b, off, none⟩) len cap))
    (hc : ∀ (j d : Nat) (x : Cel), xs[j]? = some x → d < 3 → W.cell? ⟨b, off + j * 3 + d, none⟩ = x.vs[d]?) (h0 : J [] W) :
    CallsIn F n Tryz.prog 140 #[.func (.yield l) #[] #[], .pointer (some ⟨Bs, 0, none⟩)] W fun e W' => (∃ v, e = .returned v) ∧
      ((∃ ys, ys = xs ∧ J ys W') ∨ (∃ pre, (∃ k, k ≤ len ∧ pre = xs.take k) ∧ Jx pre W')) := by
  refine callsIn_of_wp Tryz.func140 rfl h7 ?_ hro
  simp only [Tryz.ntmps140, List.size_toArray, List.length_cons, List.length_nil, Nat.reduceAdd, Nat.reduceSub, Array.replicate_succ, Array.replicate_zero, List.push_toArray, List.append_toArray, List.nil_append, List.cons_append]
  gi_wp2
  gi_loopw [7] (fun i wr => ∃ k : Nat, k ≤ len ∧ i = .int .i64 k ∧ J (xs.take k) wr ∧ Hid (Below n₀ W wr) ∧ Hid (W.heap.size ≤ wr.heap.size))
    (fun i _ => len - (intOf i).toNat)
  case atStart => exact ⟨0, Nat.zero_le _, rfl, by rw [List.take_zero]; exact h0, Lib.hid (Below.refl _ _), Lib.hid (Nat.le_refl _)⟩
  case round =>
    obtain ⟨k, hk, rfl, hJs, hnx, hsz⟩ := hrel
    by_cases hlt : k < len
    · obtain ⟨x, hx⟩ : ∃ x, xs[k]? = some x := ⟨_, List.getElem?_eq_getElem (by omega)⟩
      have c0 : wr.cell? ⟨b, off + k * 3, none⟩ = some (.int .u64 x.r.base) := (hnx.out.cell (p := ⟨b, off + k * 3, none⟩) hb).trans (hc k 0 x hx (by omega))
      have c1 : wr.cell? ⟨b, off + k * 3 + 1, none⟩ = some (.slice x.A x.n x.c) := (hnx.out.cell (p := ⟨b, off + k * 3 + 1, none⟩) hb).trans (hc k 1 x hx (by omega))
      have c2 : wr.cell? ⟨b, off + k * 3 + 2, none⟩ = some (.bool x.r.write) := (hnx.out.cell (p := ⟨b, off + k * 3 + 2, none⟩) hb).trans (hc k 2 x hx (by omega))
      have hJ2 : J (xs.take k) (wr.alloc (.cells #[.int .u64 x.r.base, .slice x.A x.n x.c, .bool x.r.write] 66)) := hJ _ wr _ none hJs (World.grownBy_alloc wr _ none) (fun r e => by cases e)
      obtain ⟨fn, tmps, assign, body, hy, hR⟩ := hY _ x _ hJ2 (by rw [take_length (by omega)]; exact hlt)
      dsimp only [Cel.vs] at hy
      have hb2 : Hid (Below n₀ W (wr.alloc (.cells #[.int .u64 x.r.base, .slice x.A x.n x.c, .bool x.r.write] 66))) := Lib.hid (hnx.out.alloc (Nat.le_trans hn0 hsz.out) _)
      have HX := Lib.hid hx
      have hlti : (k : Int) < (len : Int) := by omega
      clear hx
      gi_wp2
      refine hR.mono ?_
      rintro e W3 (⟨rfl, hJ3, hk3⟩ | ⟨rfl, hJx3⟩)
      · have hsz3 : Hid (W.heap.size ≤ W3.heap.size) := Lib.hid (by have h1 := hk3.size; have h2 := hsz.out; simp at h1; omega)
        have hb3 := Lib.hid (hb2.out.trans hk3)
        clear hk3
        gi_wp2
        go_roundw
        case rel => exact ⟨k + 1, by omega, by simp, by rw [take_one HX.out]; exact hJ3, hb3, hsz3⟩
        case measure => simp [intOf]; omega
      · gi_wp2
        refine bodyPost_ret (results_none rfl _ _ _) rfl ?_
        exact ⟨⟨_, rfl⟩, .inr ⟨_, ⟨k + 1, by omega, (take_one HX.out).symm⟩, hJx3⟩⟩
    · obtain rfl : k = len := by omega
      gi_wp2
      go_end0
      exact ⟨⟨_, rfl⟩, .inl ⟨_, by rw [List.take_of_length_le (by omega)], hJs⟩⟩
set_option maxRecDepth 100000 in
set_option maxHeartbeats 1000000 in
theorem vals1_nil_in (F : Fence) (n : Nat) (h7 : F.fn 140) (hro : F.round = none) (l Bs cap : Nat) (A : Option Addr) (J : List Cel → World → Prop) (W : World) (hBs : W.cell? ⟨Bs, 0, none⟩ = some (.slice A 0 cap)) (h0 : J [] W) :
    CallsIn F n Tryz.prog 140 #[.func (.yield l) #[] #[], .pointer (some ⟨Bs, 0, none⟩)] W fun e W' => (∃ v, e = .returned v) ∧ J [] W' := by
  refine callsIn_of_wp Tryz.func140 rfl h7 ?_ hro
  simp only [Tryz.ntmps140, List.size_toArray, List.length_cons, List.length_nil, Nat.reduceAdd, Nat.reduceSub, Array.replicate_succ, Array.replicate_zero, List.push_toArray, List.append_toArray, List.nil_append, List.cons_append]
  gi_wp2
  gi_loopw [7] (fun i wr => i = .int .i64 0 ∧ J [] wr) (fun _ _ => 0)
  case atStart => exact ⟨rfl, h0⟩
  case round =>
    obtain ⟨rfl, hJs⟩ := hrel
    gi_wp2
    go_end0
    exact ⟨⟨_, rfl⟩, hJs⟩
set_option maxHeartbeats 1000000 in
theorem vals_in (F : Fence) (n : Nat) (h5 : F.fn 118) (hro : F.round = none) (a : Option Addr) (len cap : Nat) (w : World) :
    CallsIn F n Tryz.prog 118 #[.slice a len cap] w fun e w' => e = .returned (.func (.func 140) #[] #[.pointer (some ⟨w.heap.size, 0, none⟩)]) ∧ w' = w.alloc (.cells #[.slice a len cap] 42) := by
  refine callsIn_of_wp Tryz.func118 rfl h5 ?_ hro
  simp only [Tryz.ntmps118, List.size_toArray, List.length_cons, List.length_nil, Nat.reduceAdd, Nat.reduceSub, Array.replicate_succ, Array.replicate_zero, List.push_toArray, List.append_toArray, List.nil_append, List.cons_append]
  gi_wp2
  go_ret
  exact ⟨rfl, rfl⟩
def yieldCel (x : Cel) : Array Value := #[.agg x.vs.toArray]
/-- slices.Values hands back what gives the regions, all of them, in order -/
theorem vals_stops (F : Fence) (n : Nat) (h7 : F.fn 140) (hro : F.round = none) (hn : 1 ≤ n) (Bs m c n₀ : Nat) (A : Option Addr) (rs : List Reg) (xs : List Cel) (hm : m ≤ 1000000) (w0 w : World) (hxs : Cels w0 A m rs xs) (hbw : Below w0.heap.size w0 w) (hn₀ : n₀ = w0.heap.size)
    (hBs : Bs < w.heap.size) (hc : w.cell? ⟨Bs, 0, none⟩ = some (.slice A m c)) :
    SeqStopsK F n Tryz.prog 140 #[.pointer (some ⟨Bs, 0, none⟩)] yieldCel (Below n₀) (fun ys => ys = xs) (fun pre => ∃ k, k ≤ m ∧ pre = xs.take k) xs.length w := fun l J Jx W hW hJ _ hY h0 => by
  subst hn₀
  have hc' := (hW.cell (p := ⟨Bs, 0, none⟩) hBs).trans hc
  have hsz := hbw.size
  have hsz2 := hW.size
  rcases Nat.eq_zero_or_pos m with rfl | hpos
  · have hx0 : xs = [] := List.eq_nil_of_length_eq_zero hxs.len
    exact (vals1_nil_in F n h7 hro l Bs c A J W hc' h0).mono fun e W' ⟨he, hj⟩ => ⟨he, .inl ⟨_, hx0.symm, hj⟩⟩
  · obtain ⟨b, off, rfl, hlt, hcell⟩ := hxs.at_ (fun e => by rw [e] at hxs; have := hxs.len; simp at this; omega)
    have hWW : Below w0.heap.size w0 W := hbw.trans (hW.mono hsz)
    exact vals1_in F n h7 hro hn l Bs w0.heap.size b off m c xs hxs.len hm hlt J Jx (fun pre x W1 hj hl => hY pre x W1 hj (by rw [hxs.len]; exact hl)) W (by omega) hJ hc' (fun j d x hj hd => (hWW.cell (p := ⟨b, off + j * 3 + d, none⟩) hlt).trans (hcell j d x hj hd)) h0
end Mm
end Go.Proofs.YtmiphnocgepdgaaGreatDoor
namespace Go.Proofs.YtmiphnocgepdgaaGreatDoor
open Go Go.RowKit Go.Shelf
namespace Mm
open Wd Nt
set_option linter.unusedVariables false
attribute [local go_sem] Oper.semAt_some
/-- the box of the loop's variable -/
def BoxR (W : World) (B : Nat) (x : Cel) : Prop := W.heap[B]? = some (.cells #[.int .u64 x.r.base, .slice x.A x.n x.c, .bool x.r.write] 66 (0, 0))
theorem BoxR.cells {W : World} {B : Nat} {x : Cel} (h : BoxR W B x) : W.cell? ⟨B, 0, none⟩ = some (.int .u64 x.r.base) ∧ W.cell? ⟨B, 1, none⟩ = some (.slice x.A x.n x.c) ∧ W.cell? ⟨B, 2, none⟩ = some (.bool x.r.write) := by
  unfold BoxR at h
  refine ⟨?_, ?_, ?_⟩ <;> simp [World.cell?, h]
theorem boxR_own (B : Nat) (x : Cel) : Own (fun (_ : Unit) W => BoxR W B x) := fun s X Y row hs hg hrow => by
  unfold BoxR at *
  refine (hg.block B (Array.getElem?_eq_some_iff.1 hs).1 (fun e' => ?_)).trans hs
  obtain ⟨o, ho, hc⟩ := hrow B e'.symm
  rw [hs] at ho; cases ho; cases hc
/-- what has been collected when pre has come -/
def Col (B : Nat) (w : World) (pre : List Cel) (W : World) : Prop :=
  ((∃ v, Boxed W B 42 v ∧ W.ownsRow w.heap.size 66 3 v pre.length (celRow pre) ∧ (v = .slice none 0 0 ↔ pre = [])) ∧ Below w.heap.size w W)
theorem col_own (w : World) : OwnFrom (w.heap.size + 1) (Col w.heap.size w) :=
  OwnFrom.and (Own.from (holdsRow_own w.heap.size w.heap.size 42 66 3 (fun pre => pre.length) celRow (fun pre v => v = .slice none 0 0 ↔ pre = [])) _) (ownFrom_below (Nat.le_refl _) (by omega))
theorem vs_new (W : World) (x : Cel) (j : Nat) (u : Value) (hu : x.vs[j]? = some u) : (W.alloc (.cells #[.int .u64 x.r.base, .slice x.A x.n x.c, .bool x.r.write] 66)).cell? ((⟨W.heap.size, 0, none⟩ : Addr).add j) = some u := by
  rw [add_at, Nat.zero_add]
  unfold Cel.vs at hu
  rw [World.cell?_alloc_at _ _ _ _ (by simp)]
  simpa using hu
set_option maxRecDepth 100000 in
set_option maxHeartbeats 4000000 in
theorem appSeq_in (F : Fence) (n : Nat) (h11 : F.fn 147) (hro : F.round = none) (hn : 2 ≤ n) (g : Nat) (lb : Array Value) (hFg : F.fn g) (eg : ∀ args w, (callFunc g args).run Tryz.prog w = .ok (.enter g args) w)
    (S Sp : List Cel → Prop) (N n₀ : Nat) (hN : N ≤ 1000000) (w : World) (hn0 : n₀ ≤ w.heap.size) (hseq : SeqStopsK F (n - 1) Tryz.prog g lb yieldCel (Below n₀) S Sp N w) :
    CallsIn F n Tryz.prog 147 #[.slice none 0 0, .func (.func g) #[] lb] w fun e w' => ∃ (v : Value) (xs : List Cel), e = .returned v ∧ S xs ∧ w'.ownsRow w.heap.size 66 3 v xs.length (celRow xs) ∧ (v = .slice none 0 0 ↔ xs = []) ∧ Below w.heap.size w w' := by
  have h1 : 1 ≤ n := by omega
  obtain ⟨i0, hi, hz, h2, h3⟩ := info_parts info_reg
  refine callsIn_of_wp_marks Tryz.func147 rfl h11 ?_ hro
  simp only [Tryz.ntmps147, List.size_toArray, List.length_cons, List.length_nil, Nat.reduceAdd, Nat.reduceSub, Array.replicate_succ, Array.replicate_zero, List.push_toArray, List.append_toArray, List.nil_append, List.cons_append]
  gi_wp2
  obtain ⟨W0, hW0⟩ : ∃ W0, w.alloc (.cells #[.slice none 0 0] 42) = W0 := ⟨_, rfl⟩
  have hs0 : W0.heap.size = w.heap.size + 1 := by rw [← hW0]; simp
  have hv0 : Boxed W0 w.heap.size 42 (.slice none 0 0) := by rw [← hW0]; exact Boxed.new _ _ _
  have hb0 : Below w.heap.size w W0 := by rw [← hW0]; exact (Below.refl _ w).alloc (Nat.le_refl _) _
  rw [hW0]
  clear hW0
  refine wpIn_rangeFunc_ownH hro h1 (gf := g) (lb := lb) rfl hFg eg hseq belowK_t (belowK_b (by omega)) hb0 (fun _ => rfl)
    (Col w.heap.size w) (fun _ _ _ => False) (by rw [hs0]; exact col_own w) (fun _ _ _ _ _ hs _ _ => hs)
    ⟨⟨_, hv0, World.ownsRow_nil _ _ _ _, by simp⟩, hb0⟩
    (fun x a' W => ∃ Bx, w.heap.size < Bx ∧ BoxR W Bx x ∧ a' = { tmps := #[.slice none 0 0, .func (.func g) #[] lb, .pointer (some ⟨w.heap.size, 0, none⟩), undef, .slice none 0 0, .pointer (some ⟨Bx, 0, none⟩), .func (.func g) #[] lb, .agg x.vs.toArray, undef, undef, undef, undef, undef], defers := [] })
    (fun x a' => by
      rintro s X Y row ⟨Bx, hlt, hx, he⟩ hg hr
      exact ⟨Bx, hlt, boxR_own Bx x () X Y row hx hg (fun r e => (hr r e).2), he⟩) ?assign ?body ?done ?stop
  case assign =>
    rintro l pre x W K ⟨hv, hB⟩ hK
    unfold yieldCel Cel.vs
    gi_wp2
    have hsz := hB.size
    refine hK _ _ ((KeepsOthers.alloc _ _).from _) ((Below.refl _ W).alloc (by omega) _) ?_ ⟨W.heap.size, ?_, World.alloc_heap_new W _, rfl⟩
    · obtain ⟨v, hv1, hv2, hv3⟩ := hv
      exact ⟨⟨v, hv1.alloc _, hv2.alloc _, hv3⟩, hB.alloc hB.size _⟩
    · obtain ⟨v, hv1, _⟩ := hv
      exact hv1.lt
  case body =>
    rintro l pre x a' W hl _ ⟨⟨v, hv, hrow, hnil⟩, hB⟩ ⟨Bx, hBx, hbx, rfl⟩ hlen
    obtain ⟨c0, c1, c2⟩ := hbx.cells
    have hcv := hv.cell
    have hsz := hB.size
    have HN := Lib.hid hnil
    have HB := Lib.hid hB
    have HV := Lib.hid hv
    have HR := Lib.hid hrow
    clear hnil hB hbx
    gi_wp2_with (gi_at_builtin; go_loud (refine wpListIn_append_own _ rfl _ _ 42 rfl w.heap.size 66 i0 _ 3 40 Tryz.underlying42 hi hz h2 h3 rfl (by decide) _ _ _ rfl (hrow.alloc _) ⟨W.heap.size, 0, none⟩ 1 1 x.vs rfl rfl (vs_new W x) x.vs_one (by simp only [maxLen]; omega) (by omega) (by simp; omega) ?_); intro v' w1 hown' hgrow _; obtain ⟨g', cap', rfl⟩ := ownsRow_succ hown'; obtain ⟨hv1, hv2, hr2, hk2, hb2⟩ := HV.out.appended (by decide) HR.out hsz (Nat.le_refl _) hown' hgrow; have hc1 := hv1.cell; have hf1 := hv1.frozen)
    refine ⟨hk2.from _, hb2.mono (by omega), ⟨_, hv2, ?_, by simp⟩, HB.out.trans hb2⟩
    rw [List.length_append, celRow_app, celRow_one]
    exact hr2
  case done =>
    rintro D ys W hD hS ⟨⟨v, hv, hrow, hnil⟩, hB⟩ hK
    have hcv := hv.cell
    have HR := Lib.hid hrow
    have HN := Lib.hid hnil
    have HB := Lib.hid hB
    clear hrow hnil hB
    gi_wp2
    refine ⟨by simp, .inl ⟨_, _, rfl, run_takeDeferred hK, ?_⟩⟩
    exact ⟨_, results_tmp rfl _ _ _, v, ys, rfl, hS, ownsRow_putObj HR.out _ hK rfl, HN.out, HB.out.trans (belowK_b (w := w) (Nat.le_refl _) W D _ _ (by omega) hK rfl rfl)⟩
  case stop =>
    rintro D c pre W _ _ h _
    exact h.elim
set_option maxHeartbeats 1000000 in
theorem collect_in (F : Fence) (n : Nat) (h8 : F.fn 138) (h11 : F.fn 147) (hro : F.round = none) (hn : 3 ≤ n) (g : Nat) (lb : Array Value) (hFg : F.fn g) (eg : ∀ args w, (callFunc g args).run Tryz.prog w = .ok (.enter g args) w)
    (S Sp : List Cel → Prop) (N n₀ : Nat) (hN : N ≤ 1000000) (w : World) (hn0 : n₀ ≤ w.heap.size) (hseq : SeqStopsK F (n - 1 - 1) Tryz.prog g lb yieldCel (Below n₀) S Sp N w) :
    CallsIn F n Tryz.prog 138 #[.func (.func g) #[] lb] w fun e w' => ∃ (v : Value) (xs : List Cel), e = .returned v ∧ S xs ∧ w'.ownsRow w.heap.size 66 3 v xs.length (celRow xs) ∧ (v = .slice none 0 0 ↔ xs = []) ∧ Below w.heap.size w w' := by
  have h1 : 1 ≤ n := by omega
  refine callsIn_of_wp Tryz.func138 rfl h8 ?_ hro
  simp only [Tryz.ntmps138, List.size_toArray, List.length_cons, List.length_nil, Nat.reduceAdd, Nat.reduceSub, Array.replicate_succ, Array.replicate_zero, List.push_toArray, List.append_toArray, List.nil_append, List.cons_append]
  gi_wp2_with (gi_at_call 147; refine (appSeq_in F (n - 1) h11 hro (by omega) g lb hFg eg S Sp N n₀ hN _ hn0 hseq).mono ?_; rintro e w' ⟨v, ss, rfl, hS, hrow, hnil, hb⟩)
  go_ret
  exact ⟨v, ss, rfl, hS, hrow, hnil, hb⟩
/-- what slices.Values tells, collected: a row of one's own of the same regions -/
def ColP (xs : List Cel) (w : World) (e : Ending) (w' : World) : Prop := ∃ v, e = .returned v ∧ w'.ownsRow w.heap.size 66 3 v xs.length (celRow xs) ∧ (v = .slice none 0 0 ↔ xs = []) ∧ Below w.heap.size w w'
theorem collect_c (Bs m c : Nat) (A : Option Addr) (rs : List Reg) (xs : List Cel) (hm : m ≤ 1000000) (w0 w : World) (hxs : Cels w0 A m rs xs) (hbw : Below w0.heap.size w0 w) (hBs : Bs < w.heap.size) (hc : w.cell? ⟨Bs, 0, none⟩ = some (.slice A m c)) :
    Calls Tryz.prog 138 #[.func (.func 140) #[] #[.pointer (some ⟨Bs, 0, none⟩)]] w (ColP xs w) := by
  refine (callsIn_wide (n := 4)).1 ((collect_in Fence.wide 4 trivial trivial rfl (by omega) _ _ trivial (enters_of Tryz.func140 (by kernel_rfl) rfl) (fun ys => ys = xs) _ xs.length w0.heap.size (by rw [hxs.len]; exact hm) w hbw.size
    (vals_stops Fence.wide _ trivial rfl (by omega) Bs m c w0.heap.size A rs xs hm w0 w hxs hbw rfl hBs hc)).mono ?_)
  rintro e w' ⟨v, ss, rfl, rfl, h1, h2, h3⟩
  exact ⟨v, rfl, h1, h2, h3⟩
end Mm
end Go.Proofs.YtmiphnocgepdgaaGreatDoor
namespace Go.Proofs.YtmiphnocgepdgaaGreatDoor
open Go Go.RowKit Go.Shelf Go.Sort
namespace Mm
open Wd Nt
set_option linter.unusedVariables false
theorem compare_c (a b : Int) (w : World) : Calls Tryz.prog 120 #[.int .u64 a, .int .u64 b] w fun e w' => e = .returned (.int .i64 (cmpI a b)) ∧ w' = w := by
  by_cases h1 : a < b
  · have e : cmpI a b = -1 := by unfold cmpI; rw [if_pos h1]
    rw [e]
    clear e
    go_enter Tryz.func120, Tryz.ntmps120
    go_wp2_with (go_in)
    go_ret
    exact ⟨rfl, rfl⟩
  · by_cases h2 : b < a
    · have e : cmpI a b = 1 := by unfold cmpI; rw [if_neg h1, if_pos h2]
      rw [e]
      clear e
      go_enter Tryz.func120, Tryz.ntmps120
      go_wp2_with (go_in)
      go_ret
      exact ⟨rfl, rfl⟩
    · have e : cmpI a b = 0 := by unfold cmpI; rw [if_neg h1, if_neg h2]
      rw [e]
      clear e
      go_enter Tryz.func120, Tryz.ntmps120
      go_wp2_with (go_in)
      go_ret
      exact ⟨rfl, rfl⟩
set_option maxHeartbeats 1000000 in
theorem closure_c (x y : Cel) (W : World) : Calls Tryz.prog 119 #[.agg #[.int .u64 x.r.base, .slice x.A x.n x.c, .bool x.r.write], .agg #[.int .u64 y.r.base, .slice y.A y.n y.c, .bool y.r.write]] W fun e w' => e = .returned (.int .i64 (celCmp x y)) ∧ ∃ q os', w' = grow (W.drewN q) os' := by
  have hcon := fun W' => compare_c x.r.base y.r.base W'
  change ∀ W', Calls Tryz.prog _ _ _ (fun e w' => e = .returned (.int .i64 (celCmp x y)) ∧ w' = W') at hcon
  generalize celCmp x y = r at hcon ⊢
  go_enter Tryz.func119, Tryz.ntmps119
  go_wp2_with (go_at_call 120; refine (hcon _).mono ?_; rintro e w' ⟨rfl, rfl⟩)
  go_ret
  exact ⟨rfl, 0, _, by rw [alloc_eq_grow, alloc_eq_grow, grow_grow]; rfl⟩
theorem cmpLays_c (blk off size : Nat) (w : World) : CmpLays Tryz.prog 119 #[] Cel.vs 3 celCmp blk off size w := fun _ _ _ _ x y => closure_c x y _
theorem bitsLen_c (n : Nat) (W : World) (h : n ≤ 12) : Calls Tryz.prog 149 #[.int .u64 n] W fun e w' => (∃ l : Int, e = .returned (.int .i64 l)) ∧ w' = W :=
  (Tryz.bits_Len n W (by omega) (by omega)).mono fun _ _ ⟨he, hw⟩ => ⟨⟨_, he⟩, hw⟩
set_option maxRecDepth 100000 in
set_option maxHeartbeats 1000000 in
/-- slices.SortFunc at no region -/
theorem sortNone_c (w : World) : Calls Tryz.prog 139 #[.slice none 0 0, .func (.func 119) #[] #[]] w fun e w' => e = .returned (.tuple #[]) ∧ w' = w := by
  have hl := fun W => bitsLen_c 0 W (by omega)
  have hi : ∀ W, Calls Tryz.prog 151 #[.slice none 0 0, .int .i64 0, .int .i64 0, .func (.func 119) #[] #[]] W fun e w' => e = .returned (.tuple #[]) ∧ w' = W := fun W => by
    go_enter Tryz.func151, Tryz.ntmps151
    go_wp2
    refine wp_loop_rounds 1 ?_
    rw [rounds_succ]
    go_wp2
    go_end0
    exact ⟨rfl, rfl⟩
  have hp : ∀ (l : Int) W, Calls Tryz.prog 148 #[.slice none 0 0, .int .i64 0, .int .i64 0, .int .i64 l, .func (.func 119) #[] #[]] W fun e w' => e = .returned (.tuple #[]) ∧ w' = W := fun l W => by
    go_enter Tryz.func148, Tryz.ntmps148
    go_wp2_with fail
    refine wp_loop_rounds 1 ?_
    rw [rounds_succ]
    go_wp2_with (go_at_call 151; refine (hi _).mono ?_; rintro e w' ⟨rfl, rfl⟩)
    (try simp only [Exit.inBlock, Exit.then]); refine bodyPost_ret (results_none rfl _ _ _) rfl ?_
    exact ⟨rfl, rfl⟩
  go_enter Tryz.func139, Tryz.ntmps139
  go_wp2_with (first | (go_at_call 149; refine (hl _).mono ?_; rintro e w' ⟨⟨l, rfl⟩, rfl⟩) | (go_at_call 148; refine (hp _ _).mono ?_; rintro e w' ⟨rfl, rfl⟩))
  go_end0
  exact ⟨rfl, rfl⟩
/-- what slices.SortFunc leaves of a row of one's own -/
theorem sort_c {w : World} {B g n c : Nat} {xs : List Cel} (h : w.ownsRow B 66 3 (.slice (some ⟨g, 0, none⟩) n c) n (celRow xs)) (hl : xs.length = n) (h12 : n ≤ 12) :
    Calls Tryz.prog 139 #[.slice (some ⟨g, 0, none⟩) n c, .func (.func 119) #[] #[]] w fun e w' => e = .returned (.tuple #[]) ∧ ∃ ys : List Cel, ys.Perm xs ∧ (ys.map (·.r)).Pairwise (fun r s => r.base ≤ s.base) ∧
      w'.ownsRow B 66 3 (.slice (some ⟨g, 0, none⟩) n c) n (celRow ys) ∧ w.grownBy w' (some g) := by
  have hs : xs.toArray.size = n := by simpa using hl
  have hg : g < w.heap.size := (h.lt g rfl).2
  have hcon := AnyQ.slices_SortFunc_small_sorted Tryz.sortR 3 Tryz.isAgg66 Tryz.sizeOf66 Cel.vs Cel.vs_len Cel.vs_one celCmp 119 #[] cel_swo g 0 c xs.toArray w (enters_of Tryz.func119 (by kernel_rfl) rfl) (cmpLays_c _ _ _ _) (holds_cels h hl) hg (by omega) bitsLen_c
  rw [hs] at hcon
  refine Calls.mono hcon ?_
  rintro e w' ⟨rfl, d, m, os, hp, hso, rfl⟩
  rw [← hs] at hp hso
  obtain ⟨h1, h2⟩ := sorted_cels hp hso
  have hd : d.toList.length = n := by rw [h1.length_eq]; exact hl
  obtain ⟨h3, h4⟩ := own_sorted (ys := d.toList) (m := m) (os := os) h hd
  exact ⟨rfl, d.toList, h1, h2, h3, h4⟩
/-- a row of one's own: the regions by their first addresses, their bytes where they were -/
def ByP (xs : List Cel) (w : World) (e : Ending) (w' : World) : Prop := ∃ v ys, e = .returned v ∧ ys.Perm xs ∧ (ys.map (·.r)).Pairwise (fun r s => r.base ≤ s.base) ∧ w'.ownsRow w.heap.size 66 3 v ys.length (celRow ys) ∧ Below w.heap.size w w'
set_option maxRecDepth 100000 in
set_option maxHeartbeats 2000000 in
theorem sorted_c (Bs m c : Nat) (A : Option Addr) (rs : List Reg) (xs : List Cel) (hm : m ≤ 12) (w0 w : World) (hxs : Cels w0 A m rs xs) (hbw : Below w0.heap.size w0 w) (hBs : Bs < w.heap.size) (hc : w.cell? ⟨Bs, 0, none⟩ = some (.slice A m c)) :
    Calls Tryz.prog 117 #[.func (.func 140) #[] #[.pointer (some ⟨Bs, 0, none⟩)], .func (.func 119) #[] #[]] w (ByP xs w) := by
  have H1 := Lib.hid (collect_c Bs m c A rs xs (by omega) w0 w hxs hbw hBs hc)
  have HL := Lib.hid hxs.len
  clear hxs hbw hc
  go_enter Tryz.func117, Tryz.ntmps117
  go_wp2_with fail
  go_at_call 138
  refine H1.out.mono ?_
  rintro e w1 ⟨v, rfl, hrow, hnil, hb⟩
  have HB := Lib.hid hb
  have HR := Lib.hid hrow
  rcases hrow.2 with ⟨rfl, hz⟩ | ⟨g, cap, cur, rfl, hbase, hgb, r1, r2, r3, r4⟩
  · have hx0 : xs = [] := List.eq_nil_of_length_eq_zero hz
    have H2 := Lib.hid (sortNone_c w1)
    clear H1 hrow hnil hb
    go_wp2_with fail
    go_at_call 139
    refine H2.out.mono ?_
    rintro e w2 ⟨rfl, rfl⟩
    go_wp2_with fail
    go_ret
    exact ⟨_, [], rfl, hx0 ▸ List.Perm.refl _, List.Pairwise.nil, World.ownsRow_nil _ _ _ _, HB.out⟩
  · rw [HL.out] at hrow
    have H2 := Lib.hid (sort_c hrow HL.out hm)
    have HG := Lib.hid hbase
    rw [HL.out]
    clear H1 hrow hnil hb hgb r1 r2 r3 r4 hbase
    go_wp2_with fail
    go_at_call 139
    refine H2.out.mono ?_
    rintro e w2 ⟨rfl, ys, hp, hs, ho, hg⟩
    have HO := Lib.hid ho
    have HP := Lib.hid hp
    have HS := Lib.hid hs
    have HK := Lib.hid hg
    clear H2 hp hs ho hg
    go_wp2_with fail
    go_ret
    exact ⟨_, ys, rfl, HP.out, HS.out, by rw [HP.out.length_eq, HL.out]; exact HO.out, HB.out.grown HK.out HB.out.size (fun k e => by cases e; exact HG.out)⟩
set_option maxRecDepth 100000 in
set_option maxHeartbeats 2000000 in
theorem byAddr_c (A : Option Addr) (n c : Nat) (rs : List Reg) (xs : List Cel) (w : World) (h : Hid (Cels w A n rs xs)) (hn : n ≤ 12) :
    Calls Tryz.prog 73 #[.slice A n c] w (ByP xs w) := by
  have H1 := Lib.hid ((callsIn_wide (n := 4)).1 (vals_in Fence.wide 4 trivial rfl A n c w))
  have HB : Hid (Below w.heap.size w (w.alloc (.cells #[.slice A n c] 42))) := Lib.hid ((Below.refl _ w).alloc (Nat.le_refl _) _)
  have H2 := Lib.hid (sorted_c w.heap.size n c A rs xs hn w (w.alloc (.cells #[.slice A n c] 42)) h.out HB.out (by simp) (by rw [World.cell?_alloc_at _ _ _ _ (by simp)]; rfl))
  go_enter Tryz.func73, Tryz.ntmps73
  go_wp2_with fail
  go_at_call 118
  refine H1.out.mono ?_
  rintro e w1 ⟨rfl, rfl⟩
  go_wp2_with fail
  go_at_call 117
  refine H2.out.mono ?_
  rintro e w2 ⟨v, ys, rfl, hp, hs, ho, hb⟩
  have HO := Lib.hid ho
  have HP := Lib.hid hp
  have HS := Lib.hid hs
  have HK := Lib.hid hb
  clear H1 H2 hp hs ho hb
  go_wp2_with fail
  go_ret
  exact ⟨v, ys, rfl, HP.out, HS.out, ownsRow_base HO.out (by simp), bel_trans HB.out HK.out⟩
end Mm
end Go.Proofs.YtmiphnocgepdgaaGreatDoor
namespace Go.Proofs.YtmiphnocgepdgaaGreatDoor
open Go Go.RowKit Go.Shelf Go.Sort
namespace Mm
open Wd Nt
set_option linter.unusedVariables false
theorem below_grow (w : World) (q : Nat) (os : Array Obj) : Below w.heap.size w (grow (w.drewN q) os) :=
  ⟨rfl, rfl, rfl, by simp [grow], fun i hi => by
    show ((w.drewN q).heap ++ os)[i]? = _
    rw [Array.getElem?_append_left (by show i < w.heap.size; omega)]
    rfl⟩
/-- the address of the last byte, as it is reckoned -/
def lastOf (x : Cel) : Int := IntKind.u64.wrap (IntKind.u64.wrap (x.r.base + (x.n : Int)) - 1)
theorem last_c (x : Cel) (W : World) : Calls Tryz.prog 116 #[.agg #[.int .u64 x.r.base, .slice x.A x.n x.c, .bool x.r.write]] W fun e w' => e = .returned (.int .u64 (lastOf x)) ∧ ∃ q os', w' = grow (W.drewN q) os' := by
  have hn := x.hn
  have hw : IntKind.u64.wrap ((x.n : Nat) : Int) = (x.n : Int) := by rw [IntKind.wrap_u64]; omega
  go_enter Tryz.func116, Tryz.ntmps116
  go_wp2_with fail
  go_ret
  refine ⟨?_, 0, _, by rw [alloc_eq_grow]; rfl⟩
  unfold lastOf
  first | rfl | simp
theorem tooLong_c (x : Cel) (W : World) : Calls Tryz.prog 70 #[.agg #[.int .u64 x.r.base, .slice x.A x.n x.c, .bool x.r.write]] W fun e w' => e = .returned (.bool (decide (1048576 < (x.n : Int)))) ∧ Below W.heap.size W w' := by
  go_enter Tryz.func70, Tryz.ntmps70
  go_wp2_with fail
  go_ret
  exact ⟨rfl, (Below.refl _ W).alloc (Nat.le_refl _) _⟩
def wrongP (x : Cel) : Bool := decide (x.n = 0) || decide (lastOf x < x.r.base)
set_option maxHeartbeats 1000000 in
theorem wrong_c (x : Cel) (W : World) : Calls Tryz.prog 71 #[.agg #[.int .u64 x.r.base, .slice x.A x.n x.c, .bool x.r.write]] W fun e w' => e = .returned (.bool (wrongP x)) ∧ Below W.heap.size W w' := by
  have mixed : Tryz.prog.follows .mixedOrders = true := by kernel_rfl
  obtain ⟨W1, hW1⟩ : ∃ W1, W1 = W.alloc (.cells #[.int .u64 x.r.base, .slice x.A x.n x.c, .bool x.r.write] 66) := ⟨_, rfl⟩
  have hs : W1.heap.size = W.heap.size + 1 := by rw [hW1]; simp
  have hb : Below W.heap.size W W1 := by rw [hW1]; exact (Below.refl _ W).alloc (Nat.le_refl _) _
  have hc : ∀ i, W1.cell? ⟨W.heap.size, i, none⟩ = (#[.int .u64 x.r.base, .slice x.A x.n x.c, .bool x.r.write] : Array Value)[i]? := fun i => by rw [hW1, World.cell?_alloc_at _ _ _ _ (by simp)]
  have c0 : ∀ n os, (grow (W1.drewN n) os).cell? ⟨W.heap.size, 0, none⟩ = some (.int .u64 x.r.base) := fun n os => cell_grown (by simp; omega) (hc 0) n os
  have c1 : ∀ n os, (grow (W1.drewN n) os).cell? ⟨W.heap.size, 1, none⟩ = some (.slice x.A x.n x.c) := fun n os => cell_grown (by simp; omega) (hc 1) n os
  have c2 : ∀ n os, (grow (W1.drewN n) os).cell? ⟨W.heap.size, 2, none⟩ = some (.bool x.r.write) := fun n os => cell_grown (by simp; omega) (hc 2) n os
  have HB := Lib.hid hb
  have HL := Lib.hid (fun W' => last_c x W')
  have HW1 := Lib.hid hW1
  clear hc hb
  by_cases h0 : x.n = 0
  · have e : wrongP x = true := by unfold wrongP; rw [h0]; rfl
    rw [e]
    have hne2 : ((x.n : Int) = 0) := by omega
    clear e h0
    go_enter Tryz.func71, Tryz.ntmps71
    go_wp2_with fail
    rw [← HW1.out]
    clear hW1
    go_quiet_grown (fail)
    go_wp2_with fail
    go_ret
    exact ⟨rfl, HB.out.trans ((below_grow _ _ _).mono HB.out.size)⟩
  · have e : wrongP x = decide (lastOf x < x.r.base) := by unfold wrongP; rw [decide_eq_false h0]; rfl
    have hne : ((x.n : Int) == 0) = false := by simp; omega
    have hne2 : ¬ ((x.n : Int) = 0) := by omega
    rw [e]
    clear e
    go_enter Tryz.func71, Tryz.ntmps71
    go_wp2_with fail
    rw [← HW1.out]
    clear hW1
    go_quiet_grown ((go_at_call 116; exact Calls.grown_of (HL.out _)))
    go_wp2_with fail
    go_ret
    exact ⟨rfl, HB.out.trans ((below_grow _ _ _).mono HB.out.size)⟩
end Mm
end Go.Proofs.YtmiphnocgepdgaaGreatDoor
namespace Go.Proofs.YtmiphnocgepdgaaGreatDoor
open Go Go.RowKit Go.Shelf Go.Sort
namespace Mm
open Wd Nt
set_option linter.unusedVariables false
/-- some region begins ahead of the end of the one before it -/
def Over (ys : List Cel) : Prop := ∃ (i : Nat) (x y : Cel), ys[i]? = some x ∧ ys[i + 1]? = some y ∧ y.r.base ≤ lastOf x
def OverP (ys : List Cel) (w : World) (e : Ending) (w' : World) : Prop := ∃ b, e = .returned (.bool b) ∧ (b = true ↔ Over ys) ∧ Below w.heap.size w w'
set_option maxRecDepth 100000 in
set_option maxHeartbeats 2000000 in
theorem overlap_c {w : World} {B : Nat} {v : Value} {ys : List Cel} (h : Hid (w.ownsRow B 66 3 v ys.length (celRow ys))) (hn : ys.length ≤ 12) :
    Calls Tryz.prog 72 #[v] w (OverP ys w) := by
  have mixed : Tryz.prog.follows .mixedOrders = true := by kernel_rfl
  have HL := Lib.hid (fun x W' => last_c x W')
  obtain ⟨n, hlen⟩ : ∃ n, n = ys.length := ⟨_, rfl⟩
  have HLEN := Lib.hid hlen
  rcases h.out.2 with ⟨rfl, hz⟩ | ⟨g, c, cur, rfl, hB, hg, hnc, hm, hs, ht⟩
  · have hno : Hid (¬ Over ys) := Lib.hid (by rintro ⟨i, x, y, h1, _⟩; rw [List.eq_nil_of_length_eq_zero hz] at h1; cases h1)
    go_enter Tryz.func72, Tryz.ntmps72
    go_wp2_with fail
    refine wp_loop_rounds 1 ?_
    rw [rounds_succ]
    go_wp2_with fail
    (try simp only [Exit.inBlock, Exit.then])
    first
    | (go_ret; exact ⟨false, rfl, ⟨(fun h => by cases h), fun h => absurd h hno.out⟩, Below.refl _ _⟩)
    | (refine bodyPost_ret (results_none rfl _ _ _) rfl ?_; exact ⟨false, rfl, ⟨(fun h => by cases h), fun h => absurd h hno.out⟩, Below.refl _ _⟩)
  · have hgl : g < w.heap.size := (Array.getElem?_eq_some_iff.1 hg).1
    have hcell : Hid (∀ (W : World), Below w.heap.size w W → ∀ (j d : Nat) (x : Cel), ys[j]? = some x → d < 3 → W.cell? ⟨g, j * 3 + d, none⟩ = x.vs[d]?) := Lib.hid (fun W hW j d x hj hd => by
      rw [hW.cell (p := ⟨g, j * 3 + d, none⟩) hgl]
      have hjl := (List.getElem?_eq_some_iff.1 hj).1
      rw [h.out.cellAt (j * 3 + d) (by omega)]
      exact celRow_get hj hd)
    rw [← hlen] at hn ⊢
    clear h hs ht hg hm hB hnc hlen
    go_enter Tryz.func72, Tryz.ntmps72
    go_wp2_with fail
    go_loopw [3] (fun i W => ∃ q : Nat, q ≤ n ∧ i = .int .i64 ((q : Int) + 1) ∧ Hid (Below w.heap.size w W) ∧ Hid (∀ (j : Nat) (x y : Cel), j < q → ys[j]? = some x → ys[j + 1]? = some y → lastOf x < y.r.base)) (fun i _ => n + 1 - (intOf i).toNat)
    case atStart => exact ⟨0, Nat.zero_le _, rfl, Lib.hid (Below.refl _ _), Lib.hid (fun j x y hj => absurd hj (by omega))⟩
    case round =>
      obtain ⟨q, hq, rfl, HB, HI⟩ := hrel
      rcases Nat.lt_or_ge (q + 1) n with hlt | hge
      · obtain ⟨x, hx⟩ : ∃ x, ys[q]? = some x := ⟨_, List.getElem?_eq_getElem (by rw [← HLEN.out]; omega)⟩
        obtain ⟨y, hy⟩ : ∃ y, ys[q + 1]? = some y := ⟨_, List.getElem?_eq_getElem (by rw [← HLEN.out]; omega)⟩
        have hgw : g < wr.heap.size := Nat.lt_of_lt_of_le hgl HB.out.size
        have x0 : ∀ n os, (grow (wr.drewN n) os).cell? ⟨g, q * 3, none⟩ = some (.int .u64 x.r.base) := fun n os => cell_grown hgw (hcell.out wr HB.out q 0 x hx (by omega)) n os
        have x1 : ∀ n os, (grow (wr.drewN n) os).cell? ⟨g, q * 3 + 1, none⟩ = some (.slice x.A x.n x.c) := fun n os => cell_grown hgw (hcell.out wr HB.out q 1 x hx (by omega)) n os
        have x2 : ∀ n os, (grow (wr.drewN n) os).cell? ⟨g, q * 3 + 2, none⟩ = some (.bool x.r.write) := fun n os => cell_grown hgw (hcell.out wr HB.out q 2 x hx (by omega)) n os
        have y0 : ∀ n os, (grow (wr.drewN n) os).cell? ⟨g, (q + 1) * 3, none⟩ = some (.int .u64 y.r.base) := fun n os => cell_grown hgw (hcell.out wr HB.out (q + 1) 0 y hy (by omega)) n os
        have s1 : IntKind.i64.wrap ((q : Int) + 1 - 1) = (q : Int) := by rw [show (q : Int) + 1 - 1 = q by omega]; exact IntWalk.i64_in _ (by omega)
        have s2 : IntKind.i64.wrap (q : Int) = (q : Int) := IntWalk.i64_in _ (by omega)
        have q0 : (0 : Int) ≤ (q : Int) := by omega
        have q1 : (q : Int) + 1 < (n : Int) := by omega
        have q2 : (q : Int) < (n : Int) := by omega
        have q3 : (0 : Int) ≤ (q : Int) + 1 := by omega
        have s4 : ((q : Int) + 1).toNat = q + 1 := by omega
        have s6 : ((q : Int)).toNat = q := by omega
        have HX := Lib.hid hx
        have HY := Lib.hid hy
        clear hx hy
        by_cases hov : y.r.base ≤ lastOf x
        · have HO : Hid (Over ys) := Lib.hid ⟨q, x, y, HX.out, HY.out, hov⟩
          go_wp2_with fail
          go_quiet_grown ((go_at_call 116; exact Calls.grown_of (HL.out _ _)))
          go_wp2_with fail
          go_ret
          exact ⟨true, rfl, ⟨fun _ => HO.out, fun _ => rfl⟩, HB.out.trans ((below_grow _ _ _).mono HB.out.size)⟩
        · have hov' : lastOf x < y.r.base := by omega
          have HI' : Hid (∀ (j : Nat) (x y : Cel), j < q + 1 → ys[j]? = some x → ys[j + 1]? = some y → lastOf x < y.r.base) := Lib.hid (fun j x' y' hj h1 h2 => by
            by_cases e : j = q
            · subst e
              rw [HX.out] at h1; rw [HY.out] at h2
              cases h1; cases h2
              exact hov'
            · exact HI.out j x' y' (by omega) h1 h2)
          have hd : decide (y.r.base ≤ lastOf x) = false := decide_eq_false hov
          clear hov HI
          go_wp2_with fail
          go_quiet_grown ((go_at_call 116; exact Calls.grown_of (HL.out _ _)))
          go_wp2_with fail
          go_roundw
          case rel => exact ⟨q + 1, by omega, by go_num, Lib.hid (HB.out.trans ((below_grow _ _ _).mono HB.out.size)), HI'⟩
          case measure => (simp [intOf] <;> omega)
      · have hno : Hid (¬ Over ys) := Lib.hid (by
          rintro ⟨i, x, y, h1, h2, h3⟩
          have h4 := (List.getElem?_eq_some_iff.1 h2).1
          have := HI.out i x y (by rw [← HLEN.out] at h4; omega) h1 h2
          omega)
        have hgei : (n : Int) ≤ (q : Int) + 1 := by omega
        clear HI
        go_wp2_with fail
        go_ret
        exact ⟨false, rfl, ⟨(fun h => by cases h), fun h => absurd h hno.out⟩, HB.out⟩

/-! ### slices.ContainsFunc -/
set_option maxHeartbeats 1000000 in
theorem containsNone_c (A : Option Addr) (c g : Nat) (w : World) : Calls Tryz.prog 69 #[.slice A 0 c, .func (.func g) #[] #[]] w fun e w' => e = .returned (.bool false) ∧ w' = w := by
  have hi : ∀ W, Calls Tryz.prog 115 #[.slice A 0 c, .func (.func g) #[] #[]] W fun e w' => e = .returned (.int .i64 (-1)) ∧ w' = W := fun W => by
    go_enter Tryz.func115, Tryz.ntmps115
    go_wp2_with fail
    refine wp_loop_rounds 1 ?_
    rw [rounds_succ]
    go_wp2_with fail
    go_ret
    exact ⟨rfl, rfl⟩
  go_enter Tryz.func69, Tryz.ntmps69
  go_wp2_with (go_at_call 115; refine (hi _).mono ?_; rintro e w' ⟨rfl, rfl⟩)
  go_ret
  exact ⟨rfl, rfl⟩
theorem contains_c {w : World} {A : Option Addr} {n : Nat} (c : Nat) {rs : List Reg} {xs : List Cel} (h : Cels w A n rs xs) (hn : n ≤ 9223372036854775807) (g : Nat) (p : Cel → Bool) (eg : ∀ args w, (callFunc g args).run Tryz.prog w = .ok (.enter g args) w)
    (hp : ∀ (x : Cel) (W : World), Calls Tryz.prog g #[.agg #[.int .u64 x.r.base, .slice x.A x.n x.c, .bool x.r.write]] W fun e w' => e = .returned (.bool (p x)) ∧ Below W.heap.size W w') :
    Calls Tryz.prog 69 #[.slice A n c, .func (.func g) #[] #[]] w fun e w' => e = .returned (.bool (xs.any p)) ∧ Below w.heap.size w w' := by
  rcases Nat.eq_zero_or_pos n with rfl | hpos
  · obtain rfl : xs = [] := List.eq_nil_of_length_eq_zero h.len
    exact (containsNone_c A c g w).mono fun e w' ⟨h1, h2⟩ => ⟨h1, by rw [h2]; exact Below.refl _ _⟩
  · obtain ⟨b, off, rfl, hlt, hcell⟩ := h.at_ (fun e => by rw [e] at h; have := h.len; simp at this; omega)
    have hcon := AnyQ.slices_ContainsFunc Tryz.containsR 3 Tryz.isAgg66 Tryz.sizeOf66 Cel.vs Cel.vs_len p g #[] eg b off n c xs w (fun W x hb => (hp x W).mono fun e w' ⟨h1, h2⟩ => ⟨h1, hb.trans (h2.mono hb.size)⟩) (by rw [h.len]; exact Nat.le_refl _) hn hlt (fun j hj i v hv => by
      have e : xs[j]? = some xs[j]! := by rw [getElem!_pos xs j hj, List.getElem?_eq_getElem hj]
      rw [hcell j i _ e (by have := (List.getElem?_eq_some_iff.1 hv).1; rw [Cel.vs_len] at this; exact this)]
      exact hv)
    rw [List.take_of_length_le (by rw [h.len]; exact Nat.le_refl _)] at hcon
    exact hcon
end Mm
end Go.Proofs.YtmiphnocgepdgaaGreatDoor
namespace Go.Proofs.YtmiphnocgepdgaaGreatDoor
open Go Go.RowKit Go.Shelf Go.Sort
namespace Mm
open Wd Nt
set_option linter.unusedVariables false
def tooP (x : Cel) : Bool := decide (1048576 < (x.n : Int))
section
variable {w : World} {A : Option Addr} {n : Nat} {rs : List Reg} {xs ys : List Cel}
theorem Cels.len_of (h : Cels w A n rs xs) {x : Cel} (hx : x ∈ xs) : x.r.len = x.n := by unfold Reg.len; rw [(h.ok x hx).rd.len]
theorem long_iff (h : Cels w A n rs xs) : xs.any tooP = true ↔ Long rs := by
  rw [List.any_eq_true]
  constructor
  · rintro ⟨x, hx, ht⟩
    obtain ⟨i, hi⟩ := getElem?_of_mem (show x.r ∈ rs by rw [← h.regs]; exact List.mem_map.2 ⟨x, hx, rfl⟩)
    exact ⟨i, x.r, hi, by rw [h.len_of hx]; simpa [tooP] using ht⟩
  · rintro ⟨i, r, hi, hl⟩
    have hm : r ∈ xs.map (·.r) := by rw [h.regs]; exact List.mem_of_getElem? hi
    obtain ⟨x, hx, rfl⟩ := List.mem_map.1 hm
    exact ⟨x, hx, by rw [h.len_of hx] at hl; simpa [tooP] using hl⟩
theorem last_eq (x : Cel) (hn : x.n ≤ 1048576) (h0 : 0 < x.n) (hf : x.r.base + x.n ≤ 18446744073709551616) : lastOf x = x.r.base + x.n - 1 := by
  have := x.hb
  unfold W at this
  unfold lastOf
  rw [IntKind.wrap_u64, IntKind.wrap_u64]
  by_cases he : x.r.base + (x.n : Int) = 18446744073709551616
  · rw [he]; decide
  · rw [Int.emod_eq_of_lt (a := x.r.base + (x.n : Int)) (by omega) (by omega), Int.emod_eq_of_lt (by omega) (by omega)]
theorem last_over (x : Cel) (hn : x.n ≤ 1048576) (hf : 18446744073709551616 < x.r.base + x.n) : lastOf x = x.r.base + x.n - 1 - 18446744073709551616 := by
  have := x.hb
  unfold W at this
  unfold lastOf
  rw [IntKind.wrap_u64, IntKind.wrap_u64]
  have e : (x.r.base + (x.n : Int)) % 18446744073709551616 = x.r.base + x.n - 18446744073709551616 := by omega
  rw [e, Int.emod_eq_of_lt (by omega) (by omega)]
  omega
theorem wrong_iff (x : Cel) (hn : x.n ≤ 1048576) : wrongP x = true ↔ (x.n = 0 ∨ 18446744073709551616 < x.r.base + x.n) := by
  have := x.hb
  unfold W at this
  unfold wrongP
  simp only [Bool.or_eq_true, decide_eq_true_eq]
  rcases Nat.eq_zero_or_pos x.n with h0 | h0
  · exact ⟨fun _ => .inl h0, fun _ => .inl h0⟩
  · rcases Int.lt_or_le 18446744073709551616 (x.r.base + x.n) with h1 | h1
    · rw [last_over x hn h1]
      exact ⟨fun _ => .inr h1, fun _ => .inr (by omega)⟩
    · rw [last_eq x hn h0 h1]
      constructor
      · rintro (h | h) <;> omega
      · rintro (h | h) <;> omega
theorem good_not_bad (h : Good rs) : ¬ Bad rs := by
  rintro ⟨i, r, hi, hb⟩
  rcases hb with hb | hb | ⟨k, s, hk, hs, h4, h5⟩
  · have := h.pos i r hi; omega
  · have := h.fits i r hi; omega
  · rcases h.apart i k r s hi hs (by omega) with h6 | h6 <;> omega
theorem wrong_bad (h : Cels w A n rs xs) (hs : ¬ Long rs) (hw : xs.any wrongP = true) : Bad rs := by
  obtain ⟨x, hx, ht⟩ := List.any_eq_true.1 hw
  obtain ⟨i, hi⟩ := getElem?_of_mem (show x.r ∈ rs by rw [← h.regs]; exact List.mem_map.2 ⟨x, hx, rfl⟩)
  have hl := h.len_of hx
  have hn : x.n ≤ 1048576 := by
    rcases Nat.lt_or_ge 1048576 x.n with h1 | h1
    · exact absurd ⟨i, x.r, hi, by omega⟩ hs
    · exact h1
  rcases (wrong_iff x hn).1 ht with h1 | h1
  · exact ⟨i, x.r, hi, .inl (by omega)⟩
  · exact ⟨i, x.r, hi, .inr (.inl (by omega))⟩
theorem over_bad (h : Cels w A n rs xs) (h8 : n ≤ 8) (hs : ¬ Long rs) (hw : xs.any wrongP = false) (hp : ys.Perm xs) (hr : (ys.map (·.r)).Pairwise (fun r s => r.base ≤ s.base)) : Over ys ↔ Bad rs := by
  have hmem : ∀ y ∈ ys, 0 < y.n ∧ y.n ≤ 1048576 ∧ y.r.base + y.n ≤ 18446744073709551616 ∧ y.r.len = y.n := by
    intro y hy
    have hx := hp.mem_iff.1 hy
    obtain ⟨i, hi⟩ := getElem?_of_mem (show y.r ∈ rs by rw [← h.regs]; exact List.mem_map.2 ⟨y, hx, rfl⟩)
    have hl := h.len_of hx
    have hn : y.n ≤ 1048576 := by
      rcases Nat.lt_or_ge 1048576 y.n with h1 | h1
      · exact absurd ⟨i, y.r, hi, by omega⟩ hs
      · exact h1
    have hnw : ¬ (wrongP y = true) := fun e => by
      have := List.any_eq_true.2 ⟨y, hx, e⟩
      rw [hw] at this; cases this
    rw [wrong_iff y hn] at hnw
    exact ⟨by omega, hn, by omega, hl⟩
  have hperm : (ys.map (·.r)).Perm rs := by rw [← h.regs]; exact hp.map _
  have hlen : ys.length = n := by rw [hp.length_eq, h.len]
  have hrl : rs.length = n := by rw [← h.regs, List.length_map, h.len]
  constructor
  · rintro ⟨i, x, y, hx, hy, hov⟩
    apply Classical.byContradiction
    intro hnb
    have hG : Good (ys.map (·.r)) := (ChkO.good (.inr (.inr ⟨by omega, hs, hnb, rfl⟩))).perm hperm.symm
    obtain ⟨a1, a2, a3, a4⟩ := hmem x (List.mem_of_getElem? hx)
    have hx' : (ys.map (·.r))[i]? = some x.r := by rw [List.getElem?_map, hx]; rfl
    have hy' : (ys.map (·.r))[i + 1]? = some y.r := by rw [List.getElem?_map, hy]; rfl
    have hle := pairwise_get.1 hr i (i + 1) _ _ hx' hy' (by omega)
    obtain ⟨b1, b2, b3, b4⟩ := hmem y (List.mem_of_getElem? hy)
    rw [last_eq x a2 a1 a3] at hov
    rcases hG.apart i (i + 1) _ _ hx' hy' (by omega) with h6 | h6 <;> omega
  · intro hb
    apply Classical.byContradiction
    intro hno
    refine good_not_bad ?_ hb
    refine Good.perm (rs := ys.map (·.r)) ?_ hperm
    rw [Good.iff]
    refine ⟨by rw [List.length_map]; omega, fun r hr' => ?_, ?_⟩
    · obtain ⟨y, hy, rfl⟩ := List.mem_map.1 hr'
      obtain ⟨a1, a2, a3, a4⟩ := hmem y hy
      refine ⟨?_, ?_, ?_⟩ <;> omega
    · rw [pairwise_get]
      intro i j r s hi hj hij
      rw [List.getElem?_map] at hi
      obtain ⟨x, hx, rfl⟩ := Option.map_eq_some_iff.1 hi
      obtain ⟨z, hz⟩ : ∃ z, ys[i + 1]? = some z := ⟨_, List.getElem?_eq_getElem (by have := (List.getElem?_eq_some_iff.1 hj).1; rw [List.length_map] at this; omega)⟩
      obtain ⟨a1, a2, a3, a4⟩ := hmem x (List.mem_of_getElem? hx)
      have hlt : lastOf x < z.r.base := by
        rcases Int.lt_or_le (lastOf x) z.r.base with h1 | h1
        · exact h1
        · exact absurd ⟨i, x, z, hx, hz, h1⟩ hno
      rw [last_eq x a2 a1 a3] at hlt
      have hzs : z.r.base ≤ s.base := by
        rcases Nat.lt_or_ge (i + 1) j with h1 | h1
        · exact pairwise_get.1 hr (i + 1) j _ _ (by rw [List.getElem?_map, hz]; rfl) hj h1
        · obtain rfl : j = i + 1 := by omega
          rw [List.getElem?_map, hz] at hj
          cases hj
          exact Int.le_refl _
      left
      omega
end
set_option maxRecDepth 100000 in
set_option maxHeartbeats 2000000 in
theorem check_c (A : Option Addr) (n c : Nat) (rs : List Reg) (w : World) (h : Hid (AtR w A n rs)) (hc : n ≤ 9223372036854775807) :
    Calls Tryz.prog 39 #[.slice A n c] w (CheckP rs w) := by
  have HLEN := Lib.hid h.out.len
  obtain ⟨xs, hxs⟩ := h.out.cels
  have HX := Lib.hid hxs
  clear hxs
  rcases Nat.lt_or_ge 8 n with h8 | h8
  · have h8i : (8 : Int) < (n : Int) := by omega
    go_enter Tryz.func39, Tryz.ntmps39
    go_wp2_with fail
    go_ret
    exact ⟨Below.refl _ _, 3, rfl, .inl ⟨.inl (by rw [HLEN.out]; exact h8), rfl⟩⟩
  · have h8i : (n : Int) ≤ 8 := by omega
    have H8 := Lib.hid h8
    have H1 := Lib.hid (contains_c c HX.out hc 70 tooP (enters_of Tryz.func70 (by kernel_rfl) rfl) (fun x W => tooLong_c x W))
    have HLI := Lib.hid (long_iff HX.out)
    obtain ⟨b1, hb1⟩ : ∃ b, b = xs.any tooP := ⟨_, rfl⟩
    rw [← hb1] at H1 HLI
    clear hb1
    go_enter Tryz.func39, Tryz.ntmps39
    go_wp2_with fail
    go_at_call 69
    refine H1.out.mono ?_
    rintro e w1 ⟨rfl, hbl⟩
    have HB1 := Lib.hid hbl
    clear hbl H1
    cases b1 with
    | true =>
      go_wp2_with fail
      go_ret
      exact ⟨HB1.out, 3, rfl, .inl ⟨.inr (HLI.out.1 trivial), rfl⟩⟩
    | false =>
      have HNL : Hid (¬ Long rs) := Lib.hid (fun hl => by have := HLI.out.2 hl; cases this)
      have HX1 := Lib.hid (HX.out.below HB1.out)
      have H2 := Lib.hid (contains_c c HX1.out hc 71 wrongP (enters_of Tryz.func71 (by kernel_rfl) rfl) (fun x W => wrong_c x W))
      obtain ⟨b2, hb2⟩ : ∃ b, b = xs.any wrongP := ⟨_, rfl⟩
      have HB2E := Lib.hid hb2
      rw [← hb2] at H2
      clear hb2
      go_wp2_with fail
      go_at_call 69
      refine H2.out.mono ?_
      rintro e w2 ⟨rfl, hbl⟩
      have HB2 := Lib.hid (bel_trans HB1.out hbl)
      have HX2 := Lib.hid (HX1.out.below hbl)
      clear hbl H2
      cases b2 with
      | true =>
        have HBAD := Lib.hid (wrong_bad HX.out HNL.out HB2E.out.symm)
        go_wp2_with fail
        go_ret
        exact ⟨HB2.out, 2, rfl, .inr (.inl ⟨by rw [HLEN.out]; exact H8.out, HNL.out, HBAD.out, rfl⟩)⟩
      | false =>
        have H3 := Lib.hid (byAddr_c A n c rs xs w2 HX2 (by omega))
        go_wp2_with fail
        go_at_call 73
        refine H3.out.mono ?_
        rintro e w3 ⟨v, ys, rfl, hp, hs, ho, hbl⟩
        have HB3 := Lib.hid (bel_trans HB2.out hbl)
        have HI := Lib.hid (over_bad HX.out H8.out HNL.out HB2E.out.symm hp hs)
        have hyl : ys.length ≤ 12 := by rw [hp.length_eq, HX.out.len]; omega
        have H4 := Lib.hid (overlap_c (Lib.hid ho) hyl)
        clear hbl H3 hp hs ho hyl
        go_wp2_with fail
        go_at_call 72
        refine H4.out.mono ?_
        rintro e w4 ⟨b3, rfl, hbi, hbl⟩
        have HB4 := Lib.hid (bel_trans HB3.out hbl)
        have HBI := Lib.hid hbi
        clear hbl H4 hbi
        cases b3 with
        | true =>
          go_wp2_with fail
          go_ret
          exact ⟨HB4.out, 2, rfl, .inr (.inl ⟨by rw [HLEN.out]; exact H8.out, HNL.out, HI.out.1 (HBI.out.1 trivial), rfl⟩)⟩
        | false =>
          go_wp2_with fail
          go_ret
          exact ⟨HB4.out, 0, rfl, .inr (.inr ⟨by rw [HLEN.out]; exact H8.out, HNL.out, (fun hb => by have := HBI.out.2 (HI.out.2 hb); cases this), rfl⟩)⟩
end Mm
end Go.Proofs.YtmiphnocgepdgaaGreatDoor
namespace Go.Proofs.YtmiphnocgepdgaaGreatDoor
open Go Go.RowKit Go.Shelf Go.Sort
namespace Mm
open Wd Nt
set_option linter.unusedVariables false
/-- bytes of one's own, the same -/
def CloP (x : Cel) (w : World) (e : Ending) (w' : World) : Prop := ∃ g c', e = .returned (.slice (some ⟨g, 0, none⟩) x.n c') ∧ w'.ownsRow w.heap.size 5 1 (.slice (some ⟨g, 0, none⟩) x.n c') x.n (b8 x.r.bytes) ∧ Below w.heap.size w w'
theorem clone_c {w : World} {B : Nat} {x : Cel} (h : CelOk w B x) (h0 : 0 < x.n) (hn : x.n ≤ 1048576) : Calls Tryz.prog 74 #[.slice x.A x.n x.c] w (CloP x w) := by
  obtain ⟨ad, hA, hb, hc⟩ := h.rd.rd h0
  have hsp : ad = ⟨ad.block, ad.off, none⟩ := by
    have h1 := hc 0 h0
    have e : ad.add 0 = ad := by unfold Addr.add; simp
    rw [e] at h1
    exact spot_none h1
  obtain ⟨i, hi, hz, h1, h2⟩ := info_parts info_u8
  have hcon := AnyE.slices_Clone Tryz.clone8 i (.int .u8 0) 1 1 hi hz h1 h2 rfl (by omega) Tryz.sizeOf5 ad.block ad.off x.n x.c (b8 x.r.bytes) w (by rw [b8_len, h.rd.len, Nat.mul_one]) (by simp only [maxLen]; omega) (by omega)
    (fun j u hu => by
      have hj : j < x.r.bytes.length := by rw [← b8_len]; exact (List.getElem?_eq_some_iff.1 hu).1
      rw [b8_get hj] at hu
      rw [← hu]
      have h3 := hc j (by rw [← h.rd.len]; exact hj)
      rw [hsp, add_at] at h3
      exact h3)
    (fun u hu => by obtain ⟨z, _, rfl⟩ := List.mem_map.1 hu; simp [Value.oneCell'])
  rw [← hsp, ← hA] at hcon
  refine Calls.mono hcon ?_
  rintro e w' ⟨v', rfl, hown, hne, hbl⟩
  rcases hown.2 with ⟨e0, _⟩ | ⟨g, c', cur, rfl, hg⟩
  · exact absurd e0 hne
  · exact ⟨g, c', rfl, hown, hbl⟩
/-- a row of one's own, the first regions' bytes one's own, the others' where they were -/
structure Mix (w : World) (B : Nat) (v : Value) (os : List OReg) (ys : List Cel) : Prop where
  row : w.ownsRow B 66 3 v (os.length + ys.length) (rowOf os ++ celRow ys)
  each : ∀ o ∈ os, w.ownsRow B 5 1 o.sl o.r.bytes.length (b8 o.r.bytes)
  apart : (os.map (·.g)).Nodup
  oks : ∀ o ∈ os, o.r.ok
theorem mix_set {os : List OReg} {x : Cel} {rest : List Cel} {g c : Nat} (hl : x.n = x.r.bytes.length) : (rowOf os ++ celRow (x :: rest)).set (os.length * 3 + 1) (.slice (some ⟨g, 0, none⟩) x.n c) = rowOf (os ++ [⟨x.r, g, c⟩]) ++ celRow rest := by
  rw [rowOf_append, rowOf_one, List.append_assoc, ← rowOf_len, set_app]
  show rowOf os ++ (x.vs ++ celRow rest).set 1 _ = rowOf os ++ (OReg.cells ⟨x.r, g, c⟩ ++ celRow rest)
  unfold OReg.cells OReg.sl
  rw [hl]
  rfl
theorem mix_get {os : List OReg} {x : Cel} {rest : List Cel} {d : Nat} (hd : d < 3) : (rowOf os ++ celRow (x :: rest))[os.length * 3 + d]? = x.vs[d]? := by
  rw [List.getElem?_append_right (by rw [rowOf_len]; omega), rowOf_len, show os.length * 3 + d - os.length * 3 = 0 * 3 + d by omega]
  exact celRow_get rfl hd
theorem Mix.step {wr w2 : World} {B G n c0 g c' : Nat} {os : List OReg} {x : Cel} {rest : List Cel} (h : Mix wr B (.slice (some ⟨G, 0, none⟩) n c0) os (x :: rest)) (hB : B ≤ wr.heap.size)
    (hb : Below wr.heap.size wr w2) (ho : w2.ownsRow wr.heap.size 5 1 (.slice (some ⟨g, 0, none⟩) x.n c') x.n (b8 x.r.bytes)) (hok : x.r.ok) (hl : x.n = x.r.bytes.length) (hn : os.length + (x :: rest).length = n) :
    Mix (w2.setCell ⟨G, os.length * 3 + 1, none⟩ (.slice (some ⟨g, 0, none⟩) x.n c')) B (.slice (some ⟨G, 0, none⟩) n c0) (os ++ [⟨x.r, g, c'⟩]) rest ∧ w2.grownBy (w2.setCell ⟨G, os.length * 3 + 1, none⟩ (.slice (some ⟨g, 0, none⟩) x.n c')) (some G) := by
  have hrow1 := h.row
  rw [hn] at hrow1
  have hrow2 := hrow1.kept (grown_of_below hb none) (.inr (by simp [Value.ownBlock]))
  obtain ⟨hst, hgr⟩ := hrow2.stored (os.length * 3 + 1) (.slice (some ⟨g, 0, none⟩) x.n c')
  rw [mix_set hl] at hst
  have hG : G < wr.heap.size := (h.row.lt G rfl).2
  have hsl : (⟨x.r, g, c'⟩ : OReg).sl = .slice (some ⟨g, 0, none⟩) x.n c' := by unfold OReg.sl; rw [hl]
  have hg : wr.heap.size ≤ g := (ho.lt g rfl).1
  refine ⟨⟨?_, fun o hO => ?_, ?_, fun o hO => ?_⟩, hgr⟩
  · have e : (os ++ [(⟨x.r, g, c'⟩ : OReg)]).length + rest.length = os.length + (x :: rest).length := by simp; omega
    rw [e, hn]; exact hst
  · rcases List.mem_append.1 hO with hO | hO
    · have h1 := (h.each o hO).kept (grown_of_below hb none) (.inr (by simp [OReg.sl, Value.ownBlock]))
      exact h1.kept hgr (.inr (fun e => own_type h1 hrow2 (by decide) (k := o.g) rfl (by show some G = some o.g; exact e.symm)))
    · obtain rfl : o = ⟨x.r, g, c'⟩ := by simpa using hO
      rw [hsl]
      show World.ownsRow _ B _ 1 _ x.r.bytes.length (b8 x.r.bytes)
      rw [← hl]
      exact (ownsRow_base ho hB).kept hgr (.inr (by simp [Value.ownBlock]; omega))
  · rw [List.map_append, List.nodup_append]
    refine ⟨h.apart, by simp, fun a ha b hb' => ?_⟩
    obtain ⟨p, hp, rfl⟩ := List.mem_map.1 ha
    obtain rfl : b = g := by simpa using hb'
    have h1 := ((h.each p hp).lt p.g rfl).2
    omega
  · rcases List.mem_append.1 hO with hO | hO
    · exact h.oks o hO
    · obtain rfl : o = ⟨x.r, g, c'⟩ := by simpa using hO
      exact hok
theorem Mix.done {w : World} {B : Nat} {v : Value} {os : List OReg} (h : Mix w B v os []) : OwnR w B v os := ⟨by have h1 := h.row; simpa [celRow] using h1, h.each, h.apart, h.oks⟩
set_option maxRecDepth 100000 in
set_option maxHeartbeats 4000000 in
theorem copies_c (A : Option Addr) (n c : Nat) (rs : List Reg) (w : World) (h : Hid (AtR w A n rs)) (hG : Good rs) :
    Calls Tryz.prog 40 #[.slice A n c] w (OwnP rs w) := by
  have HLEN := Lib.hid h.out.len
  have HG := Lib.hid hG
  have hn8 : n ≤ 8 := by rw [← HLEN.out]; exact hG.few
  obtain ⟨xs, hxs⟩ := h.out.cels
  have HX := Lib.hid hxs
  have H1 := Lib.hid (byAddr_c A n c rs xs w HX (by omega))
  clear hxs hG h
  go_enter Tryz.func40, Tryz.ntmps40
  go_wp2_with fail
  go_at_call 73
  refine H1.out.mono ?_
  rintro e w1 ⟨v, ys, rfl, hp, hs, ho, hb⟩
  have hyl : ys.length = n := by rw [hp.length_eq, HX.out.len]
  have HYL := Lib.hid hyl
  have HP := Lib.hid hp
  have HS := Lib.hid hs
  have HB := Lib.hid hb
  have HOK : Hid (∀ y ∈ ys, CelOk w w.heap.size y ∧ 0 < y.n ∧ y.n ≤ 1048576 ∧ y.n = y.r.bytes.length) := Lib.hid (fun y hy => by
    have hx := HP.out.mem_iff.1 hy
    have hok := HX.out.ok y hx
    have hm : y.r ∈ rs := by rw [← HX.out.regs]; exact List.mem_map.2 ⟨y, hx, rfl⟩
    obtain ⟨i, hi⟩ := getElem?_of_mem hm
    have h1 := HG.out.pos i _ hi
    have h2 := HG.out.short i _ hi
    have h3 := HX.out.len_of hx
    exact ⟨hok, by omega, by omega, hok.rd.len.symm⟩)
  obtain ⟨A0, c0, rfl⟩ : ∃ A0 c0, v = .slice A0 n c0 := by
    rcases ho.2 with ⟨e1, hz⟩ | ⟨g, c0, cur, e1, _⟩
    · exact ⟨none, 0, by rw [e1]; congr 1; omega⟩
    · exact ⟨_, c0, by rw [e1, hyl]⟩
  have HM : Hid (Mix w1 w.heap.size (.slice A0 n c0) [] ys) := Lib.hid ⟨by simpa [rowOf] using ho, (fun o h => by cases h), List.nodup_nil, (fun o h => by cases h)⟩
  clear hyl hp hs hb ho H1
  go_wp2_with fail
  go_loopw [8] (fun i W => ∃ (k : Nat) (os : List OReg), k ≤ n ∧ i = .int .i64 (k : Int) ∧ Hid (os.length = k ∧ os.map (·.r) = (ys.take k).map (·.r)) ∧ Hid (Mix W w.heap.size (.slice A0 n c0) os (ys.drop k)) ∧ Hid (Below w.heap.size w W)) (fun i _ => n - (intOf i).toNat)
  case atStart => exact ⟨0, [], Nat.zero_le _, rfl, Lib.hid ⟨rfl, by simp⟩, HM, HB⟩
  case round =>
    obtain ⟨k, os, hk, rfl, HO, HMk, HW⟩ := hrel
    rcases Nat.lt_or_ge k n with hkn | hkn
    · obtain ⟨x, hx⟩ : ∃ x, ys[k]? = some x := ⟨_, List.getElem?_eq_getElem (by rw [HYL.out]; exact hkn)⟩
      have hdrop : ys.drop k = x :: ys.drop (k + 1) := by
        obtain ⟨h1, h2⟩ := List.getElem?_eq_some_iff.1 hx
        rw [List.drop_eq_getElem_cons h1, h2]
      have hM := HMk.out
      rw [hdrop] at hM
      obtain ⟨G, rfl⟩ : ∃ G, A0 = some ⟨G, 0, none⟩ := by
        rcases hM.row.2 with ⟨_, h2⟩ | ⟨g, c1, cur, e1, _⟩
        · simp at h2
        · injection e1 with e1; exact ⟨g, e1⟩
      obtain ⟨hok, hx0, hx1, hx2⟩ := HOK.out x (List.mem_of_getElem? hx)
      have hlen : os.length + (x :: ys.drop (k + 1)).length = n := by
        rw [← hdrop, HO.out.1, List.length_drop, HYL.out]; omega
      have hrow := hM.row
      rw [hlen] at hrow
      have hcell : ∀ d, d < 3 → wr.cell? ⟨G, k * 3 + d, none⟩ = x.vs[d]? := fun d hd => by
        rw [hrow.cellAt (k * 3 + d) (by omega)]
        have h1 := mix_get (os := os) (x := x) (rest := ys.drop (k + 1)) hd
        rw [HO.out.1] at h1
        exact h1
      have c1 : wr.cell? ⟨G, k * 3 + 1, none⟩ = some (.slice x.A x.n x.c) := hcell 1 (by omega)
      have H2 := Lib.hid (clone_c (hok.below HW.out) hx0 hx1)
      have hkni : (k : Int) < (n : Int) := by omega
      have hk0 : (0 : Int) ≤ (k : Int) := by omega
      have HXk := Lib.hid hx
      have HMM := Lib.hid hM
      have HROW := Lib.hid hrow
      have HLN := Lib.hid hlen
      have HXL := Lib.hid hx2
      have HXOK := Lib.hid hok.ok
      have hGl : G < wr.heap.size := (hrow.lt G rfl).2
      clear hx hdrop hM hok hx0 hx1 hx2 hlen hrow hcell HMk
      go_wp2_with fail
      go_at_call 74
      refine H2.out.mono ?_
      rintro e w2 ⟨g, c', rfl, hown, hb2⟩
      have c2 : w2.cell? ⟨G, k * 3 + 1, none⟩ = some (.slice x.A x.n x.c) := (hb2.cell (p := ⟨G, k * 3 + 1, none⟩) hGl).trans c1
      have f2 : w2.frozen? ⟨G, k * 3 + 1, none⟩ = false := (HROW.out.kept (grown_of_below hb2 none) (.inr (by simp [Value.ownBlock]))).frozenAt _
      have hst := HMM.out.step HW.out.size hb2 hown HXOK.out HXL.out HLN.out
      rw [HO.out.1] at hst
      have HST := Lib.hid hst
      have HB2 := Lib.hid (HW.out.trans (hb2.mono HW.out.size))
      clear hst hown hb2 H2 c1
      go_wp2_with fail
      go_roundw
      case rel =>
        refine ⟨k + 1, os ++ [⟨x.r, g, c'⟩], by omega, by go_num, Lib.hid ⟨by rw [List.length_append, HO.out.1]; rfl, ?_⟩, Lib.hid HST.out.1, Lib.hid (HB2.out.grown HST.out.2 HB2.out.size (fun j e => by cases e; exact (HROW.out.lt G rfl).1))⟩
        rw [List.map_append, HO.out.2, take_one HXk.out, List.map_append]
        rfl
      case measure => (simp [intOf] <;> omega)
    · obtain rfl : k = n := by omega
      have hd : ys.drop k = [] := List.drop_of_length_le (by rw [HYL.out]; exact Nat.le_refl _)
      have hM := HMk.out
      rw [hd] at hM
      have HD := Lib.hid hM.done
      have HE : Hid (os.map (·.r) = ys.map (·.r)) := Lib.hid (by have := HO.out.2; rwa [List.take_of_length_le (by rw [HYL.out]; exact Nat.le_refl _)] at this)
      clear hM hd HMk
      go_wp2_with fail
      go_ret
      refine ⟨_, os, rfl, HD, Lib.hid ⟨?_, ?_⟩, HW.out⟩
      · rw [HE.out, ← HX.out.regs]; exact HP.out.map _
      · rw [HE.out]; exact HS.out
end Mm
end Go.Proofs.YtmiphnocgepdgaaGreatDoor
namespace Go.Proofs.YtmiphnocgepdgaaGreatDoor
open Go Go.RowKit Go.Shelf Go.Sort
namespace Mm
open Wd Nt
set_option linter.unusedVariables false
structure LndM (w : World) (B E : Nat) (p : Value) (M : List Reg) : Prop where
  ex : ∃ D v os, p = .pointer (some ⟨D, 0, none⟩) ∧ Bk w D 82 #[.pointer (some ⟨D, 0, none⟩), v] ∧ B ≤ D ∧ D < E ∧ OwnI w B E v os ∧ os.map (·.r) = M
  good : Good M
  rise : Rising M
theorem LndM.keep {w w' : World} {B E B' E' : Nat} {p : Value} {M : List Reg} (h : LndM w B E p M) (hk : Kp B' E' w w') (ho : E ≤ B' ∨ E' ≤ B) : LndM w' B E p M := by
  obtain ⟨D, v, os, h1, h2, h3, h4, h5, h6⟩ := h.ex
  exact ⟨⟨D, v, os, h1, hk.bk h2 (by omega), h3, h4, h5.keep hk ho, h6⟩, h.good, h.rise⟩
theorem LndM.below {w w' : World} {B E : Nat} {p : Value} {M : List Reg} (h : LndM w B E p M) (hb : Below w.heap.size w w') : LndM w' B E p M :=
  h.keep (B' := E) (E' := E) (Kp.of hb) (.inl (Nat.le_refl _))
theorem LndM.shape {w : World} {B E : Nat} {p : Value} {M : List Reg} (h : LndM w B E p M) : (∃ D, p = .pointer (some D)) ∧ Good M ∧ Rising M ∧ Oks M ∧ B ≤ E ∧ E ≤ w.heap.size := by
  obtain ⟨D, v, os, h1, h2, h3, h4, h5, h6⟩ := h.ex
  refine ⟨⟨_, h1⟩, h.good, h.rise, fun r hr => ?_, by omega, h5.top⟩
  rw [← h6] at hr
  obtain ⟨o, ho, rfl⟩ := List.mem_map.1 hr
  exact h5.own.oks o ho
/-- its cells, as a call reads them -/
theorem LndM.open_ {w : World} {B E : Nat} {p : Value} {M : List Reg} (h : LndM w B E p M) : ∃ D A n c, p = .pointer (some ⟨D, 0, none⟩) ∧ w.cell? ⟨D, 0, none⟩ = some (.pointer (some ⟨D, 0, none⟩)) ∧ w.cell? ⟨D, 1, none⟩ = some (.slice A n c) ∧ AtR w A n M ∧ n ≤ 8 ∧ D < w.heap.size := by
  obtain ⟨D, v, os, h1, h2, h3, h4, h5, h6⟩ := h.ex
  obtain ⟨A, n, c, rfl, hR, _, _⟩ := h5.own.rdR
  rw [h6] at hR
  exact ⟨D, A, n, c, h1, h2.cell 0, h2.cell 1, hR, by rw [← hR.len]; exact h.good.few, h2.lt⟩

theorem info_mem : (Tryz.prog.info? 82).isSome = true := by kernel_rfl
set_option maxRecDepth 100000 in
theorem made_c {w : World} {D : Nat} (h : w.cell? ⟨D, 0, none⟩ = some (.pointer (some ⟨D, 0, none⟩))) : Calls Tryz.prog 50 #[.pointer (some ⟨D, 0, none⟩)] w fun e w' => e = .returned (.bool true) ∧ w' = w := by
  obtain ⟨j, hj⟩ := Option.isSome_iff_exists.1 info_mem
  have heq := fun (W : World) => run_eql_ptr_same (P := Tryz.prog) W ⟨D, 0, none⟩ Tryz.underlying27 hj
  clear hj
  go_enter Tryz.func50, Tryz.ntmps50
  go_wp2_with fail
  go_ret
  exact ⟨rfl, rfl⟩
set_option maxRecDepth 100000 in
theorem madeN_c (w : World) : Calls Tryz.prog 50 #[.pointer none] w fun e w' => e = .returned (.bool false) ∧ w' = w := by
  go_enter Tryz.func50, Tryz.ntmps50
  go_wp2_with fail
  go_ret
  exact ⟨rfl, rfl⟩

/-! ### none -/
set_option maxRecDepth 100000 in
theorem loadN_c (w : World) (p : Int) : Calls Tryz.prog 31 #[.pointer none, .int .u64 p] w fun e w' => e = .returned (.tuple #[.int .u64 0, .int .i64 1]) ∧ Below w.heap.size w w' := by
  go_enter Tryz.func31, Tryz.ntmps31
  go_wp2_with (go_at_call 50; refine (madeN_c _).mono ?_; rintro e w' ⟨rfl, rfl⟩)
  go_ret2
  exact ⟨rfl, Below.refl _ _⟩
set_option maxRecDepth 100000 in
theorem storeN_c (w : World) (p v : Int) : Calls Tryz.prog 62 #[.pointer none, .int .u64 p, .int .u64 v] w fun e w' => e = .returned (.int .i64 1) ∧ Below w.heap.size w w' := by
  go_enter Tryz.func62, Tryz.ntmps62
  go_wp2_with (go_at_call 50; refine (madeN_c _).mono ?_; rintro e w' ⟨rfl, rfl⟩)
  go_ret
  exact ⟨rfl, Below.refl _ _⟩
set_option maxRecDepth 100000 in
theorem bytesN_c (w : World) (p n : Int) : Calls Tryz.prog 61 #[.pointer none, .int .u64 p, .int .i64 n] w fun e w' => e = .returned (.tuple #[.string ⟨#[]⟩, .int .i64 1]) ∧ Below w.heap.size w w' := by
  go_enter Tryz.func61, Tryz.ntmps61
  go_wp2_with (go_at_call 50; refine (madeN_c _).mono ?_; rintro e w' ⟨rfl, rfl⟩)
  go_ret2
  exact ⟨rfl, Below.refl _ _⟩
set_option maxRecDepth 100000 in
theorem regionsN_c (w : World) : Calls Tryz.prog 20 #[.pointer none] w fun e w' => (∃ A c, e = .returned (.slice A 0 c)) ∧ Below w.heap.size w w' := by
  go_enter Tryz.func20, Tryz.ntmps20
  go_wp2_with (go_at_call 50; refine (madeN_c _).mono ?_; rintro e w' ⟨rfl, rfl⟩)
  go_ret
  exact ⟨⟨_, _, rfl⟩, Below.refl _ _⟩
/-! ### New -/
set_option maxRecDepth 100000 in
set_option maxHeartbeats 1000000 in
theorem new_c (A : Option Addr) (n c : Nat) (rs : List Reg) (w : World) (h : Hid (AtR w A n rs)) (hc : n ≤ 9223372036854775807) :
    Calls Tryz.prog 16 #[.slice A n c] w (NewO LndM rs w) := by
  have H1 := Lib.hid (check_c A n c rs w h hc)
  go_enter Tryz.func16, Tryz.ntmps16
  go_wp2_with fail
  go_at_call 39
  refine H1.out.mono ?_
  rintro e w1 ⟨hb1, x, rfl, hx⟩
  have HX := Lib.hid hx
  have HB1 := Lib.hid hb1
  by_cases h0 : x = 0
  · subst h0
    have HG := Lib.hid hx.good
    have H2 := Lib.hid (copies_c A n c rs w1 (AtR.step h hb1) HG.out)
    clear H1 hb1 hx
    go_wp2_with fail
    go_at_call 40
    refine H2.out.mono ?_
    rintro e w2 ⟨v, os, rfl, ho, hp, hb2⟩
    have HB2 := Lib.hid (bel_trans HB1.out hb2)
    have HP := Lib.hid hp.out
    have HO := Lib.hid ho.out
    obtain ⟨A0, n0, c0, rfl⟩ : ∃ A0 n0 c0, v = .slice A0 n0 c0 := by
      obtain ⟨A0, n0, c0, e, _⟩ := ho.out.rdR; exact ⟨A0, n0, c0, e⟩
    have HR : Hid (∀ W, W = w2.alloc (.cells #[.pointer (some ⟨w2.heap.size, 0, none⟩), .slice A0 n0 c0] 82) → Below w.heap.size w W ∧ LndM W w.heap.size W.heap.size (.pointer (some ⟨w2.heap.size, 0, none⟩)) (os.map (·.r))) := Lib.hid (by
      rintro W rfl
      have hsz : (w2.alloc (.cells #[.pointer (some ⟨w2.heap.size, 0, none⟩), .slice A0 n0 c0] 82)).heap.size = w2.heap.size + 1 := by simp
      have h1 := ((HO.out.below (bel_alloc (.cells #[.pointer (some ⟨w2.heap.size, 0, none⟩), .slice A0 n0 c0] 82))).base HB1.out.size)
      exact ⟨HB2.out.alloc HB2.out.size _, ⟨⟨w2.heap.size, _, os, rfl, Bk.new _ _ _, HB2.out.size, by omega, h1.toI, rfl⟩, HG.out.perm HP.out.1.symm, HP.out.2⟩⟩)
    clear H2 ho hp hb2
    go_wp2_with fail
    go_ret2
    obtain ⟨h3, h4⟩ := HR.out _ rfl
    exact ⟨h3, 0, HX.out, .inr ⟨rfl, _, _, rfl, HP.out.1, h4⟩⟩
  · have hx0 : (x != 0) = true := by simpa using h0
    have HX0 := Lib.hid h0
    clear hx h0 H1 hb1
    go_wp2_with fail
    go_ret2
    exact new_e HB1.out HX.out HX0.out
theorem goodR {A : Option Addr} {n : Nat} {w : World} {M : List Reg} (h : AtR w A n M) (hn : n ≤ 8) : n ≤ 9223372036854775807 := by omega

/-! ### Regions, Clone -/
set_option maxRecDepth 100000 in
set_option maxHeartbeats 1000000 in
theorem regions_c {w : World} {B E : Nat} {P : Value} {M : List Reg} (h : Hid (LndM w B E P M)) : Calls Tryz.prog 20 #[P] w (RegsP M w) := by
  obtain ⟨D, A, n, c, rfl, c0, c1, hR, hn, hD⟩ := h.out.open_
  have H1 := Lib.hid (copies_c A n c M w (Lib.hid hR) h.out.good)
  have HM := Lib.hid (made_c c0)
  clear hR
  go_enter Tryz.func20, Tryz.ntmps20
  go_wp2_with fail
  go_at_call 50
  refine HM.out.mono ?_
  rintro e w1 ⟨rfl, rfl⟩
  go_wp2_with fail
  go_at_call 40
  refine H1.out.mono ?_
  rintro e w2 ⟨v, os, rfl, ho, hp, hb2⟩
  have HB := Lib.hid hb2
  have HE := Lib.hid (rising_uniq h.out.good hp.out.1 (List.Perm.refl _) hp.out.2 h.out.rise)
  clear H1 HM hb2 hp
  go_wp2_with fail
  go_ret
  exact ⟨HB.out, v, os, rfl, Lib.hid ho.out.toI, HE.out⟩
end Mm
end Go.Proofs.YtmiphnocgepdgaaGreatDoor
