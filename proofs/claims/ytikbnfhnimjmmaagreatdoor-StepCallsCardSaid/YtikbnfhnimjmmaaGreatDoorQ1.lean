/- The landed package memory: regions as the cells that they lie in, lists of such, and what a sort leaves of them. | The library's iterator over a slice of regions, and what is collected from it: slices.Values, AppendSeq, Collect at regions. -/
import Derived.Test.YtikbnfhnimjmmaaGreatDoorA11
import Derived.Test.YtikbnfhnimjmmaaGreatDoorShelf
import Derived.Test.YtikbnfhnimjmmaaGreatDoorShelf2
import Derived.RangeFuncNested
import Derived.RangeFuncBound
import Derived.RangeFuncCalls
import Derived.RangeFuncLeaves
import Derived.Shelf.Abstract
import Derived.Shelf.RegionOpen
import Derived.WalkKit
import Derived.OwnWalkIn
import Derived.TacticsInMore
import Derived.LoopNIn
import Derived.LoopIn
namespace Go.Proofs.YtikbnfhnimjmmaaGreatDoor
open Go Go.RowKit Go.Sort
namespace Mm
open Wd Nt
set_option linter.unusedVariables false
/-- a region and the slice that its bytes lie in -/
structure Cel where
  r : Reg
  A : Option Addr
  n : Nat
  c : Nat
  hb : W r.base
  hn : n ≤ 9223372036854775807
instance : Inhabited Cel := ⟨⟨⟨0, [], false⟩, none, 0, 0, by unfold Wd.W; decide, by decide⟩⟩
def Cel.vs (x : Cel) : List Value := [.int .u64 x.r.base, .slice x.A x.n x.c, .bool x.r.write]
def celRow (xs : List Cel) : List Value := xs.flatMap Cel.vs
structure CelOk (w : World) (B : Nat) (x : Cel) : Prop where
  ok : x.r.ok
  rd : Rd8 w B x.A x.n x.r.bytes
  room : x.n ≤ x.c
  cap : x.c ≤ 9223372036854775807
theorem CelOk.below {w w' : World} {B : Nat} {x : Cel} (h : CelOk w B x) (hb : Below B w w') : CelOk w' B x := ⟨h.ok, h.rd.keep (fun _ hp => hb.cell hp), h.room, h.cap⟩
theorem CelOk.more {w : World} {B B' : Nat} {x : Cel} (h : CelOk w B x) (hb : B ≤ B') : CelOk w B' x := ⟨h.ok, h.rd.more hb, h.room, h.cap⟩
theorem Cel.vs_len (x : Cel) : x.vs.length = 3 := rfl
theorem Cel.vs_one (x : Cel) : ∀ v ∈ x.vs, v.oneCell' = true := by
  intro v hv
  unfold Cel.vs at hv
  simp only [List.mem_cons, List.not_mem_nil, or_false] at hv
  rcases hv with rfl | rfl | rfl <;> rfl
theorem celRow_app (xs ys : List Cel) : celRow (xs ++ ys) = celRow xs ++ celRow ys := List.flatMap_append
theorem celRow_one (x : Cel) : celRow [x] = x.vs := by unfold celRow; simp
theorem celRow_len (xs : List Cel) : (celRow xs).length = xs.length * 3 := by
  induction xs with
  | nil => rfl
  | cons x xs ih =>
    show (x.vs ++ celRow xs).length = _
    rw [List.length_append, ih, List.length_cons, Cel.vs_len]
    omega
theorem celRow_get {xs : List Cel} {j d : Nat} {x : Cel} (h : xs[j]? = some x) (hd : d < 3) : (celRow xs)[j * 3 + d]? = x.vs[d]? := by
  induction xs generalizing j with
  | nil => cases h
  | cons p xs ih =>
    show (p.vs ++ celRow xs)[j * 3 + d]? = _
    cases j with
    | zero =>
      obtain rfl : p = x := by simpa using h
      rw [Nat.zero_mul, Nat.zero_add, List.getElem?_append_left (by show d < 3; exact hd)]
    | succ j =>
      have h' : xs[j]? = some x := by simpa using h
      rw [List.getElem?_append_right (by show 3 ≤ _; omega)]
      show (celRow xs)[(j + 1) * 3 + d - 3]? = _
      rw [show (j + 1) * 3 + d - 3 = j * 3 + d by omega]
      exact ih h'

/-! ### the slice at hand, as its cells -/
theorem spot_none {w : World} {ad : Addr} {v : Value} (h : w.cell? ad = some v) : ad = ⟨ad.block, ad.off, none⟩ := by
  obtain ⟨b, o, s⟩ := ad
  cases s with
  | none => rfl
  | some k =>
    exfalso
    unfold World.cell? at h
    split at h
    · simp at h
    · cases h
theorem add_at (b o k : Nat) : (⟨b, o, none⟩ : Addr).add k = ⟨b, o + k, none⟩ := by
  unfold Addr.add; split
  · rename_i e; rw [e]; rfl
  · rfl
/-- where the cells of a slice lie -/
def CelsAt (w : World) (A : Option Addr) (xs : List Cel) : Prop := xs ≠ [] → ∃ b off, A = some ⟨b, off, none⟩ ∧ b < w.heap.size ∧ ∀ (j d : Nat) (x : Cel), xs[j]? = some x → d < 3 → w.cell? ⟨b, off + j * 3 + d, none⟩ = x.vs[d]?
structure Cels (w : World) (A : Option Addr) (n : Nat) (rs : List Reg) (xs : List Cel) : Prop where
  regs : xs.map (·.r) = rs
  len : xs.length = n
  ok : ∀ x ∈ xs, CelOk w w.heap.size x
  at_ : CelsAt w A xs
theorem Cels.below {w w' : World} {A : Option Addr} {n : Nat} {rs : List Reg} {xs : List Cel} (h : Cels w A n rs xs) (hb : Below w.heap.size w w') : Cels w' A n rs xs :=
  ⟨h.regs, h.len, fun x hx => ((h.ok x hx).below hb).more hb.size, fun hne => by
    obtain ⟨b, off, e, hlt, hc⟩ := h.at_ hne
    exact ⟨b, off, e, Nat.lt_of_lt_of_le hlt hb.size, fun j d x hj hd => (hb.cell (p := ⟨b, off + j * 3 + d, none⟩) hlt).trans (hc j d x hj hd)⟩⟩
theorem AtR.cels {w : World} {A : Option Addr} {n : Nat} {rs : List Reg} (h : AtR w A n rs) : ∃ xs, Cels w A n rs xs := by
  rcases Nat.eq_zero_or_pos n with h0 | h0
  · subst h0
    obtain rfl : rs = [] := List.eq_nil_of_length_eq_zero h.len
    exact ⟨[], rfl, rfl, (fun x hx => by cases hx), fun hne => absurd rfl hne⟩
  · obtain ⟨ad, rfl, hb, hc⟩ := h.rd h0
    obtain ⟨r0, hr0⟩ := get_lt (rs := rs) (j := 0) (by rw [h.len]; exact h0)
    have hsp : ad = ⟨ad.block, ad.off, none⟩ := by
      obtain ⟨A1, n1, c1, h1, _⟩ := hc 0 r0 hr0
      have e : ad.add (0 * 3) = ad := by unfold Addr.add; simp
      rw [e] at h1
      exact spot_none h1
    have key : ∀ k, k ≤ rs.length → ∃ xs : List Cel, xs.map (·.r) = rs.take k ∧ (∀ x ∈ xs, CelOk w w.heap.size x) ∧ ∀ (j d : Nat) (x : Cel), xs[j]? = some x → d < 3 → w.cell? ⟨ad.block, ad.off + j * 3 + d, none⟩ = x.vs[d]? := by
      intro k
      induction k with
      | zero => intro _; exact ⟨[], by simp, (fun x hx => by cases hx), fun j d x hj => by cases hj⟩
      | succ k ih =>
        intro hk
        obtain ⟨xs, h1, h2, h3⟩ := ih (by omega)
        obtain ⟨r, hr⟩ := get_lt (rs := rs) (j := k) (by omega)
        obtain ⟨A1, n1, c1, k1, k2, k3, k4, k5, k6⟩ := hc k r hr
        have hxl : xs.length = k := by
          have := congrArg List.length h1
          rw [List.length_map, List.length_take] at this
          omega
        have hok := h.oks r (List.mem_of_getElem? hr)
        rw [hsp, add_at] at k1 k2 k3
        refine ⟨xs ++ [⟨r, A1, n1, c1, hok.base, by omega⟩], ?_, fun x hx => ?_, fun j d x hj hd => ?_⟩
        · rw [List.map_append, h1, List.take_add_one, hr]; rfl
        · rcases List.mem_append.1 hx with hx | hx
          · exact h2 x hx
          · obtain rfl : x = _ := by simpa using hx
            exact ⟨hok, k4, k5, k6⟩
        · rcases Nat.lt_or_ge j xs.length with hlt | hge
          · rw [List.getElem?_append_left hlt] at hj
            exact h3 j d x hj hd
          · rw [List.getElem?_append_right hge] at hj
            have hj0 : j - xs.length = 0 := by
              rcases Nat.eq_zero_or_pos (j - xs.length) with h | h
              · exact h
              · rw [List.getElem?_eq_none (by simp; omega)] at hj; cases hj
            rw [hj0] at hj
            obtain rfl : _ = x := by simpa using hj
            obtain rfl : j = k := by omega
            unfold Cel.vs
            rcases d with _ | _ | _ | d
            · exact k1
            · exact k2
            · exact k3
            · omega
    obtain ⟨xs, h1, h2, h3⟩ := key rs.length (Nat.le_refl _)
    rw [List.take_length] at h1
    exact ⟨xs, h1, by rw [← h.len, ← h1, List.length_map], h2, fun _ => ⟨ad.block, ad.off, by rw [← hsp], hb, h3⟩⟩

/-! ### sorted by first addresses -/
def cmpI (a b : Int) : Int := if a < b then -1 else if b < a then 1 else 0
def celCmp (x y : Cel) : Int := cmpI x.r.base y.r.base
theorem cel_lt (x y : Cel) : ltOf celCmp x y = decide (x.r.base < y.r.base) := by
  unfold ltOf celCmp cmpI
  by_cases h1 : x.r.base < y.r.base
  · rw [if_pos h1]; simp [h1]
  · rw [if_neg h1]
    by_cases h2 : y.r.base < x.r.base
    · rw [if_pos h2]; simp [h1]
    · rw [if_neg h2]; simp [h1]
theorem cel_swo : SWO (ltOf celCmp) := by
  refine ⟨fun x => ?_, fun x y z h1 h2 => ?_, fun x y z h1 h2 => ?_⟩
  · rw [cel_lt]; simp
  · rw [cel_lt] at *; simp at *; omega
  · rw [cel_lt] at *; simp at *; omega
theorem sorted_cels {xs : List Cel} {d : Array Cel} (hp : PermIn 0 xs.toArray.size xs.toArray d) (hs : SortedIn (ltOf celCmp) 0 xs.toArray.size d) : d.toList.Perm xs ∧ (d.toList.map (·.r)).Pairwise (fun r s => r.base ≤ s.base) := by
  have hl : d.size = xs.length := by have := hp.1; simpa using this
  have hpp := hp.2.2
  have e1 : xs.toArray.extract 0 xs.toArray.size = xs.toArray := Array.extract_eq_self_of_le (Nat.le_refl _)
  have e2 : d.extract 0 xs.toArray.size = d := Array.extract_eq_self_of_le (by rw [hl]; simp)
  rw [e1, e2] at hpp
  refine ⟨by simpa using hpp, ?_⟩
  rw [List.pairwise_map, List.pairwise_iff_getElem]
  intro i j hi hj hij
  have hi' : i < d.size := by simpa using hi
  have hj' : j < d.size := by simpa using hj
  have h := hs i j (Nat.zero_le _) hij (by simp; omega)
  rw [cel_lt, getElem!_pos d j hj', getElem!_pos d i hi'] at h
  simp at h
  simpa using h

/-! ### a row of one's own, as the sort has it -/
theorem flat_row (xs : List Cel) : (flatK Cel.vs 3 xs.toArray).toList = celRow xs := by
  apply List.ext_getElem?
  intro t
  rcases Nat.lt_or_ge t (xs.length * 3) with ht | ht
  · obtain ⟨x, hx⟩ : ∃ x, xs[t / 3]? = some x := ⟨_, List.getElem?_eq_getElem (by omega)⟩
    have e : t = t / 3 * 3 + t % 3 := by omega
    have h1 := celRow_get (d := t % 3) hx (by omega)
    rw [← e] at h1
    rw [h1]
    have h2 := get_flatK Cel.vs 3 xs.toArray t (by simpa using ht)
    have h3 : t < (flatK Cel.vs 3 xs.toArray).size := by simpa using ht
    rw [Array.getElem?_toList, Array.getElem?_eq_getElem h3, ← getElem!_pos (flatK Cel.vs 3 xs.toArray) t h3, h2]
    have h4 : xs.toArray[t / 3]! = x := by
      obtain ⟨h5, h6⟩ := List.getElem?_eq_some_iff.1 hx
      rw [getElem!_pos _ _ (by simpa using h5)]
      simpa using h6
    rw [h4, getElem!_pos _ _ (by rw [Cel.vs_len]; omega), List.getElem?_eq_getElem (by rw [Cel.vs_len]; omega)]
  · rw [List.getElem?_eq_none (by rw [Array.length_toList, size_flatK]; simpa using ht), List.getElem?_eq_none (by rw [celRow_len]; exact ht)]
theorem holds_cels {w : World} {B g n c : Nat} {e : TypeId} {xs : List Cel} (h : w.ownsRow B e 3 (.slice (some ⟨g, 0, none⟩) n c) n (celRow xs)) (hl : xs.length = n) : HoldsK Cel.vs 3 w g 0 xs.toArray := by
  intro j hj
  have hj' : j < xs.length * 3 := by simpa using hj
  have h3 : j < (flatK Cel.vs 3 xs.toArray).size := by simpa using hj
  have h1 := h.cellAt j (by omega)
  refine ⟨?_, by rw [Nat.zero_add]; exact h.frozenAt j⟩
  rw [Nat.zero_add, h1, ← flat_row, Array.getElem?_toList, Array.getElem?_eq_getElem h3, getElem!_pos (flatK Cel.vs 3 xs.toArray) j h3]
  rfl
theorem take_put (cur F : Array Value) (h : F.size ≤ cur.size) : (putCells id 0 F cur).toList.take F.size = F.toList := by
  apply List.ext_getElem?
  intro j
  by_cases hj : j < F.size
  · rw [List.getElem?_take_of_lt hj, Array.getElem?_toList]
    simp [putCells, hj, show j < cur.size by omega]
  · rw [List.getElem?_take_eq_none (by omega), List.getElem?_eq_none (by simp; omega)]
theorem own_sorted {w : World} {B g n c m : Nat} {e : TypeId} {xs ys : List Cel} {os : Array Obj} (h : w.ownsRow B e 3 (.slice (some ⟨g, 0, none⟩) n c) n (celRow xs)) (hl : ys.length = n) :
    (sortWorldK Cel.vs 3 w g 0 m ys.toArray os).ownsRow B e 3 (.slice (some ⟨g, 0, none⟩) n c) n (celRow ys) ∧ w.grownBy (sortWorldK Cel.vs 3 w g 0 m ys.toArray os) (some g) := by
  unfold sortWorldK putRowK
  rcases h.2 with ⟨e0, _⟩ | ⟨g', c', cur, e0, hB, hg, hn, hm, hs, ht⟩
  · cases e0
  · injection e0 with e1 _ e3
    injection e1 with e1
    injection e1 with e1
    subst e1; subst e3
    have hgl : g < w.heap.size := (Array.getElem?_eq_some_iff.1 hg).1
    have hF : (flatK Cel.vs 3 ys.toArray).size = n * 3 := by simp [hl]
    refine ⟨⟨by rw [celRow_len, hl], .inr ⟨g, c, putCells id 0 (flatK Cel.vs 3 ys.toArray) cur, rfl, hB, ?_, hn, hm, by simpa [putCells] using hs, ?_⟩⟩, rfl, rfl, rfl, by simp, fun k hk hne => ?_⟩
    · rw [heap_grow_old _ _ (by simpa using hgl)]
      simp [putRow, mapBlock, Sort.ahead, Array.getElem?_modify, hg, onCells]
    · rw [← hF, take_put _ _ (by rw [hF]; omega), flat_row]
    · rw [heap_grow_old _ _ (by simpa using hk)]
      have : g ≠ k := fun e => hne (by rw [e])
      simp [putRow, mapBlock, Sort.ahead, Array.getElem?_modify, this]
end Mm
end Go.Proofs.YtikbnfhnimjmmaaGreatDoor
namespace Go.Proofs.YtikbnfhnimjmmaaGreatDoor
open Go Go.RowKit Go.Shelf
namespace Mm
open Wd Nt
set_option linter.unusedVariables false
attribute [local go_sem] Oper.semAt_some
theorem take_one {xs : List Cel} {k : Nat} {x : Cel} (h : xs[k]? = some x) : xs.take (k + 1) = xs.take k ++ [x] := by rw [List.take_add_one, h]; rfl
theorem take_length {xs : List Cel} {k : Nat} (h : k ≤ xs.length) : (xs.take k).length = k := by rw [List.length_take]; omega
set_option maxRecDepth 100000 in
set_option maxHeartbeats 2000000 in
/-- the closure that slices.Values hands back -/
theorem vals1_in (F : Fence) (n : Nat) (h7 : F.fn 270) (hro : F.round = none) (hn : 1 ≤ n) (l Bs n₀ b off len cap : Nat) (xs : List Cel) (hxl : xs.length = len) (hreach : len ≤ 1000000) (hb : b < n₀) (J Jx : List Cel → World → Prop)
    (hY : ∀ pre x W, J pre W → pre.length < len → YieldAt F (n - 1) Tryz.prog l #[.agg x.vs.toArray] W fun e W' =>
      (e = .returned (.bool true) ∧ J (pre ++ [x]) W' ∧ Below n₀ W W') ∨ (e = .returned (.bool false) ∧ Jx (pre ++ [x]) W'))
    (W : World) (hn0 : n₀ ≤ W.heap.size) (hJ : AbidesFrom W.heap.size J) (hBs : W.cell? ⟨Bs, 0, none⟩ = some (.slice (some ⟨b, off, none⟩) len cap))
    (hc : ∀ (j d : Nat) (x : Cel), xs[j]? = some x → d < 3 → W.cell? ⟨b, off + j * 3 + d, none⟩ = x.vs[d]?) (h0 : J [] W) :
    CallsIn F n Tryz.prog 270 #[.func (.yield l) #[] #[], .pointer (some ⟨Bs, 0, none⟩)] W fun e W' => (∃ v, e = .returned v) ∧
      ((∃ ys, ys = xs ∧ J ys W') ∨ (∃ pre, (∃ k, k ≤ len ∧ pre = xs.take k) ∧ Jx pre W')) := by
  refine callsIn_of_wp Tryz.func270 rfl h7 ?_ hro
  simp only [Tryz.ntmps270, List.size_toArray, List.length_cons, List.length_nil, Nat.reduceAdd, Nat.reduceSub, Array.replicate_succ, Array.replicate_zero, List.push_toArray, List.append_toArray, List.nil_append, List.cons_append]
  gi_wp2
  gi_loopw [7] (fun i wr => ∃ k : Nat, k ≤ len ∧ i = .int .i64 k ∧ J (xs.take k) wr ∧ Hid (Below n₀ W wr) ∧ Hid (W.heap.size ≤ wr.heap.size))
    (fun i _ => len - (intOf i).toNat)
  case atStart => exact ⟨0, Nat.zero_le _, rfl, by rw [List.take_zero]; exact h0, Lib.hid (Below.refl _ _), Lib.hid (Nat.le_refl _)⟩
  case round =>
    obtain ⟨k, hk, rfl, hJs, hnx, hsz⟩ := hrel
    by_cases hlt : k < len
    · obtain ⟨x, hx⟩ : ∃ x, xs[k]? = some x := ⟨_, List.getElem?_eq_getElem (by omega)⟩
      have c0 : wr.cell? ⟨b, off + k * 3, none⟩ = some (.int .u64 x.r.base) := (hnx.out.cell (p := ⟨b, off + k * 3, none⟩) hb).trans (hc k 0 x hx (by omega))
      have c1 : wr.cell? ⟨b, off + k * 3 + 1, none⟩ = some (.slice x.A x.n x.c) := (hnx.out.cell (p := ⟨b, off + k * 3 + 1, none⟩) hb).trans (hc k 1 x hx (by omega))
      have c2 : wr.cell? ⟨b, off + k * 3 + 2, none⟩ = some (.bool x.r.write) := (hnx.out.cell (p := ⟨b, off + k * 3 + 2, none⟩) hb).trans (hc k 2 x hx (by omega))
      have hJ2 : J (xs.take k) (wr.alloc (.cells #[.int .u64 x.r.base, .slice x.A x.n x.c, .bool x.r.write] 106)) := hJ _ wr _ none hJs (World.grownBy_alloc wr _ none) (fun r e => by cases e)
      obtain ⟨fn, tmps, assign, body, hy, hR⟩ := hY _ x _ hJ2 (by rw [take_length (by omega)]; exact hlt)
      dsimp only [Cel.vs] at hy
      have hb2 : Hid (Below n₀ W (wr.alloc (.cells #[.int .u64 x.r.base, .slice x.A x.n x.c, .bool x.r.write] 106))) := Lib.hid (hnx.out.alloc (Nat.le_trans hn0 hsz.out) _)
      have HX := Lib.hid hx
      have hlti : (k : Int) < (len : Int) := by omega
      clear hx
      gi_wp2
      refine hR.mono ?_
      rintro e W3 (⟨rfl, hJ3, hk3⟩ | ⟨rfl, hJx3⟩)
      · have hsz3 : Hid (W.heap.size ≤ W3.heap.size) := Lib.hid (by have h1 := hk3.size; have h2 := hsz.out; simp at h1; omega)
        have hb3 := Lib.hid (hb2.out.trans hk3)
        clear hk3
        gi_wp2
        go_roundw
        case rel => exact ⟨k + 1, by omega, by simp, by rw [take_one HX.out]; exact hJ3, hb3, hsz3⟩
        case measure => simp [intOf]; omega
      · gi_wp2
        refine bodyPost_ret (results_none rfl _ _ _) rfl ?_
        exact ⟨⟨_, rfl⟩, .inr ⟨_, ⟨k + 1, by omega, (take_one HX.out).symm⟩, hJx3⟩⟩
    · obtain rfl : k = len := by omega
      gi_wp2
      go_end0
      exact ⟨⟨_, rfl⟩, .inl ⟨_, by rw [List.take_of_length_le (by omega)], hJs⟩⟩
set_option maxRecDepth 100000 in
set_option maxHeartbeats 1000000 in
theorem vals1_nil_in (F : Fence) (n : Nat) (h7 : F.fn 270) (hro : F.round = none) (l Bs cap : Nat) (A : Option Addr) (J : List Cel → World → Prop) (W : World) (hBs : W.cell? ⟨Bs, 0, none⟩ = some (.slice A 0 cap)) (h0 : J [] W) :
    CallsIn F n Tryz.prog 270 #[.func (.yield l) #[] #[], .pointer (some ⟨Bs, 0, none⟩)] W fun e W' => (∃ v, e = .returned v) ∧ J [] W' := by
  refine callsIn_of_wp Tryz.func270 rfl h7 ?_ hro
  simp only [Tryz.ntmps270, List.size_toArray, List.length_cons, List.length_nil, Nat.reduceAdd, Nat.reduceSub, Array.replicate_succ, Array.replicate_zero, List.push_toArray, List.append_toArray, List.nil_append, List.cons_append]
  gi_wp2
  gi_loopw [7] (fun i wr => i = .int .i64 0 ∧ J [] wr) (fun _ _ => 0)
  case atStart => exact ⟨rfl, h0⟩
  case round =>
    obtain ⟨rfl, hJs⟩ := hrel
    gi_wp2
    go_end0
    exact ⟨⟨_, rfl⟩, hJs⟩
set_option maxHeartbeats 1000000 in
theorem vals_in (F : Fence) (n : Nat) (h5 : F.fn 221) (hro : F.round = none) (a : Option Addr) (len cap : Nat) (w : World) :
    CallsIn F n Tryz.prog 221 #[.slice a len cap] w fun e w' => e = .returned (.func (.func 270) #[] #[.pointer (some ⟨w.heap.size, 0, none⟩)]) ∧ w' = w.alloc (.cells #[.slice a len cap] 53) := by
  refine callsIn_of_wp Tryz.func221 rfl h5 ?_ hro
  simp only [Tryz.ntmps221, List.size_toArray, List.length_cons, List.length_nil, Nat.reduceAdd, Nat.reduceSub, Array.replicate_succ, Array.replicate_zero, List.push_toArray, List.append_toArray, List.nil_append, List.cons_append]
  gi_wp2
  go_ret
  exact ⟨rfl, rfl⟩
def yieldCel (x : Cel) : Array Value := #[.agg x.vs.toArray]
/-- slices.Values hands back what gives the regions, all of them, in order -/
theorem vals_stops (F : Fence) (n : Nat) (h7 : F.fn 270) (hro : F.round = none) (hn : 1 ≤ n) (Bs m c n₀ : Nat) (A : Option Addr) (rs : List Reg) (xs : List Cel) (hm : m ≤ 1000000) (w0 w : World) (hxs : Cels w0 A m rs xs) (hbw : Below w0.heap.size w0 w) (hn₀ : n₀ = w0.heap.size)
    (hBs : Bs < w.heap.size) (hc : w.cell? ⟨Bs, 0, none⟩ = some (.slice A m c)) :
    SeqStopsK F n Tryz.prog 270 #[.pointer (some ⟨Bs, 0, none⟩)] yieldCel (Below n₀) (fun ys => ys = xs) (fun pre => ∃ k, k ≤ m ∧ pre = xs.take k) xs.length w := fun l J Jx W hW hJ _ hY h0 => by
  subst hn₀
  have hc' := (hW.cell (p := ⟨Bs, 0, none⟩) hBs).trans hc
  have hsz := hbw.size
  have hsz2 := hW.size
  rcases Nat.eq_zero_or_pos m with rfl | hpos
  · have hx0 : xs = [] := List.eq_nil_of_length_eq_zero hxs.len
    exact (vals1_nil_in F n h7 hro l Bs c A J W hc' h0).mono fun e W' ⟨he, hj⟩ => ⟨he, .inl ⟨_, hx0.symm, hj⟩⟩
  · obtain ⟨b, off, rfl, hlt, hcell⟩ := hxs.at_ (fun e => by rw [e] at hxs; have := hxs.len; simp at this; omega)
    have hWW : Below w0.heap.size w0 W := hbw.trans (hW.mono hsz)
    exact vals1_in F n h7 hro hn l Bs w0.heap.size b off m c xs hxs.len hm hlt J Jx (fun pre x W1 hj hl => hY pre x W1 hj (by rw [hxs.len]; exact hl)) W (by omega) hJ hc' (fun j d x hj hd => (hWW.cell (p := ⟨b, off + j * 3 + d, none⟩) hlt).trans (hcell j d x hj hd)) h0
end Mm
end Go.Proofs.YtikbnfhnimjmmaaGreatDoor
