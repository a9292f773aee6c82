/- The landed package's Check: too long, wrong, overlapping. | The landed package's Check. | The landed package's Check, whole. -/
import Derived.Test.YtikbnfhnimjmmaaGreatDoorQ3
import Derived.BigQuiet
import Derived.Deep.QuietTactic
import Derived.Shelf.SlSortCmp.QuietGrown
import Derived.Shelf.RegionOpenPlain
namespace Go.Proofs.YtikbnfhnimjmmaaGreatDoor
open Go Go.RowKit Go.Shelf Go.Sort
namespace Mm
open Wd Nt
set_option linter.unusedVariables false
theorem below_grow (w : World) (q : Nat) (os : Array Obj) : Below w.heap.size w (grow (w.drewN q) os) :=
  ⟨rfl, rfl, rfl, by simp [grow], fun i hi => by
    show ((w.drewN q).heap ++ os)[i]? = _
    rw [Array.getElem?_append_left (by show i < w.heap.size; omega)]
    rfl⟩
/-- the address of the last byte, as it is reckoned -/
def lastOf (x : Cel) : Int := IntKind.u64.wrap (IntKind.u64.wrap (x.r.base + (x.n : Int)) - 1)
theorem last_c (x : Cel) (W : World) : Calls Tryz.prog 219 #[.agg #[.int .u64 x.r.base, .slice x.A x.n x.c, .bool x.r.write]] W fun e w' => e = .returned (.int .u64 (lastOf x)) ∧ ∃ q os', w' = grow (W.drewN q) os' := by
  have hn := x.hn
  have hw : IntKind.u64.wrap ((x.n : Nat) : Int) = (x.n : Int) := by rw [IntKind.wrap_u64]; omega
  go_enter Tryz.func219, Tryz.ntmps219
  go_wp2_with fail
  go_ret
  refine ⟨?_, 0, _, by rw [alloc_eq_grow]; rfl⟩
  unfold lastOf
  first | rfl | simp
theorem tooLong_c (x : Cel) (W : World) : Calls Tryz.prog 124 #[.agg #[.int .u64 x.r.base, .slice x.A x.n x.c, .bool x.r.write]] W fun e w' => e = .returned (.bool (decide (1048576 < (x.n : Int)))) ∧ Below W.heap.size W w' := by
  go_enter Tryz.func124, Tryz.ntmps124
  go_wp2_with fail
  go_ret
  exact ⟨rfl, (Below.refl _ W).alloc (Nat.le_refl _) _⟩
def wrongP (x : Cel) : Bool := decide (x.n = 0) || decide (lastOf x < x.r.base)
set_option maxHeartbeats 1000000 in
theorem wrong_c (x : Cel) (W : World) : Calls Tryz.prog 125 #[.agg #[.int .u64 x.r.base, .slice x.A x.n x.c, .bool x.r.write]] W fun e w' => e = .returned (.bool (wrongP x)) ∧ Below W.heap.size W w' := by
  have mixed : Tryz.prog.follows .mixedOrders = true := by kernel_rfl
  obtain ⟨W1, hW1⟩ : ∃ W1, W1 = W.alloc (.cells #[.int .u64 x.r.base, .slice x.A x.n x.c, .bool x.r.write] 106) := ⟨_, rfl⟩
  have hs : W1.heap.size = W.heap.size + 1 := by rw [hW1]; simp
  have hb : Below W.heap.size W W1 := by rw [hW1]; exact (Below.refl _ W).alloc (Nat.le_refl _) _
  have hc : ∀ i, W1.cell? ⟨W.heap.size, i, none⟩ = (#[.int .u64 x.r.base, .slice x.A x.n x.c, .bool x.r.write] : Array Value)[i]? := fun i => by rw [hW1, World.cell?_alloc_at _ _ _ _ (by simp)]
  have c0 : ∀ n os, (grow (W1.drewN n) os).cell? ⟨W.heap.size, 0, none⟩ = some (.int .u64 x.r.base) := fun n os => cell_grown (by simp; omega) (hc 0) n os
  have c1 : ∀ n os, (grow (W1.drewN n) os).cell? ⟨W.heap.size, 1, none⟩ = some (.slice x.A x.n x.c) := fun n os => cell_grown (by simp; omega) (hc 1) n os
  have c2 : ∀ n os, (grow (W1.drewN n) os).cell? ⟨W.heap.size, 2, none⟩ = some (.bool x.r.write) := fun n os => cell_grown (by simp; omega) (hc 2) n os
  have HB := Lib.hid hb
  have HL := Lib.hid (fun W' => last_c x W')
  have HW1 := Lib.hid hW1
  clear hc hb
  by_cases h0 : x.n = 0
  · have e : wrongP x = true := by unfold wrongP; rw [h0]; rfl
    rw [e]
    have hne2 : ((x.n : Int) = 0) := by omega
    clear e h0
    go_enter Tryz.func125, Tryz.ntmps125
    go_wp2_with fail
    rw [← HW1.out]
    clear hW1
    go_quiet_grown (fail)
    go_wp2_with fail
    go_ret
    exact ⟨rfl, HB.out.trans ((below_grow _ _ _).mono HB.out.size)⟩
  · have e : wrongP x = decide (lastOf x < x.r.base) := by unfold wrongP; rw [decide_eq_false h0]; rfl
    have hne : ((x.n : Int) == 0) = false := by simp; omega
    have hne2 : ¬ ((x.n : Int) = 0) := by omega
    rw [e]
    clear e
    go_enter Tryz.func125, Tryz.ntmps125
    go_wp2_with fail
    rw [← HW1.out]
    clear hW1
    go_quiet_grown ((go_at_call 219; exact Calls.grown_of (HL.out _)))
    go_wp2_with fail
    go_ret
    exact ⟨rfl, HB.out.trans ((below_grow _ _ _).mono HB.out.size)⟩
end Mm
end Go.Proofs.YtikbnfhnimjmmaaGreatDoor
namespace Go.Proofs.YtikbnfhnimjmmaaGreatDoor
open Go Go.RowKit Go.Shelf Go.Sort
namespace Mm
open Wd Nt
set_option linter.unusedVariables false
/-- some region begins ahead of the end of the one before it -/
def Over (ys : List Cel) : Prop := ∃ (i : Nat) (x y : Cel), ys[i]? = some x ∧ ys[i + 1]? = some y ∧ y.r.base ≤ lastOf x
def OverP (ys : List Cel) (w : World) (e : Ending) (w' : World) : Prop := ∃ b, e = .returned (.bool b) ∧ (b = true ↔ Over ys) ∧ Below w.heap.size w w'
set_option maxRecDepth 100000 in
set_option maxHeartbeats 2000000 in
theorem overlap_c {w : World} {B : Nat} {v : Value} {ys : List Cel} (h : Hid (w.ownsRow B 106 3 v ys.length (celRow ys))) (hn : ys.length ≤ 12) :
    Calls Tryz.prog 126 #[v] w (OverP ys w) := by
  have mixed : Tryz.prog.follows .mixedOrders = true := by kernel_rfl
  have HL := Lib.hid (fun x W' => last_c x W')
  obtain ⟨n, hlen⟩ : ∃ n, n = ys.length := ⟨_, rfl⟩
  have HLEN := Lib.hid hlen
  rcases h.out.2 with ⟨rfl, hz⟩ | ⟨g, c, cur, rfl, hB, hg, hnc, hm, hs, ht⟩
  · have hno : Hid (¬ Over ys) := Lib.hid (by rintro ⟨i, x, y, h1, _⟩; rw [List.eq_nil_of_length_eq_zero hz] at h1; cases h1)
    go_enter Tryz.func126, Tryz.ntmps126
    go_wp2_with fail
    refine wp_loop_rounds 1 ?_
    rw [rounds_succ]
    go_wp2_with fail
    (try simp only [Exit.inBlock, Exit.then])
    first
    | (go_ret; exact ⟨false, rfl, ⟨(fun h => by cases h), fun h => absurd h hno.out⟩, Below.refl _ _⟩)
    | (refine bodyPost_ret (results_none rfl _ _ _) rfl ?_; exact ⟨false, rfl, ⟨(fun h => by cases h), fun h => absurd h hno.out⟩, Below.refl _ _⟩)
  · have hgl : g < w.heap.size := (Array.getElem?_eq_some_iff.1 hg).1
    have hcell : Hid (∀ (W : World), Below w.heap.size w W → ∀ (j d : Nat) (x : Cel), ys[j]? = some x → d < 3 → W.cell? ⟨g, j * 3 + d, none⟩ = x.vs[d]?) := Lib.hid (fun W hW j d x hj hd => by
      rw [hW.cell (p := ⟨g, j * 3 + d, none⟩) hgl]
      have hjl := (List.getElem?_eq_some_iff.1 hj).1
      rw [h.out.cellAt (j * 3 + d) (by omega)]
      exact celRow_get hj hd)
    rw [← hlen] at hn ⊢
    clear h hs ht hg hm hB hnc hlen
    go_enter Tryz.func126, Tryz.ntmps126
    go_wp2_with fail
    go_loopw [3] (fun i W => ∃ q : Nat, q ≤ n ∧ i = .int .i64 ((q : Int) + 1) ∧ Hid (Below w.heap.size w W) ∧ Hid (∀ (j : Nat) (x y : Cel), j < q → ys[j]? = some x → ys[j + 1]? = some y → lastOf x < y.r.base)) (fun i _ => n + 1 - (intOf i).toNat)
    case atStart => exact ⟨0, Nat.zero_le _, rfl, Lib.hid (Below.refl _ _), Lib.hid (fun j x y hj => absurd hj (by omega))⟩
    case round =>
      obtain ⟨q, hq, rfl, HB, HI⟩ := hrel
      rcases Nat.lt_or_ge (q + 1) n with hlt | hge
      · obtain ⟨x, hx⟩ : ∃ x, ys[q]? = some x := ⟨_, List.getElem?_eq_getElem (by rw [← HLEN.out]; omega)⟩
        obtain ⟨y, hy⟩ : ∃ y, ys[q + 1]? = some y := ⟨_, List.getElem?_eq_getElem (by rw [← HLEN.out]; omega)⟩
        have hgw : g < wr.heap.size := Nat.lt_of_lt_of_le hgl HB.out.size
        have x0 : ∀ n os, (grow (wr.drewN n) os).cell? ⟨g, q * 3, none⟩ = some (.int .u64 x.r.base) := fun n os => cell_grown hgw (hcell.out wr HB.out q 0 x hx (by omega)) n os
        have x1 : ∀ n os, (grow (wr.drewN n) os).cell? ⟨g, q * 3 + 1, none⟩ = some (.slice x.A x.n x.c) := fun n os => cell_grown hgw (hcell.out wr HB.out q 1 x hx (by omega)) n os
        have x2 : ∀ n os, (grow (wr.drewN n) os).cell? ⟨g, q * 3 + 2, none⟩ = some (.bool x.r.write) := fun n os => cell_grown hgw (hcell.out wr HB.out q 2 x hx (by omega)) n os
        have y0 : ∀ n os, (grow (wr.drewN n) os).cell? ⟨g, (q + 1) * 3, none⟩ = some (.int .u64 y.r.base) := fun n os => cell_grown hgw (hcell.out wr HB.out (q + 1) 0 y hy (by omega)) n os
        have s1 : IntKind.i64.wrap ((q : Int) + 1 - 1) = (q : Int) := by rw [show (q : Int) + 1 - 1 = q by omega]; exact IntWalk.i64_in _ (by omega)
        have s2 : IntKind.i64.wrap (q : Int) = (q : Int) := IntWalk.i64_in _ (by omega)
        have q0 : (0 : Int) ≤ (q : Int) := by omega
        have q1 : (q : Int) + 1 < (n : Int) := by omega
        have q2 : (q : Int) < (n : Int) := by omega
        have q3 : (0 : Int) ≤ (q : Int) + 1 := by omega
        have s4 : ((q : Int) + 1).toNat = q + 1 := by omega
        have s6 : ((q : Int)).toNat = q := by omega
        have HX := Lib.hid hx
        have HY := Lib.hid hy
        clear hx hy
        by_cases hov : y.r.base ≤ lastOf x
        · have HO : Hid (Over ys) := Lib.hid ⟨q, x, y, HX.out, HY.out, hov⟩
          go_wp2_with fail
          go_quiet_grown ((go_at_call 219; exact Calls.grown_of (HL.out _ _)))
          go_wp2_with fail
          go_ret
          exact ⟨true, rfl, ⟨fun _ => HO.out, fun _ => rfl⟩, HB.out.trans ((below_grow _ _ _).mono HB.out.size)⟩
        · have hov' : lastOf x < y.r.base := by omega
          have HI' : Hid (∀ (j : Nat) (x y : Cel), j < q + 1 → ys[j]? = some x → ys[j + 1]? = some y → lastOf x < y.r.base) := Lib.hid (fun j x' y' hj h1 h2 => by
            by_cases e : j = q
            · subst e
              rw [HX.out] at h1; rw [HY.out] at h2
              cases h1; cases h2
              exact hov'
            · exact HI.out j x' y' (by omega) h1 h2)
          have hd : decide (y.r.base ≤ lastOf x) = false := decide_eq_false hov
          clear hov HI
          go_wp2_with fail
          go_quiet_grown ((go_at_call 219; exact Calls.grown_of (HL.out _ _)))
          go_wp2_with fail
          go_roundw
          case rel => exact ⟨q + 1, by omega, by go_num, Lib.hid (HB.out.trans ((below_grow _ _ _).mono HB.out.size)), HI'⟩
          case measure => (simp [intOf] <;> omega)
      · have hno : Hid (¬ Over ys) := Lib.hid (by
          rintro ⟨i, x, y, h1, h2, h3⟩
          have h4 := (List.getElem?_eq_some_iff.1 h2).1
          have := HI.out i x y (by rw [← HLEN.out] at h4; omega) h1 h2
          omega)
        have hgei : (n : Int) ≤ (q : Int) + 1 := by omega
        clear HI
        go_wp2_with fail
        go_ret
        exact ⟨false, rfl, ⟨(fun h => by cases h), fun h => absurd h hno.out⟩, HB.out⟩

/-! ### slices.ContainsFunc -/
set_option maxHeartbeats 1000000 in
theorem containsNone_c (A : Option Addr) (c g : Nat) (w : World) : Calls Tryz.prog 123 #[.slice A 0 c, .func (.func g) #[] #[]] w fun e w' => e = .returned (.bool false) ∧ w' = w := by
  have hi : ∀ W, Calls Tryz.prog 218 #[.slice A 0 c, .func (.func g) #[] #[]] W fun e w' => e = .returned (.int .i64 (-1)) ∧ w' = W := fun W => by
    go_enter Tryz.func218, Tryz.ntmps218
    go_wp2_with fail
    refine wp_loop_rounds 1 ?_
    rw [rounds_succ]
    go_wp2_with fail
    go_ret
    exact ⟨rfl, rfl⟩
  go_enter Tryz.func123, Tryz.ntmps123
  go_wp2_with (go_at_call 218; refine (hi _).mono ?_; rintro e w' ⟨rfl, rfl⟩)
  go_ret
  exact ⟨rfl, rfl⟩
theorem contains_c {w : World} {A : Option Addr} {n : Nat} (c : Nat) {rs : List Reg} {xs : List Cel} (h : Cels w A n rs xs) (hn : n ≤ 9223372036854775807) (g : Nat) (p : Cel → Bool) (eg : ∀ args w, (callFunc g args).run Tryz.prog w = .ok (.enter g args) w)
    (hp : ∀ (x : Cel) (W : World), Calls Tryz.prog g #[.agg #[.int .u64 x.r.base, .slice x.A x.n x.c, .bool x.r.write]] W fun e w' => e = .returned (.bool (p x)) ∧ Below W.heap.size W w') :
    Calls Tryz.prog 123 #[.slice A n c, .func (.func g) #[] #[]] w fun e w' => e = .returned (.bool (xs.any p)) ∧ Below w.heap.size w w' := by
  rcases Nat.eq_zero_or_pos n with rfl | hpos
  · obtain rfl : xs = [] := List.eq_nil_of_length_eq_zero h.len
    exact (containsNone_c A c g w).mono fun e w' ⟨h1, h2⟩ => ⟨h1, by rw [h2]; exact Below.refl _ _⟩
  · obtain ⟨b, off, rfl, hlt, hcell⟩ := h.at_ (fun e => by rw [e] at h; have := h.len; simp at this; omega)
    have hcon := AnyQ.slices_ContainsFunc Tryz.containsR 3 Tryz.isAgg106 Tryz.sizeOf106 Cel.vs Cel.vs_len p g #[] eg b off n c xs w (fun W x hb => (hp x W).mono fun e w' ⟨h1, h2⟩ => ⟨h1, hb.trans (h2.mono hb.size)⟩) (by rw [h.len]; exact Nat.le_refl _) hn hlt (fun j hj i v hv => by
      have e : xs[j]? = some xs[j]! := by rw [getElem!_pos xs j hj, List.getElem?_eq_getElem hj]
      rw [hcell j i _ e (by have := (List.getElem?_eq_some_iff.1 hv).1; rw [Cel.vs_len] at this; exact this)]
      exact hv)
    rw [List.take_of_length_le (by rw [h.len]; exact Nat.le_refl _)] at hcon
    exact hcon
end Mm
end Go.Proofs.YtikbnfhnimjmmaaGreatDoor
namespace Go.Proofs.YtikbnfhnimjmmaaGreatDoor
open Go Go.RowKit Go.Shelf Go.Sort
namespace Mm
open Wd Nt
set_option linter.unusedVariables false
def tooP (x : Cel) : Bool := decide (1048576 < (x.n : Int))
section
variable {w : World} {A : Option Addr} {n : Nat} {rs : List Reg} {xs ys : List Cel}
theorem Cels.len_of (h : Cels w A n rs xs) {x : Cel} (hx : x ∈ xs) : x.r.len = x.n := by unfold Reg.len; rw [(h.ok x hx).rd.len]
theorem long_iff (h : Cels w A n rs xs) : xs.any tooP = true ↔ Long rs := by
  rw [List.any_eq_true]
  constructor
  · rintro ⟨x, hx, ht⟩
    obtain ⟨i, hi⟩ := getElem?_of_mem (show x.r ∈ rs by rw [← h.regs]; exact List.mem_map.2 ⟨x, hx, rfl⟩)
    exact ⟨i, x.r, hi, by rw [h.len_of hx]; simpa [tooP] using ht⟩
  · rintro ⟨i, r, hi, hl⟩
    have hm : r ∈ xs.map (·.r) := by rw [h.regs]; exact List.mem_of_getElem? hi
    obtain ⟨x, hx, rfl⟩ := List.mem_map.1 hm
    exact ⟨x, hx, by rw [h.len_of hx] at hl; simpa [tooP] using hl⟩
theorem last_eq (x : Cel) (hn : x.n ≤ 1048576) (h0 : 0 < x.n) (hf : x.r.base + x.n ≤ 18446744073709551616) : lastOf x = x.r.base + x.n - 1 := by
  have := x.hb
  unfold W at this
  unfold lastOf
  rw [IntKind.wrap_u64, IntKind.wrap_u64]
  by_cases he : x.r.base + (x.n : Int) = 18446744073709551616
  · rw [he]; decide
  · rw [Int.emod_eq_of_lt (a := x.r.base + (x.n : Int)) (by omega) (by omega), Int.emod_eq_of_lt (by omega) (by omega)]
theorem last_over (x : Cel) (hn : x.n ≤ 1048576) (hf : 18446744073709551616 < x.r.base + x.n) : lastOf x = x.r.base + x.n - 1 - 18446744073709551616 := by
  have := x.hb
  unfold W at this
  unfold lastOf
  rw [IntKind.wrap_u64, IntKind.wrap_u64]
  have e : (x.r.base + (x.n : Int)) % 18446744073709551616 = x.r.base + x.n - 18446744073709551616 := by omega
  rw [e, Int.emod_eq_of_lt (by omega) (by omega)]
  omega
theorem wrong_iff (x : Cel) (hn : x.n ≤ 1048576) : wrongP x = true ↔ (x.n = 0 ∨ 18446744073709551616 < x.r.base + x.n) := by
  have := x.hb
  unfold W at this
  unfold wrongP
  simp only [Bool.or_eq_true, decide_eq_true_eq]
  rcases Nat.eq_zero_or_pos x.n with h0 | h0
  · exact ⟨fun _ => .inl h0, fun _ => .inl h0⟩
  · rcases Int.lt_or_le 18446744073709551616 (x.r.base + x.n) with h1 | h1
    · rw [last_over x hn h1]
      exact ⟨fun _ => .inr h1, fun _ => .inr (by omega)⟩
    · rw [last_eq x hn h0 h1]
      constructor
      · rintro (h | h) <;> omega
      · rintro (h | h) <;> omega
theorem good_not_bad (h : Good rs) : ¬ Bad rs := by
  rintro ⟨i, r, hi, hb⟩
  rcases hb with hb | hb | ⟨k, s, hk, hs, h4, h5⟩
  · have := h.pos i r hi; omega
  · have := h.fits i r hi; omega
  · rcases h.apart i k r s hi hs (by omega) with h6 | h6 <;> omega
theorem wrong_bad (h : Cels w A n rs xs) (hs : ¬ Long rs) (hw : xs.any wrongP = true) : Bad rs := by
  obtain ⟨x, hx, ht⟩ := List.any_eq_true.1 hw
  obtain ⟨i, hi⟩ := getElem?_of_mem (show x.r ∈ rs by rw [← h.regs]; exact List.mem_map.2 ⟨x, hx, rfl⟩)
  have hl := h.len_of hx
  have hn : x.n ≤ 1048576 := by
    rcases Nat.lt_or_ge 1048576 x.n with h1 | h1
    · exact absurd ⟨i, x.r, hi, by omega⟩ hs
    · exact h1
  rcases (wrong_iff x hn).1 ht with h1 | h1
  · exact ⟨i, x.r, hi, .inl (by omega)⟩
  · exact ⟨i, x.r, hi, .inr (.inl (by omega))⟩
theorem over_bad (h : Cels w A n rs xs) (h8 : n ≤ 8) (hs : ¬ Long rs) (hw : xs.any wrongP = false) (hp : ys.Perm xs) (hr : (ys.map (·.r)).Pairwise (fun r s => r.base ≤ s.base)) : Over ys ↔ Bad rs := by
  have hmem : ∀ y ∈ ys, 0 < y.n ∧ y.n ≤ 1048576 ∧ y.r.base + y.n ≤ 18446744073709551616 ∧ y.r.len = y.n := by
    intro y hy
    have hx := hp.mem_iff.1 hy
    obtain ⟨i, hi⟩ := getElem?_of_mem (show y.r ∈ rs by rw [← h.regs]; exact List.mem_map.2 ⟨y, hx, rfl⟩)
    have hl := h.len_of hx
    have hn : y.n ≤ 1048576 := by
      rcases Nat.lt_or_ge 1048576 y.n with h1 | h1
      · exact absurd ⟨i, y.r, hi, by omega⟩ hs
      · exact h1
    have hnw : ¬ (wrongP y = true) := fun e => by
      have := List.any_eq_true.2 ⟨y, hx, e⟩
      rw [hw] at this; cases this
    rw [wrong_iff y hn] at hnw
    exact ⟨by omega, hn, by omega, hl⟩
  have hperm : (ys.map (·.r)).Perm rs := by rw [← h.regs]; exact hp.map _
  have hlen : ys.length = n := by rw [hp.length_eq, h.len]
  have hrl : rs.length = n := by rw [← h.regs, List.length_map, h.len]
  constructor
  · rintro ⟨i, x, y, hx, hy, hov⟩
    apply Classical.byContradiction
    intro hnb
    have hG : Good (ys.map (·.r)) := (ChkO.good (.inr (.inr ⟨by omega, hs, hnb, rfl⟩))).perm hperm.symm
    obtain ⟨a1, a2, a3, a4⟩ := hmem x (List.mem_of_getElem? hx)
    have hx' : (ys.map (·.r))[i]? = some x.r := by rw [List.getElem?_map, hx]; rfl
    have hy' : (ys.map (·.r))[i + 1]? = some y.r := by rw [List.getElem?_map, hy]; rfl
    have hle := pairwise_get.1 hr i (i + 1) _ _ hx' hy' (by omega)
    obtain ⟨b1, b2, b3, b4⟩ := hmem y (List.mem_of_getElem? hy)
    rw [last_eq x a2 a1 a3] at hov
    rcases hG.apart i (i + 1) _ _ hx' hy' (by omega) with h6 | h6 <;> omega
  · intro hb
    apply Classical.byContradiction
    intro hno
    refine good_not_bad ?_ hb
    refine Good.perm (rs := ys.map (·.r)) ?_ hperm
    rw [Good.iff]
    refine ⟨by rw [List.length_map]; omega, fun r hr' => ?_, ?_⟩
    · obtain ⟨y, hy, rfl⟩ := List.mem_map.1 hr'
      obtain ⟨a1, a2, a3, a4⟩ := hmem y hy
      refine ⟨?_, ?_, ?_⟩ <;> omega
    · rw [pairwise_get]
      intro i j r s hi hj hij
      rw [List.getElem?_map] at hi
      obtain ⟨x, hx, rfl⟩ := Option.map_eq_some_iff.1 hi
      obtain ⟨z, hz⟩ : ∃ z, ys[i + 1]? = some z := ⟨_, List.getElem?_eq_getElem (by have := (List.getElem?_eq_some_iff.1 hj).1; rw [List.length_map] at this; omega)⟩
      obtain ⟨a1, a2, a3, a4⟩ := hmem x (List.mem_of_getElem? hx)
      have hlt : lastOf x < z.r.base := by
        rcases Int.lt_or_le (lastOf x) z.r.base with h1 | h1
        · exact h1
        · exact absurd ⟨i, x, z, hx, hz, h1⟩ hno
      rw [last_eq x a2 a1 a3] at hlt
      have hzs : z.r.base ≤ s.base := by
        rcases Nat.lt_or_ge (i + 1) j with h1 | h1
        · exact pairwise_get.1 hr (i + 1) j _ _ (by rw [List.getElem?_map, hz]; rfl) hj h1
        · obtain rfl : j = i + 1 := by omega
          rw [List.getElem?_map, hz] at hj
          cases hj
          exact Int.le_refl _
      left
      omega
end
set_option maxRecDepth 100000 in
set_option maxHeartbeats 2000000 in
theorem check_c (A : Option Addr) (n c : Nat) (rs : List Reg) (w : World) (h : Hid (AtR w A n rs)) (hc : n ≤ 9223372036854775807) :
    Calls Tryz.prog 69 #[.slice A n c] w (CheckP rs w) := by
  have HLEN := Lib.hid h.out.len
  obtain ⟨xs, hxs⟩ := h.out.cels
  have HX := Lib.hid hxs
  clear hxs
  rcases Nat.lt_or_ge 8 n with h8 | h8
  · have h8i : (8 : Int) < (n : Int) := by omega
    go_enter Tryz.func69, Tryz.ntmps69
    go_wp2_with fail
    go_ret
    exact ⟨Below.refl _ _, 3, rfl, .inl ⟨.inl (by rw [HLEN.out]; exact h8), rfl⟩⟩
  · have h8i : (n : Int) ≤ 8 := by omega
    have H8 := Lib.hid h8
    have H1 := Lib.hid (contains_c c HX.out hc 124 tooP (enters_of Tryz.func124 (by kernel_rfl) rfl) (fun x W => tooLong_c x W))
    have HLI := Lib.hid (long_iff HX.out)
    obtain ⟨b1, hb1⟩ : ∃ b, b = xs.any tooP := ⟨_, rfl⟩
    rw [← hb1] at H1 HLI
    clear hb1
    go_enter Tryz.func69, Tryz.ntmps69
    go_wp2_with fail
    go_at_call 123
    refine H1.out.mono ?_
    rintro e w1 ⟨rfl, hbl⟩
    have HB1 := Lib.hid hbl
    clear hbl H1
    cases b1 with
    | true =>
      go_wp2_with fail
      go_ret
      exact ⟨HB1.out, 3, rfl, .inl ⟨.inr (HLI.out.1 trivial), rfl⟩⟩
    | false =>
      have HNL : Hid (¬ Long rs) := Lib.hid (fun hl => by have := HLI.out.2 hl; cases this)
      have HX1 := Lib.hid (HX.out.below HB1.out)
      have H2 := Lib.hid (contains_c c HX1.out hc 125 wrongP (enters_of Tryz.func125 (by kernel_rfl) rfl) (fun x W => wrong_c x W))
      obtain ⟨b2, hb2⟩ : ∃ b, b = xs.any wrongP := ⟨_, rfl⟩
      have HB2E := Lib.hid hb2
      rw [← hb2] at H2
      clear hb2
      go_wp2_with fail
      go_at_call 123
      refine H2.out.mono ?_
      rintro e w2 ⟨rfl, hbl⟩
      have HB2 := Lib.hid (bel_trans HB1.out hbl)
      have HX2 := Lib.hid (HX1.out.below hbl)
      clear hbl H2
      cases b2 with
      | true =>
        have HBAD := Lib.hid (wrong_bad HX.out HNL.out HB2E.out.symm)
        go_wp2_with fail
        go_ret
        exact ⟨HB2.out, 2, rfl, .inr (.inl ⟨by rw [HLEN.out]; exact H8.out, HNL.out, HBAD.out, rfl⟩)⟩
      | false =>
        have H3 := Lib.hid (byAddr_c A n c rs xs w2 HX2 (by omega))
        go_wp2_with fail
        go_at_call 127
        refine H3.out.mono ?_
        rintro e w3 ⟨v, ys, rfl, hp, hs, ho, hbl⟩
        have HB3 := Lib.hid (bel_trans HB2.out hbl)
        have HI := Lib.hid (over_bad HX.out H8.out HNL.out HB2E.out.symm hp hs)
        have hyl : ys.length ≤ 12 := by rw [hp.length_eq, HX.out.len]; omega
        have H4 := Lib.hid (overlap_c (Lib.hid ho) hyl)
        clear hbl H3 hp hs ho hyl
        go_wp2_with fail
        go_at_call 126
        refine H4.out.mono ?_
        rintro e w4 ⟨b3, rfl, hbi, hbl⟩
        have HB4 := Lib.hid (bel_trans HB3.out hbl)
        have HBI := Lib.hid hbi
        clear hbl H4 hbi
        cases b3 with
        | true =>
          go_wp2_with fail
          go_ret
          exact ⟨HB4.out, 2, rfl, .inr (.inl ⟨by rw [HLEN.out]; exact H8.out, HNL.out, HI.out.1 (HBI.out.1 trivial), rfl⟩)⟩
        | false =>
          go_wp2_with fail
          go_ret
          exact ⟨HB4.out, 0, rfl, .inr (.inr ⟨by rw [HLEN.out]; exact H8.out, HNL.out, (fun hb => by have := HBI.out.2 (HI.out.2 hb); cases this), rfl⟩)⟩
end Mm
end Go.Proofs.YtikbnfhnimjmmaaGreatDoor
