/- The landed package's Check. -/
import Derived.Test.YtkgbpcfpppceiaaQ5
namespace Go.Proofs.Ytkgbpcfpppceiaa
open Go Go.RowKit Go.Shelf Go.Sort
namespace Mm
open Wd Nt
set_option linter.unusedVariables false
/-- some region begins ahead of the end of the one before it -/
def Over (ys : List Cel) : Prop := ∃ (i : Nat) (x y : Cel), ys[i]? = some x ∧ ys[i + 1]? = some y ∧ y.r.base ≤ lastOf x
def OverP (ys : List Cel) (w : World) (e : Ending) (w' : World) : Prop := ∃ b, e = .returned (.bool b) ∧ (b = true ↔ Over ys) ∧ Below w.heap.size w w'
set_option maxRecDepth 100000 in
set_option maxHeartbeats 2000000 in
theorem overlap_c {w : World} {B : Nat} {v : Value} {ys : List Cel} (h : Hid (w.ownsRow B 31 3 v ys.length (celRow ys))) (hn : ys.length ≤ 12) :
    Calls Try.prog 38 #[v] w (OverP ys w) := by
  have mixed : Try.prog.follows .mixedOrders = true := by kernel_rfl
  have HL := Lib.hid (fun x W' => last_c x W')
  obtain ⟨n, hlen⟩ : ∃ n, n = ys.length := ⟨_, rfl⟩
  have HLEN := Lib.hid hlen
  rcases h.out.2 with ⟨rfl, hz⟩ | ⟨g, c, cur, rfl, hB, hg, hnc, hm, hs, ht⟩
  · have hno : Hid (¬ Over ys) := Lib.hid (by rintro ⟨i, x, y, h1, _⟩; rw [List.eq_nil_of_length_eq_zero hz] at h1; cases h1)
    go_enter Try.func38, Try.ntmps38
    go_wp2_with fail
    refine wp_loop_rounds 1 ?_
    rw [rounds_succ]
    go_wp2_with fail
    (try simp only [Exit.inBlock, Exit.then])
    first
    | (go_ret; exact ⟨false, rfl, ⟨(fun h => by cases h), fun h => absurd h hno.out⟩, Below.refl _ _⟩)
    | (refine bodyPost_ret (results_none rfl _ _ _) rfl ?_; exact ⟨false, rfl, ⟨(fun h => by cases h), fun h => absurd h hno.out⟩, Below.refl _ _⟩)
  · have hgl : g < w.heap.size := (Array.getElem?_eq_some_iff.1 hg).1
    have hcell : Hid (∀ (W : World), Below w.heap.size w W → ∀ (j d : Nat) (x : Cel), ys[j]? = some x → d < 3 → W.cell? ⟨g, j * 3 + d, none⟩ = x.vs[d]?) := Lib.hid (fun W hW j d x hj hd => by
      rw [hW.cell (p := ⟨g, j * 3 + d, none⟩) hgl]
      have hjl := (List.getElem?_eq_some_iff.1 hj).1
      rw [h.out.cellAt (j * 3 + d) (by omega)]
      exact celRow_get hj hd)
    rw [← hlen] at hn ⊢
    clear h hs ht hg hm hB hnc hlen
    go_enter Try.func38, Try.ntmps38
    go_wp2_with fail
    go_loopw [3] (fun i W => ∃ q : Nat, q ≤ n ∧ i = .int .i64 ((q : Int) + 1) ∧ Hid (Below w.heap.size w W) ∧ Hid (∀ (j : Nat) (x y : Cel), j < q → ys[j]? = some x → ys[j + 1]? = some y → lastOf x < y.r.base)) (fun i _ => n + 1 - (intOf i).toNat)
    case atStart => exact ⟨0, Nat.zero_le _, rfl, Lib.hid (Below.refl _ _), Lib.hid (fun j x y hj => absurd hj (by omega))⟩
    case round =>
      obtain ⟨q, hq, rfl, HB, HI⟩ := hrel
      rcases Nat.lt_or_ge (q + 1) n with hlt | hge
      · obtain ⟨x, hx⟩ : ∃ x, ys[q]? = some x := ⟨_, List.getElem?_eq_getElem (by rw [← HLEN.out]; omega)⟩
        obtain ⟨y, hy⟩ : ∃ y, ys[q + 1]? = some y := ⟨_, List.getElem?_eq_getElem (by rw [← HLEN.out]; omega)⟩
        have hgw : g < wr.heap.size := Nat.lt_of_lt_of_le hgl HB.out.size
        have x0 : ∀ n os, (grow (wr.drewN n) os).cell? ⟨g, q * 3, none⟩ = some (.int .u64 x.r.base) := fun n os => cell_grown hgw (hcell.out wr HB.out q 0 x hx (by omega)) n os
        have x1 : ∀ n os, (grow (wr.drewN n) os).cell? ⟨g, q * 3 + 1, none⟩ = some (.slice x.A x.n x.c) := fun n os => cell_grown hgw (hcell.out wr HB.out q 1 x hx (by omega)) n os
        have x2 : ∀ n os, (grow (wr.drewN n) os).cell? ⟨g, q * 3 + 2, none⟩ = some (.bool x.r.write) := fun n os => cell_grown hgw (hcell.out wr HB.out q 2 x hx (by omega)) n os
        have y0 : ∀ n os, (grow (wr.drewN n) os).cell? ⟨g, (q + 1) * 3, none⟩ = some (.int .u64 y.r.base) := fun n os => cell_grown hgw (hcell.out wr HB.out (q + 1) 0 y hy (by omega)) n os
        have s1 : IntKind.i64.wrap ((q : Int) + 1 - 1) = (q : Int) := by rw [show (q : Int) + 1 - 1 = q by omega]; exact IntWalk.i64_in _ (by omega)
        have s2 : IntKind.i64.wrap (q : Int) = (q : Int) := IntWalk.i64_in _ (by omega)
        have q0 : (0 : Int) ≤ (q : Int) := by omega
        have q1 : (q : Int) + 1 < (n : Int) := by omega
        have q2 : (q : Int) < (n : Int) := by omega
        have q3 : (0 : Int) ≤ (q : Int) + 1 := by omega
        have s4 : ((q : Int) + 1).toNat = q + 1 := by omega
        have s6 : ((q : Int)).toNat = q := by omega
        have HX := Lib.hid hx
        have HY := Lib.hid hy
        clear hx hy
        by_cases hov : y.r.base ≤ lastOf x
        · have HO : Hid (Over ys) := Lib.hid ⟨q, x, y, HX.out, HY.out, hov⟩
          go_wp2_with fail
          go_quiet_grown ((go_at_call 45; exact Calls.grown_of (HL.out _ _)))
          go_wp2_with fail
          go_ret
          exact ⟨true, rfl, ⟨fun _ => HO.out, fun _ => rfl⟩, HB.out.trans ((below_grow _ _ _).mono HB.out.size)⟩
        · have hov' : lastOf x < y.r.base := by omega
          have HI' : Hid (∀ (j : Nat) (x y : Cel), j < q + 1 → ys[j]? = some x → ys[j + 1]? = some y → lastOf x < y.r.base) := Lib.hid (fun j x' y' hj h1 h2 => by
            by_cases e : j = q
            · subst e
              rw [HX.out] at h1; rw [HY.out] at h2
              cases h1; cases h2
              exact hov'
            · exact HI.out j x' y' (by omega) h1 h2)
          have hd : decide (y.r.base ≤ lastOf x) = false := decide_eq_false hov
          clear hov HI
          go_wp2_with fail
          go_quiet_grown ((go_at_call 45; exact Calls.grown_of (HL.out _ _)))
          go_wp2_with fail
          go_roundw
          case rel => exact ⟨q + 1, by omega, by go_num, Lib.hid (HB.out.trans ((below_grow _ _ _).mono HB.out.size)), HI'⟩
          case measure => (simp [intOf] <;> omega)
      · have hno : Hid (¬ Over ys) := Lib.hid (by
          rintro ⟨i, x, y, h1, h2, h3⟩
          have h4 := (List.getElem?_eq_some_iff.1 h2).1
          have := HI.out i x y (by rw [← HLEN.out] at h4; omega) h1 h2
          omega)
        have hgei : (n : Int) ≤ (q : Int) + 1 := by omega
        clear HI
        go_wp2_with fail
        go_ret
        exact ⟨false, rfl, ⟨(fun h => by cases h), fun h => absurd h hno.out⟩, HB.out⟩

/-! ### slices.ContainsFunc -/
set_option maxHeartbeats 1000000 in
theorem containsNone_c (A : Option Addr) (c g : Nat) (w : World) : Calls Try.prog 35 #[.slice A 0 c, .func (.func g) #[] #[]] w fun e w' => e = .returned (.bool false) ∧ w' = w := by
  have hi : ∀ W, Calls Try.prog 44 #[.slice A 0 c, .func (.func g) #[] #[]] W fun e w' => e = .returned (.int .i64 (-1)) ∧ w' = W := fun W => by
    go_enter Try.func44, Try.ntmps44
    go_wp2_with fail
    refine wp_loop_rounds 1 ?_
    rw [rounds_succ]
    go_wp2_with fail
    go_ret
    exact ⟨rfl, rfl⟩
  go_enter Try.func35, Try.ntmps35
  go_wp2_with (go_at_call 44; refine (hi _).mono ?_; rintro e w' ⟨rfl, rfl⟩)
  go_ret
  exact ⟨rfl, rfl⟩
theorem contains_c {w : World} {A : Option Addr} {n : Nat} (c : Nat) {rs : List Reg} {xs : List Cel} (h : Cels w A n rs xs) (hn : n ≤ 9223372036854775807) (g : Nat) (p : Cel → Bool) (eg : ∀ args w, (callFunc g args).run Try.prog w = .ok (.enter g args) w)
    (hp : ∀ (x : Cel) (W : World), Calls Try.prog g #[.agg #[.int .u64 x.r.base, .slice x.A x.n x.c, .bool x.r.write]] W fun e w' => e = .returned (.bool (p x)) ∧ Below W.heap.size W w') :
    Calls Try.prog 35 #[.slice A n c, .func (.func g) #[] #[]] w fun e w' => e = .returned (.bool (xs.any p)) ∧ Below w.heap.size w w' := by
  rcases Nat.eq_zero_or_pos n with rfl | hpos
  · obtain rfl : xs = [] := List.eq_nil_of_length_eq_zero h.len
    exact (containsNone_c A c g w).mono fun e w' ⟨h1, h2⟩ => ⟨h1, by rw [h2]; exact Below.refl _ _⟩
  · obtain ⟨b, off, rfl, hlt, hcell⟩ := h.at_ (fun e => by rw [e] at h; have := h.len; simp at this; omega)
    have hcon := AnyQ.slices_ContainsFunc Try.containsR 3 Try.isAgg31 Try.sizeOf31 Cel.vs Cel.vs_len p g #[] eg b off n c xs w (fun W x hb => (hp x W).mono fun e w' ⟨h1, h2⟩ => ⟨h1, hb.trans (h2.mono hb.size)⟩) (by rw [h.len]; exact Nat.le_refl _) hn hlt (fun j hj i v hv => by
      have e : xs[j]? = some xs[j]! := by rw [getElem!_pos xs j hj, List.getElem?_eq_getElem hj]
      rw [hcell j i _ e (by have := (List.getElem?_eq_some_iff.1 hv).1; rw [Cel.vs_len] at this; exact this)]
      exact hv)
    rw [List.take_of_length_le (by rw [h.len]; exact Nat.le_refl _)] at hcon
    exact hcon
end Mm
end Go.Proofs.Ytkgbpcfpppceiaa
