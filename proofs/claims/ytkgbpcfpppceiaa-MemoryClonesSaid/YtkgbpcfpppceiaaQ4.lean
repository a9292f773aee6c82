/- The landed package's byAddress: the regions by their first addresses, a row of one's own. -/
import Derived.Test.YtkgbpcfpppceiaaQ3
namespace Go.Proofs.Ytkgbpcfpppceiaa
open Go Go.RowKit Go.Shelf Go.Sort
namespace Mm
open Wd Nt
set_option linter.unusedVariables false
theorem compare_c (a b : Int) (w : World) : Calls Try.prog 49 #[.int .u64 a, .int .u64 b] w fun e w' => e = .returned (.int .i64 (cmpI a b)) ∧ w' = w := by
  by_cases h1 : a < b
  · have e : cmpI a b = -1 := by unfold cmpI; rw [if_pos h1]
    rw [e]
    clear e
    go_enter Try.func49, Try.ntmps49
    go_wp2_with (go_in)
    go_ret
    exact ⟨rfl, rfl⟩
  · by_cases h2 : b < a
    · have e : cmpI a b = 1 := by unfold cmpI; rw [if_neg h1, if_pos h2]
      rw [e]
      clear e
      go_enter Try.func49, Try.ntmps49
      go_wp2_with (go_in)
      go_ret
      exact ⟨rfl, rfl⟩
    · have e : cmpI a b = 0 := by unfold cmpI; rw [if_neg h1, if_neg h2]
      rw [e]
      clear e
      go_enter Try.func49, Try.ntmps49
      go_wp2_with (go_in)
      go_ret
      exact ⟨rfl, rfl⟩
set_option maxHeartbeats 1000000 in
theorem closure_c (x y : Cel) (W : World) : Calls Try.prog 48 #[.agg #[.int .u64 x.r.base, .slice x.A x.n x.c, .bool x.r.write], .agg #[.int .u64 y.r.base, .slice y.A y.n y.c, .bool y.r.write]] W fun e w' => e = .returned (.int .i64 (celCmp x y)) ∧ ∃ q os', w' = grow (W.drewN q) os' := by
  have hcon := fun W' => compare_c x.r.base y.r.base W'
  change ∀ W', Calls Try.prog _ _ _ (fun e w' => e = .returned (.int .i64 (celCmp x y)) ∧ w' = W') at hcon
  generalize celCmp x y = r at hcon ⊢
  go_enter Try.func48, Try.ntmps48
  go_wp2_with (go_at_call 49; refine (hcon _).mono ?_; rintro e w' ⟨rfl, rfl⟩)
  go_ret
  exact ⟨rfl, 0, _, by rw [alloc_eq_grow, alloc_eq_grow, grow_grow]; rfl⟩
theorem cmpLays_c (blk off size : Nat) (w : World) : CmpLays Try.prog 48 #[] Cel.vs 3 celCmp blk off size w := fun _ _ _ _ x y => closure_c x y _
theorem bitsLen_c (n : Nat) (W : World) (h : n ≤ 12) : Calls Try.prog 56 #[.int .u64 n] W fun e w' => (∃ l : Int, e = .returned (.int .i64 l)) ∧ w' = W :=
  (Try.bits_Len n W (by omega) (by omega)).mono fun _ _ ⟨he, hw⟩ => ⟨⟨_, he⟩, hw⟩
set_option maxRecDepth 100000 in
set_option maxHeartbeats 1000000 in
/-- slices.SortFunc at no region -/
theorem sortNone_c (w : World) : Calls Try.prog 51 #[.slice none 0 0, .func (.func 48) #[] #[]] w fun e w' => e = .returned (.tuple #[]) ∧ w' = w := by
  have hl := fun W => bitsLen_c 0 W (by omega)
  have hi : ∀ W, Calls Try.prog 57 #[.slice none 0 0, .int .i64 0, .int .i64 0, .func (.func 48) #[] #[]] W fun e w' => e = .returned (.tuple #[]) ∧ w' = W := fun W => by
    go_enter Try.func57, Try.ntmps57
    go_wp2
    refine wp_loop_rounds 1 ?_
    rw [rounds_succ]
    go_wp2
    go_end0
    exact ⟨rfl, rfl⟩
  have hp : ∀ (l : Int) W, Calls Try.prog 55 #[.slice none 0 0, .int .i64 0, .int .i64 0, .int .i64 l, .func (.func 48) #[] #[]] W fun e w' => e = .returned (.tuple #[]) ∧ w' = W := fun l W => by
    go_enter Try.func55, Try.ntmps55
    go_wp2_with fail
    refine wp_loop_rounds 1 ?_
    rw [rounds_succ]
    go_wp2_with (go_at_call 57; refine (hi _).mono ?_; rintro e w' ⟨rfl, rfl⟩)
    (try simp only [Exit.inBlock, Exit.then]); refine bodyPost_ret (results_none rfl _ _ _) rfl ?_
    exact ⟨rfl, rfl⟩
  go_enter Try.func51, Try.ntmps51
  go_wp2_with (first | (go_at_call 56; refine (hl _).mono ?_; rintro e w' ⟨⟨l, rfl⟩, rfl⟩) | (go_at_call 55; refine (hp _ _).mono ?_; rintro e w' ⟨rfl, rfl⟩))
  go_end0
  exact ⟨rfl, rfl⟩
/-- what slices.SortFunc leaves of a row of one's own -/
theorem sort_c {w : World} {B g n c : Nat} {xs : List Cel} (h : w.ownsRow B 31 3 (.slice (some ⟨g, 0, none⟩) n c) n (celRow xs)) (hl : xs.length = n) (h12 : n ≤ 12) :
    Calls Try.prog 51 #[.slice (some ⟨g, 0, none⟩) n c, .func (.func 48) #[] #[]] w fun e w' => e = .returned (.tuple #[]) ∧ ∃ ys : List Cel, ys.Perm xs ∧ (ys.map (·.r)).Pairwise (fun r s => r.base ≤ s.base) ∧
      w'.ownsRow B 31 3 (.slice (some ⟨g, 0, none⟩) n c) n (celRow ys) ∧ w.grownBy w' (some g) := by
  have hs : xs.toArray.size = n := by simpa using hl
  have hg : g < w.heap.size := (h.lt g rfl).2
  have hcon := AnyQ.slices_SortFunc_small_sorted Try.sortR 3 Try.isAgg31 Try.sizeOf31 Cel.vs Cel.vs_len Cel.vs_one celCmp 48 #[] cel_swo g 0 c xs.toArray w (enters_of Try.func48 (by kernel_rfl) rfl) (cmpLays_c _ _ _ _) (holds_cels h hl) hg (by omega) bitsLen_c
  rw [hs] at hcon
  refine Calls.mono hcon ?_
  rintro e w' ⟨rfl, d, m, os, hp, hso, rfl⟩
  rw [← hs] at hp hso
  obtain ⟨h1, h2⟩ := sorted_cels hp hso
  have hd : d.toList.length = n := by rw [h1.length_eq]; exact hl
  obtain ⟨h3, h4⟩ := own_sorted (ys := d.toList) (m := m) (os := os) h hd
  exact ⟨rfl, d.toList, h1, h2, h3, h4⟩
/-- a row of one's own: the regions by their first addresses, their bytes where they were -/
def ByP (xs : List Cel) (w : World) (e : Ending) (w' : World) : Prop := ∃ v ys, e = .returned v ∧ ys.Perm xs ∧ (ys.map (·.r)).Pairwise (fun r s => r.base ≤ s.base) ∧ w'.ownsRow w.heap.size 31 3 v ys.length (celRow ys) ∧ Below w.heap.size w w'
set_option maxRecDepth 100000 in
set_option maxHeartbeats 2000000 in
theorem sorted_c (Bs m c : Nat) (A : Option Addr) (rs : List Reg) (xs : List Cel) (hm : m ≤ 12) (w0 w : World) (hxs : Cels w0 A m rs xs) (hbw : Below w0.heap.size w0 w) (hBs : Bs < w.heap.size) (hc : w.cell? ⟨Bs, 0, none⟩ = some (.slice A m c)) :
    Calls Try.prog 46 #[.func (.func 52) #[] #[.pointer (some ⟨Bs, 0, none⟩)], .func (.func 48) #[] #[]] w (ByP xs w) := by
  have H1 := Lib.hid (collect_c Bs m c A rs xs (by omega) w0 w hxs hbw hBs hc)
  have HL := Lib.hid hxs.len
  clear hxs hbw hc
  go_enter Try.func46, Try.ntmps46
  go_wp2_with fail
  go_at_call 50
  refine H1.out.mono ?_
  rintro e w1 ⟨v, rfl, hrow, hnil, hb⟩
  have HB := Lib.hid hb
  have HR := Lib.hid hrow
  rcases hrow.2 with ⟨rfl, hz⟩ | ⟨g, cap, cur, rfl, hbase, hgb, r1, r2, r3, r4⟩
  · have hx0 : xs = [] := List.eq_nil_of_length_eq_zero hz
    have H2 := Lib.hid (sortNone_c w1)
    clear H1 hrow hnil hb
    go_wp2_with fail
    go_at_call 51
    refine H2.out.mono ?_
    rintro e w2 ⟨rfl, rfl⟩
    go_wp2_with fail
    go_ret
    exact ⟨_, [], rfl, hx0 ▸ List.Perm.refl _, List.Pairwise.nil, World.ownsRow_nil _ _ _ _, HB.out⟩
  · rw [HL.out] at hrow
    have H2 := Lib.hid (sort_c hrow HL.out hm)
    have HG := Lib.hid hbase
    rw [HL.out]
    clear H1 hrow hnil hb hgb r1 r2 r3 r4 hbase
    go_wp2_with fail
    go_at_call 51
    refine H2.out.mono ?_
    rintro e w2 ⟨rfl, ys, hp, hs, ho, hg⟩
    have HO := Lib.hid ho
    have HP := Lib.hid hp
    have HS := Lib.hid hs
    have HK := Lib.hid hg
    clear H2 hp hs ho hg
    go_wp2_with fail
    go_ret
    exact ⟨_, ys, rfl, HP.out, HS.out, by rw [HP.out.length_eq, HL.out]; exact HO.out, HB.out.grown HK.out HB.out.size (fun k e => by cases e; exact HG.out)⟩
set_option maxRecDepth 100000 in
set_option maxHeartbeats 2000000 in
theorem byAddr_c (A : Option Addr) (n c : Nat) (rs : List Reg) (xs : List Cel) (w : World) (h : Hid (Cels w A n rs xs)) (hn : n ≤ 12) :
    Calls Try.prog 39 #[.slice A n c] w (ByP xs w) := by
  have H1 := Lib.hid ((callsIn_wide (n := 4)).1 (vals_in Fence.wide 4 trivial rfl A n c w))
  have HB : Hid (Below w.heap.size w (w.alloc (.cells #[.slice A n c] 32))) := Lib.hid ((Below.refl _ w).alloc (Nat.le_refl _) _)
  have H2 := Lib.hid (sorted_c w.heap.size n c A rs xs hn w (w.alloc (.cells #[.slice A n c] 32)) h.out HB.out (by simp) (by rw [World.cell?_alloc_at _ _ _ _ (by simp)]; rfl))
  go_enter Try.func39, Try.ntmps39
  go_wp2_with fail
  go_at_call 47
  refine H1.out.mono ?_
  rintro e w1 ⟨rfl, rfl⟩
  go_wp2_with fail
  go_at_call 46
  refine H2.out.mono ?_
  rintro e w2 ⟨v, ys, rfl, hp, hs, ho, hb⟩
  have HO := Lib.hid ho
  have HP := Lib.hid hp
  have HS := Lib.hid hs
  have HK := Lib.hid hb
  clear H1 H2 hp hs ho hb
  go_wp2_with fail
  go_ret
  exact ⟨v, ys, rfl, HP.out, HS.out, ownsRow_base HO.out (by simp), bel_trans HB.out HK.out⟩
end Mm
end Go.Proofs.Ytkgbpcfpppceiaa
