/- The document's own layer 12: what an operation must have, takes, makes. -/
import Derived.Test.YtbdhibgljaelbaaDoorN3
import Derived.BigQuiet
import Derived.Deep.Cut
import Derived.Deep.CutRange
namespace Go.Proofs.YtbdhibgljaelbaaDoor
open Go Go.RowKit Go.Sort Go.Shelf
namespace Lb
open Wd Nt Gr
set_option linter.unusedVariables false
set_option linter.unusedSimpArgs false
theorem field_r (rg : Int) (A X : Option Addr) (n c m d : Nat) (r : Int) (has : Bool) (w : World) : Calls Tryd.prog 78 #[.agg #[.int .i64 rg, .slice A n c, .slice X m d], .int .i64 r, .bool has] w fun e w' => e = .returned (.bool (rOk has r rg)) ∧ w' = w.alloc (.cells #[.int .i64 rg, .slice A n c, .slice X m d] 26) := by
  unfold rOk
  cases has
  · rw [if_neg (by decide)]
    go_enter Tryd.func78, Tryd.ntmps78
    go_wp2_with fail
    go_ret
    exact ⟨by first | rfl | simp, rfl⟩
  · rw [if_pos rfl]
    by_cases h : 0 ≤ r
    · rw [decide_eq_true h, Bool.true_and]
      go_enter Tryd.func78, Tryd.ntmps78
      go_wp2_with fail
      go_ret
      exact ⟨by first | rfl | simp, rfl⟩
    · rw [decide_eq_false h, Bool.false_and]
      go_enter Tryd.func78, Tryd.ntmps78
      go_wp2_with fail
      go_ret
      exact ⟨by first | rfl | simp, rfl⟩
theorem in_r (A : Option Addr) (n c : Nat) (xs : List Int) (z : Int) (w : World) (hR : Rdr w w.heap.size A n xs) (hn : n ≤ 1000000) :
    Calls Tryd.prog 51 #[.slice A n c, .int .i64 z] w fun e w' => e = .returned (.bool (xs.contains z)) ∧ w' = w := by
  have HR := Lib.hid hR
  have HL := Lib.hid hR.len
  clear hR
  go_enter Tryd.func51, Tryd.ntmps51
  go_wp2_with fail
  go_loopw [5] (fun i W => ∃ k : Nat, k ≤ n ∧ i = .int .i64 (k : Int) ∧ Hid (∀ (j : Nat) (x : Int), j < k → xs[j]? = some x → x ≠ z) ∧ Hid (W = w)) (fun i _ => n - (intOf i).toNat)
  case atStart => exact ⟨0, Nat.zero_le _, rfl, Lib.hid (fun j x h => by omega), Lib.hid rfl⟩
  case round =>
    obtain ⟨k, hk, rfl, HP, HW⟩ := hrel
    rcases Nat.lt_or_ge k n with hlt | hge
    · have hki : (k : Int) < (n : Int) := by omega
      have hk0 : (0 : Int) ≤ (k : Int) := by omega
      obtain ⟨x, hx⟩ : ∃ x, xs[k]? = some x := ⟨_, List.getElem?_eq_getElem (by rw [HL.out]; exact hlt)⟩
      obtain ⟨b, o, rfl, hb, x0⟩ := int_at (HR.out.keep (w' := wr) (fun _ _ => by rw [HW.out])) hx
      have ew : IntKind.i64.wrap ((k : Int) + 1) = ((k + 1 : Nat) : Int) := by rw [show (k : Int) + 1 = ((k + 1 : Nat) : Int) by omega]; exact IntWalk.i64_in _ (by omega)
      by_cases he : x = z
      · subst he
        have HC : Hid (xs.contains x = true) := Lib.hid (List.contains_iff_mem.2 (List.mem_of_getElem? hx))
        clear hx
        go_wp2_with fail
        go_ret
        exact ⟨by rw [HC.out]; rfl, HW.out⟩
      · have hne : (x == z) = false := by rw [beq_eq_false_iff_ne]; exact he
        have HP2 : Hid (∀ (j : Nat) (y : Int), j < k + 1 → xs[j]? = some y → y ≠ z) := Lib.hid (fun j y hj hy => by
          rcases Nat.lt_or_ge j k with h | h
          · exact HP.out j y h hy
          · obtain rfl : j = k := by omega
            rw [hx] at hy
            cases hy
            exact he)
        clear hx he
        go_wp2_with fail
        go_roundw
        case rel => exact ⟨k + 1, by omega, by first | rfl | go_num, HP2, HW⟩
        case measure => (simp [intOf] <;> omega)
    · obtain rfl : k = n := by omega
      have HC : Hid (xs.contains z = false) := Lib.hid (by
        rw [Bool.eq_false_iff]
        intro h
        have hm := List.contains_iff_mem.1 h
        obtain ⟨j, hj⟩ := List.mem_iff_getElem?.1 hm
        exact HP.out j z (by rw [← HL.out]; exact (List.getElem?_eq_some_iff.1 hj).1) hj rfl)
      go_wp2_with fail
      go_ret
      exact ⟨by rw [HC.out]; rfl, HW.out⟩
/-! ### what an operation makes, takes -/
def mkL (o : Op) : List Int := if o.k = 10 ∨ o.k = 11 ∨ o.k = 12 then [o.d, o.e] else if o.k = 15 ∨ o.k = 17 then [] else [o.d]
def tkL (o : Op) : List Int :=
  if o.k = 2 ∨ o.k = 8 ∨ o.k = 9 then [o.a] else if (3 ≤ o.k ∧ o.k ≤ 7) ∨ o.k = 10 then [o.a, o.b] else if o.k = 11 ∨ o.k = 12 ∨ o.k = 13 then [o.a, o.b, o.c]
  else if o.k = 14 ∧ o.a ≠ -1 then [o.a] else if o.k = 15 ∧ o.a ≠ -1 then [o.a, o.b] else if o.k = 15 then [o.b] else []
/-- a row that is answered -/
def RowA (w : World) (xs : List Int) (e : Ending) (w' : World) : Prop := Below w.heap.size w w' ∧ ∃ A n c, e = .returned (.slice A n c) ∧ Rdr w' w'.heap.size A n xs
theorem rowA_nil {w w' : World} (h : Below w.heap.size w w') : RowA w [] (.returned (.slice none 0 0)) w' := ⟨h, _, _, _, rfl, Rdr.nil⟩
theorem rowA_lit {w W : World} {xs : List Int} {n g : Nat} (h : Below w.heap.size w W) (hg : g = W.heap.size) (hn : xs.length = n) : RowA w xs (.returned (.slice (some ⟨g, 0, none⟩) n n)) (W.alloc (.cells (row xs).toArray 3)) := by
  subst hn
  refine ⟨bel_al' h _, _, _, _, rfl, bk_rdr (t := 3) (Bk.new' hg) (by rw [hg]; simp)⟩
set_option maxRecDepth 100000 in
set_option maxHeartbeats 4000000 in
theorem makes_r (o : Op) (hk : 1 ≤ o.k ∧ o.k ≤ 17) (w : World) : Calls Tryd.prog 49 #[.agg (Op.vs o).toArray] w (RowA w (mkL o)) := by
  have HB := Lib.hid (bel_al (w := w) (.cells (Op.vs o).toArray 33))
  obtain ⟨k, d, e, a, b, c2, bf, im⟩ := o
  unfold Op.vs at *
  unfold mkL
  dsimp only at *
  simp only [List.toArray] at *
  have H2 := Lib.hid (fun (xs : List Int) (n : Nat) (hn : xs.length = n) => rowA_lit (n := n) (xs := xs) (g := w.heap.size + 1) HB.out (by simp) hn)
  have H0 := Lib.hid (rowA_nil HB.out)
  rcases (by omega : k = 1 ∨ k = 2 ∨ k = 3 ∨ k = 4 ∨ k = 5 ∨ k = 6 ∨ k = 7 ∨ k = 8 ∨ k = 9 ∨ k = 10 ∨ k = 11 ∨ k = 12 ∨ k = 13 ∨ k = 14 ∨ k = 15 ∨ k = 16 ∨ k = 17) with rfl | rfl | rfl | rfl | rfl | rfl | rfl | rfl | rfl | rfl | rfl | rfl | rfl | rfl | rfl | rfl | rfl
  all_goals (
    go_enter Tryd.func49, Tryd.ntmps49
    go_wp2_with fail
    go_ret
    first | exact H0.out | exact H2.out [d] 1 rfl | exact H2.out [d, e] 2 rfl)
set_option maxRecDepth 100000 in
set_option maxHeartbeats 4000000 in
theorem takes_r (o : Op) (hk : 1 ≤ o.k ∧ o.k ≤ 17) (w : World) : Calls Tryd.prog 50 #[.agg (Op.vs o).toArray] w (RowA w (tkL o)) := by
  have HB := Lib.hid (bel_al (w := w) (.cells (Op.vs o).toArray 33))
  obtain ⟨k, d, e, a, b, c2, bf, im⟩ := o
  unfold Op.vs at *
  unfold tkL
  dsimp only at *
  simp only [List.toArray] at *
  have H2 := Lib.hid (fun (xs : List Int) (n : Nat) (hn : xs.length = n) => rowA_lit (n := n) (xs := xs) (g := w.heap.size + 1) HB.out (by simp) hn)
  have H0 := Lib.hid (rowA_nil HB.out)
  rcases (by omega : (k = 1 ∨ k = 2 ∨ k = 3 ∨ k = 4 ∨ k = 5 ∨ k = 6 ∨ k = 7 ∨ k = 8 ∨ k = 9 ∨ k = 10 ∨ k = 11 ∨ k = 12 ∨ k = 13 ∨ k = 16 ∨ k = 17) ∨ k = 14 ∨ k = 15) with h | rfl | rfl
  · rcases h with rfl | rfl | rfl | rfl | rfl | rfl | rfl | rfl | rfl | rfl | rfl | rfl | rfl | rfl | rfl
    all_goals (
      go_enter Tryd.func50, Tryd.ntmps50
      go_wp2_with fail
      go_ret
      first | exact H0.out | exact H2.out [a] 1 rfl | exact H2.out [b] 1 rfl | exact H2.out [a, b] 2 rfl | exact H2.out [a, b, c2] 3 rfl)
  · by_cases ha : a = -1
    · subst ha
      go_enter Tryd.func50, Tryd.ntmps50
      go_wp2_with fail
      go_ret
      first | exact H0.out | exact H2.out [a] 1 rfl | exact H2.out [b] 1 rfl | exact H2.out [a, b] 2 rfl | exact H2.out [a, b, c2] 3 rfl
    · have hne : (a != -1) = true := by simpa using ha
      rw [if_neg (by decide), if_neg (by decide), if_neg (by decide), if_pos ⟨rfl, ha⟩]
      go_enter Tryd.func50, Tryd.ntmps50
      go_wp2_with fail
      go_ret
      first | exact H0.out | exact H2.out [a] 1 rfl | exact H2.out [b] 1 rfl | exact H2.out [a, b] 2 rfl | exact H2.out [a, b, c2] 3 rfl
  · by_cases ha : a = -1
    · subst ha
      go_enter Tryd.func50, Tryd.ntmps50
      go_wp2_with fail
      go_ret
      first | exact H0.out | exact H2.out [a] 1 rfl | exact H2.out [b] 1 rfl | exact H2.out [a, b] 2 rfl | exact H2.out [a, b, c2] 3 rfl
    · have hne : (a != -1) = true := by simpa using ha
      rw [if_neg (by decide), if_neg (by decide), if_neg (by decide), if_neg (by simp), if_pos ⟨rfl, ha⟩]
      go_enter Tryd.func50, Tryd.ntmps50
      go_wp2_with fail
      go_ret
      first | exact H0.out | exact H2.out [a] 1 rfl | exact H2.out [b] 1 rfl | exact H2.out [a, b] 2 rfl | exact H2.out [a, b, c2] 3 rfl
end Lb
end Go.Proofs.YtbdhibgljaelbaaDoor
