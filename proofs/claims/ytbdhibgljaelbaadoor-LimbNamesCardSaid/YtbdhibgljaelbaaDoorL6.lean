/- The landed package limb: refuse; what was made, and the loops without an end. -/
import Derived.Test.YtbdhibgljaelbaaDoorL5
namespace Go.Proofs.YtbdhibgljaelbaaDoor
open Go Go.RowKit Go.Sort Go.Shelf
namespace Lb
open Wd Nt Gr
set_option linter.unusedVariables false
set_option linter.unusedSimpArgs false
/-- a program, as it is handed over -/
def pgV (p : Pg) (A : Option Addr) (c : Nat) (X : Option Addr) (d : Nat) : Value := .agg #[.int .i64 p.rg, .slice A p.bf.length c, .slice X p.op.length d]
set_option maxRecDepth 100000 in
set_option maxHeartbeats 2000000 in
theorem refuse_l (p : Pg) (A X : Option Addr) (c d : Nat) (w : World) (hR : Rdr w w.heap.size A p.bf.length p.bf) : Calls Tryd.prog 45 #[pgV p A c X d] w fun e w' => e = .returned (.int .i64 (refP p)) ∧ Below w.heap.size w w' := by
  have eg1 : ∀ args w, (callFunc 71 args).run Tryd.prog w = .ok (.enter 71 args) w := fun args w => by kernel_rfl
  have eg2 : ∀ args w, (callFunc 72 args).run Tryd.prog w = .ok (.enter 72 args) w := fun args w => by kernel_rfl
  have HC1 := Lib.hid (fun (W : World) (hb : Below w.heap.size w W) (hn : p.bf.length ≤ 1000000) => contains_l _ _ eg1 (fun b W => long_l b W) A p.bf.length c p.bf W ((hR.below hb).more hb.size) hn)
  have HC2 := Lib.hid (fun (W : World) (hb : Below w.heap.size w W) (hn : p.bf.length ≤ 1000000) => contains_l _ _ eg2 (fun b W => wrong_l b W) A p.bf.length c p.bf W ((hR.below hb).more hb.size) hn)
  have HE : Hid (refP p = if decide (64 < p.rg) || decide (32 < p.bf.length) || decide (65536 < p.op.length) || p.bf.any longB then 3 else if decide (p.rg < 0) || p.bf.any wrongB then 2 else 0) := Lib.hid rfl
  generalize refP p = res at *
  unfold pgV
  clear hR eg1 eg2
  generalize p.bf.any longB = b1 at *
  generalize p.bf.any wrongB = b2 at *
  generalize p.rg = regs at *
  generalize p.bf.length = n at *
  generalize p.op.length = m at *
  have HB0 := Lib.hid (bel_al (w := w) (.cells #[.int .i64 regs, .slice A n c, .slice X m d] 26))
  by_cases h1 : (64 : Int) < regs
  · rw [decide_eq_true h1] at HE
    go_enter Tryd.func45, Tryd.ntmps45
    go_wp2_with fail
    go_ret
    exact ⟨by rw [HE.out]; rfl, HB0.out⟩
  rw [decide_eq_false h1] at HE
  have h1' : regs ≤ 64 := by omega
  by_cases h2 : 32 < n
  · have h2' : (32 : Int) < (n : Int) := by omega
    rw [decide_eq_true h2] at HE
    go_enter Tryd.func45, Tryd.ntmps45
    go_wp2_with fail
    go_ret
    exact ⟨by rw [HE.out]; rfl, HB0.out⟩
  rw [decide_eq_false h2] at HE
  have h2' : (n : Int) ≤ 32 := by omega
  by_cases h3 : 65536 < m
  · have h3' : (65536 : Int) < (m : Int) := by omega
    rw [decide_eq_true h3] at HE
    go_enter Tryd.func45, Tryd.ntmps45
    go_wp2_with fail
    go_ret
    exact ⟨by rw [HE.out]; rfl, HB0.out⟩
  rw [decide_eq_false h3] at HE
  have h3' : (m : Int) ≤ 65536 := by omega
  have HK0 := Lib.hid (Bk.new w 26 #[.int .i64 regs, .slice A n c, .slice X m d])
  go_enter Tryd.func45, Tryd.ntmps45
  go_wp2_with fail
  go_at_call 70
  refine (HC1.out _ HB0.out (by omega)).mono ?_
  rintro e w2 ⟨rfl, hb⟩
  have HB2 := Lib.hid (bel_tr HB0.out hb)
  have HK2 := Lib.hid (HK0.out.below hb HK0.out.lt)
  clear hb HC1
  obtain ⟨a0, a1, a2⟩ := c3 HK2.out
  cases b1 with
  | true =>
    go_wp2_with fail
    go_ret
    exact ⟨by rw [HE.out]; rfl, HB2.out⟩
  | false =>
    by_cases h4 : regs < 0
    · rw [decide_eq_true h4] at HE
      go_wp2_with fail
      go_ret
      exact ⟨by rw [HE.out]; rfl, HB2.out⟩
    rw [decide_eq_false h4] at HE
    have h4' : 0 ≤ regs := by omega
    go_wp2_with fail
    go_at_call 70
    refine (HC2.out _ HB2.out (by omega)).mono ?_
    rintro e w3 ⟨rfl, hb⟩
    have HB3 := Lib.hid (bel_tr HB2.out hb)
    clear hb HC2
    cases b2 with
    | true =>
      go_wp2_with fail
      go_ret
      exact ⟨by rw [HE.out]; rfl, HB3.out⟩
    | false =>
      go_wp2_with fail
      go_ret
      exact ⟨by rw [HE.out]; rfl, HB3.out⟩
/-! ### what was made -/
def mdL (md : Nat → Bool) : List Value := (List.range 64).map fun i => .bool (md i)
theorem mdL_len (md : Nat → Bool) : (mdL md).length = 64 := by unfold mdL; simp
theorem mdL_get (md : Nat → Bool) {i : Nat} (h : i < 64) : (mdL md)[i]? = some (.bool (md i)) := by
  unfold mdL
  rw [List.getElem?_map, List.getElem?_range h]
  rfl
theorem mdL_set (md : Nat → Bool) {i : Nat} (h : i < 64) (v : Bool) : (mdL md).set i (.bool v) = mdL (fun k => if k = i then v else md k) := by
  apply List.ext_getElem?
  intro k
  rcases Nat.lt_or_ge k 64 with hk | hk
  · rw [mdL_get _ hk, List.getElem?_set, mdL_len]
    by_cases e : i = k
    · subst e; rw [if_pos rfl, if_pos hk, if_pos rfl]
    · rw [if_neg e, mdL_get _ hk, if_neg (fun e' => e e'.symm)]
  · rw [List.getElem?_eq_none (by rw [List.length_set, mdL_len]; exact hk), List.getElem?_eq_none (by rw [mdL_len]; exact hk)]
/-- the cells of what stands ahead -/
def ahA (md : Nat → Bool) (v : Value) : Array Value := (mdL md ++ [v]).toArray
theorem ahA_get (md : Nat → Bool) (v : Value) {i : Nat} (h : i < 64) : (ahA md v)[i]? = some (.bool (md i)) := by
  unfold ahA
  rw [List.getElem?_toArray, List.getElem?_append_left (by rw [mdL_len]; exact h), mdL_get md h]
theorem ahA_last (md : Nat → Bool) (v : Value) : (ahA md v)[64]? = some v := by
  unfold ahA
  rw [List.getElem?_toArray, List.getElem?_append_right (by rw [mdL_len]; omega), mdL_len]
  rfl
theorem ahA_set (md : Nat → Bool) (v : Value) {i : Nat} (h : i < 64) (b : Bool) : (ahA md v).setIfInBounds i (.bool b) = ahA (fun k => if k = i then b else md k) v := by
  unfold ahA
  apply Array.ext'
  rw [Array.toList_setIfInBounds, List.set_append_left _ _ (by rw [mdL_len]; exact h), mdL_set md h]
theorem ahA_setL (md : Nat → Bool) (v u : Value) : (ahA md v).setIfInBounds 64 u = ahA md u := by
  unfold ahA
  apply Array.ext'
  rw [Array.toList_setIfInBounds, List.set_append_right _ _ (by rw [mdL_len]; omega), mdL_len]
  rfl
/-- a register that there is, or none -/
def Rg (r : Int) : Prop := -1 ≤ r ∧ r < 64
theorem has_m (g : Nat) (md : Nat → Bool) (v : Value) (r : Int) (hr : Rg r) (w : World) (hB : Bk w g 79 (ahA md v)) : Calls Tryd.prog 75 #[.pointer (some ⟨g, 0, none⟩), .int .i64 r] w fun e w' => e = .returned (.bool (hasR md r)) ∧ w' = w := by
  unfold hasR
  by_cases h : r = -1
  · subst h
    go_enter Tryd.func75, Tryd.ntmps75
    go_wp2_with fail
    go_ret
    exact ⟨rfl, rfl⟩
  · obtain ⟨j, rfl⟩ : ∃ j : Nat, r = (j : Int) := ⟨r.toNat, by have := hr.1; omega⟩
    have hj : j < 64 := by have := hr.2; omega
    have hc := (hB.cell j).trans (ahA_get md v hj)
    have hn : ((j : Int) == -1) = false := by rw [beq_eq_false_iff_ne]; exact h
    rw [decide_eq_false h, Int.toNat_natCast, Bool.false_or]
    have h1 : (j : Int) < 64 := by omega
    generalize md j = b at *
    clear hB h hr
    go_enter Tryd.func75, Tryd.ntmps75
    go_wp2_with fail
    go_ret
    exact ⟨rfl, rfl⟩
theorem setR_nat (md : Nat → Bool) (j : Nat) (b : Bool) : setR md (j : Int) b = fun k => if k = j then b else md k := by
  funext k
  unfold setR
  rw [Int.toNat_natCast]
  by_cases h : k = j
  · rw [if_pos ⟨by omega, h⟩, if_pos h]
  · rw [if_neg (fun e => h e.2), if_neg h]
theorem drop_m (g : Nat) (md : Nat → Bool) (v : Value) (r : Int) (hr : 0 ≤ r ∧ r < 64) (w : World) (hB : Bk w g 79 (ahA md v)) : Calls Tryd.prog 76 #[.pointer (some ⟨g, 0, none⟩), .int .i64 r] w fun e w' => e = .returned (.tuple #[]) ∧ w' = w.setCell ⟨g, r.toNat, none⟩ (.bool false) := by
  obtain ⟨j, rfl⟩ : ∃ j : Nat, r = (j : Int) := ⟨r.toNat, by have := hr.1; omega⟩
  have hj : j < 64 := by have := hr.2; omega
  have hc := (hB.cell j).trans (ahA_get md v hj)
  have hf := hB.frozen j
  have h1 : (j : Int) < 64 := by omega
  have hlt := hB.lt
  rw [Int.toNat_natCast]
  clear hB hr
  go_enter Tryd.func76, Tryd.ntmps76
  go_wp2_with fail
  go_end0
  exact ⟨rfl, rfl⟩
theorem add_m (g : Nat) (md : Nat → Bool) (v : Value) (r : Int) (hr : Rg r) (w : World) (hB : Bk w g 79 (ahA md v)) : Calls Tryd.prog 77 #[.pointer (some ⟨g, 0, none⟩), .int .i64 r] w fun e w' => e = .returned (.tuple #[]) ∧ w' = (if r = -1 then w else w.setCell ⟨g, r.toNat, none⟩ (.bool true)) := by
  by_cases h : r = -1
  · subst h
    go_enter Tryd.func77, Tryd.ntmps77
    go_wp2_with fail
    go_end0
    exact ⟨rfl, rfl⟩
  · rw [if_neg h]
    obtain ⟨j, rfl⟩ : ∃ j : Nat, r = (j : Int) := ⟨r.toNat, by have := hr.1; omega⟩
    have hj : j < 64 := by have := hr.2; omega
    have hc := (hB.cell j).trans (ahA_get md v hj)
    have hf := hB.frozen j
    have h1 : (j : Int) < 64 := by omega
    have hlt := hB.lt
    have hn : ((j : Int) == -1) = false := by rw [beq_eq_false_iff_ne]; exact h
    have hn2 : ((j : Int) != -1) = true := by rw [bne, hn]; rfl
    rw [Int.toNat_natCast]
    clear hB hr h
    go_enter Tryd.func77, Tryd.ntmps77
    go_wp2_with fail
    go_end0
    exact ⟨rfl, rfl⟩
/-- the world with one register made -/
def mkW (w : World) (g : Nat) (r : Int) : World := if r = -1 then w else w.setCell ⟨g, r.toNat, none⟩ (.bool true)
theorem mkW_bk {w : World} {g : Nat} {md : Nat → Bool} {v : Value} {r : Int} (hr : Rg r) (h : Bk w g 79 (ahA md v)) : Bk (mkW w g r) g 79 (ahA (setR md r true) v) := by
  unfold mkW
  by_cases e : r = -1
  · rw [if_pos e]
    have : setR md r true = md := by funext k; unfold setR; rw [if_neg (fun h => h.1 e)]
    rw [this]
    exact h
  · rw [if_neg e]
    obtain ⟨j, rfl⟩ : ∃ j : Nat, r = (j : Int) := ⟨r.toNat, by have := hr.1; omega⟩
    rw [setR_nat, Int.toNat_natCast, ← ahA_set md v (by have := hr.2; omega)]
    exact h.set_ _ _
theorem mkW_below {w0 w : World} {g : Nat} {r : Int} (hb : Below w0.heap.size w0 w) (hg : w0.heap.size ≤ g) : Below w0.heap.size w0 (mkW w g r) := by
  unfold mkW
  split
  · exact hb
  · exact hb.setCell (p := ⟨g, r.toNat, none⟩) hg _
theorem mkW_far {w : World} {g a : Nat} {r : Int} {t : TypeId} {cs : Array Value} (h : Bk w a t cs) (hne : a ≠ g) : Bk (mkW w g r) a t cs := by
  unfold mkW
  split
  · exact h
  · exact h.far (p := ⟨g, r.toNat, none⟩) hne _
theorem mkW_own {w : World} {g B s n : Nat} {e t : TypeId} {r : Int} {v : Value} {cs : Array Value} {xs : List Value} (h : w.ownsRow B e s v n xs) (hb : Bk w g t cs) (hne : e ≠ t) : (mkW w g r).ownsRow B e s v n xs := by
  unfold mkW
  split
  · exact h
  · refine h.kept (row := some g) (only_setCell _ _ _ _) ?_
    rcases h.2 with ⟨e1, _⟩ | ⟨g', cap, cur, e1, _, hg, _⟩
    · exact .inl (by rw [e1]; rfl)
    · refine .inr (fun e' => ?_)
      rw [e1] at e'
      simp [Value.ownBlock] at e'
      subst e'
      unfold Bk at hb
      rw [hb] at hg
      injection hg with hg
      injection hg with _ h2
      exact hne h2.symm
end Lb
end Go.Proofs.YtbdhibgljaelbaaDoor
