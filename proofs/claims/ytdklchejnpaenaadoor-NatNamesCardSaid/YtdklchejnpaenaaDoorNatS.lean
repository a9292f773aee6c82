/- Trim, Low, Fit, Bits, Bit, Sub. -/
import Derived.Test.YtdklchejnpaenaaDoorNatCmp
import Derived.Laws.CopyRow
import Derived.Laws.CopyOwn
import Derived.Laws.IdiomCopy
namespace Go.Proofs.YtdklchejnpaenaaDoor
open Go Go.RowKit
namespace Nt
open Wd Sti
set_option linter.unusedVariables false

theorem copy_run {w : World} (dT sT ty : TypeId) (hu : Tryd.prog.underlying dT = some (.slice 28)) {g B n c dLen dCap : Nat} {A : Option Addr} {xs os : List Int} (hg : Bk w g 28 (us os)) (hd : os.length = dLen) (hr : Rd w B A n xs) (hn : n ≤ dLen) :
    ∃ w', (Builtin.copy_ #[dT, sT] ty #[.slice (some ⟨g, 0, none⟩) dLen dCap, .slice A n c]).run Tryd.prog w = .ok (goInt n) w' ∧ Bk w' g 28 (us (xs ++ os.drop n)) ∧ w.grownBy w' (some g) := by
  have hsz : (Tryd.prog.info? 28).map (·.size) = some 1 := by kernel_rfl
  rcases Nat.eq_zero_or_pos n with rfl | h0
  · obtain rfl : xs = [] := List.eq_nil_of_length_eq_zero hr.len
    exact ⟨w, run_copy_none w dT sT ty _ _ _ _ _ _ _ hu hsz (by simp), by simpa using hg, World.grownBy.refl w _⟩
  · obtain ⟨ad, rfl, _, hc⟩ := hr.rd h0
    have h := run_copy_row (P := Tryd.prog) w dT sT ty 28 g 0 dLen dCap ad n c (us os) 28 (xs.map (Value.int .u64)) hu hsz hg (by rw [List.length_map, hr.len]; show n = min n dLen; omega)
      (fun j v hj => by
        rw [List.getElem?_map] at hj
        have hjl : j < n := by
          rcases Nat.lt_or_ge j xs.length with h | h
          · rw [← hr.len]; exact h
          · rw [List.getElem?_eq_none h] at hj; cases hj
        rw [hc j hjl]
        rw [at_lt (by rw [hr.len]; exact hjl)] at hj
        exact hj) (by rw [us_size, List.length_map, hr.len]; omega) (fun v hv => by
        obtain ⟨x, _, rfl⟩ := List.mem_map.1 hv
        simp [Value.oneCell'])
    rw [List.length_map, hr.len] at h
    refine ⟨_, h, ?_, ?_⟩
    · have := setRow_heap w g (us os) ((us os).toList.take 0 ++ xs.map (Value.int .u64) ++ (us os).toList.drop (0 + n)).toArray 28 (0, 0) hg
      have e : ((us os).toList.take 0 ++ xs.map (Value.int .u64) ++ (us os).toList.drop (0 + n)).toArray = us (xs ++ os.drop n) := by
        simp [us, List.map_drop]
      rw [e] at this ⊢
      exact this
    · exact ⟨rfl, rfl, rfl, by simp [World.setRow], fun k _ hne => setRow_other w g k _ (fun e => hne (by rw [e]))⟩

theorem only_alloc (w : World) (o : Obj) (r : Option Nat) : w.grownBy (w.alloc o) r := World.grownBy_alloc w o r
theorem below_of_own {w w' : World} {o : Obj} (h : (w.alloc o).grownBy w' (some w.heap.size)) : Below w.heap.size w w' :=
  ((Below.refl _ w).alloc (Nat.le_refl _) o).grown h (by simp) (fun k e => by cases e; exact Nat.le_refl _)

theorem clone_c (A : Option Addr) (n c B : Nat) (xs : List Int) (w : World) (h : Rd w B A n xs) (hB : B ≤ w.heap.size) (hn : n ≤ 1099511627776) :
    Calls Tryd.prog 57 #[.slice A n c] w fun e w' => e = .returned (.slice (some ⟨w.heap.size, 0, none⟩) n n) ∧ Bk w' w.heap.size 28 (us xs) ∧ Below w.heap.size w w' := by
  have hmk := make_nat n hn w
  obtain ⟨w2, hcp, h2, hg⟩ := copy_run (dLen := n) (dCap := n) (c := c) 24 24 3 Tryd.underlying24 (Bk.new' (w := w) rfl (t := 28) (cs := us (List.replicate n 0))) (by simp) (h.keep (w' := w.alloc (.cells (us (List.replicate n 0)) 28)) (fun p hp => World.cell?_alloc_lt w _ p (by omega))) (Nat.le_refl _)
  have hb := below_of_own hg
  rw [List.drop_of_length_le (by simp), List.append_nil] at h2
  clear hg h
  go_enter Tryd.func57, Tryd.ntmps57
  go_wp2_with fail
  go_ret
  exact ⟨rfl, h2, hb⟩

theorem trim_n (A : Option Addr) (n c B : Nat) (xs : List Int) (w : World) (h : Rd w B A n xs) (hB : B ≤ w.heap.size) (hc : n ≤ c ∧ n ≤ 1073741824) (hn : c ≤ 9223372036854775807) :
    Calls Tryd.prog 22 #[.slice A n c] w fun e w' => ∃ v, e = .returned v ∧ Ans w w' v (V xs) n := by
  obtain ⟨hc, hcn⟩ := hc
  have HT := Lib.hid (trimmed_c A n c B xs w h hc (by omega))
  have hl : (trim xs).length ≤ n := by have := trim_le xs; have := h.len; omega
  have HC := Lib.hid (clone_c A (trim xs).length c B (trim xs) w h.trim hB (by omega))
  have HI := Lib.hid (Is.of_trim h.ws)
  have HW := Lib.hid h.ws
  clear h
  go_enter Tryd.func22, Tryd.ntmps22
  go_wp2_with fail
  go_at_call 44
  refine HT.out.mono ?_; rintro e w' ⟨rfl, rfl⟩
  go_wp2_with fail
  go_at_call 57
  refine HC.out.mono ?_; rintro e w2 ⟨rfl, h2, hb⟩
  go_wp2_with fail
  go_ret
  exact ⟨_, rfl, _, _, _, trim xs, rfl, HI.out, h2.rd0 h2.lt HI.out.ws rfl, Nat.le_refl _, hl, hb⟩
end Nt
end Go.Proofs.YtdklchejnpaenaaDoor
