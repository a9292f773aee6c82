/- ScanAlone's walk. -/
import Derived.Test.YtaocplcmmpbjjaaDoorODA
import Derived.Test.YtaocplcmmpbjjaaDoorODB
import Derived.Test.YtaocplcmmpbjjaaDoorODC
import Derived.Test.YtaocplcmmpbjjaaDoorODD
import Derived.Test.YtaocplcmmpbjjaaDoorODE
import Derived.Deep.RegionHeld3
import Derived.Lib.SliceRun
import Derived.Deep.Cut
import Derived.Deep.CutRange
namespace Go.Proofs.YtaocplcmmpbjjaaDoor
open Go Go.RowKit Go.Maps Go.Shelf
namespace scanAlone
open Nt Sn
open Gr (Rdr Rws row Sh rws_rd rws_form)
set_option linter.unusedVariables false
set_option linter.unusedSimpArgs false
set_option maxRecDepth 100000 in
set_option maxHeartbeats 8000000 in
/-- a source that is too long -/
theorem walk_l (w : World) (hT : Lib.Utf8Tabs 0 1 w) (s : ByteArray) (a b : Int) (hs : ¬ s.size ≤ 200) :
    Calls Tryd.prog 7 #[.string s, .int .i64 a, .int .i64 b] w fun e w' => e = .returned (.bool true) ∧ Below w.heap.size w w' := by
  have HL := Lib.hid (lives_l w hT)
  have e1 : ((200 : Int) < (s.size : Int)) = True := eq_true (by omega)
  clear hT hs
  go_enter Tryd.func7, Tryd.ntmps7
  try simp only [List.append]
  go_wp2_with fail
  go_at_call 8
  refine HL.out.mono ?_
  rintro e w1 ⟨rfl, hb⟩
  have HB1 := Lib.hid hb
  clear hb HL
  go_wp2_with fail
  go_ret
  exact ⟨rfl, HB1.out⟩
set_option maxRecDepth 100000 in
set_option maxHeartbeats 8000000 in
/-- an error -/
theorem walk_1 (w : World) (hT : Lib.Utf8Tabs 0 1 w) (s : ByteArray) (a b : Int) (hs : s.size ≤ 200) (p y : Nat) (hq : (scn s).2 = some (p, y)) :
    Calls Tryd.prog 7 #[.string s, .int .i64 a, .int .i64 b] w fun e w' => e = .returned (.bool true) ∧ Below w.heap.size w w' := by
  have HT := Lib.hid hT
  have HL := Lib.hid (lives_l w hT)
  have e1 : ((200 : Int) < (s.size : Int)) = False := eq_false (by omega)
  obtain ⟨_, _, _, hy⟩ := all_err (by omega) hq
  have HA := Lib.hid (fun W hT => all_n (s := s) (by omega) hq W hT)
  have e3 : ((y : Int) = 0) = False := eq_false (by omega)
  have e4 : ((y : Int) == 0) = false := by simp; omega
  clear hT hq hs hy
  go_enter Tryd.func7, Tryd.ntmps7
  try simp only [List.append]
  go_wp2_with fail
  go_at_call 8
  refine HL.out.mono ?_
  rintro e w1 ⟨rfl, hb⟩
  have HB1 := Lib.hid hb
  clear hb HL
  go_wp2_with fail
  go_at_call 9
  refine (HA.out w1 (bel_tabs HT.out HB1.out)).mono ?_
  rintro e w2 ⟨v, rfl, hr0⟩
  obtain ⟨A, n, c, rfl, hn, _, _, hb⟩ := rowP_at hr0
  have HB2 := Lib.hid (bel_t HB1.out hb)
  clear hb hr0 HA hn HB1
  go_wp2_with fail
  go_ret
  exact ⟨rfl, HB2.out⟩
set_option maxRecDepth 100000 in
set_option maxHeartbeats 8000000 in
/-- no word -/
theorem walk_2 (w : World) (hT : Lib.Utf8Tabs 0 1 w) (s : ByteArray) (a b : Int) (hs : s.size ≤ 200) (hq : (scn s).2 = none) (h0 : Tx s = []) :
    Calls Tryd.prog 7 #[.string s, .int .i64 a, .int .i64 b] w fun e w' => e = .returned (.bool true) ∧ Below w.heap.size w w' := by
  have HT := Lib.hid hT
  have HL := Lib.hid (lives_l w hT)
  have e1 : ((200 : Int) < (s.size : Int)) = False := eq_false (by omega)
  have HA := Lib.hid (fun W hT => all_y (s := s) (by omega) hq W hT)
  rw [h0] at HA
  clear hT hq hs h0
  go_enter Tryd.func7, Tryd.ntmps7
  try simp only [List.append]
  go_wp2_with fail
  go_at_call 8
  refine HL.out.mono ?_
  rintro e w1 ⟨rfl, hb⟩
  have HB1 := Lib.hid hb
  clear hb HL
  go_wp2_with fail
  go_at_call 9
  refine (HA.out w1 (bel_tabs HT.out HB1.out)).mono ?_
  rintro e w2 ⟨v, rfl, hr0⟩
  obtain ⟨A, n, c, rfl, hn, _, _, hb⟩ := rowP_at hr0
  obtain rfl : n = 0 := hn
  have HB2 := Lib.hid (bel_t HB1.out hb)
  clear hb hr0 HA HB1
  go_wp2_with fail
  go_ret
  exact ⟨rfl, HB2.out⟩
theorem walk_3 (w : World) (hT : Lib.Utf8Tabs 0 1 w) (s : ByteArray) (a b : Int) (hs : s.size ≤ 200) (ha : -9223372036854775808 ≤ a ∧ a ≤ 9223372036854775807) (hb : -9223372036854775808 ≤ b ∧ b ≤ 9223372036854775807) (hq : (scn s).2 = none) (h0 : Tx s ≠ []) :
    Calls Tryd.prog 7 #[.string s, .int .i64 a, .int .i64 b] w fun e w' => e = .returned (.bool true) ∧ Below w.heap.size w w' := by
  have hlp : 0 < (Tx s).length := List.length_pos_iff.2 h0
  have hlm : (Tx s).length ≤ 201 := by have := tx_len s; omega
  obtain ⟨p1, p2⟩ := Kit.pick_lt (n := a) (m := ((Tx s).length : Int)) (by omega)
  obtain ⟨ia, hia⟩ : ∃ i : Nat, Kit.pick a ((Tx s).length : Int) = (i : Int) := ⟨(Kit.pick a ((Tx s).length : Int)).toNat, by omega⟩
  obtain ⟨x, hx⟩ : ∃ x, (Tx s)[ia]? = some x := ⟨_, List.getElem?_eq_getElem (by omega)⟩
  obtain ⟨rs, hw1, hw2, hw3⟩ := tx_word s hx
  have hu : ∀ (i : Nat) (y : TV), (i : Int) = Kit.pick a ((Tx s).length : Int) → (Tx s)[i]? = some y → y = x := by
    intro i y hi hy
    obtain rfl : i = ia := by omega
    rw [hx] at hy
    exact (Option.some.inj hy).symm
  rcases five hw1 hw2 with h | h | h | h | h
  · exact walk_3A w hT s a b hs ha hb hq h0 (fun i y hi hy => by rw [hu i y hi hy]; exact h)
  · exact walk_3B w hT s a b hs ha hb hq h0 (fun i y hi hy => by rw [hu i y hi hy]; exact h)
  · exact walk_3C w hT s a b hs ha hb hq h0 (fun i y hi hy => by rw [hu i y hi hy]; exact h)
  · exact walk_3D w hT s a b hs ha hb hq h0 (fun i y hi hy => by rw [hu i y hi hy]; exact h)
  · exact walk_3E w hT s a b hs ha hb hq h0 (fun i y hi hy => by rw [hu i y hi hy]; exact h)
theorem walk_ (w : World) (hT : Lib.Utf8Tabs 0 1 w) (s : ByteArray) (a b : Int) (ws : s.size ≤ maxLen) (ha : -9223372036854775808 ≤ a ∧ a ≤ 9223372036854775807) (hb : -9223372036854775808 ≤ b ∧ b ≤ 9223372036854775807) :
    Calls Tryd.prog 7 #[.string s, .int .i64 a, .int .i64 b] w fun e w' => e = .returned (.bool true) ∧ Below w.heap.size w w' := by
  by_cases hs : s.size ≤ 200
  · rcases hq : (scn s).2 with _ | ⟨p, y⟩
    · by_cases h0 : Tx s = []
      · exact walk_2 w hT s a b hs hq h0
      · exact walk_3 w hT s a b hs ha hb hq h0
    · exact walk_1 w hT s a b hs p y hq
  · exact walk_l w hT s a b hs
end scanAlone
end Go.Proofs.YtaocplcmmpbjjaaDoor
