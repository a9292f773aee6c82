/- ScanJoins' walk. -/
import Derived.Test.YtaocplcmmpbjjaaDoorOA
namespace Go.Proofs.YtaocplcmmpbjjaaDoor
open Go Go.RowKit Go.Maps Go.Shelf
namespace scanJoins
open Nt Sn
open Gr (Rdr Rws row Sh rws_rd rws_form)
set_option linter.unusedVariables false
set_option linter.unusedSimpArgs false
theorem rowP_at {xs : List TV} {w w' : World} {v : Value} (h : RowP xs w v w') : ∃ A n c, v = .slice A n c ∧ n = xs.length ∧ n ≤ c ∧ Rdr w' w'.heap.size A n xs ∧ Below w.heap.size w w' := by
  obtain ⟨A, c, h1, h0, h2, h3⟩ := h
  exact ⟨A, _, c, h1, rfl, h0, h2, h3⟩
theorem rdr_take {w : World} {B m n : Nat} {A : Option Addr} {zs : List TV} (h : Rdr w B A m zs) (hn : n ≤ m) : Rdr w B A n (zs.take n) :=
  ⟨by rw [List.length_take, h.len]; omega, fun h0 => by
    obtain ⟨b, o, e, hb, hc⟩ := h.rd (by omega)
    refine ⟨b, o, e, hb, fun j x hj d v hv => hc j x ?_ d v hv⟩
    rw [List.getElem?_take] at hj
    split at hj
    · exact hj
    · cases hj⟩
theorem tx_len (s : ByteArray) : (Tx s).length ≤ s.size + 1 := by
  have h := tl_len1 s
  rw [tl_scn] at h
  have h2 : (scn s).1.length ≤ s.size + 1 := by simpa [toks] using h
  unfold Tx
  rw [List.length_map]
  omega
/-- All's answer of a source without an error -/
theorem all_y {s : ByteArray} (hs : s.size ≤ 65536) (h : (scn s).2 = none) (W : World) (hT : Lib.Utf8Tabs 0 1 W) :
    Calls Tryd.prog 9 #[.string s] W fun e w' => ∃ v, e = .returned (.tuple #[v, .int .i64 (s.size : Int), .int .i64 0]) ∧ RowP (Tx s) W v w' := by
  obtain ⟨a1, a2, a3⟩ := all_ok hs h
  have := all_r s (by omega) W hT
  unfold AllR at this
  rw [a1, a2, a3] at this
  exact this
/-- .. with one -/
theorem all_n {s : ByteArray} {p y : Nat} (hs : s.size ≤ 65536) (h : (scn s).2 = some (p, y)) (W : World) (hT : Lib.Utf8Tabs 0 1 W) :
    Calls Tryd.prog 9 #[.string s] W fun e w' => ∃ v, e = .returned (.tuple #[v, .int .i64 (p : Int), .int .i64 (y : Int)]) ∧ RowP [] W v w' := by
  obtain ⟨a1, a2, a3, _⟩ := all_err hs h
  have := all_r s (by omega) W hT
  unfold AllR at this
  rw [a1, a2, a3] at this
  exact this
/-- All's answer, whatever it is -/
theorem all_e (s : ByteArray) (hs : s.size ≤ 65536) (W : World) (hT : Lib.Utf8Tabs 0 1 W) :
    Calls Tryd.prog 9 #[.string s] W fun e w' => ∃ A n c p y, e = .returned (.tuple #[.slice A n c, .int .i64 (p : Int), .int .i64 (y : Int)]) ∧ n ≤ 100000 ∧ Below W.heap.size W w' := by
  refine (all_r s (by omega) W hT).mono ?_
  rintro e w' ⟨v, he, hr⟩
  obtain ⟨A, n, c, rfl, hn, _, _, hb⟩ := rowP_at hr
  refine ⟨A, n, c, _, _, he, ?_, hb⟩
  rw [hn, tvs_len]
  unfold allA
  rw [if_neg (by omega)]
  have h := tl_len1 s
  rcases hq : tl s s.size 0 0 4 with ⟨ts, q⟩
  rw [hq] at h
  cases q with
  | none => show ts.length ≤ _; have : ts.length ≤ s.size + 1 := h; omega
  | some er => exact Nat.zero_le _
theorem cat_size (s t : ByteArray) : (s ++ nlB ++ t).size = s.size + t.size + 1 := by
  rw [← bs_size, bs_app, bs_app, List.length_append, List.length_append, bs_size, bs_size]
  show s.size + 1 + t.size = _
  omega
set_option maxRecDepth 100000 in
set_option maxHeartbeats 8000000 in
/-- a source that is too long -/
theorem walk_l (w : World) (hT : Lib.Utf8Tabs 0 1 w) (s t : ByteArray) (hl : ¬ (s.size ≤ 200 ∧ t.size ≤ 200)) :
    Calls Tryd.prog 5 #[.string s, .string t] w fun e w' => e = .returned (.bool true) ∧ Below w.heap.size w w' := by
  have HL := Lib.hid (lives_l w hT)
  clear hT
  by_cases hs : s.size ≤ 200
  · have e1 : ((200 : Int) < (s.size : Int)) = False := eq_false (by omega)
    have e2 : ((200 : Int) < (t.size : Int)) = True := eq_true (by omega)
    clear hl hs
    go_enter Tryd.func5, Tryd.ntmps5
    try simp only [List.append]
    go_wp2_with fail
    go_at_call 8
    refine HL.out.mono ?_
    rintro e w1 ⟨rfl, hb⟩
    have HB1 := Lib.hid hb
    clear hb HL
    go_wp2_with fail
    go_ret
    exact ⟨rfl, HB1.out⟩
  · have e1 : ((200 : Int) < (s.size : Int)) = True := eq_true (by omega)
    clear hl hs
    go_enter Tryd.func5, Tryd.ntmps5
    try simp only [List.append]
    go_wp2_with fail
    go_at_call 8
    refine HL.out.mono ?_
    rintro e w1 ⟨rfl, hb⟩
    have HB1 := Lib.hid hb
    clear hb HL
    go_wp2_with fail
    go_ret
    exact ⟨rfl, HB1.out⟩
set_option maxRecDepth 100000 in
set_option maxHeartbeats 8000000 in
/-- an error in the first one -/
theorem walk_1 (w : World) (hT : Lib.Utf8Tabs 0 1 w) (s t : ByteArray) (hs : s.size ≤ 200) (ht : t.size ≤ 200) (p y : Nat) (hq : (scn s).2 = some (p, y)) :
    Calls Tryd.prog 5 #[.string s, .string t] w fun e w' => e = .returned (.bool true) ∧ Below w.heap.size w w' := by
  have HT := Lib.hid hT
  have HL := Lib.hid (lives_l w hT)
  have e1 : ((200 : Int) < (s.size : Int)) = False := eq_false (by omega)
  have k3 : (9223372036854775807 < s.size + 1) = False := eq_false (by omega)
  have k4 : (9223372036854775807 < s.size + 1 + t.size) = False := eq_false (by omega)
  have e2 : ((200 : Int) < (t.size : Int)) = False := eq_false (by omega)
  obtain ⟨_, _, _, hy⟩ := all_err (by omega) hq
  have HA := Lib.hid (fun W hT => all_n (s := s) (by omega) hq W hT)
  have HB := Lib.hid (fun W hT => all_e t (by omega) W hT)
  have HC := Lib.hid (fun W hT => all_n (s := s ++ nlB ++ t) (by rw [cat_size]; omega) (join_err1 hq) W hT)
  have e3 : ((y : Int) = 0) = False := eq_false (by omega)
  have e4 : ((y : Int) == 0) = false := by simp; omega
  unfold nlB at HC
  clear hT hq hs ht hy
  go_enter Tryd.func5, Tryd.ntmps5
  try simp only [List.append]
  go_wp2_with fail
  go_at_call 8
  refine HL.out.mono ?_
  rintro e w1 ⟨rfl, hb⟩
  have HB1 := Lib.hid hb
  clear hb HL
  go_wp2_with fail
  go_at_call 9
  refine (HA.out w1 (bel_tabs HT.out HB1.out)).mono ?_
  rintro e w2 ⟨v, rfl, hr0⟩
  obtain ⟨A, n, c, rfl, hn, _, _, hb⟩ := rowP_at hr0
  have HB2 := Lib.hid (bel_t HB1.out hb)
  clear hb hr0 HA hn HB1
  go_wp2_with fail
  go_at_call 9
  refine (HB.out w2 (bel_tabs HT.out HB2.out)).mono ?_
  rintro e w3 ⟨A2, n2, c2, p2, y2, rfl, _, hb⟩
  have HB3 := Lib.hid (bel_t HB2.out hb)
  clear hb HB HB2
  go_wp2_with fail
  go_at_call 9
  refine (HC.out w3 (bel_tabs HT.out HB3.out)).mono ?_
  rintro e w4 ⟨v, rfl, hr0⟩
  obtain ⟨A4, n4, c4, rfl, rfl, _, _, hb⟩ := rowP_at hr0
  have HB4 := Lib.hid (bel_t HB3.out hb)
  clear hb hr0 HC HB3
  go_wp2_with fail
  go_ret
  exact ⟨rfl, HB4.out⟩
set_option maxRecDepth 100000 in
set_option maxHeartbeats 8000000 in
/-- an error in the second one -/
theorem walk_2 (w : World) (hT : Lib.Utf8Tabs 0 1 w) (s t : ByteArray) (hs : s.size ≤ 200) (ht : t.size ≤ 200) (p y : Nat) (hq0 : (scn s).2 = none) (hq : (scn t).2 = some (p, y)) (hp : p ≤ 1000000) :
    Calls Tryd.prog 5 #[.string s, .string t] w fun e w' => e = .returned (.bool true) ∧ Below w.heap.size w w' := by
  have HT := Lib.hid hT
  have HL := Lib.hid (lives_l w hT)
  have e1 : ((200 : Int) < (s.size : Int)) = False := eq_false (by omega)
  have k3 : (9223372036854775807 < s.size + 1) = False := eq_false (by omega)
  have k4 : (9223372036854775807 < s.size + 1 + t.size) = False := eq_false (by omega)
  have e2 : ((200 : Int) < (t.size : Int)) = False := eq_false (by omega)
  obtain ⟨_, _, _, hy⟩ := all_err (by omega) hq
  have HA := Lib.hid (fun W hT => all_y (s := s) (by omega) hq0 W hT)
  have HB := Lib.hid (fun W hT => all_n (s := t) (by omega) hq W hT)
  have HC := Lib.hid (fun W hT => all_n (s := s ++ nlB ++ t) (by rw [cat_size]; omega) (join_err2 hq0 hq) W hT)
  have e3 : ((y : Int) = 0) = False := eq_false (by omega)
  have e4 : ((y : Int) == 0) = false := by simp; omega
  obtain ⟨z, hz⟩ : ∃ z : Nat, p + (s.size + 1) = z := ⟨_, rfl⟩
  obtain ⟨z0, hz0⟩ : ∃ z : Nat, p + s.size = z := ⟨_, rfl⟩
  rw [hz] at HC
  have f1 : (p : Int) + (s.size : Int) = (z0 : Int) := by omega
  have f2 : (z0 : Int) + 1 = (z : Int) := by omega
  have f3 : IntKind.i64.wrap (z0 : Int) = (z0 : Int) := IntWalk.i64_in _ (by omega)
  have f4 : IntKind.i64.wrap (z : Int) = (z : Int) := IntWalk.i64_in _ (by omega)
  unfold nlB at HC
  clear hT hq hq0 hs ht hy hz hz0
  go_enter Tryd.func5, Tryd.ntmps5
  try simp only [List.append]
  go_wp2_with fail
  go_at_call 8
  refine HL.out.mono ?_
  rintro e w1 ⟨rfl, hb⟩
  have HB1 := Lib.hid hb
  clear hb HL
  go_wp2_with fail
  go_at_call 9
  refine (HA.out w1 (bel_tabs HT.out HB1.out)).mono ?_
  rintro e w2 ⟨v, rfl, hr0⟩
  obtain ⟨A, n, c, rfl, hn, _, _, hb⟩ := rowP_at hr0
  have HB2 := Lib.hid (bel_t HB1.out hb)
  clear hb hr0 HA hn HB1
  go_wp2_with fail
  go_at_call 9
  refine (HB.out w2 (bel_tabs HT.out HB2.out)).mono ?_
  rintro e w3 ⟨v, rfl, hr0⟩
  obtain ⟨A2, n2, c2, rfl, hn, _, _, hb⟩ := rowP_at hr0
  have HB3 := Lib.hid (bel_t HB2.out hb)
  clear hb HB HB2 hr0 hn
  go_wp2_with fail
  go_at_call 9
  refine (HC.out w3 (bel_tabs HT.out HB3.out)).mono ?_
  rintro e w4 ⟨v, rfl, hr0⟩
  obtain ⟨A4, n4, c4, rfl, hn, _, _, hb⟩ := rowP_at hr0
  have HB4 := Lib.hid (bel_t HB3.out hb)
  clear hb hr0 HC HB3 hn
  go_wp2_with fail
  go_ret
  exact ⟨rfl, HB4.out⟩
theorem fin_e {p k : Nat} {cur : List Rn} {e : Nat × Nat} (h : (fin p k cur).2 = some e) : e.1 = p := by
  unfold fin at h
  split at h
  · cases h
  · split at h
    · cases h; rfl
    · cases h
theorem sc_errp : ∀ (l : List Rn) (p k : Nat) (cur : List Rn) (e : Nat × Nat), (sc l p k cur).2 = some e → e.1 ≤ p + wid cur + wid l
  | [], p, k, cur, e => by
    rw [sc_nil]
    unfold fin
    intro h
    split at h
    · cases h
    · split at h
      · cases h; show p ≤ _; omega
      · cases h
  | r :: l, p, k, cur, e => by
    have hw : wid (r :: l) = r.n + wid l := by unfold wid; rw [List.map_cons, List.sum_cons]
    rw [sc_cons, hw]
    intro h
    split at h
    · have := sc_errp l p k _ e h
      rw [wid_app, wid_one] at this
      omega
    · rcases hf : fin p k cur with ⟨ts, q⟩
      rw [hf] at h
      cases q with
      | some q =>
        have hq : q = e := Option.some.inj h
        have := fin_e (e := q) (by rw [hf])
        rw [← hq, this]
        omega
      | none =>
        dsimp only at h
        split at h
        · cases h; show p + wid cur ≤ _; omega
        · split at h
          · cases h; show p + wid cur ≤ _; omega
          · have := sc_errp l _ _ _ e h
            rw [wid_one] at this
            omega
theorem scn_errp {s : ByteArray} {p y : Nat} (h : (scn s).2 = some (p, y)) : p ≤ s.size := by
  have := sc_errp _ _ _ _ _ h
  rw [rn_wid _ _ (Nat.le_refl _), bs_size, wid_nil] at this
  simpa using this
theorem tx_p (s : ByteArray) {i : Nat} {x : TV} (h : (Tx s)[i]? = some x) : x.p ≤ s.size := by
  unfold Tx at h
  rw [List.getElem?_map] at h
  obtain ⟨t, ht, rfl⟩ := Option.map_eq_some_iff.1 h
  have := (scn_at s t (List.mem_of_getElem? ht)).2.2.2
  show t.at_ ≤ _
  omega
set_option maxRecDepth 100000 in
set_option maxHeartbeats 8000000 in
/-- no error -/
theorem walk_3 (w : World) (hT : Lib.Utf8Tabs 0 1 w) (s t : ByteArray) (hs : s.size ≤ 200) (ht : t.size ≤ 200) (hq0 : (scn s).2 = none) (hq : (scn t).2 = none) :
    Calls Tryd.prog 5 #[.string s, .string t] w fun e w' => e = .returned (.bool true) ∧ Below w.heap.size w w' := by
  have HT := Lib.hid hT
  have HL := Lib.hid (lives_l w hT)
  have e1 : ((200 : Int) < (s.size : Int)) = False := eq_false (by omega)
  have k3 : (9223372036854775807 < s.size + 1) = False := eq_false (by omega)
  have k4 : (9223372036854775807 < s.size + 1 + t.size) = False := eq_false (by omega)
  have e2 : ((200 : Int) < (t.size : Int)) = False := eq_false (by omega)
  obtain ⟨j1, j2⟩ := join_ok hq0 hq
  have HA := Lib.hid (fun W hT => all_y (s := s) (by omega) hq0 W hT)
  have HB := Lib.hid (fun W hT => all_y (s := t) (by omega) hq W hT)
  have HC := Lib.hid (fun W hT => all_y (s := s ++ nlB ++ t) (by rw [cat_size]; omega) j1 W hT)
  rw [j2] at HC
  have HXN : Hid ((Tx s).length ≤ 201) := Lib.hid (by have := tx_len s; omega)
  have HYN : Hid ((Tx t).length ≤ 201) := Lib.hid (by have := tx_len t; omega)
  have HYP := Lib.hid (fun (i : Nat) (x : TV) (h : (Tx t)[i]? = some x) => Nat.le_trans (tx_p t h) ht)
  generalize Tx s = xs at *
  generalize Tx t = ys at *
  have HSS := Lib.hid hs
  unfold nlB at HC
  clear hT hq hq0 hs ht j1 j2
  go_enter Tryd.func5, Tryd.ntmps5
  try simp only [List.append]
  go_wp2_with fail
  go_at_call 8
  refine HL.out.mono ?_
  rintro e w1 ⟨rfl, hb⟩
  have HB1 := Lib.hid hb
  clear hb HL
  go_wp2_with fail
  go_at_call 9
  refine (HA.out w1 (bel_tabs HT.out HB1.out)).mono ?_
  rintro e w2 ⟨v, rfl, hr0⟩
  obtain ⟨A, n, c, rfl, hn, _, hr, hb⟩ := rowP_at hr0
  have HB2 := Lib.hid (bel_t HB1.out hb)
  have HN := Lib.hid hn
  have HR2 := Lib.hid hr
  clear hb hr0 HA hn HB1 hr
  go_wp2_with fail
  go_at_call 9
  refine (HB.out w2 (bel_tabs HT.out HB2.out)).mono ?_
  rintro e w3 ⟨v, rfl, hr0⟩
  obtain ⟨B, m, d, rfl, hm, _, hr, hb⟩ := rowP_at hr0
  have HB3 := Lib.hid (bel_t HB2.out hb)
  have HM := Lib.hid hm
  have HR3 := Lib.hid ((HR2.out.below hb).more hb.size)
  have HQ3 := Lib.hid hr
  clear hb HB HB2 hr0 hm hr HR2
  go_wp2_with fail
  go_at_call 9
  refine (HC.out w3 (bel_tabs HT.out HB3.out)).mono ?_
  rintro e w4 ⟨v, rfl, hr0⟩
  obtain ⟨C, o, f, rfl, ho, hof, hr, hb⟩ := rowP_at hr0
  have HB4 := Lib.hid (bel_t HB3.out hb)
  have HO : Hid (o = n + m) := Lib.hid (by rw [ho, List.length_append, List.length_map, HN.out, HM.out])
  have HR4 := Lib.hid ((HR3.out.below hb).more hb.size)
  have HQ4 := Lib.hid ((HQ3.out.below hb).more hb.size)
  have HZ4 := Lib.hid hr
  clear hb hr0 HC HB3 ho hr HR3 HQ3
  have hnm : n ≤ 201 := by rw [HN.out]; exact HXN.out
  have hmm : m ≤ 201 := by rw [HM.out]; exact HYN.out
  have ho1 : (n : Int) + (m : Int) = (o : Int) := by have := HO.out; omega
  have ho2 : IntKind.i64.wrap (o : Int) = (o : Int) := IntWalk.i64_in _ (by omega)
  go_wp2_with fail
  clear ho1 ho2
  go_loopw [14] (fun i wr => ∃ k : Nat, k ≤ m ∧ i = .int .i64 k ∧ Below w4.heap.size w4 wr) (fun i _ => m - (intOf i).toNat)
  case atStart => exact ⟨0, Nat.zero_le _, rfl, Below.refl _ _⟩
  case round =>
    obtain ⟨k, hk, rfl, hB⟩ := hrel
    have HBR := Lib.hid hB
    by_cases hlt : k < m
    · obtain ⟨y, hy⟩ : ∃ y, ys[k]? = some y := ⟨_, List.getElem?_eq_getElem (by rw [← HM.out]; exact hlt)⟩
      have hz : (xs ++ ys.map (mvT (s.size + 1)))[n + k]? = some (mvT (s.size + 1) y) := by
        rw [HN.out, List.getElem?_append_right (by omega), show xs.length + k - xs.length = k by omega, List.getElem?_map, hy]
        rfl
      obtain ⟨bb, bo, rfl, _, hd1, hd2, hd3⟩ := tv_at (HQ4.out.below hB) hy
      obtain ⟨cb, co, rfl, _, hc1, hc2, hc3⟩ := tv_at (HZ4.out.below hB) hz
      have hyp := HYP.out k y hy
      obtain ⟨yk, yt, yp⟩ := y
      unfold mvT at hc1 hc2 hc3
      dsimp only at hc1 hc2 hc3 hd1 hd2 hd3 hyp
      have HLT := Lib.hid hlt
      obtain ⟨z, hzz⟩ : ∃ z : Nat, yp + (s.size + 1) = z := ⟨_, rfl⟩
      obtain ⟨z0, hz0⟩ : ∃ z : Nat, yp + s.size = z := ⟨_, rfl⟩
      obtain ⟨j, hj⟩ : ∃ j : Nat, n + k = j := ⟨_, rfl⟩
      rw [hzz] at hc3
      rw [hj] at hc1 hc2 hc3
      have f1 : (yp : Int) + (s.size : Int) = (z0 : Int) := by omega
      have f2 : (z0 : Int) + 1 = (z : Int) := by omega
      have f3 : IntKind.i64.wrap (z0 : Int) = (z0 : Int) := IntWalk.i64_in _ (by have := HSS.out; omega)
      have f4 : IntKind.i64.wrap (z : Int) = (z : Int) := IntWalk.i64_in _ (by have := HSS.out; omega)
      have f5 : (n : Int) + (k : Int) = (j : Int) := by omega
      have f6 : IntKind.i64.wrap (j : Int) = (j : Int) := IntWalk.i64_in _ (by omega)
      have f7 : (j : Int) < (o : Int) := by have := HO.out; omega
      have f8 : (0 : Int) ≤ (j : Int) := by omega
      have f9 : (k : Int) < (m : Int) := by omega
      have f10 : (0 : Int) ≤ (k : Int) := by omega
      have HAL := Lib.hid (bel_t hB ((Below.refl wr.heap.size wr).alloc (Nat.le_refl _) (.cells #[.int .i64 (yk : Int), .string yt, .int .i64 (z : Int)] 33)))
      have HAC := Lib.hid (bel_al wr (.cells #[.int .i64 (yk : Int), .string yt, .int .i64 (z : Int)] 33))
      clear hy hz hyp hlt hk hzz hz0 hj hB
      go_wp2_with fail
      have hd1' := HAC.out.cell (World.block_lt_of_cell? wr _ hd1)
      have hd2' := HAC.out.cell (World.block_lt_of_cell? wr _ hd2)
      have hd3' := HAC.out.cell (World.block_lt_of_cell? wr _ hd3)
      rw [hd1] at hd1'
      rw [hd2] at hd2'
      rw [hd3] at hd3'
      have hbk : Bk (wr.alloc (.cells #[.int .i64 (yk : Int), .string yt, .int .i64 (z : Int)] 33)) wr.heap.size 33 #[.int .i64 (yk : Int), .string yt, .int .i64 (z : Int)] := Bk.new _ _ _
      have q0 := hbk.cell 0
      have q1 := hbk.cell 1
      have q2 := hbk.cell 2
      clear hbk HAC hd1 hd2 hd3 hc1 hc2 hc3 f5 f6 f7 f8
      generalize wr.alloc (.cells #[.int .i64 (yk : Int), .string yt, .int .i64 (z : Int)] 33) = wq at *
      try dsimp only [List.getElem?_toArray, List.getElem?_cons_zero, List.getElem?_cons_succ] at q0 q1 q2
      go_quiet (fail)
      go_wp2_with fail
      go_roundw
      case rel => exact ⟨k + 1, HLT.out, by go_num, bel_t HAL.out (bel_drN wq nq)⟩
      case measure => (have := HLT.out; simp [intOf] <;> omega)
    · obtain rfl : k = m := by omega
      have HBX := Lib.hid (HB4.out.trans (hB.mono HB4.out.size))
      have HR5 := Lib.hid (HR4.out.below hB)
      have HZ5 := Lib.hid (HZ4.out.below hB)
      have hnf : n ≤ f := by have := HO.out; omega
      have htk : Hid ((xs ++ ys.map (mvT (s.size + 1))).take n = xs) := Lib.hid (by rw [HN.out, List.take_left])
      have hrt := rdr_take HZ5.out (n := n) (by have := HO.out; omega)
      rw [htk.out] at hrt
      have HS := Lib.hid (same_t C A n f n c w4.heap.size w4.heap.size xs xs wr hrt HR5.out (by omega) (by omega))
      rw [decide_eq_true rfl] at HS
      clear hB HR4 HZ4 HQ4 HB4 hrt
      go_wp2_with fail
      go_at_call 16
      refine HS.out.mono ?_
      rintro e w6 ⟨rfl, q, rfl⟩
      clear HS
      go_wp2_with fail
      go_ret
      exact ⟨rfl, bel_t HBX.out (bel_drN wr q)⟩
theorem walk_ (w : World) (hT : Lib.Utf8Tabs 0 1 w) (s t : ByteArray) (ws : s.size ≤ maxLen) (wt : t.size ≤ maxLen) :
    Calls Tryd.prog 5 #[.string s, .string t] w fun e w' => e = .returned (.bool true) ∧ Below w.heap.size w w' := by
  by_cases hl : s.size ≤ 200 ∧ t.size ≤ 200
  · rcases hq0 : (scn s).2 with _ | ⟨p, y⟩
    · rcases hq : (scn t).2 with _ | ⟨p, y⟩
      · exact walk_3 w hT s t hl.1 hl.2 hq0 hq
      · exact walk_2 w hT s t hl.1 hl.2 p y hq0 hq (by have := scn_errp hq; omega)
    · exact walk_1 w hT s t hl.1 hl.2 p y hq0
  · exact walk_l w hT s t hl
end scanJoins
end Go.Proofs.YtaocplcmmpbjjaaDoor
