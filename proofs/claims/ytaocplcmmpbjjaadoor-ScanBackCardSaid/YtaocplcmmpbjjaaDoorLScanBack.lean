/- ScanBack's walk. -/
import Derived.Test.YtaocplcmmpbjjaaDoorSZ
namespace Go.Proofs.YtaocplcmmpbjjaaDoor
open Go Go.RowKit Go.Maps Go.Shelf
namespace scanBack
open Nt Sn
open Gr (Rdr Rws row Sh rws_rd rws_form)
set_option linter.unusedVariables false
set_option linter.unusedSimpArgs false
/-- what is asked of a source's words, and of those of their text -/
structure BackF (s : ByteArray) (xs ys : List TV) : Prop where
  len : ys.length = xs.length
  eq : ∀ (i : Nat) (x y : TV), xs[i]? = some x → ys[i]? = some y → y.k = x.k ∧ y.t = x.t
  tx : txt ys = txt xs
  ext : ∀ (i : Nat) (x : TV), xs[i]? = some x → x.p + x.t.size ≤ s.size ∧ s.extract x.p (x.p + x.t.size) = x.t
  nx : ∀ (i : Nat) (x y : TV), xs[i]? = some x → xs[i + 1]? = some y → x.p + x.t.size ≤ y.p
theorem tx_at {s : ByteArray} {i : Nat} {x : TV} (h : (Tx s)[i]? = some x) : ∃ t, (scn s).1[i]? = some t ∧ x = wtv (Bs s) t ∧ x.t.size = wid t.rs ∧ x.p = t.at_ ∧ x.p + x.t.size ≤ s.size := by
  unfold Tx at h
  rw [List.getElem?_map] at h
  obtain ⟨t, ht, rfl⟩ := Option.map_eq_some_iff.1 h
  obtain ⟨_, _, h3, h4⟩ := scn_at s t (List.mem_of_getElem? ht)
  have h5 : (wtv (Bs s) t).t.size = wid t.rs := by rw [← h3]; show (wtx (Bs s) t).toArray.size = _; simp
  exact ⟨t, ht, rfl, h5, rfl, by rw [h5]; exact h4⟩
theorem backF (s : ByteArray) (hn : (scn s).2 = none) : BackF s (Tx s) (Tx (txt (Tx s))) := by
  obtain ⟨_, h2⟩ := again s hn
  have hl : (Tx (txt (Tx s))).length = (Tx s).length := by simpa using congrArg List.length h2
  have he : ∀ (i : Nat) (x y : TV), (Tx s)[i]? = some x → (Tx (txt (Tx s)))[i]? = some y → y.k = x.k ∧ y.t = x.t := fun i x y hx hy => by
    have h := congrArg (fun l => l[i]?) h2
    simp only [List.getElem?_map, hx, hy, Option.map_some] at h
    have h' := Option.some.inj h
    exact ⟨congrArg Prod.fst h', congrArg Prod.snd h'⟩
  refine ⟨hl, he, ?_, fun i x hx => ?_, fun i x y hx hy => ?_⟩
  · have h3 : txts (Tx (txt (Tx s))) = txts (Tx s) := by
      have := congrArg (List.map Prod.snd) h2
      rw [List.map_map, List.map_map] at this
      exact this
    show ByteArray.mk (jn (txts _)).toArray = ByteArray.mk (jn (txts _)).toArray
    rw [h3]
  · obtain ⟨t, ht, rfl, h5, h6, h7⟩ := tx_at hx
    refine ⟨h7, ?_⟩
    rw [h5, h6, ext_eq]
    rfl
  · obtain ⟨t, ht, rfl, h5, h6, _⟩ := tx_at hx
    obtain ⟨u, hu, rfl, _, h8, _⟩ := tx_at hy
    rw [h5, h6, h8]
    exact ch_next _ _ _ (scn_ch s) i t u ht hu
theorem rowP_at {xs : List TV} {w w' : World} {v : Value} (h : RowP xs w v w') : ∃ A n c, v = .slice A n c ∧ n = xs.length ∧ Rdr w' w'.heap.size A n xs ∧ Below w.heap.size w w' := by
  obtain ⟨A, c, h1, _, h2, h3⟩ := h
  exact ⟨A, _, c, h1, rfl, h2, h3⟩
set_option maxRecDepth 100000 in
set_option maxHeartbeats 8000000 in
theorem walk_ (w : World) (hT : Lib.Utf8Tabs 0 1 w) (s : ByteArray) (ws : s.size ≤ maxLen) :
    Calls Tryd.prog 4 #[.string s] w fun e w' => e = .returned (.bool true) ∧ Below w.heap.size w w' := by
  have HT := Lib.hid hT
  have HL := Lib.hid (lives_l w hT)
  clear hT ws
  by_cases hs : s.size ≤ 200
  case neg =>
    have e1 : ((200 : Int) < (s.size : Int)) = True := eq_true (by omega)
    clear hs
    go_enter Tryd.func4, Tryd.ntmps4
    simp only [List.append]
    go_wp2_with fail
    go_at_call 8
    refine HL.out.mono ?_
    rintro e w1 ⟨rfl, hb⟩
    have HB1 := Lib.hid hb
    clear hb HL
    go_wp2_with fail
    go_ret
    exact ⟨rfl, HB1.out⟩
  have e1 : ((200 : Int) < (s.size : Int)) = False := eq_false (by omega)
  have HS := Lib.hid hs
  rcases hq : (scn s).2 with _ | ⟨p, y⟩
  case some =>
    obtain ⟨a1, a2, a3, a4⟩ := all_err (by omega) hq
    have HA := Lib.hid (fun W hT => all_r s (by omega) W hT)
    unfold AllR at HA
    rw [a1, a2, a3] at HA
    have e2 : ((y : Int) = 0) = False := eq_false (by omega)
    have e3 : ((y : Int) == 0) = false := by simp; omega
    clear hs hq a1 a2 a3 a4
    go_enter Tryd.func4, Tryd.ntmps4
    simp only [List.append]
    go_wp2_with fail
    go_at_call 8
    refine HL.out.mono ?_
    rintro e w1 ⟨rfl, hb⟩
    have HB1 := Lib.hid hb
    clear hb HL
    go_wp2_with fail
    go_at_call 9
    refine (HA.out w1 (bel_tabs HT.out HB1.out)).mono ?_
    rintro e w2 ⟨v, rfl, hr⟩
    obtain ⟨A, n, c, rfl, rfl, hr, hb⟩ := rowP_at hr
    have HB2 := Lib.hid (bel_t HB1.out hb)
    clear hb hr HA HB1
    go_wp2_with fail
    go_ret
    exact ⟨rfl, HB2.out⟩
  obtain ⟨a1, a2, a3⟩ := all_ok (by omega) hq
  have HA := Lib.hid (fun W hT => all_r s (by omega) W hT)
  have hts : (txt (Tx s)).size ≤ 402 := by have := txt_size s; omega
  obtain ⟨c1, c2, c3⟩ := all_ok (s := txt (Tx s)) (by omega) (again s hq).1
  have HC := Lib.hid (fun W hT => all_r (txt (Tx s)) (by omega) W hT)
  have HF := Lib.hid (backF s hq)
  have HTS : Hid ((jn (txts (Tx s))).length ≤ 402) := Lib.hid (by
    have : (txt (Tx s)).size = (jn (txts (Tx s))).length := by show (jn (txts (Tx s))).toArray.size = _; simp
    omega)
  have HXN : Hid ((Tx s).length ≤ 201) := Lib.hid (by
    have h := tl_len1 s
    rw [tl_scn] at h
    have h2 : (scn s).1.length ≤ s.size + 1 := by simpa [toks] using h
    unfold Tx
    rw [List.length_map]
    omega)
  unfold AllR at HA HC
  rw [a1, a2, a3] at HA
  rw [c1, c2, c3] at HC
  generalize Tx (txt (Tx s)) = ys at *
  generalize Tx s = xs at *
  generalize htq : txt xs = t at *
  have HTQ := Lib.hid htq
  clear hs hq a1 a2 a3 c1 c2 c3 hts htq
  go_enter Tryd.func4, Tryd.ntmps4
  simp only [List.append]
  go_wp2_with fail
  go_at_call 8
  refine HL.out.mono ?_
  rintro e w1 ⟨rfl, hb⟩
  have HB1 := Lib.hid hb
  clear hb HL
  go_wp2_with fail
  go_at_call 9
  refine (HA.out w1 (bel_tabs HT.out HB1.out)).mono ?_
  rintro e w2 ⟨v, rfl, hr0⟩
  obtain ⟨A, n, c, rfl, hn, hr, hb⟩ := rowP_at hr0
  clear hr0
  have HB2 := Lib.hid (bel_t HB1.out hb)
  have HR2 := Lib.hid hr
  have HN := Lib.hid hn
  have hnm : n ≤ 201 := by rw [hn]; exact HXN.out
  have HTX := Lib.hid (text_l A n c xs w2 hr (by omega) (by have := HTS.out; omega))
  clear hb hr HA HB1 hn
  go_wp2_with fail
  go_at_call 15
  refine HTX.out.mono ?_
  rintro e w3 ⟨rfl, hb⟩
  have HB3 := Lib.hid (bel_t HB2.out hb)
  have HR3 := Lib.hid ((HR2.out.below hb).more hb.size)
  rw [HTQ.out]
  clear hb HTX HB2 HR2
  go_wp2_with fail
  go_at_call 9
  refine (HC.out w3 (bel_tabs HT.out HB3.out)).mono ?_
  rintro e w4 ⟨v, rfl, hr0⟩
  obtain ⟨B, m, d, rfl, hm, hr, hb⟩ := rowP_at hr0
  clear hr0
  have HB4 := Lib.hid (bel_t HB3.out hb)
  have HR4 := Lib.hid ((HR3.out.below hb).more hb.size)
  have HQ4 := Lib.hid hr
  obtain rfl : m = n := by rw [hm, HN.out]; exact HF.out.len
  have HTX := Lib.hid (text_l B m d ys w4 hr (by omega) (by
    have h := HF.out.tx
    have : (jn (txts ys)).length = (txt ys).size := by show _ = (jn (txts ys)).toArray.size; simp
    rw [this, h]
    have : (txt xs).size = (jn (txts xs)).length := by show (jn (txts xs)).toArray.size = _; simp
    have := HTS.out
    omega))
  rw [HF.out.tx, HTQ.out] at HTX
  clear hb hr HC HB3 HR3 hm
  go_wp2_with fail
  go_at_call 15
  refine HTX.out.mono ?_
  rintro e w5 ⟨rfl, hb⟩
  have HB5 := Lib.hid (bel_t HB4.out hb)
  have HR5 := Lib.hid ((HR4.out.below hb).more hb.size)
  have HQ5 := Lib.hid ((HQ4.out.below hb).more hb.size)
  clear hb HTX HB4 HR4 HQ4
  go_wp2_with fail
  go_loopw [10] (fun i wr => ∃ k q : Nat, k ≤ m ∧ i = .int .i64 k ∧ wr = w5.drewN q) (fun i _ => m - (intOf i).toNat)
  case atStart => exact ⟨0, 0, Nat.zero_le _, rfl, rfl⟩
  case round =>
    obtain ⟨k, q, hk, rfl, rfl⟩ := hrel
    by_cases hlt : k < m
    · obtain ⟨x, hx⟩ : ∃ x, xs[k]? = some x := ⟨_, List.getElem?_eq_getElem (by rw [← HN.out]; exact hlt)⟩
      obtain ⟨y, hy⟩ : ∃ y, ys[k]? = some y := ⟨_, List.getElem?_eq_getElem (by rw [HF.out.len, ← HN.out]; exact hlt)⟩
      obtain ⟨ab, ao, rfl, _, hc1, hc2, hc3⟩ := tv_at HR5.out hx
      obtain ⟨bb, bo, rfl, _, hd1, hd2, hd3⟩ := tv_at HQ5.out hy
      obtain ⟨f1, f2⟩ := HF.out.eq k x y hx hy
      obtain ⟨f3, f4⟩ := HF.out.ext k x hx
      have HX := Lib.hid hx
      have HLT := Lib.hid hlt
      rw [f1] at hd1
      rw [f2] at hd2
      obtain ⟨xk, xt, xp⟩ := x
      dsimp only at hc1 hc2 hc3 hd1 hd2 f3 f4
      have hki : (k : Int) < (m : Int) := by omega
      have hk0 : (0 : Int) ≤ (k : Int) := by omega
      have g1 : (xp : Int) + (xt.size : Int) ≤ (s.size : Int) := by omega
      have g2 : (0 : Int) ≤ (xp : Int) := by omega
      have g3 : (0 : Int) ≤ (xt.size : Int) := by omega
      have g4 : (s.size : Int) ≤ 200 := by have := HS.out; omega
      obtain ⟨z, hz⟩ : ∃ z : Nat, xp + xt.size = z := ⟨_, rfl⟩
      rw [hz] at f4
      have hz2 : (xp : Int) + (xt.size : Int) = (z : Int) := by omega
      have g5 : (xp : Int) ≤ (z : Int) := by omega
      have gw : IntKind.i64.wrap (z : Int) = (z : Int) := IntWalk.i64_in _ (by omega)
      have g6 : (z : Int) ≤ (s.size : Int) := by omega
      clear hz f3
      clear hy hd3 f1 f2 hlt hk g1
      by_cases hk1 : k = 0
      · subst hk1
        rw [Nat.zero_mul, Nat.add_zero] at hc1 hc2 hc3 hd1 hd2
        clear hx
        go_wp2_with fail
        go_quiet (fail)
        go_wp2_with fail
        go_roundw
        case rel => exact ⟨1, _, HLT.out, rfl, by first | rfl | exact World.drewN_drewN _ _ _⟩
        case measure => (have := HLT.out; simp [intOf] <;> omega)
      · obtain ⟨j, hj⟩ : ∃ j, k = j + 1 := ⟨k - 1, by omega⟩
        obtain ⟨x', hx'⟩ : ∃ x', xs[j]? = some x' := ⟨_, List.getElem?_eq_getElem (by rw [← HN.out]; have := HLT.out; omega)⟩
        obtain ⟨ab', ao', he', _, hp1, hp2, hp3⟩ := tv_at HR5.out hx'
        obtain ⟨rfl, rfl⟩ : ab = ab' ∧ ao = ao' := by cases he'; exact ⟨rfl, rfl⟩
        have f5 := HF.out.nx j x' _ hx' (by rw [← hj]; exact hx)
        obtain ⟨f6, _⟩ := HF.out.ext j x' hx'
        obtain ⟨yk, yt, yp⟩ := x'
        dsimp only at hp1 hp2 hp3 f5 f6
        have hj1 : (k : Int) - 1 = (j : Int) := by omega
        have hj2 : (j : Int) < (m : Int) := by omega
        have hj3 : (0 : Int) ≤ (j : Int) := by omega
        have hkp : (0 : Int) < (k : Int) := by omega
        have hkn : 0 < k := by omega
        have hkd : decide (0 < k) = true := decide_eq_true hkn
        have g7 : (0 : Int) ≤ (yp : Int) := by omega
        have g8 : (0 : Int) ≤ (yt.size : Int) := by omega
        obtain ⟨z', hz'⟩ : ∃ z : Nat, yp + yt.size = z := ⟨_, rfl⟩
        have hz3 : (yp : Int) + (yt.size : Int) = (z' : Int) := by omega
        have g9 : (z' : Int) ≤ 200 := by have := HS.out; omega
        have g10 : decide ((xp : Int) < (z' : Int)) = false := decide_eq_false (by omega)
        have g12 : decide (xp < z') = false := decide_eq_false (by omega)
        have g13 : (xp < z') = False := eq_false (by omega)
        have g11 : (0 : Int) ≤ (z' : Int) := by omega
        have gw' : IntKind.i64.wrap (z' : Int) = (z' : Int) := IntWalk.i64_in _ (by omega)
        clear hx hx' he' f5 f6 hz' hj hk1
        go_wp2_with fail
        go_quiet (fail)
        clear gw gw' g12 g13 hkd hkp hkn hz2 hz3 g2 g3 g5 g6 g7 g8 g9 g10 g11 hj1 hj2 hj3
        go_wp2_with fail
        go_roundw
        case rel => exact ⟨k + 1, _, HLT.out, by go_num, by first | rfl | exact World.drewN_drewN _ _ _⟩
        case measure => (have := HLT.out; simp [intOf] <;> omega)
    · obtain rfl : k = m := by omega
      go_wp2_with fail
      go_ret
      exact ⟨rfl, bel_t HB5.out (bel_drN w5 q)⟩
end scanBack
end Go.Proofs.YtaocplcmmpbjjaaDoor
