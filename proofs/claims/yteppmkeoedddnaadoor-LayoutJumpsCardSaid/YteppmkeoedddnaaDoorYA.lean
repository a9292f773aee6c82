/- The landed package layout: a sheet; which line may not be. | The landed package layout: Bytes. | The statements' own helpers at lines: Own; the laws' first look; a row whose labels are turned one by one. -/
import Derived.Test.YteppmkeoedddnaaDoorY5
import Derived.Test.YteppmkeoedddnaaDoorY9
import Derived.Test.YteppmkeoedddnaaDoorA1
namespace Go.Proofs.YteppmkeoedddnaaDoor
open Go Go.RowKit Go.Shelf Go.Maps
namespace Ly
open Is Nt Rt
set_option linter.unusedVariables false
set_option linter.unusedSimpArgs false
set_option maxRecDepth 100000 in
set_option maxHeartbeats 1000000 in
theorem sheet_l (w : World) (A : Option Addr) (n cap : Nat) : Calls Tryd.prog 14 #[.slice A n cap] w fun e W' => e = .returned (.agg #[.slice A n cap, .map (some (w.heap.size + 1))]) ∧ Below w.heap.size w W' ∧ SzE 0 (w.heap.size + 1) W' := by
  have hmm := @run_makeMap Tryd.prog
  have HK : Hid (Bk ((w.alloc (.cells #[.slice A n cap, .map (some (w.heap.size + 1))] 48)).alloc (.map #[] 0)) w.heap.size 48 #[.slice A n cap, .map (some (w.heap.size + 1))]) := Lib.hid (Bk.alloc (Bk.new _ _ _) _)
  have HO : Hid (((w.alloc (.cells #[.slice A n cap, .map (some (w.heap.size + 1))] 48)).alloc (.map #[] 0)).ownsMap Tryd.prog 35 (plainElem (H := Unit) Tryd.prog 3) (w.heap.size + 1) 0 (.map [])) := Lib.hid (by
    have h := World.ownsMap_made (w.alloc (.cells #[.slice A n cap, .map (some (w.heap.size + 1))] 48)) Tryd.prog 35 (plainElem (H := Unit) Tryd.prog 3)
    rw [World.size_alloc] at h
    exact h)
  go_enter Tryd.func14, Tryd.ntmps14
  go_wp2_with fail
  exact bodyPost_ret (results_cell_row rfl _ _ w.heap.size 48 #[.slice A n cap, .map (some (w.heap.size + 1))] (0, 0) _ rfl HK.out Tryd.underlying48 rfl (by kernel_rfl)) rfl ⟨rfl, bel_tr (bel_al _) (bel_al _), 0, _, HO.out, Nat.le_refl _, SzOk.nil⟩
theorem chkL_at {ls : List Ln} {j : Nat} (h : j < ls.length) : chkL ls (ls.take j) (ls.drop j) = if fltL ls (ls.take j) (lnA ls j) ≠ 0 then (j, fltL ls (ls.take j) (lnA ls j)) else chkL ls (ls.take (j + 1)) (ls.drop (j + 1)) := by
  have e : ls.drop j = lnA ls j :: ls.drop (j + 1) := by
    rw [List.drop_eq_getElem_cons h]
    unfold lnA
    rw [List.getElem?_eq_getElem h]
    rfl
  have el : (ls.take j).length = j := by rw [List.length_take]; omega
  rw [e, take_at h]
  conv => lhs; unfold chkL
  rw [el]
set_option maxRecDepth 100000 in
set_option maxHeartbeats 8000000 in
theorem check_l' (A : Option Addr) (cap mp c lm cl : Nat) (ls : List Ln) (hN : ls.length ≤ 1000) (hc : c ≤ 80000) (w : World) (hT : TabE w) (hG : G3 mp) (hR : RdL w mp A ls.length ls) (hS : SzE c mp w) (hL : LbE ls cl lm w) :
    Calls Tryd.prog 15 #[.agg #[.slice A ls.length cap, .map (some mp)], .map (some lm)] w fun e W' => e = .returned (.tuple #[.int .i64 (((chkL ls [] ls).1 : Nat) : Int), .int .i64 (chkL ls [] ls).2]) ∧ Tn (fun k => k = mp) w W' ∧ SzE (c + ls.length) mp W' := by
  have hml := hS.lt
  have hll := hL.lt
  have HT := Lib.hid hT
  have HR := Lib.hid hR
  have HS := Lib.hid hS
  have HL := Lib.hid hL
  have HLW := Lib.hid hR.oks
  have HG := Lib.hid hG
  have hlen4 : (ls.length : Int) ≤ 1000 := by omega
  have hmm := @run_makeMap Tryd.prog
  have HEND := Lib.hid (fun X (hb : Below w.heap.size w X) => (callsIn_wide (n := 2)).1 (end_in 2 (by omega) A cap mp c ls hN hc X (hT.keep hb) hG (hR.below (hb.mono (Nat.le_of_lt hml))) (hS.below hb)))
  obtain ⟨ck, hck⟩ : ∃ ck, chkL ls [] ls = ck := ⟨_, rfl⟩
  rw [hck]
  have HCK : Hid (ck = chkL ls (ls.take 0) (ls.drop 0)) := Lib.hid (by rw [← hck]; rfl)
  clear hT hR hS hL hG hck
  have HK0 : Hid (Bk ((w.alloc (.cells #[.slice A ls.length cap, .map (some mp)] 48)).alloc (.map #[] 0)) w.heap.size 48 #[.slice A ls.length cap, .map (some mp)]) := Lib.hid (Bk.alloc (Bk.new _ _ _) _)
  have HB0 : Hid (Below w.heap.size w ((w.alloc (.cells #[.slice A ls.length cap, .map (some mp)] 48)).alloc (.map #[] 0))) := Lib.hid (bel_tr (bel_al _) (bel_al _))
  have HO : Hid (((w.alloc (.cells #[.slice A ls.length cap, .map (some mp)] 48)).alloc (.map #[] 0)).ownsMap Tryd.prog 3 (unitElem (H := Unit)) (w.heap.size + 1) 0 (.map [])) := Lib.hid (by
    have h := World.ownsMap_made (w.alloc (.cells #[.slice A ls.length cap, .map (some mp)] 48)) Tryd.prog 3 (unitElem (H := Unit))
    rw [World.size_alloc] at h
    exact h)
  have k0 := HK0.out.cell 0
  dsimp at k0
  go_enter Tryd.func15, Tryd.ntmps15
  go_wp2_with fail
  go_loopw [14] (fun ix wr => ∃ (j : Nat), j ≤ ls.length ∧ ix = .int .i64 (j : Int) ∧ Hid (ck = chkL ls (ls.take j) (ls.drop j)) ∧ Hid (Below w.heap.size w wr) ∧ Hid (Bk wr w.heap.size 48 #[.slice A ls.length cap, .map (some mp)]) ∧ Hid (∃ n D, wr.ownsMap Tryd.prog 3 (unitElem (H := Unit)) (w.heap.size + 1) n D ∧ n ≤ j ∧ AhD (ls.take j) D)) (fun ix _ => ls.length - (intOf ix).toNat)
  case atStart => exact ⟨0, Nat.zero_le _, rfl, HCK, HB0, HK0, Lib.hid ⟨0, _, HO.out, Nat.le_refl _, AhD.nil⟩⟩
  case round =>
    obtain ⟨j, hj, rfl, HC, HB, HK, HM⟩ := hrel
    have k0 := HK.out.cell 0
    dsimp at k0
    have k1 := HK.out.cell 1
    dsimp at k1
    by_cases hlt : j < ls.length
    · have hlt4 : (j : Int) < (ls.length : Int) := by omega
      have hj0 : (0 : Int) ≤ (j : Int) := by omega
      obtain ⟨ad, rfl, hadb, hat⟩ := (HR.out.below (HB.out.mono (Nat.le_of_lt hml))).rd (by omega)
      have HAT := Lib.hid (hat j _ (lnA_at hlt))
      obtain ⟨nA, DA, hA1, hA2, hA3⟩ := HM.out
      obtain ⟨nL, DL, hL1, hL2, hL3⟩ := HL.out
      have HCH := Lib.hid (HC.out.trans (chkL_at hlt))
      have HTK := Lib.hid (take_at hlt)
      have HF := Lib.hid (fun X (hb : Below wr.heap.size wr X) => fault_l X ((HT.out.keep HB.out).keep hb).inst (lnA ls j) (lnA_wf HLW.out hlt) lm nL (w.heap.size + 1) nA ls (ls.take j) DL DA (own_below (own_below hL1 HB.out) hb) hL3 (own_below hA1 hb) hA3)
      have HPUT := Lib.hid (hA3.put (lnA ls j))
      rw [← HTK.out] at HPUT
      have HLT := Lib.hid hlt
      have HA1 := Lib.hid hA1
      have HWL := Lib.hid (lnA_wf HLW.out hlt).lab
      clear hat hlt hL1 hL3 hA1 hA3 HM HTK
      obtain ⟨a0, a1, a2, a3, a4, a5, a6, a7, a8, a9, a10⟩ := HAT.out
      generalize fltL ls (ls.take j) (lnA ls j) = fv at *
      generalize lnA ls j = ii at *
      obtain ⟨lab, ⟨op, d, s, t, b, xx, sc, di, im⟩, tq⟩ := ii
      unfold Ln.vs at HF
      dsimp only at *
      go_wp2_with fail
      go_at_call 23
      refine (HF.out _ (bel_al _)).mono ?_
      rintro e Y ⟨rfl, hb⟩
      have HBY : Hid (Below wr.heap.size wr Y) := Lib.hid (bel_tr (bel_al _) hb)
      have HLY : Hid (Bk Y wr.heap.size 37 #[.int .i64 lab, .int .i64 op, .int .i64 d, .int .i64 s, .int .i64 t, .int .i64 b, .int .i64 xx, .int .i64 sc, .int .i64 di, .int .i64 im, .int .i64 tq]) := Lib.hid ((Bk.new wr _ _).below hb (Bk.new wr _ _).lt)
      have hAY := own_below HA1.out HBY.out
      have HKY := Lib.hid (HK.out.below HBY.out HK.out.lt)
      clear a0 a1 a2 a3 a4 a5 a6 a7 a8 a9 a10 k0 k1 hb HF HAT HA1 HK
      have a0 := HLY.out.cell 0
      dsimp at a0
      by_cases hf : fv = 0
      · subst hf
        rw [if_neg (by decide)] at HCH
        go_wp2_with (first | (at_mapUpdate; refine wpList_mapUpdate_own _ rfl _ _ _ 63 rfl 3 65 keyedN Tryd.underlying63 _ (w.heap.size + 1) nA DA rfl hAY (by simp only [maxLen]; omega) _ _ (.int .i64 lab) rfl rfl (keyOf_int_mk Tryd.underlying3 (i64_lit HWL.out)) (.agg []) [] unitElem_mk ?_; intro Z hown3 hgrow) | fail)
        go_roundw
        case rel =>
          have hlt := HLT.out
          refine ⟨j + 1, by omega, by push_cast; rfl, HCH, Lib.hid ((bel_tr HB.out HBY.out).grown hgrow (by have := bel_tr HB.out HBY.out; exact this.size) (fun k e => by cases e; omega)), Lib.hid ((hgrow.block _ HKY.out.lt (by intro e; injection e with e; omega)).trans HKY.out), Lib.hid ⟨nA + 1, _, hown3, by omega, HPUT.out _⟩⟩
        case measure =>
          have hlt := HLT.out
          simp [intOf]
          omega
      · rw [if_pos hf] at HCH
        have hne : (fv != 0) = true := by simpa using hf
        clear hf
        go_wp2_with fail
        go_ret2
        refine ⟨by rw [HCH.out]; rfl, Tn.of_below (bel_tr HB.out HBY.out), ((HS.out.below (bel_tr HB.out HBY.out))).mono (by omega)⟩
    · obtain rfl : j = ls.length := by omega
      have HE := Lib.hid (HEND.out wr HB.out)
      have hup : ((upL ls : Nat) : Int) ≤ 11000 := by have := upL_le ls; omega
      have HC2 : Hid (ck = (ls.length, 0)) := Lib.hid (by
        rw [HC.out, List.take_of_length_le (Nat.le_refl _), List.drop_of_length_le (Nat.le_refl _)]
        unfold chkL
        rw [if_neg (by omega)])
      go_wp2_with fail
      go_at_call 24
      refine HE.out.mono ?_
      rintro e Y ⟨rfl, ht, hs⟩
      have HTN := Lib.hid ht
      have HSZ := Lib.hid hs
      have HKY : Hid (Bk Y w.heap.size 48 #[.slice A ls.length cap, .map (some mp)]) := Lib.hid ((ht.block _ HK.out.lt (by omega)).trans HK.out)
      clear ht hs k0 k1 HE HK
      have k0 := HKY.out.cell 0
      dsimp at k0
      go_wp2_with fail
      go_ret2
      exact ⟨by rw [HC2.out]; rfl, (Tn.of_below (S := fun k => k = mp) HB.out).trans HTN.out (fun _ h _ => h), HSZ.out⟩
end Ly
end Go.Proofs.YteppmkeoedddnaaDoor
namespace Go.Proofs.YteppmkeoedddnaaDoor
open Go Go.RowKit Go.Shelf Go.Maps
namespace Ly
open Is Nt Rt
set_option linter.unusedVariables false
set_option linter.unusedSimpArgs false
theorem tab_g3 {w : World} (h : TabE w) {m : Nat} (hm : w.heap.size ≤ m) : G3 m := { forms := Nat.lt_of_lt_of_le h.inst.lt hm, own := Nat.lt_of_lt_of_le h.lt hm, tz := Nat.lt_of_lt_of_le h.tlt hm }
theorem tn_bel {mp : Nat} {A B : World} {n : Nat} (h : Tn (fun k => k = mp) A B) (hn : n ≤ A.heap.size) (hm : n ≤ mp) : Below n A B := h.below hn (fun k hk e => by omega)
set_option maxRecDepth 100000 in
set_option maxHeartbeats 4000000 in
theorem bytes_l (w : World) (hT : TabE w) (A : Option Addr) (cap : Nat) (ls : List Ln) (hR : RdL w w.heap.size A ls.length ls) (hN : ls.length ≤ 400) :
    Calls Tryd.prog 9 #[.slice A ls.length cap] w fun e W' => e = .returned (.tuple #[.string (bytS ls), .int .i64 (bytE ls)]) ∧ Below w.heap.size w W' := by
  have HG := Lib.hid (tab_g3 hT (Nat.le_succ w.heap.size))
  have HT := Lib.hid hT
  have HR := Lib.hid hR
  have HLW := Lib.hid hR.oks
  have HKS := Lib.hid (sheet_l w A ls.length cap)
  have hup : upL ls ≤ 1000000 := by have := upL_le ls; omega
  have HVS : Hid (bytS ls = if (chkL ls [] ls).2 ≠ 0 then ⟨#[]⟩ else allS (insL ls ls)) := Lib.hid rfl
  have HVE : Hid (bytE ls = if (chkL ls [] ls).2 ≠ 0 then (chkL ls [] ls).2 else allE (insL ls ls)) := Lib.hid rfl
  obtain ⟨bs, hbs⟩ : ∃ bs, bytS ls = bs := ⟨_, rfl⟩
  obtain ⟨be, hbe⟩ : ∃ be, bytE ls = be := ⟨_, rfl⟩
  rw [hbs] at HVS ⊢
  rw [hbe] at HVE ⊢
  clear hT hR hbs hbe
  go_enter Tryd.func9, Tryd.ntmps9
  go_wp2_with fail
  go_at_call 14
  refine HKS.out.mono ?_
  rintro e w1 ⟨rfl, hb1, hs1⟩
  have hlt1 := hs1.lt
  have HB2 : Hid (Below w.heap.size w (w1.alloc (.cells #[.slice A ls.length cap, .map (some (w.heap.size + 1))] 48))) := Lib.hid (bel_tr hb1 (bel_al _))
  have HK2 : Hid (Bk (w1.alloc (.cells #[.slice A ls.length cap, .map (some (w.heap.size + 1))] 48)) w1.heap.size 48 #[.slice A ls.length cap, .map (some (w.heap.size + 1))]) := Lib.hid (Bk.new _ _ _)
  have HR2 := Lib.hid ((HR.out.below HB2.out).more (Nat.le_succ w.heap.size))
  have HT2 := Lib.hid (HT.out.keep HB2.out)
  have HS2 := Lib.hid (hs1.below (bel_al (.cells #[.slice A ls.length cap, .map (some (w.heap.size + 1))] 48)))
  have hz2 : (w1.alloc (.cells #[.slice A ls.length cap, .map (some (w.heap.size + 1))] 48)).heap.size = w1.heap.size + 1 := by simp
  have HLB := Lib.hid ((callsIn_wide (n := 2)).1 (labels_in 2 (by omega) A cap (w.heap.size + 1) 0 ls (by omega) (by omega) _ HT2.out HG.out HR2.out HS2.out))
  rw [hz2] at HLB
  have HZ2 := Lib.hid hz2
  clear hb1 hs1 hz2
  have k0 := HK2.out.cell 0
  have k1 := HK2.out.cell 1
  dsimp at k0 k1
  go_wp2_with fail
  go_at_call 16
  refine HLB.out.mono ?_
  rintro e w3 ⟨rfl, hl3, ht3, hs3⟩
  have HK3 : Hid (Bk w3 w1.heap.size 48 #[.slice A ls.length cap, .map (some (w.heap.size + 1))]) := Lib.hid ((ht3.block _ HK2.out.lt (by omega)).trans HK2.out)
  have hsz2 : w.heap.size + 1 ≤ (w1.alloc (.cells #[.slice A ls.length cap, .map (some (w.heap.size + 1))] 48)).heap.size := by rw [HZ2.out]; omega
  have HB3 : Hid (Below w.heap.size w w3) := Lib.hid (HB2.out.trans (tn_bel ht3 (by omega) (by omega)))
  have HT3 : Hid (TabE w3) := Lib.hid (HT.out.keep HB3.out)
  have HR3 := Lib.hid ((HR.out.below HB3.out).more (Nat.le_succ w.heap.size))
  have HL3 := Lib.hid hl3
  have HS3 := Lib.hid hs3
  have hlt3 := hs3.lt
  have HCK := Lib.hid (check_l' A cap (w.heap.size + 1) (0 + ls.length) (w1.heap.size + 1 + 1) ls.length ls (by omega) (by omega) w3 HT3.out HG.out HR3.out HS3.out HL3.out)
  clear hl3 ht3 hs3 HLB k0 k1
  have k0 := HK3.out.cell 0
  have k1 := HK3.out.cell 1
  dsimp at k0 k1
  go_wp2_with fail
  go_at_call 15
  refine HCK.out.mono ?_
  rintro e w4 ⟨rfl, ht4, hs4⟩
  have HK4 : Hid (Bk w4 w1.heap.size 48 #[.slice A ls.length cap, .map (some (w.heap.size + 1))]) := Lib.hid ((ht4.block _ HK3.out.lt (by omega)).trans HK3.out)
  have HB4 : Hid (Below w.heap.size w w4) := Lib.hid (HB3.out.trans (tn_bel ht4 (by omega) (by omega)))
  have HT4 : Hid (TabE w4) := Lib.hid (HT.out.keep HB4.out)
  have HR4 := Lib.hid ((HR.out.below HB4.out).more (Nat.le_succ w.heap.size))
  have HL4 := Lib.hid (HL3.out.same (ht4.block _ HL3.out.lt (by omega)))
  have HS4 := Lib.hid hs4
  have hlt4 := hs4.lt
  clear ht4 hs4 HCK k0 k1
  have k0 := HK4.out.cell 0
  have k1 := HK4.out.cell 1
  dsimp at k0 k1
  by_cases hok : (chkL ls [] ls).2 = 0
  · rw [if_neg (by simpa using hok)] at HVS HVE
    have HOK : Hid (∀ l ∈ ls, l.lab = 0 → jmpB l.ins = true → ∃ p, look ls l.to = some p ∧ 0 < l.to) := Lib.hid (fun l hl h0 hj => by
      obtain ⟨pre, hf⟩ := okC_mem (by omega) (show okC ls from hok) hl
      obtain ⟨hp, k, hk⟩ := hasL_look (jmp_to hf h0 hj)
      exact ⟨k, hk, hp⟩)
    have HIN := Lib.hid ((callsIn_wide (n := 2)).1 (ins_in 2 (by omega) A cap (w.heap.size + 1) (0 + ls.length + ls.length) (w1.heap.size + 1 + 1) ls.length ls (by omega) (by omega) w4 HT4.out HG.out HR4.out HS4.out HL4.out (by omega) HOK.out))
    generalize (chkL ls [] ls).2 = ce at *
    subst hok
    go_wp2_with fail
    go_at_call 19
    refine HIN.out.mono ?_
    rintro e w5 ⟨v, rfl, hrow, ht5, hs5⟩
    obtain ⟨A2, c2, rfl⟩ := rx_form hrow
    have HIW := Lib.hid (insL_wf (all := ls) (by omega) ls HLW.out (by omega))
    obtain ⟨_, hrd, hc2⟩ := rx_rd hrow HIW.out
    have HB5 : Hid (Below w.heap.size w w5) := Lib.hid (HB4.out.trans (tn_bel ht5 (by omega) (by omega)))
    have HAL := Lib.hid (all_l A2 (insL ls ls).length c2 (insL ls ls) w5 (HT.out.keep HB5.out) hrd (by have := insL_len ls ls; omega) hc2)
    clear hrow ht5 hs5 hrd
    rw [← HVS.out, ← HVE.out] at HAL
    generalize (insL ls ls).length = nn at *
    go_wp2_with fail
    go_at_call 18
    refine HAL.out.mono ?_
    rintro e w6 ⟨rfl, hb6⟩
    have HB6 := Lib.hid (bel_tr HB5.out hb6)
    clear hb6
    go_wp2_with fail
    go_ret2
    exact ⟨rfl, HB6.out⟩
  · rw [if_pos hok] at HVS HVE
    have hne : ((chkL ls [] ls).2 != 0) = true := by simpa using hok
    clear hok
    generalize (chkL ls [] ls).2 = ce at *
    go_wp2_with fail
    go_ret2
    exact ⟨by rw [HVS.out, HVE.out]; rfl, HB4.out⟩
end Ly
end Go.Proofs.YteppmkeoedddnaaDoor
namespace Go.Proofs.YteppmkeoedddnaaDoor
open Go Go.RowKit Go.Shelf Go.Maps
namespace Ly
open Is Nt Rt
set_option linter.unusedVariables false
set_option linter.unusedSimpArgs false
theorem rdL_cells {w : World} {B n : Nat} {A : Option Addr} {ls : List Ln} (h : RdL w B A n ls) (h0 : 0 < n) : ∃ ad, A = some ad ∧ ad.block < B ∧ ∀ j u, (lnRow ls)[j]? = some u → w.cell? (ad.add j) = some u := by
  obtain ⟨ad, e, hB, hc⟩ := h.rd h0
  refine ⟨ad, e, hB, fun j u hu => ?_⟩
  have hj := (List.getElem?_eq_some_iff.1 hu).1
  rw [lnRow_len] at hj
  obtain ⟨l, hl⟩ : ∃ l, ls[j / 11]? = some l := ⟨_, List.getElem?_eq_getElem (by omega)⟩
  obtain ⟨k0, k1, k2, k3, k4, k5, k6, k7, k8, k9, k10⟩ := hc _ _ hl
  have hg := lnRow_get (d := j % 11) hl (by omega)
  rw [show j / 11 * 11 + j % 11 = j by omega, hu] at hg
  have he : ∀ d, d ≠ 0 → ad.add (j / 11 * 11 + d) = ⟨(ad.add (j / 11 * 11)).block, (ad.add (j / 11 * 11)).off + d, none⟩ := fun d hd => by
    unfold Addr.add
    rcases Nat.eq_zero_or_pos (j / 11 * 11) with h0 | h0
    · rw [h0]; simp [hd]
    · simp [hd, Nat.ne_of_gt h0]; omega
  obtain ⟨d, hd⟩ : ∃ d, j % 11 = d := ⟨_, rfl⟩
  have hjd : j = j / 11 * 11 + d := by omega
  rw [hd] at hg
  rw [hjd]
  have hjj : (j / 11 * 11 + d) / 11 * 11 = j / 11 * 11 := by omega
  rcases (by omega : d = 0 ∨ d = 1 ∨ d = 2 ∨ d = 3 ∨ d = 4 ∨ d = 5 ∨ d = 6 ∨ d = 7 ∨ d = 8 ∨ d = 9 ∨ d = 10) with rfl | rfl | rfl | rfl | rfl | rfl | rfl | rfl | rfl | rfl | rfl
  · rw [Nat.add_zero, k0]; exact hg.symm
  · rw [he 1 (by omega), k1]; exact hg.symm
  · rw [he 2 (by omega), k2]; exact hg.symm
  · rw [he 3 (by omega), k3]; exact hg.symm
  · rw [he 4 (by omega), k4]; exact hg.symm
  · rw [he 5 (by omega), k5]; exact hg.symm
  · rw [he 6 (by omega), k6]; exact hg.symm
  · rw [he 7 (by omega), k7]; exact hg.symm
  · rw [he 8 (by omega), k8]; exact hg.symm
  · rw [he 9 (by omega), k9]; exact hg.symm
  · rw [he 10 (by omega), k10]; exact hg.symm
theorem lnRow_set {xs : List Ln} {k d : Nat} {x y : Ln} {u : Value} (hk : xs[k]? = some x) (hd : d < 11) (hy : y.vs.toList = x.vs.toList.set d u) : (lnRow xs).set (k * 11 + d) u = lnRow (xs.set k y) := by
  induction xs generalizing k with
  | nil => cases hk
  | cons p xs ih =>
    cases k with
    | zero =>
      obtain rfl : p = x := by simpa using hk
      show (p.vs.toList ++ lnRow xs).set (0 * 11 + d) u = y.vs.toList ++ lnRow xs
      rw [Nat.zero_mul, Nat.zero_add, List.set_append_left _ _ (by rw [lvs_len]; exact hd), hy]
    | succ k =>
      have hk' : xs[k]? = some x := by simpa using hk
      show (p.vs.toList ++ lnRow xs).set ((k + 1) * 11 + d) u = p.vs.toList ++ lnRow (xs.set k y)
      rw [List.set_append_right _ _ (by rw [lvs_len]; omega), lvs_len, show (k + 1) * 11 + d - 11 = k * 11 + d by omega, ih hk']
theorem rl_bk {w : World} {B g : Nat} {xs : List Ln} (h : Bk w g 37 (lnRow xs).toArray) (hB : B ≤ g) (hl : xs.length ≤ 1000000) : Rls B (.slice (some ⟨g, 0, none⟩) xs.length xs.length) xs w := by
  have hsz : (lnRow xs).toArray.size = xs.length * 11 := by rw [List.size_toArray, lnRow_len]
  exact ⟨lnRow_len xs, .inr ⟨g, xs.length, (lnRow xs).toArray, rfl, hB, h, Nat.le_refl _, by simp only [maxLen]; omega, hsz, List.take_of_length_le (by rw [Array.length_toList, hsz]; exact Nat.le_refl _)⟩⟩
theorem lnRow_one' (xs : List Ln) : ∀ u ∈ lnRow xs, u.oneCell' = true := fun u hu => by
  obtain ⟨x, _, hx⟩ := List.mem_flatMap.1 hu
  exact vs_one11 x u hx
def OwnLP (ls : List Ln) (w : World) (e : Ending) (w' : World) : Prop := Below w.heap.size w w' ∧ ∃ g c, e = .returned (.slice (some ⟨g, 0, none⟩) ls.length c) ∧ Hid (Rls w.heap.size (.slice (some ⟨g, 0, none⟩) ls.length c) ls w')
theorem kownL_c (A : Option Addr) (n c : Nat) (ls : List Ln) (w : World) (h : Hid (RdL w w.heap.size A n ls)) (hn : n ≤ 100000) :
    Calls Tryd.prog 13 #[.slice A n c] w (OwnLP ls w) := by
  obtain ⟨W2, hW2⟩ : ∃ W2, W2 = w.alloc (.cells #[] 37) := ⟨_, rfl⟩
  have hY : Bk W2 w.heap.size 37 #[] := by rw [hW2]; exact Bk.new _ _ _
  have hb2 : Below w.heap.size w W2 := by rw [hW2]; exact bel_al _
  have hlen := h.out.len
  obtain ⟨i, hi, hz, h2, h3⟩ := info_parts info_line
  have hown : W2.ownsRow w.heap.size 37 11 (.slice (some ⟨w.heap.size, 0, none⟩) 0 0) 0 [] := rl_bk (xs := []) hY (Nat.le_refl _) (by simp)
  have key : ∃ g c' w3, (Builtin.append_ #[22, 22] 22 #[.slice (some ⟨w.heap.size, 0, none⟩) 0 0, .slice A n c]).run Tryd.prog W2 = .ok (.slice (some ⟨g, 0, none⟩) n c') w3 ∧ Below w.heap.size w w3 ∧ w3.ownsRow w.heap.size 37 11 (.slice (some ⟨g, 0, none⟩) n c') n (lnRow ls) := by
    rcases Nat.eq_zero_or_pos n with h0 | h0
    · subst h0
      obtain rfl : ls = [] := List.eq_nil_of_length_eq_zero hlen
      rcases A with _ | ad
      · exact ⟨w.heap.size, 0, W2, Is.run_append_nil 22 22 37 i Tryd.underlying22 hi _ _ _ _ _ hown c, hb2, hown⟩
      · obtain ⟨v', w3, hrun, h4, h5, h6, h7⟩ := run_append_own_at (P := Tryd.prog) (w := W2) w.heap.size 22 22 37 i _ 11 88 Tryd.underlying22 hi hz h2 h3 rfl (by omega) _ 0 _ hown ad 0 c [] rfl (fun j u hu => by simp at hu) (fun u hu => by cases hu) (by simp [maxLen]) (by omega) (by have := hb2.size; omega)
        rcases h4.2 with ⟨e, _⟩ | ⟨g, c', cur, rfl, _⟩
        · exact absurd (h6.1 e).1 (by intro e; cases e)
        · exact ⟨g, c', w3, hrun, hb2.trans (Below.grown (Below.refl _ _) h5 (by have := hb2.size; omega) (fun k e => by simp [Value.ownBlock] at e; omega)), h4⟩
    · obtain ⟨ad, rfl, hbad, hat⟩ := rdL_cells h.out h0
      obtain ⟨v', w3, hrun, h4, h5, h6, h7⟩ := run_append_own_at (P := Tryd.prog) (w := W2) w.heap.size 22 22 37 i _ 11 88 Tryd.underlying22 hi hz h2 h3 rfl (by omega) _ 0 _ hown ad n c (lnRow ls) (by rw [lnRow_len, hlen]) (fun j u hu => by rw [hb2.cell (by rw [Nt.block_add]; exact hbad)]; exact hat j u hu)
        (lnRow_one' ls) (by simp only [maxLen]; omega) (by omega) (by have := hb2.size; omega)
      have hb3 : Below w.heap.size w w3 := hb2.trans (Below.grown (Below.refl _ _) h5 (by have := hb2.size; omega) (fun k e => by simp [Value.ownBlock] at e; omega))
      rw [List.nil_append, Nat.zero_add] at h4
      rcases h4.2 with ⟨e, _⟩ | ⟨g, c', cur, rfl, _⟩
      · exact absurd (h6.1 e).1 (by intro e; cases e)
      · exact ⟨g, c', w3, hrun, hb3, h4⟩
  obtain ⟨g, c', w3, hap, hb3, hS⟩ := key
  have hP : Hid (OwnLP ls w (.returned (.slice (some ⟨g, 0, none⟩) n c')) w3) := Lib.hid ⟨hb3, g, c', by rw [hlen], Lib.hid (by unfold Rls; rw [hlen]; exact hS)⟩
  rw [hW2] at hap
  clear hY hb2 hlen hown hi hz h2 h3 hb3 hS hW2
  go_enter Tryd.func13, Tryd.ntmps13
  go_wp2_with (at_builtin; refine wpList_append_eq rfl (.tmp 3) (.tmp 4) 22 rfl _ _ rfl rfl _ _ hap ?_)
  go_ret
  exact hP.out
/-! ### labels turned one by one -/
def mid (d : Int) (ls : List Ln) (k : Nat) : List Ln := (ls.take k).map (ren d) ++ ls.drop k
theorem mid_0 (d : Int) (ls : List Ln) : mid d ls 0 = ls := by simp [mid]
theorem mid_len (d : Int) (ls : List Ln) (k : Nat) : (mid d ls k).length = ls.length := by simp [mid]; omega
theorem mid_all (d : Int) (ls : List Ln) : mid d ls ls.length = ls.map (ren d) := by simp [mid]
theorem mid_get {d : Int} {ls : List Ln} {k : Nat} {l : Ln} (h : ls[k]? = some l) : (mid d ls k)[k]? = some l := by
  have hk := (List.getElem?_eq_some_iff.1 h).1
  unfold mid
  rw [List.getElem?_append_right (by simp; omega)]
  simp only [List.length_map, List.length_take, List.getElem?_drop]
  rw [show k + (k - min k ls.length) = k by omega]
  exact h
theorem mid_set {d : Int} {ls : List Ln} {k : Nat} {l : Ln} (h : ls[k]? = some l) : (mid d ls k).set k (ren d l) = mid d ls (k + 1) := by
  have hk := (List.getElem?_eq_some_iff.1 h).1
  have e : l = ls[k] := by rw [List.getElem?_eq_getElem hk] at h; exact (Option.some.inj h).symm
  unfold mid
  rw [List.set_append_right _ _ (by simp; omega)]
  simp only [List.length_map, List.length_take]
  rw [show k - min k ls.length = 0 by omega, List.drop_eq_getElem_cons hk, List.set_cons_zero, List.take_succ_eq_append_getElem hk, List.map_append, List.append_assoc, ← e]
  rfl
theorem ren_wf {d : Int} {l : Ln} (h : l.wf) (hd : 0 ≤ d ∧ d ≤ 2000000) (h1 : l.lab ≤ 1099511627776) (h2 : l.to ≤ 1099511627776) : (ren d l).wf := by
  have ha := h.lab
  have hb := h.to
  refine ⟨?_, h.ins, ?_⟩
  · show I64 (rn d l.lab)
    unfold rn I64 at *
    split <;> omega
  · show I64 (rn d l.to)
    unfold rn I64 at *
    split <;> omega
theorem mid_wf {d : Int} {ls : List Ln} {k : Nat} {l : Ln} (h : ls[k]? = some l) (hw : ∀ x ∈ mid d ls k, x.wf) (hd : 0 ≤ d ∧ d ≤ 2000000) (h1 : l.lab ≤ 1099511627776) (h2 : l.to ≤ 1099511627776) : ∀ x ∈ mid d ls (k + 1), x.wf := by
  intro x hx
  rw [← mid_set h] at hx
  rcases List.mem_or_eq_of_mem_set hx with hx | rfl
  · exact hw x hx
  · exact ren_wf (hw l (List.mem_of_getElem? (mid_get h))) hd h1 h2
/-- what a round leaves: the row with one line turned -/
theorem mid_store {d : Int} {ls : List Ln} {k n B g c : Nat} {l : Ln} {w : World} (h : ls[k]? = some l) (hr : w.ownsRow B 37 11 (.slice (some ⟨g, 0, none⟩) n c) n (lnRow (mid d ls k))) :
    (¬ 0 < l.lab → ¬ 0 < l.to → w.ownsRow B 37 11 (.slice (some ⟨g, 0, none⟩) n c) n (lnRow (mid d ls (k + 1)))) ∧
    (0 < l.lab → ¬ 0 < l.to → (w.setCell ⟨g, k * 11, none⟩ (.int .i64 (l.lab + d))).ownsRow B 37 11 (.slice (some ⟨g, 0, none⟩) n c) n (lnRow (mid d ls (k + 1)))) ∧
    (¬ 0 < l.lab → 0 < l.to → (w.setCell ⟨g, k * 11 + 10, none⟩ (.int .i64 (l.to + d))).ownsRow B 37 11 (.slice (some ⟨g, 0, none⟩) n c) n (lnRow (mid d ls (k + 1)))) ∧
    (0 < l.lab → 0 < l.to → ((w.setCell ⟨g, k * 11, none⟩ (.int .i64 (l.lab + d))).setCell ⟨g, k * 11 + 10, none⟩ (.int .i64 (l.to + d))).ownsRow B 37 11 (.slice (some ⟨g, 0, none⟩) n c) n (lnRow (mid d ls (k + 1)))) := by
  have hg := mid_get (d := d) h
  have hl := (List.getElem?_eq_some_iff.1 hg).1
  rw [← mid_set h]
  refine ⟨fun h1 h2 => ?_, fun h1 h2 => ?_, fun h1 h2 => ?_, fun h1 h2 => ?_⟩
  · have e : ren d l = l := by unfold ren rn; rw [if_neg h1, if_neg h2]
    have e2 : (mid d ls k).set k l = mid d ls k := by
      have e3 : (mid d ls k)[k] = l := by rw [List.getElem?_eq_getElem hl] at hg; exact Option.some.inj hg
      rw [← e3, List.set_getElem_self]
    rw [e, e2]
    exact hr
  · have := (hr.stored (k * 11) (.int .i64 (l.lab + d))).1
    rw [show k * 11 = k * 11 + 0 from rfl, lnRow_set (d := 0) (y := ren d l) hg (by omega) (by unfold ren rn; rw [if_pos h1, if_neg h2]; rfl)] at this
    exact this
  · have := (hr.stored (k * 11 + 10) (.int .i64 (l.to + d))).1
    rw [lnRow_set (d := 10) (y := ren d l) hg (by omega) (by unfold ren rn; rw [if_neg h1, if_pos h2]; rfl)] at this
    exact this
  · have h3 := (hr.stored (k * 11) (.int .i64 (l.lab + d))).1
    rw [show k * 11 = k * 11 + 0 from rfl, lnRow_set (d := 0) (y := { l with lab := l.lab + d }) hg (by omega) rfl] at h3
    have h4 := (h3.stored (k * 11 + 10) (.int .i64 (l.to + d))).1
    rw [lnRow_set (d := 10) (x := { l with lab := l.lab + d }) (y := ren d l) (List.getElem?_set_self hl) (by omega) (by unfold ren rn; rw [if_pos h1, if_pos h2]; rfl), List.set_set] at h4
    exact h4
theorem mid_far {d v : Int} {ls : List Ln} {k n B g c : Nat} {l : Ln} {w : World} (h : ls[k]? = some l) (hr : w.ownsRow B 37 11 (.slice (some ⟨g, 0, none⟩) n c) n (lnRow (mid d ls k))) (hk : k < n) :
    (w.setCell ⟨g, k * 11, none⟩ (.int .i64 v)).cell? ⟨g, k * 11 + 10, none⟩ = some (.int .i64 l.to) ∧ (w.setCell ⟨g, k * 11, none⟩ (.int .i64 v)).frozen? ⟨g, k * 11 + 10, none⟩ = false := by
  have hg := mid_get (d := d) h
  have hl := (List.getElem?_eq_some_iff.1 hg).1
  have h3 := (hr.stored (k * 11) (.int .i64 v)).1
  rw [show k * 11 = k * 11 + 0 from rfl, lnRow_set (d := 0) (y := { l with lab := v }) hg (by omega) rfl] at h3
  refine ⟨?_, h3.frozenAt _⟩
  have := h3.cellAt (k * 11 + 10) (by omega)
  rw [lnRow_get (List.getElem?_set_self hl) (by omega)] at this
  exact this
/-! ### the laws' first look -/
def lv1 : Ln := ⟨1, zI, 0⟩
def lv2 : Ln := ⟨0, { zI with op := 30 }, 1⟩
theorem lv_s : bytS [lv1, lv2] = ⟨#[233, 251, 255, 255, 255]⟩ := by decide +kernel
theorem lv_e : bytE [lv1, lv2] = 0 := by decide +kernel
theorem lv_wf : ∀ l ∈ [lv1, lv2], l.wf := by
  intro l hl
  simp only [List.mem_cons, List.not_mem_nil, or_false] at hl
  rcases hl with rfl | rfl
  · exact ⟨by unfold I64 lv1; decide, zI_wf, i64_0⟩
  · exact ⟨by unfold I64 lv2; decide, ⟨by unfold I64 lv2 zI; decide, i64_0, i64_0, i64_0, i64_0, i64_0, i64_0, i64_0, i64_0⟩, by unfold I64 lv2; decide⟩
set_option maxRecDepth 100000 in
theorem llives_c (w : World) (hT : TabE w) : Calls Tryd.prog 6 #[] w fun e w' => e = .returned (.bool true) ∧ Below w.heap.size w w' := by
  obtain ⟨W1, hW1⟩ : ∃ W1, W1 = w.alloc (.cells (lnRow [lv1, lv2]).toArray 37) := ⟨_, rfl⟩
  have hb1 : Below w.heap.size w W1 := by rw [hW1]; exact bel_al _
  have hbk : Bk W1 w.heap.size 37 (lnRow [lv1, lv2]).toArray := by rw [hW1]; exact Bk.new _ _ _
  have hrd := (rl_rd (rl_bk (xs := [lv1, lv2]) hbk (Nat.le_refl _) (by simp)) lv_wf).2.1
  have HB := Lib.hid (bytes_l W1 (hT.keep hb1) (some ⟨w.heap.size, 0, none⟩) 2 [lv1, lv2] hrd (by simp))
  rw [lv_s, lv_e, hW1] at HB
  have HB1 := Lib.hid hb1
  rw [hW1] at HB1
  clear hrd hbk hb1 hW1 hT
  go_enter Tryd.func6, Tryd.ntmps6
  go_wp2_with fail
  go_at_call 9
  refine HB.out.mono ?_
  rintro e w2 ⟨rfl, hb2⟩
  have HB2 := Lib.hid (bel_tr HB1.out hb2)
  clear hb2
  go_wp2_with fail
  go_ret
  exact ⟨rfl, HB2.out⟩
end Ly
end Go.Proofs.YteppmkeoedddnaaDoor
