/- LayoutLabels: a text whose labels are renamed has the same bytes. -/
import Derived.Test.YteppmkeoedddnaaDoorYA
namespace Go.Proofs.YteppmkeoedddnaaDoor
open Go Go.RowKit
namespace layoutLabels
open Ly Is Nt Rt
set_option linter.unusedVariables false
set_option linter.unusedSimpArgs false
set_option maxRecDepth 100000 in
set_option maxHeartbeats 4000000 in
theorem walk_ (w : World) (HT : Hid (TabE w)) (A : Option Addr) (n c : Nat) (ls : List Ln) (b : Int) (hR : RdL w w.heap.size A n ls) (hn : n ≤ c) (hm : c ≤ 9223372036854775807) (hb : (Lit.int .i64 b).wf = true) :
    Calls Tryd.prog 4 #[.slice A n c, .int .i64 b] w fun e w' => e = .returned (.bool true) ∧ Below w.heap.size w w' := by
  have HL := Lib.hid (llives_c w HT.out)
  rcases Nat.lt_or_ge 60 n with hbig | hsm
  · have hb1 : (60 : Int) < (n : Int) := by omega
    clear hR hn hm hb
    go_enter Tryd.func4, Tryd.ntmps4
    go_wp2_with fail
    go_at_call 6
    refine HL.out.mono ?_
    rintro e w1 ⟨rfl, hb1⟩
    have HB1 := Lib.hid hb1
    clear hb1 HL
    go_wp2_with fail
    go_ret
    exact ⟨rfl, HB1.out⟩
  · have hs1 : (n : Int) ≤ 60 := by omega
    obtain ⟨d, hd⟩ : ∃ d, Kit.pick b 1000 = d := ⟨_, rfl⟩
    have hdb := Kit.pick_lt (n := b) (m := 1000) (by omega)
    have HP := Lib.hid (fun W => Kit.pick_c b 1000 W hb (by decide))
    rw [hd] at hdb HP
    obtain ⟨hd0, hd1⟩ := hdb
    have hlen : ls.length = n := hR.len
    have HLN := Lib.hid hlen
    have HR := Lib.hid hR
    have HO := Lib.hid (fun (W : World) (hB : Below w.heap.size w W) => kownL_c A n c ls W (Lib.hid ((hR.below hB).more hB.size)) (by omega))
    have HBY := Lib.hid (fun (W : World) (hB : Below w.heap.size w W) => bytes_l W (HT.out.keep hB) A c ls (by rw [hlen]; exact (hR.below hB).more hB.size) (by omega))
    rw [hlen] at HBY
    have HWF := Lib.hid hR.oks
    clear hb hd hR
    go_enter Tryd.func4, Tryd.ntmps4
    go_wp2_with fail
    go_at_call 6
    refine HL.out.mono ?_
    rintro e w1 ⟨rfl, hb1⟩
    have HB1 := Lib.hid hb1
    clear hb1 HL
    go_wp2_with fail
    go_at_call 12
    refine (HP.out _).mono ?_
    rintro e w2 ⟨rfl, rfl⟩
    go_wp2_with fail
    go_at_call 13
    refine (HO.out _ HB1.out).mono ?_
    rintro e w2 ⟨hb2, g, c2, rfl, hO⟩
    have hO1 := hO.out
    unfold Rls at hO1
    rw [hlen] at hO1 ⊢
    have HB2 := Lib.hid (bel_tr HB1.out hb2)
    have HROW : Hid (w2.ownsRow w.heap.size 37 11 (.slice (some ⟨g, 0, none⟩) n c2) n (lnRow (mid d ls 0))) := Lib.hid (by rw [mid_0]; exact own_base hO1 HB1.out.size)
    have HW0 : Hid (∀ x ∈ mid d ls 0, x.wf) := Lib.hid (by rw [mid_0]; exact HWF.out)
    clear hb2 hO hO1 HO HP
    go_wp2_with fail
    go_loopw [6] (fun i W => ∃ k : Nat, k ≤ n ∧ i = .int .i64 (k : Int) ∧ Hid (W.ownsRow w.heap.size 37 11 (.slice (some ⟨g, 0, none⟩) n c2) n (lnRow (mid d ls k))) ∧ Hid (∀ x ∈ mid d ls k, x.wf) ∧ Hid (Below w.heap.size w W)) (fun i _ => n - (intOf i).toNat)
    case atStart => exact ⟨0, Nat.zero_le _, rfl, HROW, HW0, HB2⟩
    case round =>
      obtain ⟨k, hk, rfl, HRW, HWK, HW⟩ := hrel
      rcases Nat.lt_or_ge k n with hkn | hkn
      · have hkni : (k : Int) < (n : Int) := by omega
        have hk0 : (0 : Int) ≤ (k : Int) := by omega
        obtain ⟨l, hl⟩ : ∃ l, ls[k]? = some l := ⟨_, List.getElem?_eq_getElem (by omega)⟩
        have HLK := Lib.hid hl
        have hwl := HWK.out l (List.mem_of_getElem? (mid_get hl))
        have hla := hwl.lab
        have hto := hwl.to
        unfold I64 at hla hto
        obtain ⟨la, hlaq⟩ : ∃ la, l.lab = la := ⟨_, rfl⟩
        obtain ⟨tq, htq⟩ : ∃ tq, l.to = tq := ⟨_, rfl⟩
        have c0 : wr.cell? ⟨g, k * 11, none⟩ = some (.int .i64 la) := by
          rw [← hlaq, show k * 11 = k * 11 + 0 from rfl, HRW.out.cellAt _ (by omega), lnRow_get (mid_get hl) (by omega)]; rfl
        have c10 : wr.cell? ⟨g, k * 11 + 10, none⟩ = some (.int .i64 tq) := by
          rw [← htq, HRW.out.cellAt _ (by omega), lnRow_get (mid_get hl) (by omega)]; rfl
        have HSTO := Lib.hid (mid_store (d := d) hl HRW.out)
        rw [hlaq, htq] at HSTO
        have HFAR := Lib.hid (mid_far (d := d) (v := la + d) hl HRW.out hkn)
        rw [htq] at HFAR
        have HWN : Hid (la ≤ 1099511627776 → tq ≤ 1099511627776 → ∀ x ∈ mid d ls (k + 1), x.wf) := Lib.hid (fun h1 h2 => mid_wf hl HWK.out ⟨hd0, by omega⟩ (by omega) (by omega))
        have f0 := HRW.out.frozenAt (k * 11)
        have f10 := HRW.out.frozenAt (k * 11 + 10)
        have hgl := (HRW.out.lt g rfl).2
        have hgw := (HRW.out.lt g rfl).1
        rw [hlaq] at hla
        rw [htq] at hto
        clear hwl hl hlaq htq HRW HWK
        by_cases h1 : (1099511627776 : Int) < la
        · go_wp2_with fail
          go_ret
          exact ⟨rfl, HW.out⟩
        by_cases h2 : (1099511627776 : Int) < tq
        · go_wp2_with fail
          go_ret
          exact ⟨rfl, HW.out⟩
        obtain ⟨hl1, hl2⟩ := hla
        obtain ⟨ht1, ht2⟩ := hto
        have hm1 : la ≤ 1099511627776 := by omega
        have hm2 : tq ≤ 1099511627776 := by omega
        have HWF1 := Lib.hid (HWN.out hm1 hm2)
        clear HWN
        by_cases h3 : (0 : Int) < la
        · have HWA : Hid (Below w.heap.size w (wr.setCell ⟨g, k * 11, none⟩ (.int .i64 (la + d)))) := Lib.hid (HW.out.setCell (p := ⟨g, k * 11, none⟩) (show w.heap.size ≤ g from hgw) _)
          have d10 := HFAR.out.1
          have e10 := HFAR.out.2
          by_cases h4 : (0 : Int) < tq
          · have HWB : Hid (Below w.heap.size w ((wr.setCell ⟨g, k * 11, none⟩ (.int .i64 (la + d))).setCell ⟨g, k * 11 + 10, none⟩ (.int .i64 (tq + d)))) := Lib.hid (HWA.out.setCell (p := ⟨g, k * 11 + 10, none⟩) (show w.heap.size ≤ g from hgw) _)
            have HS := Lib.hid (HSTO.out.2.2.2 h3 h4)
            clear HSTO
            go_wp2_with fail
            go_roundw
            case rel => exact ⟨k + 1, by omega, by go_num, HS, HWF1, HWB⟩
            case measure => (simp [intOf] <;> omega)
          · have HS := Lib.hid (HSTO.out.2.1 h3 h4)
            clear HSTO
            go_wp2_with fail
            go_roundw
            case rel => exact ⟨k + 1, by omega, by go_num, HS, HWF1, HWA⟩
            case measure => (simp [intOf] <;> omega)
        · by_cases h4 : (0 : Int) < tq
          · have HWB : Hid (Below w.heap.size w (wr.setCell ⟨g, k * 11 + 10, none⟩ (.int .i64 (tq + d)))) := Lib.hid (HW.out.setCell (p := ⟨g, k * 11 + 10, none⟩) (show w.heap.size ≤ g from hgw) _)
            have HS := Lib.hid (HSTO.out.2.2.1 h3 h4)
            clear HSTO
            go_wp2_with fail
            go_roundw
            case rel => exact ⟨k + 1, by omega, by go_num, HS, HWF1, HWB⟩
            case measure => (simp [intOf] <;> omega)
          · have HS := Lib.hid (HSTO.out.1 h3 h4)
            clear HSTO
            go_wp2_with fail
            go_roundw
            case rel => exact ⟨k + 1, by omega, by go_num, HS, HWF1, HW⟩
            case measure => (simp [intOf] <;> omega)
      · obtain rfl : k = n := by omega
        have hrow : Rls w.heap.size (.slice (some ⟨g, 0, none⟩) k c2) (mid d ls k) wr := by
          have h := HRW.out
          unfold Rls
          rw [mid_len, hlen]; exact h
        have hrd := (rl_rd hrow HWK.out).2.1
        rw [show mid d ls k = ls.map (ren d) from by rw [← hlen, mid_all]] at hrd
        have HRD := Lib.hid hrd
        have HB1 := Lib.hid (HBY.out wr HW.out)
        have HBM := Lib.hid (fun (W : World) (hB : Below wr.heap.size wr W) => bytes_l W ((HT.out.keep HW.out).keep hB) (some ⟨g, 0, none⟩) c2 (ls.map (ren d)) (by rw [List.length_map, hlen]; exact (HRD.out.below hB).more hB.size) (by rw [List.length_map]; omega))
        rw [List.length_map, hlen, (byt_ren hd0 ls).1, (byt_ren hd0 ls).2] at HBM
        clear hrd hrow HBY HRW HWK HRD HWF HROW HW0 HB2
        generalize bytS ls = sq at *
        generalize bytE ls = eq at *
        go_wp2_with fail
        go_at_call 9
        refine HB1.out.mono ?_
        rintro e w3 ⟨rfl, hb3⟩
        have HB3 := Lib.hid hb3
        have HB4 := Lib.hid (bel_tr HW.out hb3)
        clear hb3
        go_wp2_with fail
        go_at_call 9
        refine (HBM.out _ HB3.out).mono ?_
        rintro e w4 ⟨rfl, hb4⟩
        have HB5 := Lib.hid (bel_tr HB4.out hb4)
        clear hb4
        go_wp2_with fail
        go_ret
        exact ⟨rfl, HB5.out⟩
end layoutLabels
end Go.Proofs.YteppmkeoedddnaaDoor
