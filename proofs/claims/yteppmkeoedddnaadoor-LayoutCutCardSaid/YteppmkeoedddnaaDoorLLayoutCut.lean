/- LayoutCut: two texts behind one another, the second one's labels moved behind the first one's. -/
import Derived.Test.YteppmkeoedddnaaDoorYA
import Derived.Lib.MinMax
namespace Go.Proofs.YteppmkeoedddnaaDoor
open Go Go.RowKit
namespace layoutCut
open Ly Is Nt Rt
set_option linter.unusedVariables false
set_option linter.unusedSimpArgs false
/-- the greatest label so far -/
def mxL (ls : List Ln) (k : Nat) : Int := (ls.take k).foldl (fun m l => max (max m l.lab) l.to) 0
theorem mxL_succ {ls : List Ln} {k : Nat} {l : Ln} (h : ls[k]? = some l) : mxL ls (k + 1) = max (max (mxL ls k) l.lab) l.to := by
  have hk := (List.getElem?_eq_some_iff.1 h).1
  have e : ls[k] = l := by rw [List.getElem?_eq_getElem hk] at h; exact Option.some.inj h
  unfold mxL
  rw [List.take_succ_eq_append_getElem hk, List.foldl_append, e]
  rfl
theorem mxL_le {ls : List Ln} : ∀ {k : Nat}, k ≤ ls.length → 0 ≤ mxL ls k ∧ ∀ x ∈ ls.take k, x.lab ≤ mxL ls k ∧ x.to ≤ mxL ls k := by
  intro k
  induction k with
  | zero => intro _; exact ⟨by unfold mxL; simp, fun x hx => by simp at hx⟩
  | succ k ih =>
    intro hk
    obtain ⟨h0, h1⟩ := ih (by omega)
    obtain ⟨l, hl⟩ : ∃ l, ls[k]? = some l := ⟨_, List.getElem?_eq_getElem (by omega)⟩
    rw [mxL_succ hl]
    refine ⟨by omega, fun x hx => ?_⟩
    rw [List.take_succ_eq_append_getElem (by omega)] at hx
    rcases List.mem_append.1 hx with hx | hx
    · have := h1 x hx; omega
    · obtain rfl := List.mem_singleton.1 hx
      rw [List.getElem?_eq_getElem (by omega)] at hl
      obtain rfl := Option.some.inj hl
      omega
theorem mxL_all {ls : List Ln} : 0 ≤ mxL ls ls.length ∧ ∀ x ∈ ls, x.lab ≤ mxL ls ls.length ∧ x.to ≤ mxL ls ls.length := by
  have := mxL_le (ls := ls) (Nat.le_refl _)
  rw [List.take_length] at this
  exact this
theorem bytS_len (ls : List Ln) : (bytS ls).size ≤ 11 * ls.length := by
  unfold bytS
  split
  · exact Nat.zero_le _
  · unfold allS
    split
    · rename_i h
      rw [size_strU]
      have := cat_len _ h
      have := insL_len ls ls
      omega
    · exact Nat.zero_le _
theorem run_max3 {P : Program} (w : World) (ts : Array TypeId) (t : TypeId) (k k' k'' : IntKind) (x y z : Int) :
    (Builtin.max_ ts t #[.int k x, .int k' y, .int k'' z]).run P w = .ok (.int k (max (max x y) z)) w := by
  have e : ∀ x y : Int, (if y > x then y else x) = max x y := fun x y => by
    rw [Int.max_def]
    split <;> split <;> omega
  simp [Builtin.max_, Builtin.max2, e]
attribute [local go_sem] run_max3
theorem own_kp2 {w w' : World} {B e s n : Nat} {v : Value} {xs : List Value} (h : w.ownsRow B e s v n xs) (hb : Below w.heap.size w w') : w'.ownsRow B e s v n xs :=
  h.kept (row := none) ⟨hb.os, hb.tape, hb.output, hb.size, fun k hk _ => hb.block k hk⟩ (by cases hv : v.ownBlock <;> simp)
/-- a row of one's own behind a row of one's own -/
theorem appL {W : World} {B B' g g2 n m c c2 : Nat} {xs ys : List Ln} (ho : W.ownsRow B 37 11 (.slice (some ⟨g, 0, none⟩) n c) n (lnRow xs)) (hs : W.ownsRow B' 37 11 (.slice (some ⟨g2, 0, none⟩) m c2) m (lnRow ys)) (hk : n + m ≤ 1000) (hB : B ≤ W.heap.size) :
    ∃ g3 c3 w', (Builtin.append_ #[22, 22] 22 #[.slice (some ⟨g, 0, none⟩) n c, .slice (some ⟨g2, 0, none⟩) m c2]).run Tryd.prog W = .ok (.slice (some ⟨g3, 0, none⟩) (n + m) c3) w' ∧ w'.ownsRow B 37 11 (.slice (some ⟨g3, 0, none⟩) (n + m) c3) (n + m) (lnRow (xs ++ ys)) ∧ Below B W w' := by
  obtain ⟨i, hi, hz, h2, h3⟩ := info_parts info_line
  obtain ⟨v', w3, hrun, h4, h5, h6, h7⟩ := run_append_own_at (P := Tryd.prog) (w := W) B 22 22 37 i _ 11 88 Tryd.underlying22 hi hz h2 h3 rfl (by omega) _ n _ ho ⟨g2, 0, none⟩ m c2 (lnRow ys) hs.1 (fun j u hu => World.ownsRow.cells hs (g := g2) rfl j u hu) (lnRow_one' ys) (by simp only [maxLen]; omega) (by omega) hB
  rw [← lnRow_app] at h4
  rcases h4.2 with ⟨e, _⟩ | ⟨g3, c3, cur, rfl, _⟩
  · exact absurd (h6.1 e).1 (by intro e; cases e)
  · exact ⟨g3, c3, w3, hrun, h4, Below.grown (Below.refl _ _) h5 hB (fun k e => by simp [Value.ownBlock] at e; have := (ho.lt g rfl).1; omega)⟩
set_option maxRecDepth 100000 in
set_option maxHeartbeats 4000000 in
theorem walk_ (w : World) (HT : Hid (TabE w)) (A : Option Addr) (n c : Nat) (la0 : List Ln) (A2 : Option Addr) (m c2 : Nat) (bs : List Ln) (hR : RdL w w.heap.size A n la0) (hn : n ≤ c) (hm : c ≤ 9223372036854775807) (hR2 : RdL w w.heap.size A2 m bs) (hn2 : m ≤ c2) (hm2 : c2 ≤ 9223372036854775807) :
    Calls Tryd.prog 5 #[.slice A n c, .slice A2 m c2] w fun e w' => e = .returned (.bool true) ∧ Below w.heap.size w w' := by
  have HL := Lib.hid (llives_c w HT.out)
  by_cases hbig : 60 < n ∨ 60 < m
  · clear hR hn hm hR2 hn2 hm2
    rcases Nat.lt_or_ge 60 n with hbig | hsm
    all_goals (
      first | (have hb1 : (60 : Int) < (n : Int) := by omega) | (have hb0 : (n : Int) ≤ 60 := by omega)
      first | (have hb2 : (60 : Int) < (n : Int) := by omega) | (have hb2 : (60 : Int) < (m : Int) := by omega)
      go_enter Tryd.func5, Tryd.ntmps5
      go_wp2_with fail
      go_at_call 6
      refine HL.out.mono ?_
      rintro e w1 ⟨rfl, hb1⟩
      have HB1 := Lib.hid hb1
      clear hb1 HL
      go_wp2_with fail
      go_ret
      exact ⟨rfl, HB1.out⟩)
  · have hs1 : (n : Int) ≤ 60 := by omega
    have hs2 : (m : Int) ≤ 60 := by omega
    have hln : la0.length = n := hR.len
    have hlm : bs.length = m := hR2.len
    have hna : n ≤ 60 := by omega
    have hmb : m ≤ 60 := by omega
    have HR := Lib.hid hR
    have HWFA := Lib.hid hR.oks
    have HWFB := Lib.hid hR2.oks
    have HOA := Lib.hid (fun (W : World) (hB : Below w.heap.size w W) => kownL_c A n c la0 W (Lib.hid ((hR.below hB).more hB.size)) (by omega))
    have HOB := Lib.hid (fun (W : World) (hB : Below w.heap.size w W) => kownL_c A2 m c2 bs W (Lib.hid ((hR2.below hB).more hB.size)) (by omega))
    have HBA := Lib.hid (fun (W : World) (hB : Below w.heap.size w W) => bytes_l W (HT.out.keep hB) A c la0 (by rw [hln]; exact (hR.below hB).more hB.size) (by omega))
    have HBB := Lib.hid (fun (W : World) (hB : Below w.heap.size w W) => bytes_l W (HT.out.keep hB) A2 c2 bs (by rw [hlm]; exact (hR2.below hB).more hB.size) (by omega))
    rw [hln] at HBA
    rw [hlm] at HBB
    have HLA := Lib.hid hln
    have HLB := Lib.hid hlm
    have HMX := Lib.hid (fun k (hk : k ≤ n) => mxL_le (ls := la0) (k := k) (by omega))
    clear hR hR2 hbig
    go_enter Tryd.func5, Tryd.ntmps5
    go_wp2_with fail
    go_at_call 6
    refine HL.out.mono ?_
    rintro e w1 ⟨rfl, hb1⟩
    have HB1 := Lib.hid hb1
    clear hb1 HL
    go_wp2_with fail
    go_loopw [5, 6] (fun y i W => ∃ p : Nat, p ≤ n ∧ i = .int .i64 (p : Int) ∧ Hid (y = .int .i64 (mxL la0 p)) ∧ Hid (mxL la0 p ≤ 1048576) ∧ Hid (Below w.heap.size w W)) (fun _ i _ => n - (intOf i).toNat)
    case atStart => exact ⟨0, Nat.zero_le _, rfl, Lib.hid rfl, Lib.hid (by unfold mxL; simp), HB1⟩
    case round =>
      obtain ⟨p, hk, rfl, HY, HMK, HW⟩ := hrel
      rcases Nat.lt_or_ge p n with hkn | hkn
      · have hkni : (p : Int) < (n : Int) := by omega
        have hk0 : (0 : Int) ≤ (p : Int) := by omega
        obtain ⟨l, hl⟩ : ∃ l, la0[p]? = some l := ⟨_, List.getElem?_eq_getElem (by omega)⟩
        have hwl := HWFA.out l (List.mem_of_getElem? hl)
        obtain ⟨ad, rfl, hbad, hat⟩ := ((HR.out.below HW.out).more HW.out.size).rd (by omega)
        have hc := hat p l hl
        have hla := hwl.lab
        have hto := hwl.to
        unfold I64 at hla hto
        obtain ⟨hl1, hl2⟩ := hla
        obtain ⟨ht1, ht2⟩ := hto
        obtain ⟨mk, hmk⟩ : ∃ mk, mxL la0 p = mk := ⟨_, rfl⟩
        have hm0 := (HMX.out p (by omega)).1
        have hmk1 := HMK.out
        have HNX := Lib.hid (mxL_succ hl)
        obtain rfl := HY.out
        rw [hmk] at hm0 hmk1 HNX ⊢
        obtain ⟨la, hlaq⟩ : ∃ la, l.lab = la := ⟨_, rfl⟩
        obtain ⟨tq, htq⟩ : ∃ tq, l.to = tq := ⟨_, rfl⟩
        have c0 := hc.a
        have c10 := hc.c10
        rw [hlaq] at c0 hl1 hl2
        rw [htq] at c10 ht1 ht2
        rw [hlaq, htq] at HNX
        clear hwl hl hlaq htq hc hat HY HMK hmk
        by_cases h1 : (1048576 : Int) < la
        · go_wp2_with fail
          go_ret
          exact ⟨rfl, HW.out⟩
        by_cases h2 : (1048576 : Int) < tq
        · go_wp2_with fail
          go_ret
          exact ⟨rfl, HW.out⟩
        have hm1 : la ≤ 1048576 := by omega
        have hm2 : tq ≤ 1048576 := by omega
        have HNL : Hid (max (max mk la) tq ≤ 1048576) := Lib.hid (by omega)
        rw [← HNX.out] at HNL
        go_wp2_with fail
        go_quiet (fail)
        go_wp2_with fail
        go_roundw
        case rel => exact ⟨p + 1, by omega, by go_num, Lib.hid (by rw [HNX.out]; exact congrArg _ (by omega)), HNL, Lib.hid (HW.out.trans ⟨rfl, rfl, rfl, Nat.le_refl _, fun _ _ => rfl⟩)⟩
        case measure => (simp [intOf] <;> omega)
      · obtain rfl : p = n := by omega
        obtain ⟨d, hd⟩ : ∃ d, mxL la0 p = d := ⟨_, rfl⟩
        obtain rfl := HY.out
        have hd1 := HMK.out
        have hall := mxL_all (ls := la0)
        rw [hln, hd] at hall
        obtain ⟨hd0, hda⟩ := hall
        rw [hd] at hd1 ⊢
        have HCUT := Lib.hid (byt_cut hd0 hda (b := bs) (by omega) (by omega))
        clear hd HY HMK hda HMX HB1
        have HB1 := HW
        clear HW
        go_wp2_with fail
        go_at_call 13
        refine (HOB.out _ HB1.out).mono ?_
        rintro e w2 ⟨hb2, g, c3, rfl, hO⟩
        have hO1 := hO.out
        unfold Rls at hO1
        rw [hlm] at hO1 ⊢
        have HB2 := Lib.hid (bel_tr HB1.out hb2)
        have HROW : Hid (w2.ownsRow w.heap.size 37 11 (.slice (some ⟨g, 0, none⟩) m c3) m (lnRow (mid d bs 0))) := Lib.hid (by rw [mid_0]; exact own_base hO1 HB1.out.size)
        have HW0 : Hid (∀ x ∈ mid d bs 0, x.wf) := Lib.hid (by rw [mid_0]; exact HWFB.out)
        clear hb2 hO hO1 HOB
        go_wp2_with fail
        go_loopw [8] (fun i W => ∃ k : Nat, k ≤ m ∧ i = .int .i64 (k : Int) ∧ Hid (W.ownsRow w.heap.size 37 11 (.slice (some ⟨g, 0, none⟩) m c3) m (lnRow (mid d bs k))) ∧ Hid (∀ x ∈ mid d bs k, x.wf) ∧ Hid (Below w.heap.size w W)) (fun i _ => m - (intOf i).toNat)
        case atStart => exact ⟨0, Nat.zero_le _, rfl, HROW, HW0, HB2⟩
        case round =>
          obtain ⟨k, hk, rfl, HRW, HWK, HW⟩ := hrel
          rcases Nat.lt_or_ge k m with hkn | hkn
          · have hkni : (k : Int) < (m : Int) := by omega
            have hk0 : (0 : Int) ≤ (k : Int) := by omega
            obtain ⟨l, hl⟩ : ∃ l, bs[k]? = some l := ⟨_, List.getElem?_eq_getElem (by omega)⟩
            have HLK := Lib.hid hl
            have hwl := HWK.out l (List.mem_of_getElem? (mid_get hl))
            have hla := hwl.lab
            have hto := hwl.to
            unfold I64 at hla hto
            obtain ⟨la, hlaq⟩ : ∃ la, l.lab = la := ⟨_, rfl⟩
            obtain ⟨tq, htq⟩ : ∃ tq, l.to = tq := ⟨_, rfl⟩
            have c0 : wr.cell? ⟨g, k * 11, none⟩ = some (.int .i64 la) := by
              rw [← hlaq, show k * 11 = k * 11 + 0 from rfl, HRW.out.cellAt _ (by omega), lnRow_get (mid_get hl) (by omega)]; rfl
            have c10 : wr.cell? ⟨g, k * 11 + 10, none⟩ = some (.int .i64 tq) := by
              rw [← htq, HRW.out.cellAt _ (by omega), lnRow_get (mid_get hl) (by omega)]; rfl
            have HSTO := Lib.hid (mid_store (d := d) hl HRW.out)
            rw [hlaq, htq] at HSTO
            have HFAR := Lib.hid (mid_far (d := d) (v := la + d) hl HRW.out hkn)
            rw [htq] at HFAR
            have HWN : Hid (la ≤ 1048576 → tq ≤ 1048576 → ∀ x ∈ mid d bs (k + 1), x.wf) := Lib.hid (fun h1 h2 => mid_wf hl HWK.out ⟨hd0, by omega⟩ (by omega) (by omega))
            have f0 := HRW.out.frozenAt (k * 11)
            have f10 := HRW.out.frozenAt (k * 11 + 10)
            have hgl := (HRW.out.lt g rfl).2
            have hgw := (HRW.out.lt g rfl).1
            rw [hlaq] at hla
            rw [htq] at hto
            clear hwl hl hlaq htq HRW HWK
            by_cases h1 : (1048576 : Int) < la
            · go_wp2_with fail
              go_ret
              exact ⟨rfl, HW.out⟩
            by_cases h2 : (1048576 : Int) < tq
            · go_wp2_with fail
              go_ret
              exact ⟨rfl, HW.out⟩
            obtain ⟨hl1, hl2⟩ := hla
            obtain ⟨ht1, ht2⟩ := hto
            have hm1 : la ≤ 1048576 := by omega
            have hm2 : tq ≤ 1048576 := by omega
            have HWF1 := Lib.hid (HWN.out hm1 hm2)
            clear HWN
            by_cases h3 : (0 : Int) < la
            · have HWA : Hid (Below w.heap.size w (wr.setCell ⟨g, k * 11, none⟩ (.int .i64 (la + d)))) := Lib.hid (HW.out.setCell (p := ⟨g, k * 11, none⟩) (show w.heap.size ≤ g from hgw) _)
              have d10 := HFAR.out.1
              have e10 := HFAR.out.2
              by_cases h4 : (0 : Int) < tq
              · have HWB : Hid (Below w.heap.size w ((wr.setCell ⟨g, k * 11, none⟩ (.int .i64 (la + d))).setCell ⟨g, k * 11 + 10, none⟩ (.int .i64 (tq + d)))) := Lib.hid (HWA.out.setCell (p := ⟨g, k * 11 + 10, none⟩) (show w.heap.size ≤ g from hgw) _)
                have HS := Lib.hid (HSTO.out.2.2.2 h3 h4)
                clear HSTO
                go_wp2_with fail
                go_roundw
                case rel => exact ⟨k + 1, by omega, by go_num, HS, HWF1, HWB⟩
                case measure => (simp [intOf] <;> omega)
              · have HS := Lib.hid (HSTO.out.2.1 h3 h4)
                clear HSTO
                go_wp2_with fail
                go_roundw
                case rel => exact ⟨k + 1, by omega, by go_num, HS, HWF1, HWA⟩
                case measure => (simp [intOf] <;> omega)
            · by_cases h4 : (0 : Int) < tq
              · have HWB : Hid (Below w.heap.size w (wr.setCell ⟨g, k * 11 + 10, none⟩ (.int .i64 (tq + d)))) := Lib.hid (HW.out.setCell (p := ⟨g, k * 11 + 10, none⟩) (show w.heap.size ≤ g from hgw) _)
                have HS := Lib.hid (HSTO.out.2.2.1 h3 h4)
                clear HSTO
                go_wp2_with fail
                go_roundw
                case rel => exact ⟨k + 1, by omega, by go_num, HS, HWF1, HWB⟩
                case measure => (simp [intOf] <;> omega)
              · have HS := Lib.hid (HSTO.out.1 h3 h4)
                clear HSTO
                go_wp2_with fail
                go_roundw
                case rel => exact ⟨k + 1, by omega, by go_num, HS, HWF1, HW⟩
                case measure => (simp [intOf] <;> omega)
          · obtain rfl : k = m := by omega
            have hrow : wr.ownsRow w.heap.size 37 11 (.slice (some ⟨g, 0, none⟩) k c3) k (lnRow (bs.map (ren d))) := by
              have h := HRW.out
              rw [show mid d bs k = bs.map (ren d) from by rw [← hlm, mid_all]] at h
              exact h
            have hwf := HWK.out
            rw [show mid d bs k = bs.map (ren d) from by rw [← hlm, mid_all]] at hwf
            have HROW2 := Lib.hid hrow
            have HWF2 := Lib.hid hwf
            have HA1 := Lib.hid (HBA.out wr HW.out)
            have hza := bytS_len la0
            have hzb := bytS_len bs
            obtain ⟨sa, hsa⟩ : ∃ s, bytS la0 = s := ⟨_, rfl⟩
            obtain ⟨ea, hea⟩ : ∃ s, bytE la0 = s := ⟨_, rfl⟩
            obtain ⟨sb, hsb⟩ : ∃ s, bytS bs = s := ⟨_, rfl⟩
            obtain ⟨eb, heb⟩ : ∃ s, bytE bs = s := ⟨_, rfl⟩
            obtain ⟨sc, hsc⟩ : ∃ s, bytS (la0 ++ bs.map (ren d)) = s := ⟨_, rfl⟩
            obtain ⟨ec, hec⟩ : ∃ s, bytE (la0 ++ bs.map (ren d)) = s := ⟨_, rfl⟩
            have HBC := Lib.hid (fun (W : World) (hB : Below w.heap.size w W) (g3 c4 : Nat) (hr : W.ownsRow w.heap.size 37 11 (.slice (some ⟨g3, 0, none⟩) (p + k) c4) (p + k) (lnRow (la0 ++ bs.map (ren d)))) =>
              bytes_l W (HT.out.keep hB) (some ⟨g3, 0, none⟩) c4 (la0 ++ bs.map (ren d)) (by
                have hl : (la0 ++ bs.map (ren d)).length = p + k := by rw [List.length_append, List.length_map, hln, hlm]
                rw [hl]
                exact (rl_rd (B := w.heap.size) (c := c4) (by unfold Rls; rw [hl]; exact hr) (fun x hx => by
                  rcases List.mem_append.1 hx with hx | hx
                  · exact HWFA.out x hx
                  · exact HWF2.out x hx)).2.1) (by rw [List.length_append, List.length_map, hln, hlm]; omega))
            have hl : (la0 ++ bs.map (ren d)).length = p + k := by rw [List.length_append, List.length_map, hln, hlm]
            rw [hl] at HBC
            rw [hsa] at hza
            rw [hsb] at hzb
            have hz1 : sa.size ≤ 660 := by omega
            have hz2 : sb.size ≤ 660 := by omega
            rw [hsa, hea] at HA1
            rw [hsb, heb] at HBB
            rw [hsc, hec] at HBC
            rw [hsa, hea, hsb, heb, hsc, hec] at HCUT
            clear hrow hwf HBA HRW HWK HWFB HROW HW0 HB2 hsa hea hsb heb hsc hec hl hza hzb
            go_wp2_with fail
            go_at_call 9
            refine HA1.out.mono ?_
            rintro e w3 ⟨rfl, hb3⟩
            have HB3 := Lib.hid (bel_tr HW.out hb3)
            have HR3 := Lib.hid (own_kp2 HROW2.out hb3)
            clear hb3 HROW2 HA1
            go_wp2_with fail
            go_at_call 9
            refine (HBB.out _ HB3.out).mono ?_
            rintro e w4 ⟨rfl, hb4⟩
            have HB4 := Lib.hid (bel_tr HB3.out hb4)
            have HR4 := Lib.hid (own_kp2 HR3.out hb4)
            clear hb4 HR3 HBB
            go_wp2_with fail
            go_at_call 13
            refine (HOA.out _ HB4.out).mono ?_
            rintro e w5 ⟨hb5, g5, c5, rfl, hO⟩
            have hO1 := hO.out
            unfold Rls at hO1
            rw [hln] at hO1 ⊢
            have HB5 := Lib.hid (bel_tr HB4.out hb5)
            have HR5 := own_kp2 HR4.out hb5
            obtain ⟨g6, c6, w6, hap, hown6, hb6⟩ := appL (own_base hO1 HB4.out.size) HR5 (by omega) HB5.out.size
            have HB6 : Hid (Below w.heap.size w w6) := Lib.hid (HB5.out.trans hb6)
            have HC := Lib.hid (HBC.out w6 HB6.out g6 c6 hown6)
            clear hb5 hO hO1 HOA HR4 HR5 hown6 hb6 HBC HB5
            go_wp2_with (at_builtin; refine wpList_append_eq rfl (.tmp 125) (.tmp 126) 22 rfl _ _ rfl rfl _ _ hap ?_)
            go_at_call 9
            refine HC.out.mono ?_
            rintro e w7 ⟨rfl, hb7⟩
            have HB7 := Lib.hid (bel_tr HB6.out hb7)
            clear hb7 hap
            obtain ⟨k1, k2⟩ := HCUT.out
            clear HCUT
            by_cases h1 : ea = 0
            · by_cases h2 : eb = 0
              · obtain rfl : ec = 0 := k1.2 ⟨h1, h2⟩
                obtain rfl : sc = sa ++ sb := k2 rfl
                subst h1 h2
                clear k1 k2
                go_wp2_with fail
                go_ret
                exact ⟨rfl, HB7.out⟩
              · have h3 : ec ≠ 0 := fun e => h2 (k1.1 e).2
                have h4 : (eb != 0) = true := by simpa using h2
                have h5 : (ec != 0) = true := by simpa using h3
                subst h1
                clear k1 k2 h2 h3
                go_wp2_with fail
                go_ret
                exact ⟨rfl, HB7.out⟩
            · have h3 : ec ≠ 0 := fun e => h1 (k1.1 e).1
              have h4 : (ea != 0) = true := by simpa using h1
              have h5 : (ec != 0) = true := by simpa using h3
              clear k1 k2 h1 h3
              go_wp2_with fail
              go_ret
              exact ⟨rfl, HB7.out⟩
end layoutCut
end Go.Proofs.YteppmkeoedddnaaDoor
