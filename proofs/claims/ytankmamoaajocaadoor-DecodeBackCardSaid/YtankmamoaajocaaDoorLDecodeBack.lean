/- DecodeBack's walk over what is asked of the landed package. -/
import Derived.Test.YtankmamoaajocaaDoorV1
import Derived.Deep.RegionHeld3
namespace Go.Proofs.YtankmamoaajocaaDoor
open Go Go.RowKit
namespace Is
open Nt
set_option linter.unusedVariables false
theorem allD_put {is : List Ins} (h : allOk is = true) (hw : ∀ i ∈ is, i.wf) : allD (strU (catU is)) = (is, (catU is).length) := by
  have hsz := size_strU (catU is)
  have hb := cat_b8 is h
  have h1 := runL_put (s := strU (catU is)) is ((strU (catU is)).size + 1) 0 (by omega) h hw ((pre_iff hb (by omega)).2 (by rw [strU_data, List.drop_zero]; exact List.prefix_rfl)) (by omega)
  unfold allD
  rw [h1, hsz]
theorem rD_join {i : Ins} {is : List Ins} (h : allOk (i :: is) = true) (hw : i.wf) (a b : ByteArray) : rD (a ++ strU (catU (i :: is)) ++ b) (a.size : Int) = (i, ((encS i).size : Int), 0) := by
  rw [allOk_cons, Bool.and_eq_true] at h
  have he := encl_ok i h.1
  have hsz : (a ++ strU (catU (i :: is)) ++ b).size = a.size + ((encL i).length + (catU is).length) + b.size := by
    rw [ByteArray.size_append, ByteArray.size_append, size_strU]
    simp [catU]
  rw [encS_len h.1]
  refine rD_some (k := a.size) (by omega) ((decO_iff (by omega)).2 ⟨h.1, hw, (pre_iff he.1 (by omega)).2 ?_⟩)
  rw [ByteArray.data_append, ByteArray.data_append, Array.toList_append, Array.toList_append, strU_data]
  have e : toU8 (catU (i :: is)) = toU8 (encL i) ++ toU8 (catU is) := by unfold toU8; simp [catU]
  rw [e, List.append_assoc, List.drop_left' (by rw [Array.length_toList]; rfl), List.append_assoc]
  exact List.prefix_append _ _
/-- what stands at the beginning, if something does -/
theorem rD_zero (s : ByteArray) : (∃ i, rD s 0 = (i, ((encS i).size : Int), 0) ∧ i.wf ∧ chk i = 0 ∧ (encS i).size ≤ s.size ∧ ((s.extract 0 (encS i).size).toList == (encS i).toList) = true ∧ (encS i).size ≤ 11) ∨ rD s 0 = (zI, 0, 8) ∨ rD s 0 = (zI, 0, 4) := by
  rcases Nat.eq_zero_or_pos s.size with h0 | h0
  · exact .inr (.inl (rD_end (by omega)))
  · rcases decO_cases s 0 with h | ⟨i, h⟩
    · exact .inr (.inr (rD_none (k := 0) h0 h))
    · left
      have h1 := (decO_iff (by omega)).1 h
      have he := encl_ok i h1.1
      have h2 := h1.2.2.1
      have e : encS i = strU (encL i) := by unfold encS; rw [h1.1]; rfl
      refine ⟨i, ?_, h1.2.1, by unfold chk; rw [h1.1]; rfl, by rw [encS_len h1.1]; omega, ?_, by rw [encS_len h1.1]; omega⟩
      · rw [encS_len h1.1]; exact rD_some (k := 0) h0 h
      · have h3 := (pre_cut he.1 (by omega)).2 h1.2.2
        rw [Nat.zero_add] at h3
        rw [encS_len h1.1, e]
        exact h3
end Is
namespace decodeBack
open Is Nt
set_option linter.unusedVariables false
theorem bel3 {a b c : World} (h : Below a.heap.size a b) (k : Below b.heap.size b c) : Below a.heap.size a c := h.trans (k.mono h.size)
theorem below_al {a b : World} (h : Below a.heap.size a b) (o : Obj) : Below a.heap.size a (b.alloc o) := h.alloc h.size o
theorem RdX.more {w : World} {B B' : Nat} {A : Option Addr} {n : Nat} {is : List Ins} (h : RdX w B A n is) (hB : B ≤ B') : RdX w B' A n is :=
  ⟨h.len, h.oks, fun h0 => by obtain ⟨ad, e, hb, hc⟩ := h.rd h0; exact ⟨ad, e, by omega, hc⟩⟩
set_option maxRecDepth 100000 in
set_option maxHeartbeats 4000000 in
theorem walk_ {G : World → Prop} (dc : DecC G) (w : World) (HG : Hid (G w)) (A : Option Addr) (n c : Nat) (is : List Ins) (ahead behind : ByteArray) (hr : RdX w w.heap.size A n is) (hn : n ≤ c) (hm : c ≤ 9223372036854775807) (hwa : ahead.size ≤ maxLen) (hwb : behind.size ≤ maxLen) :
    Calls Tryd.prog 4 #[.slice A n c, .string ahead, .string behind] w fun e w' => e = .returned (.bool true) ∧ Below w.heap.size w w' := by
  have HL := Lib.hid (fun W hg => dlives_c dc W (Lib.hid hg))
  have HB0 := Lib.hid (Below.refl w.heap.size w)
  have hna : (ahead.size : Int) ≤ 9223372036854775807 := by have : ahead.size ≤ maxLen := hwa; simp only [maxLen] at this; omega
  clear hwa hwb
  rcases Nat.lt_or_ge 20 n with h20 | h20
  · have hn20 : (20 : Int) < (n : Int) := by omega
    clear hr h20
    go_enter Tryd.func4, Tryd.ntmps4
    go_wp2_with fail
    go_at_call 7
    refine (HL.out _ (dc.tb HG (by assumption))).mono ?_
    rintro e w1 ⟨rfl, hb⟩
    have HB1 := Lib.hid (bel3 HB0.out hb)
    clear hb HL
    go_wp2_with fail
    go_ret
    exact ⟨rfl, HB1.out⟩
  · have hn20 : (n : Int) ≤ 20 := by omega
    rcases Nat.lt_or_ge 120 ahead.size with ha | ha
    · have ha1 : (120 : Int) < (ahead.size : Int) := by omega
      clear hr h20 ha
      go_enter Tryd.func4, Tryd.ntmps4
      go_wp2_with fail
      go_at_call 7
      refine (HL.out _ (dc.tb HG (by assumption))).mono ?_
      rintro e w1 ⟨rfl, hb⟩
      have HB1 := Lib.hid (bel3 HB0.out hb)
      clear hb HL
      go_wp2_with fail
      go_ret
      exact ⟨rfl, HB1.out⟩
    · have ha1 : (ahead.size : Int) ≤ 120 := by omega
      rcases Nat.lt_or_ge 120 behind.size with hb0 | hb0
      · have hb1 : (120 : Int) < (behind.size : Int) := by omega
        clear hr h20 ha hb0
        go_enter Tryd.func4, Tryd.ntmps4
        go_wp2_with fail
        go_at_call 7
        refine (HL.out _ (dc.tb HG (by assumption))).mono ?_
        rintro e w1 ⟨rfl, hb⟩
        have HB1 := Lib.hid (bel3 HB0.out hb)
        clear hb HL
        go_wp2_with fail
        go_ret
        exact ⟨rfl, HB1.out⟩
      · have hb1 : (behind.size : Int) ≤ 120 := by omega
        have HRD := Lib.hid (fun (W : World) (hb : Hid (Below w.heap.size w W)) => RdX.more (hr.below hb.out) hb.out.size)
        have HRA := Lib.hid (fun W h => rall_c A n c is W h (by omega) hn)
        have HIB := Lib.hid (fun W hg => dc.inst behind 0 W hg i64_z (by omega))
        have HZ := Lib.hid (rD_zero behind)
        have HLEN := Lib.hid hr.len
        have HOKS := Lib.hid hr.oks
        cases hok : allOk is with
        | false =>
          have e1 : allE is = 2 := by unfold allE; rw [hok]; rfl
          rw [e1] at HRA
          generalize allS is = az at *
          clear hr h20 ha hb0 hok e1
          go_enter Tryd.func4, Tryd.ntmps4
          go_wp2_with fail
          go_at_call 7
          refine (HL.out _ (dc.tb HG (by assumption))).mono ?_
          rintro e w1 ⟨rfl, hb⟩
          have HB1 := Lib.hid (bel3 HB0.out hb)
          clear hb HL
          go_wp2_with fail
          go_at_call 12
          refine (HRA.out _ (HRD.out _ (by assumption))).mono ?_
          rintro e w2 ⟨rfl, hb⟩
          have HB2 := Lib.hid (bel3 HB1.out hb)
          clear hb HRA
          go_wp2_with fail
          go_ret
          exact ⟨rfl, HB2.out⟩
        | true =>
          have e1 : allE is = 0 := by unfold allE; rw [hok]; rfl
          have e2 : allS is = strU (catU is) := by unfold allS; rw [hok]; rfl
          have e3 := allD_put hok hr.oks
          have e4 := cat_len is hok
          have e5 := size_strU (catU is)
          have hz220 : (strU (catU is)).size ≤ 220 := by have := hr.len; omega
          have HA := Lib.hid (fun W hg => dc.all (strU (catU is)) W hg (by omega))
          unfold TellA at HA
          rw [e3] at HA
          dsimp only at HA
          rw [if_pos e5.symm, ← e5] at HA
          rw [e1, e2] at HRA
          have HJ : Hid (∀ i r, is = i :: r → rD (ahead ++ strU (catU is) ++ behind) (ahead.size : Int) = (i, ((encS i).size : Int), 0)) := Lib.hid (fun i r h => by subst h; exact rD_join hok (hr.oks i (by simp)) ahead behind)
          have HIJ := Lib.hid (fun W hg => dc.inst (ahead ++ strU (catU is) ++ behind) (ahead.size : Int) W hg (i64s (by omega) (by omega)) (by rw [ByteArray.size_append, ByteArray.size_append]; omega))
          have HSM := Lib.hid (fun (A' : Option Addr) (c' : Nat) (W : World) ha hb => same_x A' A n c' c W.heap.size W.heap.size is W ha hb (by omega))
          have HRN : Hid (is.length = n) := Lib.hid hr.len
          rw [hr.len] at HA
          have hadd : ahead.size + (strU (catU is)).size ≤ 9223372036854775807 := by omega
          have hadd2 : ¬ (9223372036854775807 < ahead.size + (strU (catU is)).size) := by omega
          have hadd4 : (ahead ++ strU (catU is)).size = ahead.size + (strU (catU is)).size := ByteArray.size_append
          have hadd5 : (ahead ++ strU (catU is) ++ behind).size = ahead.size + (strU (catU is)).size + behind.size := by rw [ByteArray.size_append, ByteArray.size_append]
          have HADD4 := Lib.hid hadd4
          have hadd6 : ahead.size + (strU (catU is)).size + behind.size ≤ 9223372036854775807 := by omega
          have hadd7 : (ahead ++ strU (catU is)).size + behind.size ≤ 9223372036854775807 := by omega
          have hz2 : ((strU (catU is)).size : Int) ≤ 220 := by omega
          clear hr h20 ha hb0 hok e1 e2 e3 e4 e5 hz220 hadd5 hadd4
          generalize strU (catU is) = az at *
          go_enter Tryd.func4, Tryd.ntmps4
          go_wp2_with fail
          go_at_call 7
          refine (HL.out _ (dc.tb HG (by assumption))).mono ?_
          rintro e w1 ⟨rfl, hb⟩
          have HB1 := Lib.hid (bel3 HB0.out hb)
          clear hb HL
          go_wp2_with fail
          go_at_call 12
          refine (HRA.out _ (HRD.out _ (by assumption))).mono ?_
          rintro e w2 ⟨rfl, hb⟩
          have HB2 := Lib.hid (bel3 HB1.out hb)
          clear hb HRA
          go_wp2_with fail
          go_at_call 9
          refine (HA.out _ (dc.tb HG (by assumption))).mono ?_
          rintro e w3 ⟨A3, c3, rfl, hr3, hc3, hb⟩
          have HB3 := Lib.hid (bel3 HB2.out hb)
          have HR3 := Lib.hid hr3
          clear hr3 hc3 hb HA
          go_wp2_with fail
          go_at_call 13
          refine (HSM.out A3 c3 w3 HR3.out (HRD.out _ HB3)).mono ?_
          rintro e w4 ⟨rfl, q, rfl⟩
          have HB4 : Hid (Below w.heap.size w (w3.drewN q)) := Lib.hid (below_drewN HB3.out _)
          clear HSM HR3
          cases is with
          | nil =>
            have hn0 : n = 0 := HRN.out.symm
            subst hn0
            clear HIJ HJ
            rcases HZ.out with ⟨i, hz1, hwf, hck, hsl, hcut, h11⟩ | hz1 | hz1
            · rw [hz1] at HIB
              have HRI := Lib.hid (fun W => rinst_c i W)
              rw [hck] at HRI
              have hcut' := hcut
              rw [beq_iff_eq] at hcut'
              have hl1 : ((encS i).size : Int) ≤ (behind.size : Int) := by omega
              have hl0 : (0 : Int) ≤ ((encS i).size : Int) := by omega
              have hmin : min ((encS i).size : Int) (behind.size : Int) = ((encS i).size : Int) := by omega
              have hmn : min (encS i).size behind.size = (encS i).size := by omega
              clear hz1 hwf hck hsl h11
              generalize encS i = es at *
              obtain ⟨op, d, s, t, b, x, sc, di, im⟩ := i
              unfold tD Ins.vs at HIB
              unfold Ins.vs at HRI
              dsimp only at HIB HRI
              go_wp2_with fail
              go_at_call 8
              refine (HIB.out _ (dc.tb HG (by assumption))).mono ?_
              rintro e w8 ⟨rfl, hb⟩
              have HB8 := Lib.hid (below_al (bel3 HB4.out hb) (.cells #[.int .i64 op, .int .i64 d, .int .i64 s, .int .i64 t, .int .i64 b, .int .i64 x, .int .i64 sc, .int .i64 di, .int .i64 im] 26))
              clear hb HIB
              go_wp2_with fail
              go_at_call 15
              refine (HRI.out _).mono ?_
              rintro e w9 ⟨rfl, hb⟩
              have HB9 := Lib.hid (bel3 HB8.out hb)
              clear hb HRI
              go_wp2_with fail
              go_ret
              exact ⟨by first | rfl | (simp [hmin, hmn]; done) | (simp [hcut']; done) | (simp [hmin, hmn, hcut']; done), HB9.out⟩
            · rw [hz1] at HIB
              unfold tD zI Ins.vs at HIB
              dsimp only at HIB
              have HEQ := instEq 0 0 0 0 0 0 0 0 0 0 0 0 0 0 0 0 0 0
              rw [show eqI ⟨0, 0, 0, 0, 0, 0, 0, 0, 0⟩ ⟨0, 0, 0, 0, 0, 0, 0, 0, 0⟩ = true from rfl] at HEQ
              go_wp2_with fail
              go_at_call 8
              refine (HIB.out _ (dc.tb HG (by assumption))).mono ?_
              rintro e w8 ⟨rfl, hb⟩
              have HB8 := Lib.hid (below_al (bel3 HB4.out hb) (.cells #[.int .i64 0, .int .i64 0, .int .i64 0, .int .i64 0, .int .i64 0, .int .i64 0, .int .i64 0, .int .i64 0, .int .i64 0] 26))
              clear hb HIB
              go_wp2_with fail
              go_ret
              exact ⟨rfl, HB8.out⟩
            · rw [hz1] at HIB
              unfold tD zI Ins.vs at HIB
              dsimp only at HIB
              have HEQ := instEq 0 0 0 0 0 0 0 0 0 0 0 0 0 0 0 0 0 0
              rw [show eqI ⟨0, 0, 0, 0, 0, 0, 0, 0, 0⟩ ⟨0, 0, 0, 0, 0, 0, 0, 0, 0⟩ = true from rfl] at HEQ
              go_wp2_with fail
              go_at_call 8
              refine (HIB.out _ (dc.tb HG (by assumption))).mono ?_
              rintro e w8 ⟨rfl, hb⟩
              have HB8 := Lib.hid (below_al (bel3 HB4.out hb) (.cells #[.int .i64 0, .int .i64 0, .int .i64 0, .int .i64 0, .int .i64 0, .int .i64 0, .int .i64 0, .int .i64 0, .int .i64 0] 26))
              clear hb HIB
              go_wp2_with fail
              go_ret
              exact ⟨rfl, HB8.out⟩
          | cons i0 ir =>
            have hn1 : (0 : Int) < (n : Int) := by have := HRN.out; simp at this; omega
            have hnn : 0 < n := by omega
            rw [HJ.out i0 ir rfl] at HIJ
            have HRS := Lib.hid (fun W => rsize_c i0 W)
            have HRDn := Lib.hid (fun (W : World) (hb : Hid (Below w.heap.size w W)) => (HRD.out W hb).rd hnn)
            clear HJ HRD HOKS
            have HX := Lib.hid (fun (W : World) (hb : Hid (Below w.heap.size w W)) => show ∃ ad, A = some ad ∧ ad.block < w.heap.size ∧ InAt W (ad.add (0 * 9)) i0 by
              obtain ⟨ad, e, h1, h2⟩ := HRDn.out w (Lib.hid (Below.refl _ _))
              obtain ⟨ad', e', h1', h2'⟩ := HRDn.out W hb
              rw [e] at e'
              cases e'
              exact ⟨ad, e, h1, h2' 0 i0 rfl⟩)
            clear HRDn hnn
            generalize hesq : encS i0 = es0 at *
            clear hesq
            obtain ⟨op, d, s, t, b, x, sc, di, im⟩ := i0
            unfold tD Ins.vs at HIJ
            unfold Ins.vs at HRS
            dsimp only at HIJ HRS
            have HEQ := instEq op d s t b x sc di im op d s t b x sc di im
            rw [eqI_self] at HEQ
            obtain ⟨ad, hA, _, _⟩ := HX.out w (Lib.hid (Below.refl _ _))
            subst hA
            have HX2 := Lib.hid (fun (W : World) (hb : Hid (Below w.heap.size w W)) => show ad.block < w.heap.size ∧ InAt W (ad.add (0 * 9)) ⟨op, d, s, t, b, x, sc, di, im⟩ by
              obtain ⟨ad', e', h1', h2'⟩ := HX.out W hb
              cases e'
              exact ⟨h1', h2'⟩)
            clear HX
            rw [show ad.add (0 * 9) = ad by simp [Addr.add]] at HX2
            go_wp2_with fail
            go_at_call 8
            refine (HIJ.out _ (dc.tb HG (by assumption))).mono ?_
            rintro e w5 ⟨rfl, hb⟩
            have HB5 := Lib.hid (bel3 HB4.out hb)
            have HB6 : Hid (Below w.heap.size w (w5.alloc (.cells #[.int .i64 op, .int .i64 d, .int .i64 s, .int .i64 t, .int .i64 b, .int .i64 x, .int .i64 sc, .int .i64 di, .int .i64 im] 26))) := Lib.hid (below_al HB5.out _)
            have HI6 : Hid (Bk (w5.alloc (.cells #[.int .i64 op, .int .i64 d, .int .i64 s, .int .i64 t, .int .i64 b, .int .i64 x, .int .i64 sc, .int .i64 di, .int .i64 im] 26)) w5.heap.size 26 #[.int .i64 op, .int .i64 d, .int .i64 s, .int .i64 t, .int .i64 b, .int .i64 x, .int .i64 sc, .int .i64 di, .int .i64 im]) := Lib.hid (Bk.new _ _ _)
            clear hb HIJ
            go_wp2_with fail
            generalize w5.alloc (.cells #[.int .i64 op, .int .i64 d, .int .i64 s, .int .i64 t, .int .i64 b, .int .i64 x, .int .i64 sc, .int .i64 di, .int .i64 im] 26) = w6 at *
            generalize hg6 : w5.heap.size = g6 at *
            clear hg6
            have HB6d : Hid (Below w.heap.size w w6.drew) := Lib.hid HB6.out.drew
            have HI6d := Lib.hid HI6.out.drew
            have hX6 := (HX2.out _ HB6d).2
            have K6 : w6.drew.cell? ⟨g6, 0, none⟩ = some (.int .i64 op) ∧ w6.drew.cell? ⟨g6, 1, none⟩ = some (.int .i64 d) ∧ w6.drew.cell? ⟨g6, 2, none⟩ = some (.int .i64 s) ∧ w6.drew.cell? ⟨g6, 3, none⟩ = some (.int .i64 t) ∧ w6.drew.cell? ⟨g6, 4, none⟩ = some (.int .i64 b) ∧ w6.drew.cell? ⟨g6, 5, none⟩ = some (.int .i64 x) ∧ w6.drew.cell? ⟨g6, 6, none⟩ = some (.int .i64 sc) ∧ w6.drew.cell? ⟨g6, 7, none⟩ = some (.int .i64 di) ∧ w6.drew.cell? ⟨g6, 8, none⟩ = some (.int .i64 im) ∧ w6.drew.cell? ad = some (.int .i64 op) ∧ w6.drew.cell? ⟨ad.block, ad.off + 1, none⟩ = some (.int .i64 d) ∧ w6.drew.cell? ⟨ad.block, ad.off + 2, none⟩ = some (.int .i64 s) ∧ w6.drew.cell? ⟨ad.block, ad.off + 3, none⟩ = some (.int .i64 t) ∧ w6.drew.cell? ⟨ad.block, ad.off + 4, none⟩ = some (.int .i64 b) ∧ w6.drew.cell? ⟨ad.block, ad.off + 5, none⟩ = some (.int .i64 x) ∧ w6.drew.cell? ⟨ad.block, ad.off + 6, none⟩ = some (.int .i64 sc) ∧ w6.drew.cell? ⟨ad.block, ad.off + 7, none⟩ = some (.int .i64 di) ∧ w6.drew.cell? ⟨ad.block, ad.off + 8, none⟩ = some (.int .i64 im) := ⟨HI6d.out.cell 0, HI6d.out.cell 1, HI6d.out.cell 2, HI6d.out.cell 3, HI6d.out.cell 4, HI6d.out.cell 5, HI6d.out.cell 6, HI6d.out.cell 7, HI6d.out.cell 8, hX6.op, hX6.d, hX6.s, hX6.t, hX6.b, hX6.x, hX6.sc, hX6.di, hX6.im⟩
            go_region_held3 (fun w' => w'.cell? ⟨g6, 0, none⟩ = some (.int .i64 op) ∧ w'.cell? ⟨g6, 1, none⟩ = some (.int .i64 d) ∧ w'.cell? ⟨g6, 2, none⟩ = some (.int .i64 s) ∧ w'.cell? ⟨g6, 3, none⟩ = some (.int .i64 t) ∧ w'.cell? ⟨g6, 4, none⟩ = some (.int .i64 b) ∧ w'.cell? ⟨g6, 5, none⟩ = some (.int .i64 x) ∧ w'.cell? ⟨g6, 6, none⟩ = some (.int .i64 sc) ∧ w'.cell? ⟨g6, 7, none⟩ = some (.int .i64 di) ∧ w'.cell? ⟨g6, 8, none⟩ = some (.int .i64 im) ∧ w'.cell? ad = some (.int .i64 op) ∧ w'.cell? ⟨ad.block, ad.off + 1, none⟩ = some (.int .i64 d) ∧ w'.cell? ⟨ad.block, ad.off + 2, none⟩ = some (.int .i64 s) ∧ w'.cell? ⟨ad.block, ad.off + 3, none⟩ = some (.int .i64 t) ∧ w'.cell? ⟨ad.block, ad.off + 4, none⟩ = some (.int .i64 b) ∧ w'.cell? ⟨ad.block, ad.off + 5, none⟩ = some (.int .i64 x) ∧ w'.cell? ⟨ad.block, ad.off + 6, none⟩ = some (.int .i64 sc) ∧ w'.cell? ⟨ad.block, ad.off + 7, none⟩ = some (.int .i64 di) ∧ w'.cell? ⟨ad.block, ad.off + 8, none⟩ = some (.int .i64 im)) (first | exact K6 | exact K7)
              (first | (go_at_call 14; refine (HRS.out _).mono ?_; rintro e y7 ⟨rfl, hb7⟩; have HI7 := Lib.hid (HI6d.out.below hb7 HI6d.out.lt); have HB7 : Hid (Below w.heap.size w y7) := Lib.hid (bel3 HB6d.out hb7); have hX7 := (HX2.out _ HB7).2; have K7 := (show y7.cell? ⟨g6, 0, none⟩ = some (.int .i64 op) ∧ y7.cell? ⟨g6, 1, none⟩ = some (.int .i64 d) ∧ y7.cell? ⟨g6, 2, none⟩ = some (.int .i64 s) ∧ y7.cell? ⟨g6, 3, none⟩ = some (.int .i64 t) ∧ y7.cell? ⟨g6, 4, none⟩ = some (.int .i64 b) ∧ y7.cell? ⟨g6, 5, none⟩ = some (.int .i64 x) ∧ y7.cell? ⟨g6, 6, none⟩ = some (.int .i64 sc) ∧ y7.cell? ⟨g6, 7, none⟩ = some (.int .i64 di) ∧ y7.cell? ⟨g6, 8, none⟩ = some (.int .i64 im) ∧ y7.cell? ad = some (.int .i64 op) ∧ y7.cell? ⟨ad.block, ad.off + 1, none⟩ = some (.int .i64 d) ∧ y7.cell? ⟨ad.block, ad.off + 2, none⟩ = some (.int .i64 s) ∧ y7.cell? ⟨ad.block, ad.off + 3, none⟩ = some (.int .i64 t) ∧ y7.cell? ⟨ad.block, ad.off + 4, none⟩ = some (.int .i64 b) ∧ y7.cell? ⟨ad.block, ad.off + 5, none⟩ = some (.int .i64 x) ∧ y7.cell? ⟨ad.block, ad.off + 6, none⟩ = some (.int .i64 sc) ∧ y7.cell? ⟨ad.block, ad.off + 7, none⟩ = some (.int .i64 di) ∧ y7.cell? ⟨ad.block, ad.off + 8, none⟩ = some (.int .i64 im) from ⟨HI7.out.cell 0, HI7.out.cell 1, HI7.out.cell 2, HI7.out.cell 3, HI7.out.cell 4, HI7.out.cell 5, HI7.out.cell 6, HI7.out.cell 7, HI7.out.cell 8, hX7.op, hX7.d, hX7.s, hX7.t, hX7.b, hX7.x, hX7.sc, hX7.di, hX7.im⟩); clear hb7 hX7) | fail)
            all_goals
              clear K6 K7 hX6 HX2 HI6 HI6d HI7 HEQ
              rcases HZ.out with ⟨i, hz1, hwf, hck, hsl, hcut, h11⟩ | hz1 | hz1
              · rw [hz1] at HIB
                have HRI := Lib.hid (fun W => rinst_c i W)
                rw [hck] at HRI
                have hcut' := hcut
                rw [beq_iff_eq] at hcut'
                have hl1 : ((encS i).size : Int) ≤ (behind.size : Int) := by omega
                have hl0 : (0 : Int) ≤ ((encS i).size : Int) := by omega
                have hmin : min ((encS i).size : Int) (behind.size : Int) = ((encS i).size : Int) := by omega
                have hmn : min (encS i).size behind.size = (encS i).size := by omega
                clear hz1 hwf hck hsl h11
                generalize encS i = es at *
                obtain ⟨op, d, s, t, b, x, sc, di, im⟩ := i
                unfold tD Ins.vs at HIB
                unfold Ins.vs at HRI
                dsimp only at HIB HRI
                go_wp2_with fail
                go_at_call 8
                refine (HIB.out _ (dc.tb HG (by assumption))).mono ?_
                rintro e w8 ⟨rfl, hb⟩
                have HB8 := Lib.hid (below_al (bel3 HB7.out hb) (.cells #[.int .i64 op, .int .i64 d, .int .i64 s, .int .i64 t, .int .i64 b, .int .i64 x, .int .i64 sc, .int .i64 di, .int .i64 im] 26))
                clear hb HIB
                go_wp2_with fail
                go_at_call 15
                refine (HRI.out _).mono ?_
                rintro e w9 ⟨rfl, hb⟩
                have HB9 := Lib.hid (bel3 HB8.out hb)
                clear hb HRI
                go_wp2_with fail
                go_ret
                exact ⟨by first | rfl | (simp [hmin, hmn]; done) | (simp [hcut']; done) | (simp [hmin, hmn, hcut']; done), HB9.out⟩
              · rw [hz1] at HIB
                unfold tD zI Ins.vs at HIB
                dsimp only at HIB
                have HEQ := instEq 0 0 0 0 0 0 0 0 0 0 0 0 0 0 0 0 0 0
                rw [show eqI ⟨0, 0, 0, 0, 0, 0, 0, 0, 0⟩ ⟨0, 0, 0, 0, 0, 0, 0, 0, 0⟩ = true from rfl] at HEQ
                go_wp2_with fail
                go_at_call 8
                refine (HIB.out _ (dc.tb HG (by assumption))).mono ?_
                rintro e w8 ⟨rfl, hb⟩
                have HB8 := Lib.hid (below_al (bel3 HB7.out hb) (.cells #[.int .i64 0, .int .i64 0, .int .i64 0, .int .i64 0, .int .i64 0, .int .i64 0, .int .i64 0, .int .i64 0, .int .i64 0] 26))
                clear hb HIB
                go_wp2_with fail
                go_ret
                exact ⟨rfl, HB8.out⟩
              · rw [hz1] at HIB
                unfold tD zI Ins.vs at HIB
                dsimp only at HIB
                have HEQ := instEq 0 0 0 0 0 0 0 0 0 0 0 0 0 0 0 0 0 0
                rw [show eqI ⟨0, 0, 0, 0, 0, 0, 0, 0, 0⟩ ⟨0, 0, 0, 0, 0, 0, 0, 0, 0⟩ = true from rfl] at HEQ
                go_wp2_with fail
                go_at_call 8
                refine (HIB.out _ (dc.tb HG (by assumption))).mono ?_
                rintro e w8 ⟨rfl, hb⟩
                have HB8 := Lib.hid (below_al (bel3 HB7.out hb) (.cells #[.int .i64 0, .int .i64 0, .int .i64 0, .int .i64 0, .int .i64 0, .int .i64 0, .int .i64 0, .int .i64 0, .int .i64 0] 26))
                clear hb HIB
                go_wp2_with fail
                go_ret
                exact ⟨rfl, HB8.out⟩
end decodeBack
end Go.Proofs.YtankmamoaajocaaDoor
