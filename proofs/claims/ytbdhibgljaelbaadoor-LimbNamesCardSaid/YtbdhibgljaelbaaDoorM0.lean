/- The landed package limb: Check. -/
import Derived.Test.YtbdhibgljaelbaaDoorL9
namespace Go.Proofs.YtbdhibgljaelbaaDoor
open Go Go.RowKit Go.Sort Go.Shelf
namespace Lb
open Wd Nt Gr
set_option linter.unusedVariables false
set_option linter.unusedSimpArgs false
theorem chkG_at {regs : Int} {bufs : List Bf} {ops : List Op} {s : Ah} {k : Nat} {o : Op} (h : ops[k]? = some o) : chkG regs bufs (ops.drop k) s k = if fltO regs bufs s o ≠ 0 then (k, fltO regs bufs s o) else chkG regs bufs (ops.drop (k + 1)) (adv s o) (k + 1) := by
  have hk := (List.getElem?_eq_some_iff.1 h).1
  have e : ops[k] = o := by rw [List.getElem?_eq_getElem hk] at h; exact Option.some.inj h
  rw [List.drop_eq_getElem_cons hk, e]
  rfl
theorem flt_zero {regs : Int} {bufs : List Bf} {s : Ah} {o : Op} (h : fltO regs bufs s o = 0) : opOk regs bufs o = true ∧ misP s o = false ∧ ¬ (o.k = 16 ∧ s.lp.length = 8) ∧ hasR s.md o.a = true ∧ hasR s.md o.b = true ∧ hasR s.md o.c = true := by
  unfold fltO at h
  by_cases h1 : opOk regs bufs o = false
  · rw [if_pos h1] at h; cases h
  rw [if_neg h1] at h
  by_cases h2 : misP s o = true
  · rw [if_pos h2] at h; cases h
  rw [if_neg h2] at h
  by_cases h3 : o.k = 16 ∧ s.lp.length = 8
  · rw [if_pos h3] at h; cases h
  rw [if_neg h3] at h
  by_cases h4 : (hasR s.md o.a && hasR s.md o.b && hasR s.md o.c) = true
  · simp only [Bool.and_eq_true] at h4
    exact ⟨by simpa using h1, by simpa using h2, h3, h4.1.1, h4.1.2, h4.2⟩
  · rw [if_neg h4] at h; cases h
theorem adv_len {regs : Int} {bufs : List Bf} {s : Ah} {o : Op} (h : fltO regs bufs s o = 0) (hl : s.lp.length ≤ 8) : (adv s o).lp.length ≤ 8 := by
  obtain ⟨_, _, h3, _⟩ := flt_zero h
  unfold adv
  split
  · show s.lp.dropLast.length ≤ 8
    rw [List.length_dropLast]; omega
  · split
    · rename_i h4
      show (s.lp ++ [o.d]).length ≤ 8
      rw [List.length_append]
      have : s.lp.length ≠ 8 := fun e => h3 ⟨h4, e⟩
      simp
      omega
    · exact hl
theorem mis_17 {s : Ah} {o : Op} (h : misP s o = false) (hk : o.k = 17) : s.lp ≠ [] := by
  unfold misP at h
  rw [if_pos hk] at h
  intro e
  rw [e] at h
  cases h
theorem ref_zero {p : Pg} (h : refP p = 0) : p.rg ≤ 64 ∧ p.bf.length ≤ 32 ∧ p.op.length ≤ 65536 ∧ 0 ≤ p.rg ∧ ∀ b ∈ p.bf, 0 < b.sz ∧ b.sz ≤ 65536 ∧ 1 ≤ b.kd ∧ b.kd ≤ 3 := by
  unfold refP at h
  by_cases h1 : (decide (64 < p.rg) || decide (32 < p.bf.length) || decide (65536 < p.op.length) || p.bf.any longB) = true
  · rw [if_pos h1] at h; cases h
  rw [if_neg h1] at h
  by_cases h2 : (decide (p.rg < 0) || p.bf.any wrongB) = true
  · rw [if_pos h2] at h; cases h
  simp only [Bool.or_eq_true, decide_eq_true_eq, List.any_eq_true, not_or, not_exists] at h1 h2
  obtain ⟨⟨⟨a, b⟩, c⟩, d⟩ := h1
  refine ⟨by omega, by omega, by omega, by omega, fun x hx => ?_⟩
  have d1 := d x
  have d2 := h2.2 x
  unfold longB at d1
  unfold wrongB at d2
  simp only [hx, true_and, decide_eq_true_eq, Bool.or_eq_true, not_or] at d1 d2
  omega
theorem ah0_cells : ahA ah0.md (.slice none 0 0) = ahA (fun _ => false) (.slice none 0 0) := rfl
set_option maxRecDepth 100000 in
theorem ahA_zero : Tryd.zeroCells79 = ahA ah0.md (.slice none 0 0) := by kernel_rfl
theorem ahW_zero (w : World) {B : Nat} (hB : B ≤ w.heap.size) : AhW (w.alloc (.cells Tryd.zeroCells79 79)) B w.heap.size ah0 :=
  ⟨⟨.slice none 0 0, by rw [ahA_zero]; exact Bk.new _ _ _, ⟨rfl, .inl ⟨rfl, rfl⟩⟩⟩, hB, fun d hd => by cases hd⟩
set_option maxRecDepth 100000 in
set_option maxHeartbeats 8000000 in
theorem check_l (p : Pg) (hp : p.wf) (A X : Option Addr) (c d : Nat) (w : World) (hT : TabF w) (hR : Rdr w w.heap.size A p.bf.length p.bf) (hX : Rdr w w.heap.size X p.op.length p.op) :
    Calls Tryd.prog 22 #[pgV p A c X d] w fun e w' => e = .returned (.tuple #[.int .i64 ((chkP p).1 : Nat), .int .i64 (chkP p).2]) ∧ Below w.heap.size w w' := by
  have HRF := Lib.hid (fun (W : World) (hb : Below w.heap.size w W) => refuse_l p A X c d W ((hR.below hb).more hb.size))
  have HE : Hid (chkP p = if refP p ≠ 0 then (0, refP p) else chkG p.rg p.bf p.op ah0 0) := Lib.hid rfl
  generalize chkP p = res at *
  unfold pgV at *
  have HB0 := Lib.hid (bel_al (w := w) (.cells #[.int .i64 p.rg, .slice A p.bf.length c, .slice X p.op.length d] 26))
  have HK0 := Lib.hid (Bk.new w 26 #[.int .i64 p.rg, .slice A p.bf.length c, .slice X p.op.length d])
  have HR := Lib.hid hR
  have HX := Lib.hid hX
  have HT := Lib.hid hT
  clear hR hX hT
  go_enter Tryd.func22, Tryd.ntmps22
  go_wp2_with fail
  go_at_call 45
  refine (HRF.out _ HB0.out).mono ?_
  rintro e' w2 ⟨rfl, hb⟩
  have HB2 := Lib.hid (bel_tr HB0.out hb)
  have HK2 := Lib.hid (HK0.out.below hb HK0.out.lt)
  clear hb HRF
  by_cases h0 : refP p = 0
  · rw [if_neg (by simpa using h0)] at HE
    have HZ := Lib.hid (ref_zero h0)
    rw [h0]
    clear h0
    obtain ⟨a0, a1, a2⟩ := c3 HK2.out
    have hlt2 := HK2.out.lt
    have hml : (p.op.length : Int) ≤ 65536 := by have := HZ.out.2.2.1; omega
    have HAW0 := Lib.hid (ahW_zero w2 (Nat.le_refl _))
    have HBW0 : Hid (Below w.heap.size w (w2.alloc (.cells Tryd.zeroCells79 79))) := Lib.hid (bel_al' HB2.out _)
    have HKW0 := Lib.hid (HK2.out.alloc (.cells Tryd.zeroCells79 79))
    have HLE : Hid (w2.heap.size ≤ (w2.alloc (.cells Tryd.zeroCells79 79)).heap.size) := Lib.hid (by rw [World.size_alloc]; exact Nat.le_succ _)
    go_wp2_with fail
    go_loopw [17] (fun i W => ∃ (k : Nat) (s : Ah), k ≤ p.op.length ∧ i = .int .i64 (k : Int) ∧ Hid (res = chkG p.rg p.bf (p.op.drop k) s k) ∧ Hid (s.lp.length ≤ 8) ∧ Hid (AhW W w2.heap.size w2.heap.size s) ∧ Hid (Below w.heap.size w W) ∧ Hid (Bk W w.heap.size 26 #[.int .i64 p.rg, .slice A p.bf.length c, .slice X p.op.length d]) ∧ Hid (w2.heap.size ≤ W.heap.size)) (fun i _ => p.op.length - (intOf i).toNat)
    case atStart => exact ⟨0, ah0, Nat.zero_le _, rfl, Lib.hid (by rw [HE.out]; rfl), Lib.hid (Nat.zero_le _), HAW0, HBW0, HKW0, HLE⟩
    case round =>
      obtain ⟨k, s, hk, rfl, HC, HL, HA, HB, HK, HS⟩ := hrel
      clear HAW0 HBW0 HKW0 HLE a0 a1 a2
      obtain ⟨a0, a1, a2⟩ := c3 HK.out
      have hgt := HK.out.lt
      rcases Nat.lt_or_ge k p.op.length with hlt | hge
      · have hki : (k : Int) < (p.op.length : Int) := by omega
        obtain ⟨oo, hoo⟩ : ∃ o, p.op[k]? = some o := ⟨_, List.getElem?_eq_getElem hlt⟩
        have HCH := Lib.hid (HC.out.trans (chkG_at hoo))
        have HWF := Lib.hid (hp.op oo (List.mem_of_getElem? hoo))
        obtain ⟨bx, ox, hX, hbx, o0, o1, o2, o3, o4, o5, o6, o7⟩ := op_at (HX.out.below HB.out) hoo
        subst hX
        clear hoo HC
        have HB1 := Lib.hid (bel_al' HB.out (.cells #[.int .i64 oo.k, .int .i64 oo.d, .int .i64 oo.e, .int .i64 oo.a, .int .i64 oo.b, .int .i64 oo.c, .int .i64 oo.bf, .int .u64 oo.im] 33))
        have HO1 := Lib.hid (Bk.new wr 33 #[.int .i64 oo.k, .int .i64 oo.d, .int .i64 oo.e, .int .i64 oo.a, .int .i64 oo.b, .int .i64 oo.c, .int .i64 oo.bf, .int .u64 oo.im])
        have HA1 := Lib.hid (HA.out.below (bel_al (.cells #[.int .i64 oo.k, .int .i64 oo.d, .int .i64 oo.e, .int .i64 oo.a, .int .i64 oo.b, .int .i64 oo.c, .int .i64 oo.bf, .int .u64 oo.im] 33)))
        have HK1 := Lib.hid (HK.out.alloc (.cells #[.int .i64 oo.k, .int .i64 oo.d, .int .i64 oo.e, .int .i64 oo.a, .int .i64 oo.b, .int .i64 oo.c, .int .i64 oo.bf, .int .u64 oo.im] 33))
        have HF := Lib.hid (fault_l w2.heap.size w2.heap.size s p.rg HZ.out.1 A p.bf.length c p.bf (.slice (some ⟨bx, ox, none⟩) p.op.length d) oo _ (HT.out.keep HB1.out) HA1.out HL.out ((HR.out.below HB1.out).more HB1.out.size) hp.bf HWF.out (by have := HZ.out.2.1; omega) (fun b hb => (HZ.out.2.2.2.2 b hb).1) ⟨_, _, _, rfl⟩)
        have HFZ := Lib.hid (fun (h : fltO p.rg p.bf s oo = 0) => (show Rgs oo ∧ (hD oo.k = true → 0 ≤ oo.d) ∧ (oo.k = 17 → s.lp ≠ []) ∧ (adv s oo).lp.length ≤ 8 from ⟨(opOk_rg HZ.out.1 (flt_zero h).1).1, (opOk_rg HZ.out.1 (flt_zero h).1).2.2.2.1, fun e => mis_17 (flt_zero h).2.1 e, adv_len h HL.out⟩))
        generalize fltO p.rg p.bf s oo = fv at *
        unfold Op.vs at HF
        simp only [List.toArray] at HF
        go_wp2_with fail
        go_at_call 46
        refine HF.out.mono ?_
        rintro e' w3 ⟨rfl, hb⟩
        have HB3 := Lib.hid (bel_tr HB1.out hb)
        have HO3 := Lib.hid (HO1.out.below hb HO1.out.lt)
        have HA3 := Lib.hid (HA1.out.below hb)
        have HK3 := Lib.hid (HK1.out.below hb HK1.out.lt)
        have HS3 : Hid (w2.heap.size ≤ w3.heap.size) := Lib.hid (by have h1 := hb.size; rw [World.size_alloc] at h1; have := HS.out; omega)
        clear hb HF o0 o1 o2 o3 o4 o5 o6 o7 a0 a1 a2
        by_cases hf : fv = 0
        · subst hf
          rw [if_neg (by decide)] at HCH
          obtain ⟨q1, q2, q3, q4⟩ := HFZ.out rfl
          have HAD := Lib.hid (add_l w2.heap.size w2.heap.size s oo q1 q2 q3 w3 HA3.out HL.out HS3.out)
          have HL4 := Lib.hid q4
          unfold Op.vs at HAD
          simp only [List.toArray] at HAD
          clear q1 q2 q3 q4 HFZ
          obtain ⟨b0, b1, b2, b3, b4, b5, b6, b7⟩ := c8 HO3.out
          go_wp2_with fail
          go_at_call 47
          refine HAD.out.mono ?_
          rintro e' w4 ⟨rfl, hA4, hb4⟩
          have HA4 := Lib.hid hA4
          have HB4 : Hid (Below w.heap.size w w4) := Lib.hid (HB3.out.trans (hb4.mono HB2.out.size))
          have HK4 : Hid (Bk w4 w.heap.size 26 #[.int .i64 p.rg, .slice A p.bf.length c, .slice (some ⟨bx, ox, none⟩) p.op.length d]) := Lib.hid (HK3.out.below hb4 hlt2)
          have HS4 : Hid (w2.heap.size ≤ w4.heap.size) := Lib.hid (by have := hb4.size; have := HS3.out; omega)
          clear hA4 hb4 HAD
          go_wp2_with fail
          go_roundw
          case rel => exact ⟨k + 1, adv s oo, by omega, by go_num, HCH, HL4, HA4, HB4, HK4, HS4⟩
          case measure => (simp [intOf] <;> omega)
        · rw [if_pos hf] at HCH
          have hne : (fv != 0) = true := by simpa using hf
          clear hf
          go_wp2_with fail
          go_ret2
          exact ⟨by rw [HCH.out]; rfl, HB3.out⟩
      · obtain rfl : k = p.op.length := by omega
        obtain ⟨A6, c6, hBk, _, hlg, _, _⟩ := HA.out.open_
        have g64 := (hBk.cell 64).trans (ahA_last _ _)
        have HRES : Hid (res = (p.op.length, if s.lp.isEmpty then 0 else 9)) := Lib.hid (by rw [HC.out, List.drop_of_length_le (Nat.le_refl _)]; rfl)
        clear hBk HC
        by_cases he : s.lp = []
        · rw [he] at g64 HRES
          go_wp2_with fail
          go_ret2
          exact ⟨by rw [HRES.out]; rfl, HB.out⟩
        · have hpos : 0 < s.lp.length := List.length_pos_iff.2 he
          have hpos4 : (0 : Int) < (s.lp.length : Int) := by omega
          have hie : s.lp.isEmpty = false := by simpa using he
          rw [hie] at HRES
          clear he hie
          generalize s.lp.length = ln at *
          go_wp2_with fail
          go_ret2
          exact ⟨by rw [HRES.out]; rfl, HB.out⟩
  · rw [if_pos h0] at HE
    have hne : (refP p != 0) = true := by simpa using h0
    clear h0
    generalize refP p = rv at *
    go_wp2_with fail
    go_ret2
    exact ⟨by rw [HE.out]; rfl, HB2.out⟩
end Lb
end Go.Proofs.YtbdhibgljaelbaaDoor
