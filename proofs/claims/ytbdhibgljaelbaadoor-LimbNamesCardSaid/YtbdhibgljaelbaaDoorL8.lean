/- The landed package limb: an operation's fault, what it counts. -/
import Derived.Test.YtbdhibgljaelbaaDoorL7
namespace Go.Proofs.YtbdhibgljaelbaaDoor
open Go Go.RowKit Go.Sort Go.Shelf
namespace Lb
open Wd Nt Gr
set_option linter.unusedVariables false
set_option linter.unusedSimpArgs false
theorem rOk_rg {h : Bool} {r regs : Int} (hr : regs ≤ 64) (k : rOk h r regs = true) : Rg r := by
  unfold rOk at k
  cases h with
  | true => simp at k; unfold Rg; omega
  | false => simp at k; unfold Rg; omega
structure Rgs (o : Op) : Prop where
  d : Rg o.d
  e : Rg o.e
  a : Rg o.a
  b : Rg o.b
  c : Rg o.c
theorem opOk_rg {regs : Int} {bufs : List Bf} {o : Op} (hr : regs ≤ 64) (h : opOk regs bufs o = true) : Rgs o ∧ 1 ≤ o.k ∧ o.k ≤ 17 ∧ (hD o.k = true → 0 ≤ o.d) ∧ (hD o.k = false → o.d = -1) ∧ (hE o.k = false → o.e = -1) := by
  unfold opOk rgOk at h
  simp only [Bool.and_eq_true, decide_eq_true_eq] at h
  obtain ⟨⟨k1, k2⟩, ⟨⟨⟨_, ⟨⟨⟨⟨hd, he⟩, ha⟩, hb⟩, hc⟩⟩, _⟩, _⟩, _⟩ := h
  refine ⟨⟨rOk_rg hr hd, rOk_rg hr he, ?_, rOk_rg hr hb, rOk_rg hr hc⟩, k1, k2, fun e => ?_, fun e => ?_, fun e => ?_⟩
  · rw [Bool.or_eq_true] at ha
    rcases ha with ha | ha
    · simp at ha; unfold Rg; omega
    · exact rOk_rg hr ha
  · rw [e] at hd; unfold rOk at hd; simp at hd; omega
  · rw [e] at hd; unfold rOk at hd; simpa using hd
  · rw [e] at he; unfold rOk at he; simpa using he
set_option maxRecDepth 100000 in
set_option maxHeartbeats 8000000 in
theorem fault_l (B g : Nat) (s : Ah) (regs : Int) (hrg : regs ≤ 64) (A : Option Addr) (n c : Nat) (bufs : List Bf) (sl : Value) (o : Op) (w : World) (hT : TabF w) (hA : AhW w B g s) (hnl : s.lp.length ≤ 8) (hR : Rdr w w.heap.size A n bufs) (hwf : ∀ b ∈ bufs, b.wf) (ho : o.wf) (hn : n ≤ 1000000)
    (hsz : ∀ b ∈ bufs, 0 < b.sz) (hsl : ∃ X m d, sl = .slice X m d) :
    Calls Tryd.prog 46 #[.pointer (some ⟨g, 0, none⟩), .agg #[.int .i64 regs, .slice A n c, sl], .agg (Op.vs o).toArray] w fun e w' => e = .returned (.int .i64 (fltO regs bufs s o)) ∧ Below w.heap.size w w' := by
  have HFI := Lib.hid (fun (W : World) (hb : Below w.heap.size w W) => fits_l regs A n c bufs sl o W (hT.keep hb) ((hR.below hb).more hb.size) hwf ho hn hsz hsl)
  have HRS := Lib.hid (fun h => opOk_rg (regs := regs) (bufs := bufs) (o := o) hrg h)
  have HMI := Lib.hid (fun (W : World) (hb : Below w.heap.size w W) (h : Rgs o) => mis_l B g s o h.d h.e W (hA.below hb) hnl)
  have HHA := Lib.hid (fun (W : World) (hb : Below w.heap.size w W) (A' : Option Addr) (c' : Nat) (hB : Bk w g 79 (ahA s.md (.slice A' s.lp.length c'))) (h : Rgs o) => (show _ ∧ _ ∧ _ from ⟨has_m g s.md _ o.a h.a W (hB.below hb hB.lt), has_m g s.md _ o.b h.b W (hB.below hb hB.lt), has_m g s.md _ o.c h.c W (hB.below hb hB.lt)⟩))
  have HE : Hid (fltO regs bufs s o = if opOk regs bufs o = false then 2 else if misP s o then 9 else if o.k = 16 ∧ s.lp.length = 8 then 10 else if hasR s.md o.a && hasR s.md o.b && hasR s.md o.c then 0 else 5) := Lib.hid rfl
  obtain ⟨A', c', hB, _, _, _, _⟩ := hA.open_
  obtain ⟨X, m, d, rfl⟩ := hsl
  have HB := Lib.hid hB
  clear hT hA hR hwf hsz
  generalize fltO regs bufs s o = res at *
  generalize opOk regs bufs o = ok at *
  generalize misP s o = mp at *
  generalize hasR s.md o.a = va at *
  generalize hasR s.md o.b = vb at *
  generalize hasR s.md o.c = vc at *
  generalize s.md = md at *
  generalize s.lp.length = ln at *
  have HRO : Hid (ok = true → Rgs o) := Lib.hid (fun h => (HRS.out h).1)
  clear HRS
  obtain ⟨rgs, hrgs⟩ : ∃ P : Prop, P = Rgs o := ⟨_, rfl⟩
  rw [← hrgs] at HRO HHA
  have HMI2 : Hid (∀ (W : World), Below w.heap.size w W → rgs → Calls Tryd.prog 74 #[.pointer (some ⟨g, 0, none⟩), .agg (Op.vs o).toArray] W fun e w' => e = .returned (.bool mp) ∧ Below W.heap.size W w') := Lib.hid (fun W hb h => HMI.out W hb (hrgs ▸ h))
  clear HMI hrgs
  obtain ⟨ok_, od, oe, oa, ob, oc, obf, oim⟩ := o
  unfold Op.vs at *
  dsimp only at *
  simp only [List.toArray] at *
  have HB0 : Hid (Below w.heap.size w ((w.alloc (.cells #[.int .i64 regs, .slice A n c, .slice X m d] 26)).alloc (.cells #[.int .i64 ok_, .int .i64 od, .int .i64 oe, .int .i64 oa, .int .i64 ob, .int .i64 oc, .int .i64 obf, .int .u64 oim] 33))) := Lib.hid (bel_al' (bel_al _) _)
  have HI0 := Lib.hid (Bk.new (w.alloc (.cells #[.int .i64 regs, .slice A n c, .slice X m d] 26)) 33 #[.int .i64 ok_, .int .i64 od, .int .i64 oe, .int .i64 oa, .int .i64 ob, .int .i64 oc, .int .i64 obf, .int .u64 oim])
  rw [show (w.alloc (.cells #[.int .i64 regs, .slice A n c, .slice X m d] 26)).heap.size = w.heap.size + 1 by simp] at HI0
  obtain ⟨W0, hW0⟩ : ∃ W0, W0 = (w.alloc (.cells #[.int .i64 regs, .slice A n c, .slice X m d] 26)).alloc (.cells #[.int .i64 ok_, .int .i64 od, .int .i64 oe, .int .i64 oa, .int .i64 ob, .int .i64 oc, .int .i64 obf, .int .u64 oim] 33) := ⟨_, rfl⟩
  rw [← hW0] at HB0 HI0
  have HW0 := Lib.hid hW0
  clear hW0
  go_enter Tryd.func46, Tryd.ntmps46
  go_wp2_with fail
  rw [← HW0.out]
  go_at_call 73
  refine (HFI.out _ HB0.out).mono ?_
  rintro e' w2 ⟨rfl, hb⟩
  have HB2 := Lib.hid (bel_tr HB0.out hb)
  have HI2 := Lib.hid (HI0.out.below hb HI0.out.lt)
  clear hb HFI
  cases ok with
  | false =>
    rw [if_pos rfl] at HE
    go_wp2_with fail
    go_ret
    exact ⟨by rw [HE.out]; rfl, HB2.out⟩
  | true =>
    rw [if_neg (by decide)] at HE
    have HRR := Lib.hid (HRO.out rfl)
    obtain ⟨a0, a1, a2, a3, a4, a5, a6, a7⟩ := c8 HI2.out
    go_wp2_with fail
    go_at_call 74
    refine (HMI2.out _ HB2.out HRR.out).mono ?_
    rintro e' w3 ⟨rfl, hb⟩
    have HB3 := Lib.hid (bel_tr HB2.out hb)
    have HI3 := Lib.hid (HI2.out.below hb HI2.out.lt)
    clear hb HMI2 a0 a1 a2 a3 a4 a5 a6 a7
    obtain ⟨a0, a1, a2, a3, a4, a5, a6, a7⟩ := c8 HI3.out
    have HA3 := Lib.hid (HB.out.below HB3.out HB.out.lt)
    cases mp with
    | true =>
      rw [if_pos rfl] at HE
      go_wp2_with fail
      go_ret
      exact ⟨by rw [HE.out]; rfl, HB3.out⟩
    | false =>
      rw [if_neg (by decide)] at HE
      have g64 := (HA3.out.cell 64).trans (ahA_last _ _)
      by_cases hten : ok_ = 16 ∧ ln = 8
      · obtain ⟨rfl, rfl⟩ := hten
        rw [if_pos ⟨rfl, rfl⟩] at HE
        go_wp2_with fail
        go_ret
        exact ⟨by rw [HE.out]; rfl, HB3.out⟩
      · rw [if_neg hten] at HE
        have HQ : Hid ((ok_ == 16) = false) ∨ Hid (ok_ = 16 ∧ ((ln : Int) == 8) = false) := by
          by_cases h : ok_ = 16
          · exact .inr (Lib.hid ⟨h, by rw [beq_eq_false_iff_ne]; exact fun e => hten ⟨h, by omega⟩⟩)
          · exact .inl (Lib.hid (by rw [beq_eq_false_iff_ne]; exact h))
        clear hten
        have HKA := Lib.hid (fun q => (HHA.out (w3.drewN q) (below_drewN HB3.out q) _ _ HB.out HRR.out).1)
        have HKB := Lib.hid (fun q => (HHA.out (w3.drewN q) (below_drewN HB3.out q) _ _ HB.out HRR.out).2.1)
        have HKC := Lib.hid (fun q => (HHA.out (w3.drewN q) (below_drewN HB3.out q) _ _ HB.out HRR.out).2.2)
        clear HHA
        rcases HQ with K | K
        all_goals (
          first
            | (obtain ⟨rfl, k1⟩ := K.out)
            | (have k1 := K.out)
          clear K
          cases va with
          | false =>
            go_wp2_with fail
            go_quiet ((go_at_call 75; first | (with_reducible exact Calls.quiet_of_same (HKA.out _))))
            go_wp2_with fail
            go_ret
            exact ⟨by rw [HE.out]; rfl, below_drewN HB3.out _⟩
          | true =>
            cases vb with
            | false =>
              go_wp2_with fail
              go_quiet ((go_at_call 75; first | (with_reducible exact Calls.quiet_of_same (HKA.out _)) | (with_reducible exact Calls.quiet_of_same (HKB.out _))))
              go_wp2_with fail
              go_ret
              exact ⟨by rw [HE.out]; rfl, below_drewN HB3.out _⟩
            | true =>
              cases vc with
              | false =>
                go_wp2_with fail
                go_quiet ((go_at_call 75; first | (with_reducible exact Calls.quiet_of_same (HKA.out _)) | (with_reducible exact Calls.quiet_of_same (HKB.out _)) | (with_reducible exact Calls.quiet_of_same (HKC.out _))))
                go_wp2_with fail
                go_ret
                exact ⟨by rw [HE.out]; rfl, below_drewN HB3.out _⟩
              | true =>
                go_wp2_with fail
                go_quiet ((go_at_call 75; first | (with_reducible exact Calls.quiet_of_same (HKA.out _)) | (with_reducible exact Calls.quiet_of_same (HKB.out _)) | (with_reducible exact Calls.quiet_of_same (HKC.out _))))
                go_wp2_with fail
                go_ret
                exact ⟨by rw [HE.out]; rfl, below_drewN HB3.out _⟩)
end Lb
end Go.Proofs.YtbdhibgljaelbaaDoor
