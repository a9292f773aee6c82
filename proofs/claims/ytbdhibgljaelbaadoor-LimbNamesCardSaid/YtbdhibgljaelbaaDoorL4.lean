/- The landed package limb: the table of forms; what fits; which program may not be, whatever its operations. -/
import Derived.Test.YtbdhibgljaelbaaDoorL3
namespace Go.Proofs.YtbdhibgljaelbaaDoor
open Go Go.RowKit Go.Sort
namespace Lb
open Wd Nt Gr
set_option linter.unusedVariables false
set_option linter.unusedSimpArgs false
def ftab : List (Int × Int × Int) := [(0, 0, 0), (1, 0, 18446744073709551615), (5, 0, 0), (13, 0, 0), (13, 0, 0), (13, 0, 0), (13, 0, 0), (13, 0, 0), (5, 1, 63), (5, 1, 63), (15, 0, 0), (31, 0, 0), (31, 0, 0), (29, 0, 0), (33, 0, 18446744073709551615), (40, 0, 18446744073709551615), (1, 1, 1048576), (0, 0, 0)]
def fP (k : Nat) : Int := ((ftab[k]?).getD (0, 0, 0)).1
def fL (k : Nat) : Int := ((ftab[k]?).getD (0, 0, 0)).2.1
def fM (k : Nat) : Int := ((ftab[k]?).getD (0, 0, 0)).2.2
/-- the table holds what its initialiser lays -/
structure TabF (w : World) : Prop where
  lt : 0 < w.heap.size
  pt : ∀ k : Nat, k < 18 → w.cell? ⟨0, k * 3, none⟩ = some (.int .u8 (fP k))
  le : ∀ k : Nat, k < 18 → w.cell? ⟨0, k * 3 + 1, none⟩ = some (.int .u64 (fL k))
  mo : ∀ k : Nat, k < 18 → w.cell? ⟨0, k * 3 + 2, none⟩ = some (.int .u64 (fM k))
theorem TabF.keep {w w' : World} (h : TabF w) (hb : Below w.heap.size w w') : TabF w' := by
  have hc : ∀ i, w'.cell? ⟨0, i, none⟩ = w.cell? ⟨0, i, none⟩ := fun i => hb.cell (p := ⟨0, i, none⟩) h.lt
  exact ⟨Nat.lt_of_lt_of_le h.lt hb.size, fun k hk => (hc _).trans (h.pt k hk), fun k hk => (hc _).trans (h.le k hk), fun k hk => (hc _).trans (h.mo k hk)⟩
theorem tab_k : ∀ k : Fin 18, 1 ≤ k.val → hb (fP k.val) 1 = hD k.val ∧ hb (fP k.val) 2 = hE k.val ∧ hb (fP k.val) 36 = (hA k.val || mm k.val) ∧ hb (fP k.val) 8 = hB k.val ∧ hb (fP k.val) 16 = hC k.val ∧ hb (fP k.val) 32 = mm k.val ∧ fL k.val = leI k.val ∧ fM k.val = moI k.val := by decide
theorem fits_eq (k : Nat) (h1 : 1 ≤ k) (h2 : k ≤ 17) (regs : Int) (bufs : List Bf) (o : Op) (ho : o.k = (k : Int)) :
    opOk regs bufs o = (rgv (fP k) regs o && plOk (hb (fP k) 32) bufs o && decide (fL k ≤ o.im) && decide (o.im ≤ fM k)) := by
  obtain ⟨e1, e2, e3, e4, e5, e6, e7, e8⟩ := tab_k ⟨k, by omega⟩ h1
  dsimp only at e1 e2 e3 e4 e5 e6 e7 e8
  unfold opOk rgv rgOk
  rw [e1, e2, e3, e4, e5, e6, e7, e8, ho, decide_eq_true (show (1 : Int) ≤ (k : Int) by omega), decide_eq_true (show (k : Int) ≤ 17 by omega)]
  simp only [Bool.true_and]
set_option maxRecDepth 100000 in
set_option maxHeartbeats 8000000 in
theorem fits_l (regs : Int) (A : Option Addr) (n c : Nat) (bufs : List Bf) (sl : Value) (o : Op) (w : World) (hT : TabF w) (hR : Rdr w w.heap.size A n bufs) (hwf : ∀ b ∈ bufs, b.wf) (ho : o.wf) (hn : n ≤ 1000000)
    (hsz : ∀ b ∈ bufs, 0 < b.sz) (hsl : ∃ X m d, sl = .slice X m d) : Calls Tryd.prog 73 #[.agg #[.int .i64 regs, .slice A n c, sl], .agg (Op.vs o).toArray] w fun e w' => e = .returned (.bool (opOk regs bufs o)) ∧ Below w.heap.size w w' := by
  obtain ⟨X, m, d, rfl⟩ := hsl
  have HRG := Lib.hid (fun p le mo W => fitsRegs_l p le mo regs o W)
  have HPL := Lib.hid (fun p le mo (W : World) (hb : Below w.heap.size w W) => fitsPlace_l p le mo A n c bufs o W ((hR.below hb).more hb.size) hwf ho hn hsz)
  have HFE := Lib.hid (fun k h1 h2 => fits_eq k h1 h2 regs bufs o)
  have HOO := Lib.hid (show opOk regs bufs o = (decide (1 ≤ o.k) && decide (o.k ≤ 17) && (rgOk (hD o.k) (hE o.k) (hA o.k) (hB o.k) (hC o.k) (mm o.k) regs o && plOk (mm o.k) bufs o && decide (leI o.k ≤ o.im) && decide (o.im ≤ moI o.k))) from rfl)
  have HT := Lib.hid hT
  clear hT hR hwf hsz
  have hHV : ∀ p, (rgv p regs o, plOk (hb p 32) bufs o) = (rgv p regs o, plOk (hb p 32) bufs o) := fun _ => rfl
  clear hHV
  generalize opOk regs bufs o = res at *
  obtain ⟨rg, hrg⟩ : ∃ f : Int → Bool, f = fun p => rgv p regs o := ⟨_, rfl⟩
  obtain ⟨pl, hpl⟩ : ∃ f : Int → Bool, f = fun p => plOk (hb p 32) bufs o := ⟨_, rfl⟩
  have HRG2 : Hid (∀ p le mo W, Calls Tryd.prog 94 #[.agg #[.int .u8 p, .int .u64 le, .int .u64 mo], .int .i64 regs, .agg (Op.vs o).toArray] W fun e w' => e = .returned (.bool (rg p)) ∧ Grw W w') := Lib.hid (fun p le mo W => by rw [hrg]; exact HRG.out p le mo W)
  have HPL2 : Hid (∀ p le mo W, Below w.heap.size w W → Calls Tryd.prog 95 #[.agg #[.int .u8 p, .int .u64 le, .int .u64 mo], .slice A n c, .agg (Op.vs o).toArray] W fun e w' => e = .returned (.bool (pl p)) ∧ Below W.heap.size W w') := Lib.hid (fun p le mo W hb => by rw [hpl]; exact HPL.out p le mo W hb)
  have HFE2 : Hid (∀ k : Nat, 1 ≤ k → k ≤ 17 → o.k = (k : Int) → res = (rg (fP k) && pl (fP k) && decide (fL k ≤ o.im) && decide (o.im ≤ fM k))) := Lib.hid (fun k h1 h2 h3 => by rw [hrg, hpl]; exact HFE.out k h1 h2 h3)
  have HNO : Hid (¬ (1 ≤ o.k ∧ o.k ≤ 17) → res = false) := Lib.hid (fun h => by
    rw [HOO.out]
    by_cases h1 : 1 ≤ o.k
    · rw [decide_eq_false (p := o.k ≤ 17) (fun h2 => h ⟨h1, h2⟩), Bool.and_false, Bool.false_and]
    · rw [decide_eq_false h1, Bool.false_and, Bool.false_and])
  clear HRG HPL HFE HOO hrg hpl
  obtain ⟨ok, od, oe, oa, ob, oc, obf, oim⟩ := o
  obtain ⟨hk, hd, he, ha, hb_, hc, hbf, him⟩ := ho
  unfold Op.vs at *
  dsimp only at *
  simp only [List.toArray] at *
  have HB0 : Hid (Below w.heap.size w ((w.alloc (.cells #[.int .i64 regs, .slice A n c, .slice X m d] 26)).alloc (.cells #[.int .i64 ok, .int .i64 od, .int .i64 oe, .int .i64 oa, .int .i64 ob, .int .i64 oc, .int .i64 obf, .int .u64 oim] 33))) := Lib.hid (bel_al' (bel_al _) _)
  have HF0 := Lib.hid ((Bk.new w 26 #[.int .i64 regs, .slice A n c, .slice X m d]).alloc (.cells #[.int .i64 ok, .int .i64 od, .int .i64 oe, .int .i64 oa, .int .i64 ob, .int .i64 oc, .int .i64 obf, .int .u64 oim] 33))
  have HI0 := Lib.hid (Bk.new (w.alloc (.cells #[.int .i64 regs, .slice A n c, .slice X m d] 26)) 33 #[.int .i64 ok, .int .i64 od, .int .i64 oe, .int .i64 oa, .int .i64 ob, .int .i64 oc, .int .i64 obf, .int .u64 oim])
  rw [show (w.alloc (.cells #[.int .i64 regs, .slice A n c, .slice X m d] 26)).heap.size = w.heap.size + 1 by simp] at HI0
  obtain ⟨W0, hW0⟩ : ∃ W0, W0 = (w.alloc (.cells #[.int .i64 regs, .slice A n c, .slice X m d] 26)).alloc (.cells #[.int .i64 ok, .int .i64 od, .int .i64 oe, .int .i64 oa, .int .i64 ob, .int .i64 oc, .int .i64 obf, .int .u64 oim] 33) := ⟨_, rfl⟩
  rw [← hW0] at HB0 HF0 HI0
  have hs0 : W0.heap.size = w.heap.size + 2 := by rw [hW0]; simp
  have HS0 := Lib.hid hs0
  have HW0 := Lib.hid hW0
  clear hW0 hs0
  obtain ⟨f0, f1, f2⟩ := c3 HF0.out
  obtain ⟨a0, a1, a2, a3, a4, a5, a6, a7⟩ := c8 HI0.out
  by_cases hr : 1 ≤ ok ∧ ok ≤ 17
  · obtain ⟨j, rfl⟩ : ∃ j : Nat, ok = (j : Int) := ⟨ok.toNat, by omega⟩
    have HT0 := HT.out
    have t0 := HT0.pt j (by omega)
    have t1 := HT0.le j (by omega)
    have t2 := HT0.mo j (by omega)
    have tlt := HT0.lt
    have HRES := Lib.hid (HFE2.out j (by omega) (by omega) rfl)
    have hj1 : ¬ ((j : Int) < 1) := by omega
    have hj2 : ¬ ((17 : Int) < (j : Int)) := by omega
    have hj3 : (j : Int) < 18 := by omega
    have hj4 : (0 : Int) ≤ (j : Int) := by omega
    clear hr HFE2 HNO HT0
    generalize fP j = pp at *
    generalize fL j = ll at *
    generalize fM j = mo at *
    go_enter Tryd.func73, Tryd.ntmps73
    try simp only [List.append]
    have HK1 := Lib.hid (Bk.new W0 131 #[.int .u8 pp, .int .u64 ll, .int .u64 mo])
    have HB1 := Lib.hid (bel_al' HB0.out (.cells #[.int .u8 pp, .int .u64 ll, .int .u64 mo] 131))
    have HF1 := Lib.hid (HF0.out.alloc (.cells #[.int .u8 pp, .int .u64 ll, .int .u64 mo] 131))
    have HI1 := Lib.hid (HI0.out.alloc (.cells #[.int .u8 pp, .int .u64 ll, .int .u64 mo] 131))
    rw [HS0.out] at HK1
    go_wp2_with (fail)
    rw [← HW0.out]
    clear f0 f1 f2 a0 a1 a2 a3 a4 a5 a6 a7 t0 t1 t2 tlt
    go_at_call 94
    refine (HRG2.out _ _ _ _).mono ?_
    rintro e' w2 ⟨rfl, hq⟩
    have HB2 := Lib.hid (bel_tr HB1.out hq.below)
    have HK2 := Lib.hid (HK1.out.below hq.below HK1.out.lt)
    have HF2 := Lib.hid (HF1.out.below hq.below HF1.out.lt)
    have HI2 := Lib.hid (HI1.out.below hq.below HI1.out.lt)
    clear hq HRG2 HK1 HF1 HI1 HF0 HI0
    obtain ⟨f0, f1, f2⟩ := c3 HF2.out
    obtain ⟨g0, g1, g2⟩ := c3 HK2.out
    obtain ⟨a0, a1, a2, a3, a4, a5, a6, a7⟩ := c8 HI2.out
    cases r1 : rg pp with
    | false =>
      rw [r1] at HRES
      go_wp2_with fail
      go_ret
      exact ⟨by rw [HRES.out]; simp, HB2.out⟩
    | true =>
      rw [r1] at HRES
      go_wp2_with fail
      go_at_call 95
      refine (HPL2.out _ _ _ _ HB2.out).mono ?_
      rintro e' w3 ⟨rfl, hq⟩
      have HB3 := Lib.hid (bel_tr HB2.out hq)
      have HK3 := Lib.hid (HK2.out.below hq HK2.out.lt)
      have HI3 := Lib.hid (HI2.out.below hq HI2.out.lt)
      clear hq HPL2 f0 f1 f2 g0 g1 g2 a0 a1 a2 a3 a4 a5 a6 a7
      obtain ⟨g0, g1, g2⟩ := c3 HK3.out
      obtain ⟨a0, a1, a2, a3, a4, a5, a6, a7⟩ := c8 HI3.out
      cases r2 : pl pp with
      | false =>
        rw [r2] at HRES
        go_wp2_with fail
        go_ret
        exact ⟨by rw [HRES.out]; simp, HB3.out⟩
      | true =>
        rw [r2] at HRES
        by_cases r3 : ll ≤ oim
        · rw [decide_eq_true r3] at HRES
          go_wp2_with fail
          go_ret
          exact ⟨by rw [HRES.out]; simp, HB3.out⟩
        · have r4 : oim < ll := by omega
          rw [decide_eq_false r3] at HRES
          go_wp2_with fail
          go_ret
          exact ⟨by rw [HRES.out]; simp, HB3.out⟩
  · have HF := Lib.hid (HNO.out hr)
    rcases (show ok < 1 ∨ 17 < ok by omega) with h | h2
    · clear hr
      go_enter Tryd.func73, Tryd.ntmps73
      try simp only [List.append]
      go_wp2_with (fail)
      go_ret
      exact ⟨by have h := HF.out; subst h; rfl, by rw [← HW0.out]; exact HB0.out⟩
    · have h1 : ¬ (ok < 1) := by omega
      clear hr
      go_enter Tryd.func73, Tryd.ntmps73
      try simp only [List.append]
      go_wp2_with (fail)
      go_ret
      exact ⟨by have h := HF.out; subst h; rfl, by rw [← HW0.out]; exact HB0.out⟩
end Lb
end Go.Proofs.YtbdhibgljaelbaaDoor
