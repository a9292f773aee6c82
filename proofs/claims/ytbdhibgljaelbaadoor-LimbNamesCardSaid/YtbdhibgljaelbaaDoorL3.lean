/- The landed package limb: an operation's place, its number; what fits. -/
import Derived.Test.YtbdhibgljaelbaaDoorL2
namespace Go.Proofs.YtbdhibgljaelbaaDoor
open Go Go.RowKit Go.Sort
namespace Lb
open Wd Nt Gr
set_option linter.unusedVariables false
set_option linter.unusedSimpArgs false
theorem op_at {w : World} {B n : Nat} {A : Option Addr} {xs : List Op} (h : Rdr w B A n xs) {j : Nat} {x : Op} (hj : xs[j]? = some x) :
    ∃ b o, A = some ⟨b, o, none⟩ ∧ b < B ∧ w.cell? ⟨b, o + j * 8, none⟩ = some (.int .i64 x.k) ∧ w.cell? ⟨b, o + j * 8 + 1, none⟩ = some (.int .i64 x.d) ∧ w.cell? ⟨b, o + j * 8 + 2, none⟩ = some (.int .i64 x.e) ∧ w.cell? ⟨b, o + j * 8 + 3, none⟩ = some (.int .i64 x.a) ∧ w.cell? ⟨b, o + j * 8 + 4, none⟩ = some (.int .i64 x.b) ∧ w.cell? ⟨b, o + j * 8 + 5, none⟩ = some (.int .i64 x.c) ∧ w.cell? ⟨b, o + j * 8 + 6, none⟩ = some (.int .i64 x.bf) ∧ w.cell? ⟨b, o + j * 8 + 7, none⟩ = some (.int .u64 x.im) := by
  obtain ⟨b, o, e, hb, hc⟩ := h.at_ hj
  exact ⟨b, o, e, hb, hc 0 _ rfl, hc 1 _ rfl, hc 2 _ rfl, hc 3 _ rfl, hc 4 _ rfl, hc 5 _ rfl, hc 6 _ rfl, hc 7 _ rfl⟩
theorem bf_at {w : World} {B n : Nat} {A : Option Addr} {xs : List Bf} (h : Rdr w B A n xs) {j : Nat} {x : Bf} (hj : xs[j]? = some x) :
    ∃ b o, A = some ⟨b, o, none⟩ ∧ b < B ∧ w.cell? ⟨b, o + j * 3, none⟩ = some (.int .i64 x.sz) ∧ w.cell? ⟨b, o + j * 3 + 1, none⟩ = some (.int .i64 x.kd) ∧ w.cell? ⟨b, o + j * 3 + 2, none⟩ = some (.bool x.sec) := by
  obtain ⟨b, o, e, hb, hc⟩ := h.at_ hj
  exact ⟨b, o, e, hb, hc 0 _ rfl, hc 1 _ rfl, hc 2 _ rfl⟩
theorem bfAt_some {bufs : List Bf} {j : Nat} (h : j < bufs.length) : bufs[j]? = some (bfAt bufs (j : Int)) := by
  unfold bfAt
  rw [Int.toNat_natCast, List.getElem?_eq_getElem h]
  rfl
theorem bfAt_wf {bufs : List Bf} (h : ∀ b ∈ bufs, b.wf) {j : Nat} (hj : j < bufs.length) : (bfAt bufs (j : Int)).wf := h _ (List.mem_of_getElem? (bfAt_some hj))
set_option maxRecDepth 100000 in
set_option maxHeartbeats 8000000 in
theorem fitsPlace_l (p le mo : Int) (A : Option Addr) (n c : Nat) (bufs : List Bf) (o : Op) (w : World) (hR : Rdr w w.heap.size A n bufs) (hwf : ∀ b ∈ bufs, b.wf) (ho : o.wf) (hn : n ≤ 1000000)
    (hsz : ∀ b ∈ bufs, 0 < b.sz) : Calls Tryd.prog 95 #[.agg #[.int .u8 p, .int .u64 le, .int .u64 mo], .slice A n c, .agg (Op.vs o).toArray] w fun e w' => e = .returned (.bool (plOk (hb p 32) bufs o)) ∧ Below w.heap.size w w' := by
  have HH := Lib.hid (fun m W => has_l p le mo m W)
  have HL := hR.len
  have HR := Lib.hid hR
  have HE := Lib.hid (show plOk (hb p 32) bufs o = (if hb p 32 then decide (0 ≤ o.bf) && decide (o.bf < bufs.length) && !(decide (o.k = 15) && decide ((bfAt bufs o.bf).kd = 1)) && (!decide (o.a = -1) || decide (o.im < (bfAt bufs o.bf).sz)) else decide (o.bf = 0)) from rfl)
  rw [HL] at HE
  have HWF := Lib.hid hwf
  have HSZ := Lib.hid hsz
  have HLN := Lib.hid HL
  clear hR HL hwf hsz
  generalize plOk (hb p 32) bufs o = res at *
  obtain ⟨ok, od, oe, oa, ob, oc, obf, oim⟩ := o
  obtain ⟨hk, hd, he, ha, hb_, hc, hbf, him⟩ := ho
  unfold Op.vs at *
  dsimp only at *
  simp only [List.toArray] at *
  have HB0 : Hid (Below w.heap.size w ((w.alloc (.cells #[.int .u8 p, .int .u64 le, .int .u64 mo] 131)).alloc (.cells #[.int .i64 ok, .int .i64 od, .int .i64 oe, .int .i64 oa, .int .i64 ob, .int .i64 oc, .int .i64 obf, .int .u64 oim] 33))) := Lib.hid (bel_al' (bel_al _) _)
  have HF0 := Lib.hid ((Bk.new w 131 #[.int .u8 p, .int .u64 le, .int .u64 mo]).alloc (.cells #[.int .i64 ok, .int .i64 od, .int .i64 oe, .int .i64 oa, .int .i64 ob, .int .i64 oc, .int .i64 obf, .int .u64 oim] 33))
  have HI0 := Lib.hid (Bk.new (w.alloc (.cells #[.int .u8 p, .int .u64 le, .int .u64 mo] 131)) 33 #[.int .i64 ok, .int .i64 od, .int .i64 oe, .int .i64 oa, .int .i64 ob, .int .i64 oc, .int .i64 obf, .int .u64 oim])
  rw [show (w.alloc (.cells #[.int .u8 p, .int .u64 le, .int .u64 mo] 131)).heap.size = w.heap.size + 1 by simp] at HI0
  obtain ⟨W0, hW0⟩ : ∃ W0, W0 = (w.alloc (.cells #[.int .u8 p, .int .u64 le, .int .u64 mo] 131)).alloc (.cells #[.int .i64 ok, .int .i64 od, .int .i64 oe, .int .i64 oa, .int .i64 ob, .int .i64 oc, .int .i64 obf, .int .u64 oim] 33) := ⟨_, rfl⟩
  rw [← hW0] at HB0 HF0 HI0
  have HW0 := Lib.hid hW0
  clear hW0
  obtain ⟨f0, f1, f2⟩ := c3 HF0.out
  obtain ⟨a0, a1, a2, a3, a4, a5, a6, a7⟩ := c8 HI0.out
  go_enter Tryd.func95, Tryd.ntmps95
  try simp only [List.append]
  go_wp2_with fail
  rw [← HW0.out]
  go_at_call 106
  refine (HH.out _ _).mono ?_
  rintro e' w1 ⟨rfl, hq⟩
  have HI1 := Lib.hid (HI0.out.below hq.below HI0.out.lt)
  have HB1 := Lib.hid (bel_tr HB0.out hq.below)
  clear hq f0 f1 f2 a0 a1 a2 a3 a4 a5 a6 a7
  obtain ⟨a0, a1, a2, a3, a4, a5, a6, a7⟩ := c8 HI1.out
  cases q : hb p 32 with
  | false =>
    rw [q] at HE
    go_wp2_with fail
    go_ret
    exact ⟨by rw [HE.out]; rfl, HB1.out⟩
  | true =>
    rw [q, if_pos rfl] at HE
    by_cases h0 : 0 ≤ obf
    · by_cases h1 : obf < (n : Int)
      · obtain ⟨j, rfl⟩ : ∃ j : Nat, obf = (j : Int) := ⟨obf.toNat, by omega⟩
        have hjn : j < n := by omega
        have hj : j < bufs.length := by rw [HLN.out]; exact hjn
        obtain ⟨b, o, rfl, hblt, s0, s1, s2⟩ := bf_at (HR.out.below HB1.out) (bfAt_some hj)
        obtain ⟨hz1, hz2⟩ := bfAt_wf HWF.out hj
        have hz0 := HSZ.out _ (List.mem_of_getElem? (bfAt_some hj))
        generalize bfAt bufs (j : Int) = bb at *
        obtain ⟨sz, kd, sec⟩ := bb
        dsimp only at *
        obtain ⟨hz1, hz1'⟩ := hz1
        have hlt1 := HI1.out.lt
        have hblt' : b < w1.heap.size := Nat.lt_of_lt_of_le hblt HB1.out.size
        rw [decide_eq_true h0, decide_eq_true h1] at HE
        have e64 : IntKind.u64.wrap sz = sz := by simp only [IntKind.wrap_u64]; omega
        by_cases hk15 : ok = 15 ∧ kd = 1
        · obtain ⟨rfl, rfl⟩ := hk15
          go_wp2_with fail
          go_ret
          exact ⟨by rw [HE.out]; rfl, bel_al' HB1.out _⟩
        · have HKK : Hid ((decide (ok = 15) && decide (kd = 1)) = false) := Lib.hid (by
            cases h : (decide (ok = 15) && decide (kd = 1)) with
            | false => rfl
            | true => exact absurd (by simpa using h) hk15)
          rw [HKK.out] at HE
          have HQ : Hid ((ok == 15) = false) ∨ Hid (ok = 15 ∧ (kd == 1) = false) := by
            by_cases h : ok = 15
            · exact .inr (Lib.hid ⟨h, by rw [beq_eq_false_iff_ne]; exact fun e => hk15 ⟨h, e⟩⟩)
            · exact .inl (Lib.hid (by rw [beq_eq_false_iff_ne]; exact h))
          clear hk15
          rcases HQ with K | K
          all_goals (
            first
              | (obtain ⟨rfl, k1⟩ := K.out)
              | (have k1 := K.out)
            clear K
            by_cases ha1 : oa = -1
            · subst ha1
              go_wp2_with fail
              go_ret
              exact ⟨by rw [HE.out]; first | rfl | simp, bel_al' HB1.out _⟩
            · have hne : (oa == -1) = false := by rw [beq_eq_false_iff_ne]; exact ha1
              have hne2 : (oa != -1) = true := by rw [bne, hne]; rfl
              rw [decide_eq_false ha1] at HE
              clear ha1
              go_wp2_with fail
              go_ret
              exact ⟨by rw [HE.out]; first | rfl | simp, bel_al' HB1.out _⟩)
      · have h2 : (n : Int) ≤ obf := by omega
        rw [decide_eq_false h1] at HE
        go_wp2_with fail
        go_ret
        exact ⟨by rw [HE.out]; simp, HB1.out⟩
    · have h2 : obf < 0 := by omega
      rw [decide_eq_false h0] at HE
      go_wp2_with fail
      go_ret
      exact ⟨by rw [HE.out]; simp, HB1.out⟩
end Lb
end Go.Proofs.YtbdhibgljaelbaaDoor
