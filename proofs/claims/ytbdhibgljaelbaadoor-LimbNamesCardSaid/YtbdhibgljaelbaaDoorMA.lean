/- The landed package limb: rows that are handed in; whether they fit. -/
import Derived.Test.YtbdhibgljaelbaaDoorM9
namespace Go.Proofs.YtbdhibgljaelbaaDoor
open Go Go.RowKit Go.Sort Go.Shelf
namespace Lb
open Wd Nt Gr
set_option linter.unusedVariables false
set_option linter.unusedSimpArgs false
/-- a row that is handed in: where it lies, what it has -/
structure Hr where
  A : Option Addr
  n : Nat
  c : Nat
  ys : List Int
def Hr.vs (h : Hr) : List Value := [.slice h.A h.n h.c]
instance : Sh Hr := ⟨Hr.vs, 1, fun _ => rfl, fun o v hv => by
  unfold Hr.vs at hv
  simp only [List.mem_cons, List.not_mem_nil, or_false] at hv
  subst hv; rfl, by decide⟩
/-- rows that are handed in, below block B -/
structure HrW (w : World) (B : Nat) (A : Option Addr) (n : Nat) (hs : List Hr) : Prop where
  rd : Rdr w B A n hs
  each : ∀ h ∈ hs, Rd w B h.A h.n h.ys ∧ h.n ≤ h.c ∧ h.c ≤ 9223372036854775807
theorem HrW.below {w w' : World} {B n : Nat} {A : Option Addr} {hs : List Hr} (h : HrW w B A n hs) (hb : Below B w w') : HrW w' B A n hs := ⟨h.rd.below hb, fun x hx => ⟨(h.each x hx).1.below hb, (h.each x hx).2⟩⟩
theorem HrW.more {w : World} {B B' n : Nat} {A : Option Addr} {hs : List Hr} (h : HrW w B A n hs) (hb : B ≤ B') : HrW w B' A n hs := ⟨h.rd.more hb, fun x hx => ⟨(h.each x hx).1.more hb, (h.each x hx).2⟩⟩
def hrYs (hs : List Hr) : List (List Int) := hs.map (·.ys)
theorem hr_at {w : World} {B n : Nat} {A : Option Addr} {xs : List Hr} (h : Rdr w B A n xs) {j : Nat} {x : Hr} (hj : xs[j]? = some x) :
    ∃ b o, A = some ⟨b, o, none⟩ ∧ b < B ∧ w.cell? ⟨b, o + j, none⟩ = some (.slice x.A x.n x.c) := by
  obtain ⟨b, o, e, hb, hc⟩ := h.at_ hj
  have h0 := hc 0 _ rfl
  rw [show Sh.k Hr = 1 from rfl, Nat.mul_one, Nat.add_zero] at h0
  exact ⟨b, o, e, hb, h0⟩
theorem fitP_eq : ∀ (bs : List Bf) (rs : List (List Int)), fitP bs rs = (decide (bs.length = rs.length) && (List.range bs.length).all fun j => fitB (bfAt bs (j : Int)) (rowAt rs (j : Int)))
  | [], [] => rfl
  | [], r :: rs => by unfold fitP; simp
  | b :: bs, [] => by unfold fitP; simp
  | b :: bs, r :: rs => by
    unfold fitP
    rw [fitP_eq bs rs]
    rw [List.length_cons, List.length_cons, List.range_succ_eq_map, List.all_cons, List.all_map]
    have e0 : fitB (bfAt (b :: bs) ((0 : Nat) : Int)) (rowAt (r :: rs) ((0 : Nat) : Int)) = fitB b r := rfl
    rw [e0]
    have e1 : (fun (j : Nat) => fitB (bfAt (b :: bs) (j : Int)) (rowAt (r :: rs) (j : Int))) ∘ Nat.succ = fun (j : Nat) => fitB (bfAt bs (j : Int)) (rowAt rs (j : Int)) := by
      funext j
      show fitB (bfAt (b :: bs) ((j + 1 : Nat) : Int)) (rowAt (r :: rs) ((j + 1 : Nat) : Int)) = _
      unfold bfAt rowAt
      rw [Int.toNat_natCast, Int.toNat_natCast, List.getElem?_cons_succ, List.getElem?_cons_succ]
    rw [e1]
    have e2 : decide (bs.length + 1 = rs.length + 1) = decide (bs.length = rs.length) := by rw [decide_eq_decide]; omega
    rw [e2]
    cases decide (bs.length = rs.length) <;> cases fitB b r <;> rfl
theorem fit1_l (b : Bf) (h : Hr) (hl : h.ys.length = h.n) (w : World) : Calls Tryd.prog 65 #[.agg (Bf.vs b).toArray, .slice h.A h.n h.c] w fun e w' => e = .returned (.bool (fitB b h.ys)) ∧ Below w.heap.size w w' := by
  have HB := Lib.hid (bel_al (w := w) (.cells (Bf.vs b).toArray 29))
  have HE : Hid (fitB b h.ys = if b.kd = 3 then decide ((h.n : Int) = 0) else decide ((h.n : Int) = b.sz)) := Lib.hid (by
    unfold fitB
    rw [← hl]
    split
    · cases h.ys <;> simp; omega
    · rfl)
  generalize fitB b h.ys = res at *
  obtain ⟨sz, kd, sec⟩ := b
  obtain ⟨A, n, c, ys⟩ := h
  unfold Bf.vs at *
  dsimp only at *
  simp only [List.toArray] at *
  by_cases h3 : kd = 3
  · subst h3
    rw [if_pos rfl] at HE
    go_enter Tryd.func65, Tryd.ntmps65
    go_wp2_with fail
    go_ret
    exact ⟨by rw [HE.out]; rfl, HB.out⟩
  · rw [if_neg h3] at HE
    have hne : (kd == 3) = false := by rw [beq_eq_false_iff_ne]; exact h3
    clear h3
    go_enter Tryd.func65, Tryd.ntmps65
    go_wp2_with fail
    go_ret
    exact ⟨by rw [HE.out]; rfl, HB.out⟩
theorem enters_fit1 : ∀ args w, (callFunc 65 args).run Tryd.prog w = .ok (.enter 65 args) w := fun args w => by kernel_rfl
set_option maxRecDepth 100000 in
set_option maxHeartbeats 2000000 in
theorem equal_l (A X : Option Addr) (n c m d : Nat) (bufs : List Bf) (hs : List Hr) (w : World) (hR : Rdr w w.heap.size A n bufs) (hH : HrW w w.heap.size X m hs) (hn : n ≤ 1000000) (hm : m ≤ 1000000) :
    Calls Tryd.prog 64 #[.slice A n c, .slice X m d, .func (.func 65) #[] #[]] w fun e w' => e = .returned (.bool (fitP bufs (hrYs hs))) ∧ Below w.heap.size w w' := by
  have HL := Lib.hid hR.len
  have HM := Lib.hid hH.rd.len
  have HE := Lib.hid (fitP_eq bufs (hrYs hs))
  have HYL : Hid ((hrYs hs).length = m) := Lib.hid (by unfold hrYs; rw [List.length_map]; exact hH.rd.len)
  have heg := enters_fit1
  have HR := Lib.hid hR
  have HH := Lib.hid hH
  generalize fitP bufs (hrYs hs) = res at *
  clear hR hH
  by_cases hnm : n = m
  · subst hnm
    rw [HL.out, HYL.out, decide_eq_true rfl, Bool.true_and] at HE
    go_enter Tryd.func64, Tryd.ntmps64
    go_wp2_with fail
    go_loopw [17] (fun i W => ∃ k : Nat, k ≤ n ∧ i = .int .i64 (k : Int) ∧ Hid (∀ j, j < k → fitB (bfAt bufs (j : Int)) (rowAt (hrYs hs) (j : Int)) = true) ∧ Hid (Below w.heap.size w W)) (fun i _ => n - (intOf i).toNat)
    case atStart => exact ⟨0, Nat.zero_le _, rfl, Lib.hid (fun j hj => absurd hj (by omega)), Lib.hid (Below.refl _ _)⟩
    case round =>
      obtain ⟨k, hk, rfl, HF, HB⟩ := hrel
      rcases Nat.lt_or_ge k n with hlt | hge
      · have hki : (k : Int) < (n : Int) := by omega
        have hk0 : (0 : Int) ≤ (k : Int) := by omega
        have hkl : k < bufs.length := by rw [HL.out]; exact hlt
        obtain ⟨b, o, rfl, hblt, s0, s1, s2⟩ := bf_at (HR.out.below HB.out) (bfAt_some hkl)
        obtain ⟨x, hx⟩ : ∃ x, hs[k]? = some x := ⟨_, List.getElem?_eq_getElem (by rw [HM.out]; exact hlt)⟩
        obtain ⟨b2, o2, rfl, hb2, x0⟩ := hr_at (HH.out.rd.below HB.out) hx
        have HXE := Lib.hid (HH.out.each x (List.mem_of_getElem? hx))
        have HXR : Hid (rowAt (hrYs hs) (k : Int) = x.ys) := Lib.hid (by unfold rowAt hrYs; rw [Int.toNat_natCast, List.getElem?_map, hx]; rfl)
        have HC := Lib.hid (fun W => fit1_l (bfAt bufs (k : Int)) x HXE.out.1.len W)
        have hb2' : b2 < wr.heap.size := Nat.lt_of_lt_of_le hb2 HB.out.size
        obtain ⟨fv, hfv⟩ : ∃ v, fitB (bfAt bufs (k : Int)) x.ys = v := ⟨_, rfl⟩
        have HFK : Hid (fitB (bfAt bufs (k : Int)) (rowAt (hrYs hs) (k : Int)) = fv) := Lib.hid (by rw [HXR.out]; exact hfv)
        rw [hfv] at HC
        clear hfv
        generalize bfAt bufs (k : Int) = bb at HC s0 s1 s2
        unfold Bf.vs at HC
        simp only [List.toArray] at HC
        obtain ⟨xA, xn, xc, xys⟩ := x
        dsimp only at *
        clear hx
        cases fv with
        | true =>
          go_wp2_with fail
          refine (HC.out _).mono ?_
          rintro e' w2 ⟨rfl, hb⟩
          have HB2 := Lib.hid (bel_tr (bel_al' HB.out (.cells #[.int .i64 bb.sz, .int .i64 bb.kd, .bool bb.sec] 29)) hb)
          clear hb s0 s1 s2 x0
          go_wp2_with fail
          go_roundw
          case rel =>
            refine ⟨k + 1, by omega, by go_num, Lib.hid (fun j hj => ?_), HB2⟩
            rcases Nat.lt_succ_iff_lt_or_eq.1 hj with h | rfl
            · exact HF.out j h
            · exact HFK.out
          case measure => (simp [intOf] <;> omega)
        | false =>
          have HRES : Hid (res = false) := Lib.hid (by
            rw [HE.out, List.all_eq_false]
            exact ⟨k, List.mem_range.2 hlt, by rw [HFK.out]; decide⟩)
          go_wp2_with fail
          refine (HC.out _).mono ?_
          rintro e' w2 ⟨rfl, hb⟩
          have HB2 := Lib.hid (bel_tr (bel_al' HB.out (.cells #[.int .i64 bb.sz, .int .i64 bb.kd, .bool bb.sec] 29)) hb)
          clear hb s0 s1 s2 x0
          go_wp2_with fail
          go_ret
          exact ⟨by rw [HRES.out]; rfl, HB2.out⟩
      · obtain rfl : k = n := by omega
        have HRES : Hid (res = true) := Lib.hid (by
          rw [HE.out, List.all_eq_true]
          exact fun j hj => HF.out j (List.mem_range.1 hj))
        go_wp2_with fail
        go_ret
        exact ⟨by rw [HRES.out]; rfl, HB.out⟩
  · rw [HL.out, HYL.out, decide_eq_false hnm, Bool.false_and] at HE
    have hmi : ¬ ((n : Int) = (m : Int)) := by omega
    have hmb : ((n : Int) == (m : Int)) = false := by rw [beq_eq_false_iff_ne]; exact hmi
    have hmn : ((n : Int) != (m : Int)) = true := by rw [bne, hmb]; rfl
    go_enter Tryd.func64, Tryd.ntmps64
    go_wp2_with fail
    go_ret
    exact ⟨by rw [HE.out]; rfl, Below.refl _ _⟩
theorem fit_l (A X : Option Addr) (n c m d : Nat) (bufs : List Bf) (hs : List Hr) (w : World) (hR : Rdr w w.heap.size A n bufs) (hH : HrW w w.heap.size X m hs) (hn : n ≤ 1000000) (hm : m ≤ 1000000) :
    Calls Tryd.prog 37 #[.slice A n c, .slice X m d] w fun e w' => e = .returned (.bool (fitP bufs (hrYs hs))) ∧ Below w.heap.size w w' := by
  have HQ := Lib.hid (equal_l A X n c m d bufs hs w hR hH hn hm)
  generalize fitP bufs (hrYs hs) = res at *
  clear hR hH
  go_enter Tryd.func37, Tryd.ntmps37
  go_wp2_with fail
  refine HQ.out.mono ?_
  rintro e w' ⟨rfl, hb⟩
  have HB := Lib.hid hb
  clear hb
  go_wp2_with fail
  go_ret
  exact ⟨rfl, HB.out⟩
end Lb
end Go.Proofs.YtbdhibgljaelbaaDoor
