/- The statements' own helpers: Same at ints, bools, events; Rows of words. -/
import Derived.Test.YtbdhibgljaelbaaDoorN2
import Derived.Test.YtbdhibgljaelbaaDoorME
namespace Go.Proofs.YtbdhibgljaelbaaDoor
open Go Go.RowKit Go.Sort Go.Shelf
namespace Lb
open Wd Nt Gr
set_option linter.unusedVariables false
set_option linter.unusedSimpArgs false
instance : Sh Bool := ⟨fun z => [.bool z], 1, fun _ => rfl, fun o v hv => by
  simp only [List.mem_cons, List.not_mem_nil, or_false] at hv
  subst hv; rfl, by decide⟩
theorem bool_at {w : World} {B n : Nat} {A : Option Addr} {xs : List Bool} (h : Rdr w B A n xs) {j : Nat} {x : Bool} (hj : xs[j]? = some x) : ∃ b o, A = some ⟨b, o, none⟩ ∧ b < B ∧ w.cell? ⟨b, o + j, none⟩ = some (.bool x) := by
  obtain ⟨b, o, e, hb, hc⟩ := h.at_ hj
  have h0 := hc 0 _ rfl
  rw [show Sh.k Bool = 1 from rfl, Nat.mul_one, Nat.add_zero] at h0
  exact ⟨b, o, e, hb, h0⟩
theorem ev_at {w : World} {B n : Nat} {A : Option Addr} {xs : List Ev} (h : Rdr w B A n xs) {j : Nat} {x : Ev} (hj : xs[j]? = some x) : ∃ b o, A = some ⟨b, o, none⟩ ∧ b < B ∧ w.cell? ⟨b, o + j * 2, none⟩ = some (.int .i64 x.1) ∧ w.cell? ⟨b, o + j * 2 + 1, none⟩ = some (.int .i64 x.2) := by
  obtain ⟨b, o, e, hb, hc⟩ := h.at_ hj
  exact ⟨b, o, e, hb, hc 0 _ rfl, hc 1 _ rfl⟩
theorem take_more {T : Type} {xs ys : List T} {k : Nat} {x : T} (h : xs.take k = ys.take k) (hx : xs[k]? = some x) (hy : ys[k]? = some x) : xs.take (k + 1) = ys.take (k + 1) := by
  rw [List.take_add_one, List.take_add_one, h, hx, hy]
theorem take_all {T : Type} {xs ys : List T} {k : Nat} (h : xs.take k = ys.take k) (hx : xs.length = k) (hy : ys.length = k) : xs = ys := by
  rw [List.take_of_length_le (by omega), List.take_of_length_le (by omega)] at h
  exact h
theorem ne_at {T : Type} {xs ys : List T} {k : Nat} {x y : T} (hx : xs[k]? = some x) (hy : ys[k]? = some y) (h : x ≠ y) : xs ≠ ys := fun e => by
  subst e
  rw [hx] at hy
  exact h (Option.some.inj hy)
set_option maxRecDepth 100000 in
theorem evEq (a b c d : Int) (W : World) : (Op.equalIn 10000 46 (.agg #[.int .i64 a, .int .i64 b]) (.agg #[.int .i64 c, .int .i64 d])).run Tryd.prog W = .ok (decide ((a, b) = (c, d))) W := by
  have u3 := Tryd.underlying3
  have a3 := Tryd.isAgg3
  have z3 := Tryd.sizeOf3
  have hS : Tryd.prog.underlying 46 = some (.struct (Tryd.prog.fieldsOf 46)) := by kernel_rfl
  have hp : Tryd.prog.stoodInHeld 46 = false := by kernel_rfl
  rw [show (10000 : Nat) = 9999 + 1 from rfl, run_equalIn_agg W 9999 46 _ _ hS hp]
  simp only [Program.fieldsOf, Tryd.underlying46]
  go_simp
  by_cases h1 : a = c <;> by_cases h2 : b = d <;> simp [h1, h2]
set_option maxRecDepth 100000 in
set_option maxHeartbeats 2000000 in
theorem same_i (A B : Option Addr) (n c m d Ba Bb : Nat) (xs ys : List Int) (w : World) (ha : Rdr w Ba A n xs) (hb : Rdr w Bb B m ys) (hn : n ≤ 1000000) (hm : m ≤ 1000000) :
    Calls Tryd.prog 16 #[.slice A n c, .slice B m d] w fun e w' => e = .returned (.bool (decide (xs = ys))) ∧ ∃ q, w' = w.drewN q := by
  by_cases hnm : n = m
  · subst hnm
    have HLA := Lib.hid ha.len
    have HLB := Lib.hid hb.len
    go_enter Tryd.func16, Tryd.ntmps16
    go_wp2_with fail
    go_loopw [5] (fun i wr => ∃ k q : Nat, k ≤ n ∧ i = .int .i64 k ∧ Hid (xs.take k = ys.take k) ∧ wr = w.drewN q) (fun i _ => n - (intOf i).toNat)
    case atStart => exact ⟨0, 0, Nat.zero_le _, rfl, Lib.hid rfl, rfl⟩
    case round =>
      obtain ⟨k, q, hk, rfl, hz, rfl⟩ := hrel
      by_cases hlt : k < n
      · obtain ⟨x, hx⟩ : ∃ x, xs[k]? = some x := ⟨_, List.getElem?_eq_getElem (by rw [HLA.out]; exact hlt)⟩
        obtain ⟨y, hy⟩ : ∃ y, ys[k]? = some y := ⟨_, List.getElem?_eq_getElem (by rw [HLB.out]; exact hlt)⟩
        obtain ⟨ab, ao, rfl, _, hca⟩ := int_at ha hx
        obtain ⟨bb, bo, rfl, _, hcb⟩ := int_at hb hy
        have hki : (k : Int) < (n : Int) := by omega
        by_cases hxy : x = y
        · have HZ : Hid (xs.take (k + 1) = ys.take (k + 1)) := Lib.hid (take_more hz.out hx (by rw [hxy]; exact hy))
          subst hxy
          clear hx hy hz ha hb
          go_wp2_with fail
          go_quiet (fail)
          go_wp2_with fail
          go_roundw
          case rel => exact ⟨k + 1, _, by omega, by go_num, HZ, rfl⟩
          case measure => (simp [intOf] <;> omega)
        · have HN := Lib.hid (ne_at hx hy hxy)
          have hxx : (x != y) = true := by simpa using hxy
          all_goals (
            clear hx hy hz ha hb
            go_wp2_with fail
            go_quiet (fail)
            go_wp2_with fail
            go_ret
            exact ⟨by rw [decide_eq_false HN.out]; rfl, _, World.drewN_drewN _ _ _⟩)
      · obtain rfl : k = n := by omega
        have HE := Lib.hid (take_all hz.out HLA.out HLB.out)
        clear hz ha hb
        go_wp2_with fail
        go_ret
        exact ⟨by rw [decide_eq_true HE.out]; rfl, _, rfl⟩
  · have hne : xs ≠ ys := fun e => hnm (by rw [← ha.len, ← hb.len, e])
    have HN := Lib.hid hne
    clear hne ha hb
    have hmi : ¬ ((n : Int) = (m : Int)) := by omega
    have hmb : ((n : Int) == (m : Int)) = false := by rw [beq_eq_false_iff_ne]; exact hmi
    have hmn : ((n : Int) != (m : Int)) = true := by rw [bne, hmb]; rfl
    go_enter Tryd.func16, Tryd.ntmps16
    go_wp2_with fail
    go_ret
    exact ⟨by rw [decide_eq_false HN.out]; rfl, 0, rfl⟩
set_option maxRecDepth 100000 in
set_option maxHeartbeats 2000000 in
theorem same_ev (A B : Option Addr) (n c m d Ba Bb : Nat) (xs ys : List Ev) (w : World) (ha : Rdr w Ba A n xs) (hb : Rdr w Bb B m ys) (hn : n ≤ 1000000) (hm : m ≤ 1000000) :
    Calls Tryd.prog 30 #[.slice A n c, .slice B m d] w fun e w' => e = .returned (.bool (decide (xs = ys))) ∧ ∃ q, w' = w.drewN q := by
  by_cases hnm : n = m
  · subst hnm
    have HLA := Lib.hid ha.len
    have HLB := Lib.hid hb.len
    go_enter Tryd.func30, Tryd.ntmps30
    go_wp2_with fail
    go_loopw [5] (fun i wr => ∃ k q : Nat, k ≤ n ∧ i = .int .i64 k ∧ Hid (xs.take k = ys.take k) ∧ wr = w.drewN q) (fun i _ => n - (intOf i).toNat)
    case atStart => exact ⟨0, 0, Nat.zero_le _, rfl, Lib.hid rfl, rfl⟩
    case round =>
      obtain ⟨k, q, hk, rfl, hz, rfl⟩ := hrel
      by_cases hlt : k < n
      · obtain ⟨x, hx⟩ : ∃ x, xs[k]? = some x := ⟨_, List.getElem?_eq_getElem (by rw [HLA.out]; exact hlt)⟩
        obtain ⟨y, hy⟩ : ∃ y, ys[k]? = some y := ⟨_, List.getElem?_eq_getElem (by rw [HLB.out]; exact hlt)⟩
        obtain ⟨ab, ao, rfl, _, hca, hca2⟩ := ev_at ha hx
        obtain ⟨bb, bo, rfl, _, hcb, hcb2⟩ := ev_at hb hy
        have hki : (k : Int) < (n : Int) := by omega
        by_cases hxy : x = y
        · have HZ : Hid (xs.take (k + 1) = ys.take (k + 1)) := Lib.hid (take_more hz.out hx (by rw [hxy]; exact hy))
          obtain ⟨x1, x2⟩ := x
          obtain ⟨y1, y2⟩ := y
          dsimp only at hca hca2 hcb hcb2
          have hne2 : ∀ W, (Op.equalIn 10000 46 (.agg #[.int .i64 x1, .int .i64 x2]) (.agg #[.int .i64 y1, .int .i64 y2])).run Tryd.prog W = .ok true W := fun W => by rw [evEq]; simp [hxy]
          clear hxy
          clear hx hy hz ha hb
          go_wp2_with fail
          go_quiet (fail)
          go_wp2_with fail
          go_roundw
          case rel => exact ⟨k + 1, _, by omega, by go_num, HZ, rfl⟩
          case measure => (simp [intOf] <;> omega)
        · have HN := Lib.hid (ne_at hx hy hxy)
          obtain ⟨x1, x2⟩ := x
          obtain ⟨y1, y2⟩ := y
          dsimp only at hca hca2 hcb hcb2
          have hne2 : ∀ W, (Op.equalIn 10000 46 (.agg #[.int .i64 x1, .int .i64 x2]) (.agg #[.int .i64 y1, .int .i64 y2])).run Tryd.prog W = .ok false W := fun W => by rw [evEq, decide_eq_false hxy]
          clear hxy
          all_goals (
            clear hx hy hz ha hb
            go_wp2_with fail
            go_quiet (fail)
            go_wp2_with fail
            go_ret
            exact ⟨by rw [decide_eq_false HN.out]; rfl, _, World.drewN_drewN _ _ _⟩)
      · obtain rfl : k = n := by omega
        have HE := Lib.hid (take_all hz.out HLA.out HLB.out)
        clear hz ha hb
        go_wp2_with fail
        go_ret
        exact ⟨by rw [decide_eq_true HE.out]; rfl, _, rfl⟩
  · have hne : xs ≠ ys := fun e => hnm (by rw [← ha.len, ← hb.len, e])
    have HN := Lib.hid hne
    clear hne ha hb
    have hmi : ¬ ((n : Int) = (m : Int)) := by omega
    have hmb : ((n : Int) == (m : Int)) = false := by rw [beq_eq_false_iff_ne]; exact hmi
    have hmn : ((n : Int) != (m : Int)) = true := by rw [bne, hmb]; rfl
    go_enter Tryd.func30, Tryd.ntmps30
    go_wp2_with fail
    go_ret
    exact ⟨by rw [decide_eq_false HN.out]; rfl, 0, rfl⟩
/-! ### rows of words -/
theorem hrYs_take {hs : List Hr} {k : Nat} : (hrYs hs).take k = hrYs (hs.take k) := by unfold hrYs; rw [List.map_take]
theorem hrYs_get {hs : List Hr} {k : Nat} {x : Hr} (h : hs[k]? = some x) : (hrYs hs)[k]? = some x.ys := by unfold hrYs; rw [List.getElem?_map, h]; rfl
/-- rows of one's own, as rows that are handed in -/
def toHr (x : Nat × List Int) : Hr := ⟨some ⟨x.1, 0, none⟩, x.2.length, x.2.length, x.2⟩
theorem toHr_ys (xs : List (Nat × List Int)) : hrYs (xs.map toHr) = xs.map (·.2) := by unfold hrYs; rw [List.map_map]; rfl
theorem row_toHr (xs : List (Nat × List Int)) : row (xs.map toHr) = xs.map slv := by
  induction xs with
  | nil => rfl
  | cons x xs ih =>
    show Sh.vs (toHr x) ++ row (xs.map toHr) = slv x :: xs.map slv
    rw [ih]
    rfl
theorem RowsB.hr {w : World} {B G : Nat} {xs : List (Nat × List Int)} (h : RowsB w B G xs) (hl : ∀ x ∈ xs, x.2.length ≤ 9223372036854775807) : HrW w w.heap.size (some ⟨G, 0, none⟩) xs.length (xs.map toHr) := by
  refine ⟨?_, fun y hy => ?_⟩
  · have := bk_rdr (xs := xs.map toHr) (B := w.heap.size) (w := w) (g := G) (t := 43) (by rw [row_toHr]; exact h.blk) h.blk.lt
    rw [List.length_map] at this
    exact this
  · obtain ⟨x, hx, rfl⟩ := List.mem_map.1 hy
    obtain ⟨_, h2, h3⟩ := h.each x hx
    exact ⟨h2.rd0 h2.lt h3 rfl, Nat.le_refl _, hl x hx⟩
theorem RowsO.hr {w : World} {B : Nat} {v : Value} {out : List (List Int)} (h : RowsO w B v out) (hl : ∀ y ∈ out, y.length ≤ 9223372036854775807) : ∃ A c hs, v = .slice A out.length c ∧ HrW w w.heap.size A out.length hs ∧ hrYs hs = out ∧ out.length ≤ c := by
  rcases h with ⟨rfl, rfl⟩ | ⟨G, xs, rfl, rfl, hR⟩
  · exact ⟨none, 0, [], rfl, ⟨Rdr.nil, fun _ h => by cases h⟩, rfl, Nat.le_refl _⟩
  · refine ⟨some ⟨G, 0, none⟩, xs.length, xs.map toHr, by rw [List.length_map], ?_, toHr_ys xs, by rw [List.length_map]; exact Nat.le_refl _⟩
    rw [List.length_map]
    exact hR.hr (fun x hx => hl _ (List.mem_map.2 ⟨x, hx, rfl⟩))
set_option maxRecDepth 100000 in
set_option maxHeartbeats 2000000 in
theorem rows_u (A B : Option Addr) (n c m d Ba Bb : Nat) (xs ys : List Hr) (w : World) (ha : HrW w Ba A n xs) (hb : HrW w Bb B m ys) (hn : n ≤ 1000000) (hm : m ≤ 1000000) (hx6 : ∀ x ∈ xs, x.n ≤ 1000000) (hy6 : ∀ x ∈ ys, x.n ≤ 1000000) :
    Calls Tryd.prog 14 #[.slice A n c, .slice B m d] w fun e w' => e = .returned (.bool (decide (hrYs xs = hrYs ys))) ∧ ∃ q, w' = w.drewN q := by
  have HYA : Hid ((hrYs xs).length = n) := Lib.hid (by unfold hrYs; rw [List.length_map]; exact ha.rd.len)
  have HYB : Hid ((hrYs ys).length = m) := Lib.hid (by unfold hrYs; rw [List.length_map]; exact hb.rd.len)
  by_cases hnm : n = m
  · subst hnm
    have HLA := Lib.hid ha.rd.len
    have HLB := Lib.hid hb.rd.len
    have HS := Lib.hid (fun (x y : Hr) (hx : x ∈ xs) (hy : y ∈ ys) (W : World) (q : Nat) (hW : W = w.drewN q) => same_u x.A y.A x.n x.c y.n y.c Ba Bb x.ys y.ys W ((ha.each x hx).1.keep (fun _ _ => by rw [hW]; rfl)) ((hb.each y hy).1.keep (fun _ _ => by rw [hW]; rfl)) (hx6 x hx) (hy6 y hy))
    have HA := Lib.hid ha.rd
    have HB := Lib.hid hb.rd
    go_enter Tryd.func14, Tryd.ntmps14
    go_wp2_with fail
    go_loopw [5] (fun i wr => ∃ k q : Nat, k ≤ n ∧ i = .int .i64 k ∧ Hid ((hrYs xs).take k = (hrYs ys).take k) ∧ Hid (wr = w.drewN q)) (fun i _ => n - (intOf i).toNat)
    case atStart => exact ⟨0, 0, Nat.zero_le _, rfl, Lib.hid rfl, Lib.hid rfl⟩
    case round =>
      obtain ⟨k, q, hk, rfl, hz, hw⟩ := hrel
      by_cases hlt : k < n
      · obtain ⟨x, hx⟩ : ∃ x, xs[k]? = some x := ⟨_, List.getElem?_eq_getElem (by rw [HLA.out]; exact hlt)⟩
        obtain ⟨y, hy⟩ : ∃ y, ys[k]? = some y := ⟨_, List.getElem?_eq_getElem (by rw [HLB.out]; exact hlt)⟩
        obtain ⟨ab, ao, rfl, _, hca⟩ := hr_at (HA.out.keep (w' := wr) (fun _ _ => by rw [hw.out]; rfl)) hx
        obtain ⟨bb, bo, rfl, _, hcb⟩ := hr_at (HB.out.keep (w' := wr) (fun _ _ => by rw [hw.out]; rfl)) hy
        have hki : (k : Int) < (n : Int) := by omega
        have KS := Lib.hid (fun n => HS.out x y (List.mem_of_getElem? hx) (List.mem_of_getElem? hy) (wr.drewN n) (q + n) (by rw [hw.out]; exact World.drewN_drewN _ _ _))
        have hx2 := hrYs_get hx
        have hy2 := hrYs_get hy
        obtain ⟨xA, xn, xc, xl⟩ := x
        obtain ⟨yA, yn, yc, yl⟩ := y
        dsimp only at *
        by_cases hxy : xl = yl
        · have HZ : Hid ((hrYs xs).take (k + 1) = (hrYs ys).take (k + 1)) := Lib.hid (take_more hz.out hx2 (by rw [hxy]; exact hy2))
          have KT : Hid (∀ n, Calls Tryd.prog 35 #[.slice xA xn xc, .slice yA yn yc] (wr.drewN n) fun e w' => e = .returned (.bool true) ∧ ∃ m, w' = wr.drewN m) := Lib.hid (fun n => by have := KS.out n; rw [decide_eq_true hxy] at this; exact this.mono (fun e w' h => ⟨h.1, by obtain ⟨q2, h2⟩ := h.2; exact ⟨_, h2.trans (World.drewN_drewN _ _ _)⟩⟩))
          clear hx hy hx2 hy2 hz ha hb hxy KS HS
          go_wp2_with fail
          go_quiet (exact KT.out _)
          go_wp2_with fail
          go_roundw
          case rel => exact ⟨k + 1, _, by omega, by go_num, HZ, Lib.hid (by rw [hw.out]; exact World.drewN_drewN _ _ _)⟩
          case measure => (simp [intOf] <;> omega)
        · have HN := Lib.hid (ne_at hx2 hy2 hxy)
          have KT : Hid (∀ n, Calls Tryd.prog 35 #[.slice xA xn xc, .slice yA yn yc] (wr.drewN n) fun e w' => e = .returned (.bool false) ∧ ∃ m, w' = wr.drewN m) := Lib.hid (fun n => by have := KS.out n; rw [decide_eq_false hxy] at this; exact this.mono (fun e w' h => ⟨h.1, by obtain ⟨q2, h2⟩ := h.2; exact ⟨_, h2.trans (World.drewN_drewN _ _ _)⟩⟩))
          clear hx hy hx2 hy2 hz ha hb hxy KS HS
          go_wp2_with fail
          go_quiet (exact KT.out _)
          go_wp2_with fail
          go_ret
          exact ⟨by rw [decide_eq_false HN.out]; rfl, _, by rw [hw.out]; exact World.drewN_drewN _ _ _⟩
      · obtain rfl : k = n := by omega
        have HE := Lib.hid (take_all hz.out HYA.out HYB.out)
        clear hz ha hb
        go_wp2_with fail
        go_ret
        exact ⟨by rw [decide_eq_true HE.out]; rfl, _, hw.out⟩
  · have hne : hrYs xs ≠ hrYs ys := fun e => hnm (by rw [← HYA.out, ← HYB.out, e])
    have HN := Lib.hid hne
    clear hne ha hb HYA HYB
    have hmi : ¬ ((n : Int) = (m : Int)) := by omega
    have hmb : ((n : Int) == (m : Int)) = false := by rw [beq_eq_false_iff_ne]; exact hmi
    have hmn : ((n : Int) != (m : Int)) = true := by rw [bne, hmb]; rfl
    go_enter Tryd.func14, Tryd.ntmps14
    go_wp2_with fail
    go_ret
    exact ⟨by rw [decide_eq_false HN.out]; rfl, 0, rfl⟩
end Lb
end Go.Proofs.YtbdhibgljaelbaaDoor
