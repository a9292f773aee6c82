/- Sub: the difference of two naturals. -/
import Derived.Test.YtdklchejnpaenaaDoorNatS2
namespace Go.Proofs.YtdklchejnpaenaaDoor
open Go Go.RowKit
namespace Nt
open Wd Sti
set_option linter.unusedVariables false

theorem make_row (n : Nat) (hn : n ≤ 1099511627776) (w : World) :
    (Instr.makeSlice 53 (.int .i64 (n : Int)) (.int .i64 (n : Int))).run Tryd.prog w = .ok (.slice (some ⟨w.heap.size, 0, none⟩) n n) (w.alloc (.cells (us (List.replicate n 0)) 28)) := by
  obtain ⟨i, hi, hz, h1, h2⟩ := info_parts info_u64
  have hr := run_make (P := Tryd.prog) w 53 28 i (.int .u64 0) Tryd.underlying53 hi hz .i64 .i64 (n : Int) (n : Int) (by omega) (by omega) (by rw [h2]; omega) (by omega)
  simp only [Int.toNat_natCast] at hr
  rw [hr, us_zeros, h1]
  have e : madeCells (Value.int .u64 0).cells (n * 1) = Array.replicate n (Value.int .u64 0) := by
    apply Array.ext <;> simp [madeCells, Value.cells, Nat.mod_one]
  rw [e]
theorem take_below {os os' ys : List Int} {n : Nat} {b : Bool} (h : Ws os) (h' : Ws os') (hy : Ws ys) (hl : os.length = n) (hl' : os'.length = n) (e : V os' = V os - V ys + P n * b1 b) : b = decide (V os < V ys) := by
  have h0 := V_nonneg h'
  have h1 := V_lt h'
  rw [hl'] at h1
  cases b with
  | true => rw [b1_t] at e; symm; exact decide_eq_true (by omega)
  | false => rw [b1_f] at e; symm; exact decide_eq_false (by omega)
theorem Ws.zapp {xs : List Int} (h : Ws xs) (k : Nat) : Ws (xs ++ List.replicate k 0) := h.append (Ws.zeros k)
theorem V_zapp (xs : List Int) (k : Nat) : V (xs ++ List.replicate k 0) = V xs := by rw [V_append, V_zeros, Int.mul_zero, Int.add_zero]

set_option maxRecDepth 100000 in
set_option maxHeartbeats 1000000 in
theorem sub_n (A B : Option Addr) (na ca nb cb : Nat) (xs ys : List Int) (w : World) (ha : Rd w w.heap.size A na xs) (hb : Rd w w.heap.size B nb ys) (la : na ≤ 1073741824) (lb : nb ≤ 1073741824) :
    Calls Tryd.prog 11 #[.slice A na ca, .slice B nb cb] w fun e w' =>
      (V ys ≤ V xs → ∃ v, e = .returned (.tuple #[v, .int .i64 0]) ∧ Ans w w' v (V xs - V ys) (max na nb)) ∧ (V xs < V ys → e = .returned (.tuple #[.slice none 0 0, .int .i64 2]) ∧ Below w.heap.size w w') := by
  obtain ⟨M, hM1, hM2, hM3⟩ : ∃ M, M = max na nb ∧ na ≤ M ∧ nb ≤ M := ⟨_, rfl, by omega, by omega⟩
  rw [← hM1]
  have hmx : max (na : Int) (nb : Int) = (M : Int) := by omega
  have hMl : M ≤ 1073741824 := by omega
  have hmk := make_row M (by omega) w
  obtain ⟨w2, hcp, h2, hg⟩ := copy_run (dLen := M) (dCap := M) (c := ca) 53 24 3 Tryd.underlying53 (Bk.new' (w := w) rfl (t := 28) (cs := us (List.replicate M 0))) (by simp) (ha.keep (w' := w.alloc (.cells (us (List.replicate M 0)) 28)) (fun p hp => World.cell?_alloc_lt w _ p (by omega))) hM2
  rw [List.drop_replicate] at h2
  have hbw := below_of_own hg
  have hb2 := hb.below hbw
  have ht := take_n w.heap.size M M B nb cb w.heap.size (xs ++ List.replicate (M - na) 0) ys w2 h2 (ha.ws.zapp _) (by rw [List.length_append, ha.len, List.length_replicate]; omega) hb2 (Nat.le_refl _) hM3 hMl
  have HT := Lib.hid ht
  have HBW := Lib.hid hbw
  have HXW := Lib.hid ha.ws
  have HYW := Lib.hid hb.ws
  have HXL := Lib.hid ha.len
  clear ht hg h2 hb2 hb ha hM1 hbw
  go_enter Tryd.func11, Tryd.ntmps11
  go_wp2_with fail
  go_at_call 43
  refine HT.out.mono ?_; rintro e w3 ⟨os', b, rfl, g1, g2, g3, g4, g5⟩
  have hv := V_zapp xs (M - na)
  have hbd := take_below (HXW.out.zapp (M - na)) g3 HYW.out (by rw [List.length_append, HXL.out, List.length_replicate]; omega) g2 g4
  rw [hv] at hbd g4
  have HG4 := Lib.hid g4
  have HBD := Lib.hid hbd
  have hw3 : Below w.heap.size w w3 := HBW.out.grown g5 HBW.out.size (fun k e => by cases e; exact Nat.le_refl _)
  have HW3 := Lib.hid hw3
  clear hv hbd g4 hw3 hcp hmk hmx HT
  cases b with
  | true =>
    go_wp2_with fail
    go_ret2
    have := of_decide_eq_true HBD.out.symm
    exact ⟨fun h => absurd h (by omega), fun _ => ⟨rfl, HW3.out⟩⟩
  | false =>
    have HT := Lib.hid (trimmed_c (some ⟨w.heap.size, 0, none⟩) M M w3.heap.size os' w3 (g1.rd0 g1.lt g3 g2) (Nat.le_refl _) (by omega))
    have H1 := Lib.hid g1
    have H2 := Lib.hid g2
    have H3 := Lib.hid g3
    clear g1 g2 g3 g5
    go_wp2_with fail
    go_at_call 44
    refine HT.out.mono ?_; rintro e w' ⟨rfl, rfl⟩
    go_wp2_with fail
    go_ret2
    have := of_decide_eq_false HBD.out.symm
    refine ⟨fun h => ⟨_, rfl, ?_⟩, fun h => absurd h this⟩
    have hv : V os' = V xs - V ys := by
      have := HG4.out
      rw [b1_f, Int.mul_zero, Int.add_zero] at this
      exact this
    have hr := ans_trim (w := w) (m := M) H1.out H3.out hv (by have := trim_le os'; have := H2.out; omega) HW3.out
    rw [H2.out] at hr
    exact hr
end Nt
end Go.Proofs.YtdklchejnpaenaaDoor
