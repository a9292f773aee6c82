/- ScanNames: what its walk needs. -/
import Derived.Test.YtaocplcmmpbjjaaDoorOB
namespace Go.Proofs.YtaocplcmmpbjjaaDoor
open Go Go.RowKit Go.Maps Go.Shelf
namespace scanNames
open Nt Sn
open Gr (Rdr Rws row Sh rws_rd rws_form)
set_option linter.unusedVariables false
set_option linter.unusedSimpArgs false
theorem rowP_at {xs : List TV} {w w' : World} {v : Value} (h : RowP xs w v w') : ∃ A n c, v = .slice A n c ∧ n = xs.length ∧ n ≤ c ∧ Rdr w' w'.heap.size A n xs ∧ Below w.heap.size w w' := by
  obtain ⟨A, c, h1, h0, h2, h3⟩ := h
  exact ⟨A, _, c, h1, rfl, h0, h2, h3⟩
def n1 : ByteArray := ⟨#[195, 169, 95, 49, 32, 47, 47, 32, 110, 111, 58, 32, 47]⟩
def n2 : ByteArray := ⟨#[35, 195, 169, 10, 32, 120, 32, 35, 32, 121]⟩
set_option maxRecDepth 100000 in
theorem n1_a : allA n1 = ([], 5, 7) := by kernel_rfl
set_option maxRecDepth 100000 in
theorem n2_a : allA n2 = ([⟨1, 5, 6⟩], 10, 0) := by kernel_rfl
set_option maxRecDepth 100000 in
theorem n2_t : tvs n2 (allA n2).1 = [⟨1, ⟨#[120]⟩, 5⟩] := by rw [n2_a]; kernel_rfl
set_option maxRecDepth 100000 in
theorem n3_a : allA ⟨#[195, 169, 95, 49, 32, 47]⟩ = ([], 5, 7) := by kernel_rfl
set_option maxRecDepth 100000 in
theorem n4_a : allA ⟨#[97, 255]⟩ = ([], 1, 4) := by kernel_rfl
set_option maxRecDepth 100000 in
theorem n5_a : allA ⟨#[35, 32, 195]⟩ = ([], 2, 4) := by kernel_rfl
set_option maxRecDepth 100000 in
theorem n6_a : allA ⟨#[55, 195, 169]⟩ = ([], 1, 7) := by kernel_rfl
theorem n7_a {z : ByteArray} (h : z.data.toList = List.replicate 65537 97) : z.size = 65537 ∧ allA z = ([], 0, 3) := by
  have hz : z.size = 65537 := by rw [← bs_size, show Bs z = _ from h, List.length_replicate]
  refine ⟨hz, ?_⟩
  unfold allA
  rw [if_pos (by omega)]
set_option maxRecDepth 100000 in
theorem m1_a : numR ⟨#[49, 56, 52, 52, 54, 55, 52, 52, 48, 55, 51, 55, 48, 57, 53, 53, 49, 54, 49, 53]⟩ = some 18446744073709551615 := by kernel_rfl
set_option maxRecDepth 100000 in
theorem m2_a : numR ⟨#[]⟩ = none := by kernel_rfl
set_option maxRecDepth 100000 in
theorem m3_a : numR ⟨#[49, 56, 52, 52, 54, 55, 52, 52, 48, 55, 51, 55, 48, 57, 53, 53, 49, 54, 49, 54]⟩ = none := by kernel_rfl
theorem num_is {s : ByteArray} {o : Option Nat} (h : numR s = o) (W : World) : Calls Tryd.prog 10 #[.string s] W fun e w' => e = .returned (numT o) ∧ Below W.heap.size W w' := by
  rw [← h]
  exact Number_l s W
set_option maxRecDepth 100000 in
set_option maxHeartbeats 1000000 in
theorem fails_l {s : ByteArray} {p y : Nat} (h : allA s = ([], p, y)) (hs : s.size ≤ 100000) (w : World) (hT : Lib.Utf8Tabs 0 1 w) :
    Calls Tryd.prog 11 #[.string s, .int .i64 (p : Int), .int .i64 (y : Int)] w fun e w' => e = .returned (.bool true) ∧ Below w.heap.size w w' := by
  have HA := Lib.hid (all_is (xs := []) h (by rw [h]; rfl) hs w hT)
  clear h hs hT
  go_enter Tryd.func11, Tryd.ntmps11
  go_wp2_with fail
  go_at_call 9
  refine HA.out.mono ?_
  rintro e w1 ⟨v, rfl, hr0⟩
  obtain ⟨A, n, c, rfl, hn, _, _, hb⟩ := rowP_at hr0
  obtain rfl : n = 0 := hn
  have HB := Lib.hid hb
  clear hb hr0 HA
  go_wp2_with fail
  go_ret
  exact ⟨rfl, HB.out⟩
set_option maxRecDepth 100000 in
set_option maxHeartbeats 2000000 in
theorem kmul_l (w : World) : Calls Tryd.prog 13 #[.string ⟨#[107, 109, 117, 108]⟩] w fun e w' => e = .returned (.bool true) ∧ w' = w := by
  go_enter Tryd.func13, Tryd.ntmps13
  go_wp2_with fail
  go_ret
  exact ⟨rfl, rfl⟩
set_option maxRecDepth 100000 in
set_option maxHeartbeats 2000000 in
theorem mul_l (w : World) : Calls Tryd.prog 13 #[.string ⟨#[109, 117, 108]⟩] w fun e w' => e = .returned (.bool false) ∧ w' = w := by
  go_enter Tryd.func13, Tryd.ntmps13
  go_wp2_with fail
  go_ret
  exact ⟨rfl, rfl⟩
theorem let_is {c : Nat} {b : Bool} (h : letR c = b) (hc : c ≤ 2147483647) (w : World) : Calls Tryd.prog 14 #[.int .i32 (c : Int)] w fun e w' => e = .returned (.bool b) ∧ w' = w := by
  rw [← h]
  exact Letter_l c hc w
end scanNames
end Go.Proofs.YtaocplcmmpbjjaaDoor
