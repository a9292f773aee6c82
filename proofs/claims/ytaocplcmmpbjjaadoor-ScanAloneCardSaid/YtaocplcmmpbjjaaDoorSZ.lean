/- The chapter's examples. -/
import Derived.Test.YtaocplcmmpbjjaaDoorSY
namespace Go.Proofs.YtaocplcmmpbjjaaDoor
open Go Go.RowKit Go.Maps Go.Shelf
namespace Sn
open Nt
open Gr (Rdr Rws row Sh rws_rd rws_form)
set_option linter.unusedVariables false
set_option linter.unusedSimpArgs false
def ex1 : ByteArray := ⟨#[97, 49, 61, 50, 43, 32, 35, 32, 120]⟩
def ex2 : ByteArray := ⟨#[50, 97]⟩
def ex3 : ByteArray := ⟨#[49, 56, 52, 52, 54, 55, 52, 52, 48, 55, 51, 55, 48, 57, 53, 53, 49, 54, 49, 54]⟩
set_option maxRecDepth 100000 in
theorem ex1_a : allA ex1 = ([⟨1, 0, 2⟩, ⟨3, 2, 3⟩, ⟨2, 3, 4⟩, ⟨3, 4, 5⟩], 9, 0) := by kernel_rfl
set_option maxRecDepth 100000 in
theorem ex2_a : allA ex2 = ([], 1, 7) := by kernel_rfl
set_option maxRecDepth 100000 in
theorem ex3_a : allA ex3 = ([], 0, 3) := by kernel_rfl
def exT : List TV := [⟨1, ⟨#[97, 49]⟩, 0⟩, ⟨3, ⟨#[61]⟩, 2⟩, ⟨2, ⟨#[50]⟩, 3⟩, ⟨3, ⟨#[43]⟩, 4⟩]
set_option maxRecDepth 100000 in
theorem ex1_t : tvs ex1 (allA ex1).1 = exT := by rw [ex1_a]; kernel_rfl
theorem bel_tabs {X Y : World} (hT : Lib.Utf8Tabs 0 1 X) (hb : Below X.heap.size X Y) : Lib.Utf8Tabs 0 1 Y :=
  tabs_eq hT (hb.block _ (World.block_lt_of_cell? X _ (hT.1 0 (by omega)))) (hb.block _ (World.block_lt_of_cell? X _ (hT.2 0 (by omega)).1))
theorem bel_al (w : World) (o : Obj) : Below w.heap.size w (w.alloc o) := (Below.refl _ w).alloc (Nat.le_refl _) o
theorem bel_t {a b c : World} (h : Below a.heap.size a b) (k : Below b.heap.size b c) : Below a.heap.size a c := h.trans (k.mono h.size)
/-- All of a source, with its answer at hand -/
theorem all_is {s : ByteArray} {ts : List Tok} {p y : Nat} {xs : List TV} (h : allA s = (ts, p, y)) (hx : tvs s (allA s).1 = xs) (hs : s.size ≤ 100000) (w : World) (hT : Lib.Utf8Tabs 0 1 w) :
    Calls Tryd.prog 9 #[.string s] w fun e w' => ∃ v, e = .returned (.tuple #[v, .int .i64 (p : Int), .int .i64 (y : Int)]) ∧ RowP xs w v w' := by
  refine (all_r s hs w hT).mono ?_
  rintro e w' ⟨v, he, hr⟩
  rw [hx] at hr
  rw [h] at he
  exact ⟨v, he, hr⟩
set_option maxRecDepth 100000 in
set_option maxHeartbeats 4000000 in
theorem lives_l (w : World) (hT : Lib.Utf8Tabs 0 1 w) : Calls Tryd.prog 8 #[] w fun e w' => e = .returned (.bool true) ∧ Below w.heap.size w w' := by
  have HT := Lib.hid hT
  have H1 := Lib.hid (fun W hT => all_is ex1_a ex1_t (by decide) W hT)
  have H2 := Lib.hid (fun W hT => all_is (xs := []) ex2_a (by rw [ex2_a]; rfl) (by decide) W hT)
  have H3 := Lib.hid (fun W hT => all_is (xs := []) ex3_a (by rw [ex3_a]; rfl) (by decide) W hT)
  unfold ex1 at H1
  unfold ex2 at H2
  unfold ex3 at H3
  clear hT
  go_enter Tryd.func8, Tryd.ntmps8
  go_wp2_with fail
  go_at_call 9
  refine (H1.out w HT.out).mono ?_
  rintro e w1 ⟨v1, rfl, A, c, rfl, hc, hr, hb⟩
  have HR := Lib.hid hr
  have HB1 := Lib.hid hb
  clear hr hb hc
  go_wp2_with fail
  go_at_call 9
  refine (H2.out w1 (bel_tabs HT.out HB1.out)).mono ?_
  rintro e w2 ⟨v2, rfl, A2, c2, rfl, hc, hr, hb⟩
  have HB2 := Lib.hid hb
  clear hr hb hc
  go_wp2_with fail
  go_at_call 9
  refine (H3.out w2 (bel_tabs HT.out (bel_t HB1.out HB2.out))).mono ?_
  rintro e w3 ⟨v3, rfl, A3, c3, rfl, hc, hr, hb⟩
  have HB3 := Lib.hid (bel_t (bel_t HB1.out HB2.out) hb)
  have HR3 := Lib.hid ((HR.out.below HB2.out).below (hb.mono HB2.out.size))
  have HSZ : Hid (w1.heap.size ≤ w3.heap.size) := Lib.hid (Nat.le_trans HB2.out.size hb.size)
  clear hr hb hc HB1 HB2 HR H1 H2 H3
  have hbk : Bk (w3.alloc (.cells #[.int .i64 1, .string ⟨#[97, 49]⟩, .int .i64 0, .int .i64 3, .string ⟨#[61]⟩, .int .i64 2, .int .i64 2, .string ⟨#[50]⟩, .int .i64 3, .int .i64 3, .string ⟨#[43]⟩, .int .i64 4] 33)) w3.heap.size 33 (row exT).toArray := Bk.new w3 _ _
  have HS := Lib.hid (same_t A (some ⟨w3.heap.size, 0, none⟩) exT.length c exT.length 4 w1.heap.size (w3.heap.size + 1) exT exT _ ((HR3.out.keep (fun p hp => (bel_al w3 _).cell (Nat.lt_of_lt_of_le hp HSZ.out)))) (Gr.bk_rdr hbk (by omega)) (by decide) (by decide))
  rw [decide_eq_true rfl] at HS
  clear hbk
  go_wp2_with fail
  go_at_call 16
  refine (show Calls Tryd.prog _ _ _ _ from HS.out).mono ?_
  rintro e w4 ⟨rfl, q, rfl⟩
  clear HS
  go_wp2_with fail
  go_ret
  exact ⟨rfl, bel_t (bel_t HB3.out (bel_al w3 _)) (bel_drN _ q)⟩
end Sn
end Go.Proofs.YtaocplcmmpbjjaaDoor
