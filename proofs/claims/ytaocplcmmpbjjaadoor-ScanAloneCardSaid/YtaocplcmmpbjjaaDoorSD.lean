/- A reading: how it lies, how it stops, how a part begins. -/
import Derived.Test.YtaocplcmmpbjjaaDoorSC
import Derived.Test.YtaocplcmmpbjjaaDoorA1
namespace Go.Proofs.YtaocplcmmpbjjaaDoor
open Go Go.RowKit
namespace Sn
open Nt
set_option linter.unusedVariables false
set_option linter.unusedSimpArgs false
/-- a reading: its source, what tells, the goings, the part's kind and beginning, where and why it stopped -/
def Rdg (w : World) (R : Nat) (s : ByteArray) (f m : Value) (k p a y : Int) : Prop := Bk w R 52 #[.string s, f, m, .int .i64 k, .int .i64 p, .int .i64 a, .int .i64 y]
section
variable {w w' : World} {R : Nat} {s : ByteArray} {f m : Value} {k p a y : Int}
theorem Rdg.cells (h : Rdg w R s f m k p a y) : w.cell? ⟨R, 0, none⟩ = some (.string s) ∧ w.cell? ⟨R, 1, none⟩ = some f ∧ w.cell? ⟨R, 2, none⟩ = some m ∧ w.cell? ⟨R, 3, none⟩ = some (.int .i64 k) ∧ w.cell? ⟨R, 4, none⟩ = some (.int .i64 p) ∧ w.cell? ⟨R, 5, none⟩ = some (.int .i64 a) ∧ w.cell? ⟨R, 6, none⟩ = some (.int .i64 y) :=
  ⟨Bk.cell h 0, Bk.cell h 1, Bk.cell h 2, Bk.cell h 3, Bk.cell h 4, Bk.cell h 5, Bk.cell h 6⟩
theorem Rdg.fr (h : Rdg w R s f m k p a y) (i : Nat) : w.frozen? ⟨R, i, none⟩ = false := Bk.frozen h i
end
theorem gset (W : World) (b i : Nat) (v : Value) : W.grownBy (W.setCell ⟨b, i, none⟩ v) (some b) := ⟨rfl, rfl, rfl, by simp, fun k _ hk => Below.heap_setCell W ⟨b, i, none⟩ v k (fun e => hk (by rw [e]))⟩
theorem stop_l (R : Nat) (s : ByteArray) (f m : Value) (k p a y b z : Int) (w : World) (h : Rdg w R s f m k p a y) :
    Calls Tryd.prog 41 #[.pointer (some ⟨R, 0, none⟩), .int .i64 b, .int .i64 z] w fun e w' => e = .returned (.bool false) ∧ Rdg w' R s f m k p b z ∧ w.grownBy w' (some R) := by
  have H := Lib.hid h
  obtain ⟨c0, c1, c2, c3, c4, c5, c6⟩ := h.cells
  have f5 := h.fr 5
  have f6 := h.fr 6
  clear h
  go_enter Tryd.func41, Tryd.ntmps41
  go_wp2_with fail
  go_ret
  exact ⟨rfl, Bk.set_ (Bk.set_ H.out 5 _) 6 _, (gset _ _ _ _).trans (gset _ _ _ _)⟩
/-- what start does -/
def StaP (R : Nat) (s : ByteArray) (f m : Value) (k p a y b : Int) (c : Nat) (right : Bool) (w : World) (e : Ending) (w' : World) : Prop :=
  w.grownBy w' (some R) ∧
  ((right = false ∧ e = .returned (.bool false) ∧ Rdg w' R s f m k p b 4) ∨
   (right = true ∧ (kndR c = 0 ∨ (kndR c = 1 ∧ k = 2)) ∧ e = .returned (.bool false) ∧ Rdg w' R s f m k p b 7) ∨
   (right = true ∧ ¬ (kndR c = 0 ∨ (kndR c = 1 ∧ k = 2)) ∧ e = .returned (.bool true) ∧ Rdg w' R s f m (kndR c : Int) b a y))
set_option maxRecDepth 100000 in
theorem start_l (R : Nat) (s : ByteArray) (f m : Value) (k p a y b : Int) (c : Nat) (right : Bool) (hc : c ≤ 2147483647) (hv : right = true → 128 ≤ c → letR c = true) (w : World) (h : Rdg w R s f m k p a y) :
    Calls Tryd.prog 38 #[.pointer (some ⟨R, 0, none⟩), .int .i64 b, .int .i32 (c : Int), .bool right] w (StaP R s f m k p a y b c right w) := by
  have H := Lib.hid h
  have HS := Lib.hid (fun z => stop_l R s f m k p a y b z w h)
  obtain ⟨c0, c1, c2, c3, c4, c5, c6⟩ := h.cells
  have f3 := h.fr 3
  have f4 := h.fr 4
  clear h
  cases right with
  | false =>
    clear hv
    go_enter Tryd.func38, Tryd.ntmps38
    go_wp2_with fail
    go_at_call 41
    refine (HS.out 4).mono ?_
    rintro e w1 ⟨rfl, hr, hg⟩
    have HR := Lib.hid hr
    have HG := Lib.hid hg
    clear hr hg
    go_wp2_with fail
    go_ret
    exact ⟨HG.out, .inl ⟨rfl, rfl, HR.out⟩⟩
  | true =>
    have HK := Lib.hid (kindOf_l c hc (hv rfl) w)
    clear hv hc
    generalize hkd : kndR c = kd at HK
    have HKD := Lib.hid hkd
    clear hkd
    by_cases h0 : kd = 0
    · subst h0
      go_enter Tryd.func38, Tryd.ntmps38
      go_wp2_with fail
      go_at_call 42
      refine HK.out.mono ?_
      rintro e w1 ⟨rfl, rfl⟩
      go_wp2_with fail
      go_at_call 41
      refine (HS.out 7).mono ?_
      rintro e w1 ⟨rfl, hr, hg⟩
      have HR := Lib.hid hr
      have HG := Lib.hid hg
      clear hr hg
      go_wp2_with fail
      go_ret
      exact ⟨HG.out, .inr (.inl ⟨rfl, .inl HKD.out, rfl, HR.out⟩)⟩
    have e0 : ((kd : Int) == 0) = false := by simp; omega
    by_cases h1 : kd = 1
    · subst h1
      by_cases h2 : k = 2
      · subst h2
        go_enter Tryd.func38, Tryd.ntmps38
        go_wp2_with fail
        go_at_call 42
        refine HK.out.mono ?_
        rintro e w1 ⟨rfl, rfl⟩
        go_wp2_with fail
        go_at_call 41
        refine (HS.out 7).mono ?_
        rintro e w1 ⟨rfl, hr, hg⟩
        have HR := Lib.hid hr
        have HG := Lib.hid hg
        clear hr hg
        go_wp2_with fail
        go_ret
        exact ⟨HG.out, .inr (.inl ⟨rfl, .inr ⟨HKD.out, rfl⟩, rfl, HR.out⟩)⟩
      · have e2 : (k == 2) = false := by simp; omega
        have HN2 := Lib.hid h2
        clear h2 h0
        go_enter Tryd.func38, Tryd.ntmps38
        go_wp2_with fail
        go_at_call 42
        refine HK.out.mono ?_
        rintro e w1 ⟨rfl, rfl⟩
        go_wp2_with fail
        go_ret
        refine ⟨(gset _ _ _ _).trans (gset _ _ _ _), .inr (.inr ⟨rfl, ?_, rfl, ?_⟩)⟩
        · rw [HKD.out]; have := HN2.out; omega
        · rw [HKD.out]; exact Bk.set_ (Bk.set_ H.out 3 _) 4 _
    · have e1 : ((kd : Int) == 1) = false := by simp; omega
      have HN0 := Lib.hid h0
      have HN1 := Lib.hid h1
      clear h0 h1
      go_enter Tryd.func38, Tryd.ntmps38
      go_wp2_with fail
      go_at_call 42
      refine HK.out.mono ?_
      rintro e w1 ⟨rfl, rfl⟩
      go_wp2_with fail
      go_ret
      refine ⟨(gset _ _ _ _).trans (gset _ _ _ _), .inr (.inr ⟨rfl, ?_, rfl, ?_⟩)⟩
      · rw [HKD.out]; have := HN0.out; have := HN1.out; omega
      · rw [HKD.out]; exact Bk.set_ (Bk.set_ H.out 3 _) 4 _
end Sn
end Go.Proofs.YtaocplcmmpbjjaaDoor
