/- The landed package encode: the operations, one and all. | The landed package encode: the map of the operations' functions. -/
import Derived.Test.YtblmagcekfbgdaaGreatDoorP3
import Derived.Test.YtblmagcekfbgdaaGreatDoorP4
import Derived.Maps.Own
import Derived.Maps.OwnSet
import Derived.Shelf.Abstract
namespace Go.Proofs.YtblmagcekfbgdaaGreatDoor
open Go Go.RowKit Go.Sort
namespace Is
open Nt
set_option linter.unusedVariables false
set_option linter.unusedSimpArgs false
/-- the function that puts an operation's bytes -/
def fnL : List Nat := [82, 60, 61, 62, 63, 62, 60, 60, 60, 60, 60, 60, 60, 60, 60, 64, 64, 64, 64, 65, 66, 66, 67, 67, 68, 68, 69, 69, 70, 71, 72, 73, 73, 74]
def opF (k : Nat) : Nat := (fnL[k]?).getD 0
theorem rex_m1 (m l : Int) : rexI m (-1) l = rexI m 0 l := by unfold rexI; rw [hi_none]; rfl
theorem op_l1 {w : World} {B : Nat} {v : Value} {xs : List Int} (d s t b x sc di im : Int) (hk : OkP ⟨1, d, s, t, b, x, sc, di, im⟩ (formOf 1)) (hT : TabE w) (hG : G3 B) (ho : Rw B v xs w) (hl : xs.length ≤ 800000) (hB : B ≤ w.heap.size) :
    Calls Tryz.prog (opF 1) #[v, .agg (Ins.vs ⟨1, d, s, t, b, x, sc, di, im⟩)] w (OutF B v (xs ++ encL ⟨1, d, s, t, b, x, sc, di, im⟩) w) := by
  obtain ⟨hd, hs, _, _, _⟩ : OkP ⟨1, d, s, t, b, x, sc, di, im⟩ .ds := hk
  have he : encL ⟨1, d, s, t, b, x, sc, di, im⟩ = [rexI s 0 d, 137, rmI s d] := rfl
  have h := two_l (w := w) (B := B) (v := v) (xs := xs) 1 (by decide) d s t b x sc di im hd hs hT hG ho hl hB
  rw [rex_m1] at h
  rw [he]
  exact h
theorem op_l2 {w : World} {B : Nat} {v : Value} {xs : List Int} (d s t b x sc di im : Int) (hk : OkP ⟨2, d, s, t, b, x, sc, di, im⟩ (formOf 2)) (hT : TabE w) (hG : G3 B) (ho : Rw B v xs w) (hl : xs.length ≤ 800000) (hB : B ≤ w.heap.size) :
    Calls Tryz.prog (opF 2) #[v, .agg (Ins.vs ⟨2, d, s, t, b, x, sc, di, im⟩)] w (OutF B v (xs ++ encL ⟨2, d, s, t, b, x, sc, di, im⟩) w) := by
  obtain ⟨hd, _, _, _⟩ : OkP ⟨2, d, s, t, b, x, sc, di, im⟩ .di := hk
  have he : encL ⟨2, d, s, t, b, x, sc, di, im⟩ = [rexI 0 0 d, 184 + d % 8] ++ ltl im 8 := rfl
  have h := wholeNumber_l (w := w) (B := B) (v := v) (xs := xs) 2 (by decide) d s t b x sc di im hd rfl hT hG ho hl hB
  rw [rex_m1] at h
  rw [he]
  exact h
theorem op_l3 {w : World} {B : Nat} {v : Value} {xs : List Int} (d s t b x sc di im : Int) (hk : OkP ⟨3, d, s, t, b, x, sc, di, im⟩ (formOf 3)) (hT : TabE w) (hG : G3 B) (ho : Rw B v xs w) (hl : xs.length ≤ 800000) (hB : B ≤ w.heap.size) :
    Calls Tryz.prog (opF 3) #[v, .agg (Ins.vs ⟨3, d, s, t, b, x, sc, di, im⟩)] w (OutF B v (xs ++ encL ⟨3, d, s, t, b, x, sc, di, im⟩) w) := by
  obtain ⟨hd, _, _, hp, _⟩ : OkP ⟨3, d, s, t, b, x, sc, di, im⟩ .dm := hk
  have he : encL ⟨3, d, s, t, b, x, sc, di, im⟩ = [rexI d x b, 139] ++ plcL d ⟨3, d, s, t, b, x, sc, di, im⟩ := rfl
  have h := fromPlace_l (w := w) (B := B) (v := v) (xs := xs) 3 (by decide) d s t b x sc di im hd hp hT hG ho hl hB
  rw [he]
  exact h
theorem op_l4 {w : World} {B : Nat} {v : Value} {xs : List Int} (d s t b x sc di im : Int) (hk : OkP ⟨4, d, s, t, b, x, sc, di, im⟩ (formOf 4)) (hT : TabE w) (hG : G3 B) (ho : Rw B v xs w) (hl : xs.length ≤ 800000) (hB : B ≤ w.heap.size) :
    Calls Tryz.prog (opF 4) #[v, .agg (Ins.vs ⟨4, d, s, t, b, x, sc, di, im⟩)] w (OutF B v (xs ++ encL ⟨4, d, s, t, b, x, sc, di, im⟩) w) := by
  obtain ⟨_, hs, _, hp, _⟩ : OkP ⟨4, d, s, t, b, x, sc, di, im⟩ .sm := hk
  have he : encL ⟨4, d, s, t, b, x, sc, di, im⟩ = [rexI s x b, 137] ++ plcL s ⟨4, d, s, t, b, x, sc, di, im⟩ := rfl
  have h := toPlace_l (w := w) (B := B) (v := v) (xs := xs) 4 (by decide) d s t b x sc di im hs hp hT hG ho hl hB
  rw [he]
  exact h
theorem op_l5 {w : World} {B : Nat} {v : Value} {xs : List Int} (d s t b x sc di im : Int) (hk : OkP ⟨5, d, s, t, b, x, sc, di, im⟩ (formOf 5)) (hT : TabE w) (hG : G3 B) (ho : Rw B v xs w) (hl : xs.length ≤ 800000) (hB : B ≤ w.heap.size) :
    Calls Tryz.prog (opF 5) #[v, .agg (Ins.vs ⟨5, d, s, t, b, x, sc, di, im⟩)] w (OutF B v (xs ++ encL ⟨5, d, s, t, b, x, sc, di, im⟩) w) := by
  obtain ⟨hd, _, _, hp, _⟩ : OkP ⟨5, d, s, t, b, x, sc, di, im⟩ .dm := hk
  have he : encL ⟨5, d, s, t, b, x, sc, di, im⟩ = [rexI d x b, 141] ++ plcL d ⟨5, d, s, t, b, x, sc, di, im⟩ := rfl
  have h := fromPlace_l (w := w) (B := B) (v := v) (xs := xs) 5 (by decide) d s t b x sc di im hd hp hT hG ho hl hB
  rw [he]
  exact h
theorem op_l6 {w : World} {B : Nat} {v : Value} {xs : List Int} (d s t b x sc di im : Int) (hk : OkP ⟨6, d, s, t, b, x, sc, di, im⟩ (formOf 6)) (hT : TabE w) (hG : G3 B) (ho : Rw B v xs w) (hl : xs.length ≤ 800000) (hB : B ≤ w.heap.size) :
    Calls Tryz.prog (opF 6) #[v, .agg (Ins.vs ⟨6, d, s, t, b, x, sc, di, im⟩)] w (OutF B v (xs ++ encL ⟨6, d, s, t, b, x, sc, di, im⟩) w) := by
  obtain ⟨hd, hs, _, _, _⟩ : OkP ⟨6, d, s, t, b, x, sc, di, im⟩ .ds := hk
  have he : encL ⟨6, d, s, t, b, x, sc, di, im⟩ = [rexI s 0 d, 1, rmI s d] := rfl
  have h := two_l (w := w) (B := B) (v := v) (xs := xs) 6 (by decide) d s t b x sc di im hd hs hT hG ho hl hB
  rw [rex_m1] at h
  rw [he]
  exact h
theorem op_l7 {w : World} {B : Nat} {v : Value} {xs : List Int} (d s t b x sc di im : Int) (hk : OkP ⟨7, d, s, t, b, x, sc, di, im⟩ (formOf 7)) (hT : TabE w) (hG : G3 B) (ho : Rw B v xs w) (hl : xs.length ≤ 800000) (hB : B ≤ w.heap.size) :
    Calls Tryz.prog (opF 7) #[v, .agg (Ins.vs ⟨7, d, s, t, b, x, sc, di, im⟩)] w (OutF B v (xs ++ encL ⟨7, d, s, t, b, x, sc, di, im⟩) w) := by
  obtain ⟨hd, hs, _, _, _⟩ : OkP ⟨7, d, s, t, b, x, sc, di, im⟩ .ds := hk
  have he : encL ⟨7, d, s, t, b, x, sc, di, im⟩ = [rexI s 0 d, 17, rmI s d] := rfl
  have h := two_l (w := w) (B := B) (v := v) (xs := xs) 7 (by decide) d s t b x sc di im hd hs hT hG ho hl hB
  rw [rex_m1] at h
  rw [he]
  exact h
theorem op_l8 {w : World} {B : Nat} {v : Value} {xs : List Int} (d s t b x sc di im : Int) (hk : OkP ⟨8, d, s, t, b, x, sc, di, im⟩ (formOf 8)) (hT : TabE w) (hG : G3 B) (ho : Rw B v xs w) (hl : xs.length ≤ 800000) (hB : B ≤ w.heap.size) :
    Calls Tryz.prog (opF 8) #[v, .agg (Ins.vs ⟨8, d, s, t, b, x, sc, di, im⟩)] w (OutF B v (xs ++ encL ⟨8, d, s, t, b, x, sc, di, im⟩) w) := by
  obtain ⟨hd, hs, _, _, _⟩ : OkP ⟨8, d, s, t, b, x, sc, di, im⟩ .ds := hk
  have he : encL ⟨8, d, s, t, b, x, sc, di, im⟩ = [rexI s 0 d, 41, rmI s d] := rfl
  have h := two_l (w := w) (B := B) (v := v) (xs := xs) 8 (by decide) d s t b x sc di im hd hs hT hG ho hl hB
  rw [rex_m1] at h
  rw [he]
  exact h
theorem op_l9 {w : World} {B : Nat} {v : Value} {xs : List Int} (d s t b x sc di im : Int) (hk : OkP ⟨9, d, s, t, b, x, sc, di, im⟩ (formOf 9)) (hT : TabE w) (hG : G3 B) (ho : Rw B v xs w) (hl : xs.length ≤ 800000) (hB : B ≤ w.heap.size) :
    Calls Tryz.prog (opF 9) #[v, .agg (Ins.vs ⟨9, d, s, t, b, x, sc, di, im⟩)] w (OutF B v (xs ++ encL ⟨9, d, s, t, b, x, sc, di, im⟩) w) := by
  obtain ⟨hd, hs, _, _, _⟩ : OkP ⟨9, d, s, t, b, x, sc, di, im⟩ .ds := hk
  have he : encL ⟨9, d, s, t, b, x, sc, di, im⟩ = [rexI s 0 d, 25, rmI s d] := rfl
  have h := two_l (w := w) (B := B) (v := v) (xs := xs) 9 (by decide) d s t b x sc di im hd hs hT hG ho hl hB
  rw [rex_m1] at h
  rw [he]
  exact h
theorem op_l10 {w : World} {B : Nat} {v : Value} {xs : List Int} (d s t b x sc di im : Int) (hk : OkP ⟨10, d, s, t, b, x, sc, di, im⟩ (formOf 10)) (hT : TabE w) (hG : G3 B) (ho : Rw B v xs w) (hl : xs.length ≤ 800000) (hB : B ≤ w.heap.size) :
    Calls Tryz.prog (opF 10) #[v, .agg (Ins.vs ⟨10, d, s, t, b, x, sc, di, im⟩)] w (OutF B v (xs ++ encL ⟨10, d, s, t, b, x, sc, di, im⟩) w) := by
  obtain ⟨hd, hs, _, _, _⟩ : OkP ⟨10, d, s, t, b, x, sc, di, im⟩ .ds := hk
  have he : encL ⟨10, d, s, t, b, x, sc, di, im⟩ = [rexI s 0 d, 33, rmI s d] := rfl
  have h := two_l (w := w) (B := B) (v := v) (xs := xs) 10 (by decide) d s t b x sc di im hd hs hT hG ho hl hB
  rw [rex_m1] at h
  rw [he]
  exact h
theorem op_l11 {w : World} {B : Nat} {v : Value} {xs : List Int} (d s t b x sc di im : Int) (hk : OkP ⟨11, d, s, t, b, x, sc, di, im⟩ (formOf 11)) (hT : TabE w) (hG : G3 B) (ho : Rw B v xs w) (hl : xs.length ≤ 800000) (hB : B ≤ w.heap.size) :
    Calls Tryz.prog (opF 11) #[v, .agg (Ins.vs ⟨11, d, s, t, b, x, sc, di, im⟩)] w (OutF B v (xs ++ encL ⟨11, d, s, t, b, x, sc, di, im⟩) w) := by
  obtain ⟨hd, hs, _, _, _⟩ : OkP ⟨11, d, s, t, b, x, sc, di, im⟩ .ds := hk
  have he : encL ⟨11, d, s, t, b, x, sc, di, im⟩ = [rexI s 0 d, 9, rmI s d] := rfl
  have h := two_l (w := w) (B := B) (v := v) (xs := xs) 11 (by decide) d s t b x sc di im hd hs hT hG ho hl hB
  rw [rex_m1] at h
  rw [he]
  exact h
theorem op_l12 {w : World} {B : Nat} {v : Value} {xs : List Int} (d s t b x sc di im : Int) (hk : OkP ⟨12, d, s, t, b, x, sc, di, im⟩ (formOf 12)) (hT : TabE w) (hG : G3 B) (ho : Rw B v xs w) (hl : xs.length ≤ 800000) (hB : B ≤ w.heap.size) :
    Calls Tryz.prog (opF 12) #[v, .agg (Ins.vs ⟨12, d, s, t, b, x, sc, di, im⟩)] w (OutF B v (xs ++ encL ⟨12, d, s, t, b, x, sc, di, im⟩) w) := by
  obtain ⟨hd, hs, _, _, _⟩ : OkP ⟨12, d, s, t, b, x, sc, di, im⟩ .ds := hk
  have he : encL ⟨12, d, s, t, b, x, sc, di, im⟩ = [rexI s 0 d, 49, rmI s d] := rfl
  have h := two_l (w := w) (B := B) (v := v) (xs := xs) 12 (by decide) d s t b x sc di im hd hs hT hG ho hl hB
  rw [rex_m1] at h
  rw [he]
  exact h
theorem op_l13 {w : World} {B : Nat} {v : Value} {xs : List Int} (d s t b x sc di im : Int) (hk : OkP ⟨13, d, s, t, b, x, sc, di, im⟩ (formOf 13)) (hT : TabE w) (hG : G3 B) (ho : Rw B v xs w) (hl : xs.length ≤ 800000) (hB : B ≤ w.heap.size) :
    Calls Tryz.prog (opF 13) #[v, .agg (Ins.vs ⟨13, d, s, t, b, x, sc, di, im⟩)] w (OutF B v (xs ++ encL ⟨13, d, s, t, b, x, sc, di, im⟩) w) := by
  obtain ⟨hd, hs, _, _, _⟩ : OkP ⟨13, d, s, t, b, x, sc, di, im⟩ .ds := hk
  have he : encL ⟨13, d, s, t, b, x, sc, di, im⟩ = [rexI s 0 d, 57, rmI s d] := rfl
  have h := two_l (w := w) (B := B) (v := v) (xs := xs) 13 (by decide) d s t b x sc di im hd hs hT hG ho hl hB
  rw [rex_m1] at h
  rw [he]
  exact h
theorem op_l14 {w : World} {B : Nat} {v : Value} {xs : List Int} (d s t b x sc di im : Int) (hk : OkP ⟨14, d, s, t, b, x, sc, di, im⟩ (formOf 14)) (hT : TabE w) (hG : G3 B) (ho : Rw B v xs w) (hl : xs.length ≤ 800000) (hB : B ≤ w.heap.size) :
    Calls Tryz.prog (opF 14) #[v, .agg (Ins.vs ⟨14, d, s, t, b, x, sc, di, im⟩)] w (OutF B v (xs ++ encL ⟨14, d, s, t, b, x, sc, di, im⟩) w) := by
  obtain ⟨hd, hs, _, _, _⟩ : OkP ⟨14, d, s, t, b, x, sc, di, im⟩ .ds := hk
  have he : encL ⟨14, d, s, t, b, x, sc, di, im⟩ = [rexI s 0 d, 133, rmI s d] := rfl
  have h := two_l (w := w) (B := B) (v := v) (xs := xs) 14 (by decide) d s t b x sc di im hd hs hT hG ho hl hB
  rw [rex_m1] at h
  rw [he]
  exact h
theorem op_l15 {w : World} {B : Nat} {v : Value} {xs : List Int} (d s t b x sc di im : Int) (hk : OkP ⟨15, d, s, t, b, x, sc, di, im⟩ (formOf 15)) (hT : TabE w) (hG : G3 B) (ho : Rw B v xs w) (hl : xs.length ≤ 800000) (hB : B ≤ w.heap.size) :
    Calls Tryz.prog (opF 15) #[v, .agg (Ins.vs ⟨15, d, s, t, b, x, sc, di, im⟩)] w (OutF B v (xs ++ encL ⟨15, d, s, t, b, x, sc, di, im⟩) w) := by
  obtain ⟨hd, _, _, _, _⟩ : OkP ⟨15, d, s, t, b, x, sc, di, im⟩ .dj := hk
  have he : encL ⟨15, d, s, t, b, x, sc, di, im⟩ = [rexI 0 0 d, 129, rmI 0 d] ++ ltl im 4 := rfl
  have h := withNumber_l (w := w) (B := B) (v := v) (xs := xs) 15 (by decide) d s t b x sc di im hd (by unfold R16; decide) hT hG ho hl hB
  rw [rex_m1] at h
  rw [he]
  exact h
theorem op_l16 {w : World} {B : Nat} {v : Value} {xs : List Int} (d s t b x sc di im : Int) (hk : OkP ⟨16, d, s, t, b, x, sc, di, im⟩ (formOf 16)) (hT : TabE w) (hG : G3 B) (ho : Rw B v xs w) (hl : xs.length ≤ 800000) (hB : B ≤ w.heap.size) :
    Calls Tryz.prog (opF 16) #[v, .agg (Ins.vs ⟨16, d, s, t, b, x, sc, di, im⟩)] w (OutF B v (xs ++ encL ⟨16, d, s, t, b, x, sc, di, im⟩) w) := by
  obtain ⟨hd, _, _, _, _⟩ : OkP ⟨16, d, s, t, b, x, sc, di, im⟩ .dj := hk
  have he : encL ⟨16, d, s, t, b, x, sc, di, im⟩ = [rexI 0 0 d, 129, rmI 4 d] ++ ltl im 4 := rfl
  have h := withNumber_l (w := w) (B := B) (v := v) (xs := xs) 16 (by decide) d s t b x sc di im hd (by unfold R16; decide) hT hG ho hl hB
  rw [rex_m1] at h
  rw [he]
  exact h
theorem op_l17 {w : World} {B : Nat} {v : Value} {xs : List Int} (d s t b x sc di im : Int) (hk : OkP ⟨17, d, s, t, b, x, sc, di, im⟩ (formOf 17)) (hT : TabE w) (hG : G3 B) (ho : Rw B v xs w) (hl : xs.length ≤ 800000) (hB : B ≤ w.heap.size) :
    Calls Tryz.prog (opF 17) #[v, .agg (Ins.vs ⟨17, d, s, t, b, x, sc, di, im⟩)] w (OutF B v (xs ++ encL ⟨17, d, s, t, b, x, sc, di, im⟩) w) := by
  obtain ⟨hd, _, _, _, _⟩ : OkP ⟨17, d, s, t, b, x, sc, di, im⟩ .dj := hk
  have he : encL ⟨17, d, s, t, b, x, sc, di, im⟩ = [rexI 0 0 d, 129, rmI 5 d] ++ ltl im 4 := rfl
  have h := withNumber_l (w := w) (B := B) (v := v) (xs := xs) 17 (by decide) d s t b x sc di im hd (by unfold R16; decide) hT hG ho hl hB
  rw [rex_m1] at h
  rw [he]
  exact h
theorem op_l18 {w : World} {B : Nat} {v : Value} {xs : List Int} (d s t b x sc di im : Int) (hk : OkP ⟨18, d, s, t, b, x, sc, di, im⟩ (formOf 18)) (hT : TabE w) (hG : G3 B) (ho : Rw B v xs w) (hl : xs.length ≤ 800000) (hB : B ≤ w.heap.size) :
    Calls Tryz.prog (opF 18) #[v, .agg (Ins.vs ⟨18, d, s, t, b, x, sc, di, im⟩)] w (OutF B v (xs ++ encL ⟨18, d, s, t, b, x, sc, di, im⟩) w) := by
  obtain ⟨hd, _, _, _, _⟩ : OkP ⟨18, d, s, t, b, x, sc, di, im⟩ .dj := hk
  have he : encL ⟨18, d, s, t, b, x, sc, di, im⟩ = [rexI 0 0 d, 129, rmI 7 d] ++ ltl im 4 := rfl
  have h := withNumber_l (w := w) (B := B) (v := v) (xs := xs) 18 (by decide) d s t b x sc di im hd (by unfold R16; decide) hT hG ho hl hB
  rw [rex_m1] at h
  rw [he]
  exact h
theorem op_l19 {w : World} {B : Nat} {v : Value} {xs : List Int} (d s t b x sc di im : Int) (hk : OkP ⟨19, d, s, t, b, x, sc, di, im⟩ (formOf 19)) (hT : TabE w) (hG : G3 B) (ho : Rw B v xs w) (hl : xs.length ≤ 800000) (hB : B ≤ w.heap.size) :
    Calls Tryz.prog (opF 19) #[v, .agg (Ins.vs ⟨19, d, s, t, b, x, sc, di, im⟩)] w (OutF B v (xs ++ encL ⟨19, d, s, t, b, x, sc, di, im⟩) w) := by
  obtain ⟨hd, hs, ht, _, _⟩ : OkP ⟨19, d, s, t, b, x, sc, di, im⟩ .dst := hk
  have he : encL ⟨19, d, s, t, b, x, sc, di, im⟩ = [196, 66 + 128 * (1 - hiR d) + 32 * (1 - hiR t), 131 + 8 * (15 - s), 246, rmI d t] := rfl
  have h := product_l (w := w) (B := B) (v := v) (xs := xs) 19 (by decide) d s t b x sc di im hd hs ht hT hG ho hl hB
  rw [he]
  exact h
theorem op_l20 {w : World} {B : Nat} {v : Value} {xs : List Int} (d s t b x sc di im : Int) (hk : OkP ⟨20, d, s, t, b, x, sc, di, im⟩ (formOf 20)) (hT : TabE w) (hG : G3 B) (ho : Rw B v xs w) (hl : xs.length ≤ 800000) (hB : B ≤ w.heap.size) :
    Calls Tryz.prog (opF 20) #[v, .agg (Ins.vs ⟨20, d, s, t, b, x, sc, di, im⟩)] w (OutF B v (xs ++ encL ⟨20, d, s, t, b, x, sc, di, im⟩) w) := by
  obtain ⟨hd, hs, _, _, _⟩ : OkP ⟨20, d, s, t, b, x, sc, di, im⟩ .ds := hk
  have he : encL ⟨20, d, s, t, b, x, sc, di, im⟩ = [102, rexI d 0 s, 15, 56, 246, rmI d s] := rfl
  have h := oneFlag_l (w := w) (B := B) (v := v) (xs := xs) 20 (by decide) d s t b x sc di im hd hs hT hG ho hl hB
  rw [rex_m1] at h
  rw [he]
  exact h
theorem op_l21 {w : World} {B : Nat} {v : Value} {xs : List Int} (d s t b x sc di im : Int) (hk : OkP ⟨21, d, s, t, b, x, sc, di, im⟩ (formOf 21)) (hT : TabE w) (hG : G3 B) (ho : Rw B v xs w) (hl : xs.length ≤ 800000) (hB : B ≤ w.heap.size) :
    Calls Tryz.prog (opF 21) #[v, .agg (Ins.vs ⟨21, d, s, t, b, x, sc, di, im⟩)] w (OutF B v (xs ++ encL ⟨21, d, s, t, b, x, sc, di, im⟩) w) := by
  obtain ⟨hd, hs, _, _, _⟩ : OkP ⟨21, d, s, t, b, x, sc, di, im⟩ .ds := hk
  have he : encL ⟨21, d, s, t, b, x, sc, di, im⟩ = [243, rexI d 0 s, 15, 56, 246, rmI d s] := rfl
  have h := oneFlag_l (w := w) (B := B) (v := v) (xs := xs) 21 (by decide) d s t b x sc di im hd hs hT hG ho hl hB
  rw [rex_m1] at h
  rw [he]
  exact h
theorem op_l22 {w : World} {B : Nat} {v : Value} {xs : List Int} (d s t b x sc di im : Int) (hk : OkP ⟨22, d, s, t, b, x, sc, di, im⟩ (formOf 22)) (hT : TabE w) (hG : G3 B) (ho : Rw B v xs w) (hl : xs.length ≤ 800000) (hB : B ≤ w.heap.size) :
    Calls Tryz.prog (opF 22) #[v, .agg (Ins.vs ⟨22, d, s, t, b, x, sc, di, im⟩)] w (OutF B v (xs ++ encL ⟨22, d, s, t, b, x, sc, di, im⟩) w) := by
  obtain ⟨hd, _, _, _, _⟩ : OkP ⟨22, d, s, t, b, x, sc, di, im⟩ .d := hk
  have he : encL ⟨22, d, s, t, b, x, sc, di, im⟩ = [rexI 0 0 d, 247, rmI 3 d] := rfl
  have h := one_l (w := w) (B := B) (v := v) (xs := xs) 22 (by decide) d s t b x sc di im hd (by unfold R16; decide) hT hG ho hl hB
  rw [rex_m1] at h
  rw [he]
  exact h
theorem op_l23 {w : World} {B : Nat} {v : Value} {xs : List Int} (d s t b x sc di im : Int) (hk : OkP ⟨23, d, s, t, b, x, sc, di, im⟩ (formOf 23)) (hT : TabE w) (hG : G3 B) (ho : Rw B v xs w) (hl : xs.length ≤ 800000) (hB : B ≤ w.heap.size) :
    Calls Tryz.prog (opF 23) #[v, .agg (Ins.vs ⟨23, d, s, t, b, x, sc, di, im⟩)] w (OutF B v (xs ++ encL ⟨23, d, s, t, b, x, sc, di, im⟩) w) := by
  obtain ⟨hd, _, _, _, _⟩ : OkP ⟨23, d, s, t, b, x, sc, di, im⟩ .d := hk
  have he : encL ⟨23, d, s, t, b, x, sc, di, im⟩ = [rexI 0 0 d, 247, rmI 2 d] := rfl
  have h := one_l (w := w) (B := B) (v := v) (xs := xs) 23 (by decide) d s t b x sc di im hd (by unfold R16; decide) hT hG ho hl hB
  rw [rex_m1] at h
  rw [he]
  exact h
theorem op_l24 {w : World} {B : Nat} {v : Value} {xs : List Int} (d s t b x sc di im : Int) (hk : OkP ⟨24, d, s, t, b, x, sc, di, im⟩ (formOf 24)) (hT : TabE w) (hG : G3 B) (ho : Rw B v xs w) (hl : xs.length ≤ 800000) (hB : B ≤ w.heap.size) :
    Calls Tryz.prog (opF 24) #[v, .agg (Ins.vs ⟨24, d, s, t, b, x, sc, di, im⟩)] w (OutF B v (xs ++ encL ⟨24, d, s, t, b, x, sc, di, im⟩) w) := by
  obtain ⟨hd, _, _, _, him⟩ : OkP ⟨24, d, s, t, b, x, sc, di, im⟩ .db := hk
  have he : encL ⟨24, d, s, t, b, x, sc, di, im⟩ = [rexI 0 0 d, 193, rmI 4 d, im] := rfl
  have h := shift_l (w := w) (B := B) (v := v) (xs := xs) 24 (by decide) d s t b x sc di im hd (by unfold R16; decide) hT hG ho hl hB
  rw [rex_m1] at h
  have him2 : 1 ≤ im ∧ im ≤ 63 := him
  rw [show ltl im 1 = [im] from by unfold ltl ltl; rw [Int.emod_eq_of_lt (by omega) (by omega)]] at h
  rw [he]
  exact h
theorem op_l25 {w : World} {B : Nat} {v : Value} {xs : List Int} (d s t b x sc di im : Int) (hk : OkP ⟨25, d, s, t, b, x, sc, di, im⟩ (formOf 25)) (hT : TabE w) (hG : G3 B) (ho : Rw B v xs w) (hl : xs.length ≤ 800000) (hB : B ≤ w.heap.size) :
    Calls Tryz.prog (opF 25) #[v, .agg (Ins.vs ⟨25, d, s, t, b, x, sc, di, im⟩)] w (OutF B v (xs ++ encL ⟨25, d, s, t, b, x, sc, di, im⟩) w) := by
  obtain ⟨hd, _, _, _, him⟩ : OkP ⟨25, d, s, t, b, x, sc, di, im⟩ .db := hk
  have he : encL ⟨25, d, s, t, b, x, sc, di, im⟩ = [rexI 0 0 d, 193, rmI 5 d, im] := rfl
  have h := shift_l (w := w) (B := B) (v := v) (xs := xs) 25 (by decide) d s t b x sc di im hd (by unfold R16; decide) hT hG ho hl hB
  rw [rex_m1] at h
  have him2 : 1 ≤ im ∧ im ≤ 63 := him
  rw [show ltl im 1 = [im] from by unfold ltl ltl; rw [Int.emod_eq_of_lt (by omega) (by omega)]] at h
  rw [he]
  exact h
theorem op_l26 {w : World} {B : Nat} {v : Value} {xs : List Int} (d s t b x sc di im : Int) (hk : OkP ⟨26, d, s, t, b, x, sc, di, im⟩ (formOf 26)) (hT : TabE w) (hG : G3 B) (ho : Rw B v xs w) (hl : xs.length ≤ 800000) (hB : B ≤ w.heap.size) :
    Calls Tryz.prog (opF 26) #[v, .agg (Ins.vs ⟨26, d, s, t, b, x, sc, di, im⟩)] w (OutF B v (xs ++ encL ⟨26, d, s, t, b, x, sc, di, im⟩) w) := by
  obtain ⟨hd, hs, _, _, _⟩ : OkP ⟨26, d, s, t, b, x, sc, di, im⟩ .ds := hk
  have he : encL ⟨26, d, s, t, b, x, sc, di, im⟩ = [rexI d 0 s, 15, 66, rmI d s] := rfl
  have h := choice_l (w := w) (B := B) (v := v) (xs := xs) 26 (by decide) d s t b x sc di im hd hs hT hG ho hl hB
  rw [rex_m1] at h
  rw [he]
  exact h
theorem op_l27 {w : World} {B : Nat} {v : Value} {xs : List Int} (d s t b x sc di im : Int) (hk : OkP ⟨27, d, s, t, b, x, sc, di, im⟩ (formOf 27)) (hT : TabE w) (hG : G3 B) (ho : Rw B v xs w) (hl : xs.length ≤ 800000) (hB : B ≤ w.heap.size) :
    Calls Tryz.prog (opF 27) #[v, .agg (Ins.vs ⟨27, d, s, t, b, x, sc, di, im⟩)] w (OutF B v (xs ++ encL ⟨27, d, s, t, b, x, sc, di, im⟩) w) := by
  obtain ⟨hd, hs, _, _, _⟩ : OkP ⟨27, d, s, t, b, x, sc, di, im⟩ .ds := hk
  have he : encL ⟨27, d, s, t, b, x, sc, di, im⟩ = [rexI d 0 s, 15, 69, rmI d s] := rfl
  have h := choice_l (w := w) (B := B) (v := v) (xs := xs) 27 (by decide) d s t b x sc di im hd hs hT hG ho hl hB
  rw [rex_m1] at h
  rw [he]
  exact h
theorem op_l28 {w : World} {B : Nat} {v : Value} {xs : List Int} (d s t b x sc di im : Int) (hk : OkP ⟨28, d, s, t, b, x, sc, di, im⟩ (formOf 28)) (hT : TabE w) (hG : G3 B) (ho : Rw B v xs w) (hl : xs.length ≤ 800000) (hB : B ≤ w.heap.size) :
    Calls Tryz.prog (opF 28) #[v, .agg (Ins.vs ⟨28, d, s, t, b, x, sc, di, im⟩)] w (OutF B v (xs ++ encL ⟨28, d, s, t, b, x, sc, di, im⟩) w) := by
  obtain ⟨_, hs, _, _, _⟩ : OkP ⟨28, d, s, t, b, x, sc, di, im⟩ .s := hk
  have he : encL ⟨28, d, s, t, b, x, sc, di, im⟩ = if s > 7 then [65, 80 + s % 8] else [80 + s] := rfl
  have h := push_l (w := w) (B := B) (v := v) (xs := xs) 28 (by decide) d s t b x sc di im hs rfl hT hG ho hl hB
  have h8 : (if s > 7 then [65, 80 + s % 8] else [80 + s % 8]) = (if s > 7 then [65, 80 + s % 8] else [80 + s]) := by
    split
    · rfl
    · have h1 : 0 ≤ s ∧ s ≤ 15 := hs
      rw [Int.emod_eq_of_lt h1.1 (by omega)]
  rw [h8] at h
  rw [he]
  exact h
theorem op_l29 {w : World} {B : Nat} {v : Value} {xs : List Int} (d s t b x sc di im : Int) (hk : OkP ⟨29, d, s, t, b, x, sc, di, im⟩ (formOf 29)) (hT : TabE w) (hG : G3 B) (ho : Rw B v xs w) (hl : xs.length ≤ 800000) (hB : B ≤ w.heap.size) :
    Calls Tryz.prog (opF 29) #[v, .agg (Ins.vs ⟨29, d, s, t, b, x, sc, di, im⟩)] w (OutF B v (xs ++ encL ⟨29, d, s, t, b, x, sc, di, im⟩) w) := by
  obtain ⟨hd, _, _, _, _⟩ : OkP ⟨29, d, s, t, b, x, sc, di, im⟩ .d := hk
  have he : encL ⟨29, d, s, t, b, x, sc, di, im⟩ = if d > 7 then [65, 88 + d % 8] else [88 + d] := rfl
  have h := pop_l (w := w) (B := B) (v := v) (xs := xs) 29 (by decide) d s t b x sc di im hd rfl hT hG ho hl hB
  have h8 : (if d > 7 then [65, 88 + d % 8] else [88 + d % 8]) = (if d > 7 then [65, 88 + d % 8] else [88 + d]) := by
    split
    · rfl
    · have h1 : 0 ≤ d ∧ d ≤ 15 := hd
      rw [Int.emod_eq_of_lt h1.1 (by omega)]
  rw [h8] at h
  rw [he]
  exact h
theorem op_l30 {w : World} {B : Nat} {v : Value} {xs : List Int} (d s t b x sc di im : Int) (hk : OkP ⟨30, d, s, t, b, x, sc, di, im⟩ (formOf 30)) (hT : TabE w) (hG : G3 B) (ho : Rw B v xs w) (hl : xs.length ≤ 800000) (hB : B ≤ w.heap.size) :
    Calls Tryz.prog (opF 30) #[v, .agg (Ins.vs ⟨30, d, s, t, b, x, sc, di, im⟩)] w (OutF B v (xs ++ encL ⟨30, d, s, t, b, x, sc, di, im⟩) w) := by
  obtain ⟨_, _, _, _, _⟩ : OkP ⟨30, d, s, t, b, x, sc, di, im⟩ .j := hk
  have he : encL ⟨30, d, s, t, b, x, sc, di, im⟩ = [233] ++ ltl im 4 := rfl
  have h := jump_l (w := w) (B := B) (v := v) (xs := xs) 30 (by decide) d s t b x sc di im  hT hG ho hl hB
  rw [he]
  exact h
theorem op_l31 {w : World} {B : Nat} {v : Value} {xs : List Int} (d s t b x sc di im : Int) (hk : OkP ⟨31, d, s, t, b, x, sc, di, im⟩ (formOf 31)) (hT : TabE w) (hG : G3 B) (ho : Rw B v xs w) (hl : xs.length ≤ 800000) (hB : B ≤ w.heap.size) :
    Calls Tryz.prog (opF 31) #[v, .agg (Ins.vs ⟨31, d, s, t, b, x, sc, di, im⟩)] w (OutF B v (xs ++ encL ⟨31, d, s, t, b, x, sc, di, im⟩) w) := by
  obtain ⟨_, _, _, _, _⟩ : OkP ⟨31, d, s, t, b, x, sc, di, im⟩ .j := hk
  have he : encL ⟨31, d, s, t, b, x, sc, di, im⟩ = [15, 133] ++ ltl im 4 := rfl
  have h := jumpIf_l (w := w) (B := B) (v := v) (xs := xs) 31 (by decide) d s t b x sc di im  hT hG ho hl hB
  rw [he]
  exact h
theorem op_l32 {w : World} {B : Nat} {v : Value} {xs : List Int} (d s t b x sc di im : Int) (hk : OkP ⟨32, d, s, t, b, x, sc, di, im⟩ (formOf 32)) (hT : TabE w) (hG : G3 B) (ho : Rw B v xs w) (hl : xs.length ≤ 800000) (hB : B ≤ w.heap.size) :
    Calls Tryz.prog (opF 32) #[v, .agg (Ins.vs ⟨32, d, s, t, b, x, sc, di, im⟩)] w (OutF B v (xs ++ encL ⟨32, d, s, t, b, x, sc, di, im⟩) w) := by
  obtain ⟨_, _, _, _, _⟩ : OkP ⟨32, d, s, t, b, x, sc, di, im⟩ .j := hk
  have he : encL ⟨32, d, s, t, b, x, sc, di, im⟩ = [15, 130] ++ ltl im 4 := rfl
  have h := jumpIf_l (w := w) (B := B) (v := v) (xs := xs) 32 (by decide) d s t b x sc di im  hT hG ho hl hB
  rw [he]
  exact h
theorem op_l33 {w : World} {B : Nat} {v : Value} {xs : List Int} (d s t b x sc di im : Int) (hk : OkP ⟨33, d, s, t, b, x, sc, di, im⟩ (formOf 33)) (hT : TabE w) (hG : G3 B) (ho : Rw B v xs w) (hl : xs.length ≤ 800000) (hB : B ≤ w.heap.size) :
    Calls Tryz.prog (opF 33) #[v, .agg (Ins.vs ⟨33, d, s, t, b, x, sc, di, im⟩)] w (OutF B v (xs ++ encL ⟨33, d, s, t, b, x, sc, di, im⟩) w) := by
  obtain ⟨_, _, _, _, _⟩ : OkP ⟨33, d, s, t, b, x, sc, di, im⟩ .r := hk
  have he : encL ⟨33, d, s, t, b, x, sc, di, im⟩ = [195] := rfl
  have h := back_l (w := w) (B := B) (v := v) (xs := xs) 33 (by decide) d s t b x sc di im  hT hG ho hl hB
  rw [he]
  exact h
theorem op_l {w : World} {B : Nat} {v : Value} {xs : List Int} (i : Ins) (k : Nat) (hik : i.op = (k : Int)) (hok : okI i = true) (hT : TabE w) (hG : G3 B) (ho : Rw B v xs w) (hl : xs.length ≤ 800000) (hB : B ≤ w.heap.size) :
    1 ≤ k ∧ k ≤ 33 ∧ Calls Tryz.prog (opF k) #[v, .agg i.vs] w (OutF B v (xs ++ encL i) w) := by
  have hk := okI_iff hok
  obtain ⟨op, d, s, t, b, x, sc, di, im⟩ := i
  dsimp only at hik hk
  by_cases hr : 1 ≤ k ∧ k ≤ 33
  · refine ⟨hr.1, hr.2, ?_⟩
    rcases (show k = 1 ∨ k = 2 ∨ k = 3 ∨ k = 4 ∨ k = 5 ∨ k = 6 ∨ k = 7 ∨ k = 8 ∨ k = 9 ∨ k = 10 ∨ k = 11 ∨ k = 12 ∨ k = 13 ∨ k = 14 ∨ k = 15 ∨ k = 16 ∨ k = 17 ∨ k = 18 ∨ k = 19 ∨ k = 20 ∨ k = 21 ∨ k = 22 ∨ k = 23 ∨ k = 24 ∨ k = 25 ∨ k = 26 ∨ k = 27 ∨ k = 28 ∨ k = 29 ∨ k = 30 ∨ k = 31 ∨ k = 32 ∨ k = 33 by omega) with rfl | rfl | rfl | rfl | rfl | rfl | rfl | rfl | rfl | rfl | rfl | rfl | rfl | rfl | rfl | rfl | rfl | rfl | rfl | rfl | rfl | rfl | rfl | rfl | rfl | rfl | rfl | rfl | rfl | rfl | rfl | rfl | rfl <;> subst hik
    · exact op_l1 d s t b x sc di im hk hT hG ho hl hB
    · exact op_l2 d s t b x sc di im hk hT hG ho hl hB
    · exact op_l3 d s t b x sc di im hk hT hG ho hl hB
    · exact op_l4 d s t b x sc di im hk hT hG ho hl hB
    · exact op_l5 d s t b x sc di im hk hT hG ho hl hB
    · exact op_l6 d s t b x sc di im hk hT hG ho hl hB
    · exact op_l7 d s t b x sc di im hk hT hG ho hl hB
    · exact op_l8 d s t b x sc di im hk hT hG ho hl hB
    · exact op_l9 d s t b x sc di im hk hT hG ho hl hB
    · exact op_l10 d s t b x sc di im hk hT hG ho hl hB
    · exact op_l11 d s t b x sc di im hk hT hG ho hl hB
    · exact op_l12 d s t b x sc di im hk hT hG ho hl hB
    · exact op_l13 d s t b x sc di im hk hT hG ho hl hB
    · exact op_l14 d s t b x sc di im hk hT hG ho hl hB
    · exact op_l15 d s t b x sc di im hk hT hG ho hl hB
    · exact op_l16 d s t b x sc di im hk hT hG ho hl hB
    · exact op_l17 d s t b x sc di im hk hT hG ho hl hB
    · exact op_l18 d s t b x sc di im hk hT hG ho hl hB
    · exact op_l19 d s t b x sc di im hk hT hG ho hl hB
    · exact op_l20 d s t b x sc di im hk hT hG ho hl hB
    · exact op_l21 d s t b x sc di im hk hT hG ho hl hB
    · exact op_l22 d s t b x sc di im hk hT hG ho hl hB
    · exact op_l23 d s t b x sc di im hk hT hG ho hl hB
    · exact op_l24 d s t b x sc di im hk hT hG ho hl hB
    · exact op_l25 d s t b x sc di im hk hT hG ho hl hB
    · exact op_l26 d s t b x sc di im hk hT hG ho hl hB
    · exact op_l27 d s t b x sc di im hk hT hG ho hl hB
    · exact op_l28 d s t b x sc di im hk hT hG ho hl hB
    · exact op_l29 d s t b x sc di im hk hT hG ho hl hB
    · exact op_l30 d s t b x sc di im hk hT hG ho hl hB
    · exact op_l31 d s t b x sc di im hk hT hG ho hl hB
    · exact op_l32 d s t b x sc di im hk hT hG ho hl hB
    · exact op_l33 d s t b x sc di im hk hT hG ho hl hB
  · exfalso
    have e2 : formOf op = .no := by
      unfold formOf
      rw [if_neg (by omega), if_neg (by omega), if_neg (by omega), if_neg (by omega), if_neg (by omega), if_neg (by omega), if_neg (by omega), if_neg (by omega), if_neg (by omega), if_neg (by omega), if_neg (by omega)]
    rw [e2] at hk
    exact hk
end Is
end Go.Proofs.YtblmagcekfbgdaaGreatDoor
namespace Go.Proofs.YtblmagcekfbgdaaGreatDoor
open Go Go.RowKit Go.Sort Go.Maps
namespace Is
open Nt
set_option linter.unusedVariables false
set_option linter.unusedSimpArgs false
/-- a function, as a datum -/
def fnElem : Value → Option (DataW Unit × List MemPlace)
  | .func (.func k) ⟨[]⟩ ⟨[]⟩ => some (.lit (.int .i64 (k : Int)), [])
  | .nilFunc => some (.lit (.int .i64 (-1)), [])
  | _ => none
theorem fnElem_inv {v : Value} {k : Nat} {ps : List MemPlace} (h : fnElem v = some (.lit (.int .i64 (k : Int)), ps)) : v = .func (.func k) #[] #[] := by
  unfold fnElem at h
  split at h
  · simp only [Option.some.injEq, Prod.mk.injEq, DataW.lit.injEq, Lit.int.injEq, true_and] at h
    obtain ⟨h1, _⟩ := h
    have h2 : _ = k := Int.ofNat.inj h1
    rw [h2]
  · simp only [Option.some.injEq, Prod.mk.injEq, DataW.lit.injEq, Lit.int.injEq, true_and] at h
    omega
  · cases h
theorem keyed_int : Keyed Tryz.prog 3 := int_keyed Tryz.underlying3
/-- the map of the operations' functions, as a datum -/
def formsD : DataW Unit := (((((((((((((((((((((((((((((((((DataW.map []).put (.int .i64 1) (.lit (.int .i64 (60 : Int)))).put (.int .i64 2) (.lit (.int .i64 (61 : Int)))).put (.int .i64 3) (.lit (.int .i64 (62 : Int)))).put (.int .i64 4) (.lit (.int .i64 (63 : Int)))).put (.int .i64 5) (.lit (.int .i64 (62 : Int)))).put (.int .i64 6) (.lit (.int .i64 (60 : Int)))).put (.int .i64 7) (.lit (.int .i64 (60 : Int)))).put (.int .i64 8) (.lit (.int .i64 (60 : Int)))).put (.int .i64 9) (.lit (.int .i64 (60 : Int)))).put (.int .i64 10) (.lit (.int .i64 (60 : Int)))).put (.int .i64 11) (.lit (.int .i64 (60 : Int)))).put (.int .i64 12) (.lit (.int .i64 (60 : Int)))).put (.int .i64 13) (.lit (.int .i64 (60 : Int)))).put (.int .i64 14) (.lit (.int .i64 (60 : Int)))).put (.int .i64 15) (.lit (.int .i64 (64 : Int)))).put (.int .i64 16) (.lit (.int .i64 (64 : Int)))).put (.int .i64 17) (.lit (.int .i64 (64 : Int)))).put (.int .i64 18) (.lit (.int .i64 (64 : Int)))).put (.int .i64 19) (.lit (.int .i64 (65 : Int)))).put (.int .i64 20) (.lit (.int .i64 (66 : Int)))).put (.int .i64 21) (.lit (.int .i64 (66 : Int)))).put (.int .i64 22) (.lit (.int .i64 (67 : Int)))).put (.int .i64 23) (.lit (.int .i64 (67 : Int)))).put (.int .i64 24) (.lit (.int .i64 (68 : Int)))).put (.int .i64 25) (.lit (.int .i64 (68 : Int)))).put (.int .i64 26) (.lit (.int .i64 (69 : Int)))).put (.int .i64 27) (.lit (.int .i64 (69 : Int)))).put (.int .i64 28) (.lit (.int .i64 (70 : Int)))).put (.int .i64 29) (.lit (.int .i64 (71 : Int)))).put (.int .i64 30) (.lit (.int .i64 (72 : Int)))).put (.int .i64 31) (.lit (.int .i64 (73 : Int)))).put (.int .i64 32) (.lit (.int .i64 (73 : Int)))).put (.int .i64 33) (.lit (.int .i64 (74 : Int)))
theorem forms_at (k : Nat) (h1 : 1 ≤ k) (h2 : k ≤ 33) (z : DataW Unit) : formsD.atKey (.int .i64 (k : Int)) z = .lit (.int .i64 (opF k : Int)) := by
  rcases (show k = 1 ∨ k = 2 ∨ k = 3 ∨ k = 4 ∨ k = 5 ∨ k = 6 ∨ k = 7 ∨ k = 8 ∨ k = 9 ∨ k = 10 ∨ k = 11 ∨ k = 12 ∨ k = 13 ∨ k = 14 ∨ k = 15 ∨ k = 16 ∨ k = 17 ∨ k = 18 ∨ k = 19 ∨ k = 20 ∨ k = 21 ∨ k = 22 ∨ k = 23 ∨ k = 24 ∨ k = 25 ∨ k = 26 ∨ k = 27 ∨ k = 28 ∨ k = 29 ∨ k = 30 ∨ k = 31 ∨ k = 32 ∨ k = 33 by omega) with rfl | rfl | rfl | rfl | rfl | rfl | rfl | rfl | rfl | rfl | rfl | rfl | rfl | rfl | rfl | rfl | rfl | rfl | rfl | rfl | rfl | rfl | rfl | rfl | rfl | rfl | rfl | rfl | rfl | rfl | rfl | rfl | rfl <;> rfl
theorem enters_op (k : Nat) (h1 : 1 ≤ k) (h2 : k ≤ 33) : ∀ args w, (callFunc (opF k) args).run Tryz.prog w = .ok (.enter (opF k) args) w := by
  rcases (show k = 1 ∨ k = 2 ∨ k = 3 ∨ k = 4 ∨ k = 5 ∨ k = 6 ∨ k = 7 ∨ k = 8 ∨ k = 9 ∨ k = 10 ∨ k = 11 ∨ k = 12 ∨ k = 13 ∨ k = 14 ∨ k = 15 ∨ k = 16 ∨ k = 17 ∨ k = 18 ∨ k = 19 ∨ k = 20 ∨ k = 21 ∨ k = 22 ∨ k = 23 ∨ k = 24 ∨ k = 25 ∨ k = 26 ∨ k = 27 ∨ k = 28 ∨ k = 29 ∨ k = 30 ∨ k = 31 ∨ k = 32 ∨ k = 33 by omega) with rfl | rfl | rfl | rfl | rfl | rfl | rfl | rfl | rfl | rfl | rfl | rfl | rfl | rfl | rfl | rfl | rfl | rfl | rfl | rfl | rfl | rfl | rfl | rfl | rfl | rfl | rfl | rfl | rfl | rfl | rfl | rfl | rfl
  · exact enters_of Tryz.func60 (by kernel_rfl) rfl
  · exact enters_of Tryz.func61 (by kernel_rfl) rfl
  · exact enters_of Tryz.func62 (by kernel_rfl) rfl
  · exact enters_of Tryz.func63 (by kernel_rfl) rfl
  · exact enters_of Tryz.func62 (by kernel_rfl) rfl
  · exact enters_of Tryz.func60 (by kernel_rfl) rfl
  · exact enters_of Tryz.func60 (by kernel_rfl) rfl
  · exact enters_of Tryz.func60 (by kernel_rfl) rfl
  · exact enters_of Tryz.func60 (by kernel_rfl) rfl
  · exact enters_of Tryz.func60 (by kernel_rfl) rfl
  · exact enters_of Tryz.func60 (by kernel_rfl) rfl
  · exact enters_of Tryz.func60 (by kernel_rfl) rfl
  · exact enters_of Tryz.func60 (by kernel_rfl) rfl
  · exact enters_of Tryz.func60 (by kernel_rfl) rfl
  · exact enters_of Tryz.func64 (by kernel_rfl) rfl
  · exact enters_of Tryz.func64 (by kernel_rfl) rfl
  · exact enters_of Tryz.func64 (by kernel_rfl) rfl
  · exact enters_of Tryz.func64 (by kernel_rfl) rfl
  · exact enters_of Tryz.func65 (by kernel_rfl) rfl
  · exact enters_of Tryz.func66 (by kernel_rfl) rfl
  · exact enters_of Tryz.func66 (by kernel_rfl) rfl
  · exact enters_of Tryz.func67 (by kernel_rfl) rfl
  · exact enters_of Tryz.func67 (by kernel_rfl) rfl
  · exact enters_of Tryz.func68 (by kernel_rfl) rfl
  · exact enters_of Tryz.func68 (by kernel_rfl) rfl
  · exact enters_of Tryz.func69 (by kernel_rfl) rfl
  · exact enters_of Tryz.func69 (by kernel_rfl) rfl
  · exact enters_of Tryz.func70 (by kernel_rfl) rfl
  · exact enters_of Tryz.func71 (by kernel_rfl) rfl
  · exact enters_of Tryz.func72 (by kernel_rfl) rfl
  · exact enters_of Tryz.func73 (by kernel_rfl) rfl
  · exact enters_of Tryz.func73 (by kernel_rfl) rfl
  · exact enters_of Tryz.func74 (by kernel_rfl) rfl
theorem wpList_insert_own {H : Type} {P : Program} (w : World) {ops : Array Oper} {rest : List Oper} {o : Oper} {a : Act} {Q : Exit → Act → World → Prop}
    (hg : o.guard = none) (m x v : Operand) (t : TypeId) (hop : o.op = Op.insert t m x v)
    (k e : TypeId) (K : Keyed P k) (ht : P.underlying t = some (.map k e)) (R : Value → Option (DataW H × List MemPlace)) (b n : Nat) (D : DataW H)
    (hm : a.eval m = .map (some b)) (hown : w.ownsMap P k R b n D) (hn : n < maxLen) (key val : Value) (kl : Lit) (hx : a.eval x = key) (hv : a.eval v = val) (hkey : keyOf P k key = some kl)
    (d : DataW H) (ps : List MemPlace) (hval : R val = some (d, ps))
    (hK : ∀ w', w'.ownsMap P k R b (n + 1) (D.put kl d) → w.grownBy w' (some b) → wpList P ops Q rest (a.put o.dst undef) w') :
    wpList P ops Q (o :: rest) a w := by
  refine wpList_plain hg fun K' hK' => ?_
  obtain ⟨w', hrun, r1, r2⟩ := hown.update K ht hn hkey hval
  unfold Oper.wp
  simp [execOp, hop, hm, hx, hv, hrun, Result.andThen]
  exact hK' _ _ (hK w' r1 r2)
set_option maxRecDepth 100000 in
set_option maxHeartbeats 8000000 in
theorem forms_l (w : World) : Calls Tryz.prog 34 #[] w fun e w' => e = .returned (.map (some w.heap.size)) ∧ w'.ownsMap Tryz.prog 3 fnElem w.heap.size 33 formsD ∧ w.heap.size < w'.heap.size ∧ Below w.heap.size w w' := by
  have hmm := @run_makeMap Tryz.prog
  have hown := World.ownsMap_made w Tryz.prog 3 fnElem
  have HB := Lib.hid ((Below.refl w.heap.size w).alloc (Nat.le_refl _) (.map #[] 0))
  go_enter Tryz.func34, Tryz.ntmps34
  go_wp2_with (refine wpList_insert_own _ rfl _ _ _ 66 rfl 3 69 keyed_int Tryz.underlying66 fnElem w.heap.size _ _ rfl hown (by decide) _ _ _ rfl rfl (keyOf_int_mk Tryz.underlying3 (by decide)) _ [] rfl ?_; clear hown; intro w1 hown hgrow; replace HB := Lib.hid (HB.out.grown hgrow HB.out.size (fun k hk => by cases hk; exact Nat.le_refl _)); clear hgrow)
  go_ret
  exact ⟨rfl, hown, hown.lt, HB.out⟩
end Is
end Go.Proofs.YtblmagcekfbgdaaGreatDoor
