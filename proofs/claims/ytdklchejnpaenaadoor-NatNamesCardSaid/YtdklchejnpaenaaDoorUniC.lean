/- Answers of naturals and of the document, told alike: one shape for whatever they answer. -/
import Derived.Test.YtdklchejnpaenaaDoorRfG
import Derived.Test.YtdklchejnpaenaaDoorRfH
import Derived.Test.YtdklchejnpaenaaDoorUni3
import Derived.Test.YtdklchejnpaenaaDoorNatR3
namespace Go.Proofs.YtdklchejnpaenaaDoor
open Go Go.RowKit
namespace Nt
open Wd Sti
set_option linter.unusedVariables false

/-- a natural and an error -/
def Out2 (w : World) (e : Ending) (w' : World) (Φ : List Int → Int → Prop) : Prop := ∃ A n c zs ev, e = .returned (.tuple #[.slice A n c, .int .i64 ev]) ∧ Hid (Φ zs ev) ∧ Hid (At w' A n zs) ∧ n ≤ 1048576 ∧ Below w.heap.size w w'
/-- two naturals and an error -/
def Out3 (w : World) (e : Ending) (w' : World) (Φ : List Int → List Int → Int → Prop) : Prop := ∃ A n c zs B m d ys ev, e = .returned (.tuple #[.slice A n c, .slice B m d, .int .i64 ev]) ∧ Hid (Φ zs ys ev) ∧ Hid (At w' A n zs) ∧ Hid (At w' B m ys) ∧ n ≤ 1048576 ∧ m ≤ 1048576 ∧ Below w.heap.size w w'
/-- a natural -/
def Out1 (w : World) (e : Ending) (w' : World) (N : Int) : Prop := ∃ A n c zs, e = .returned (.slice A n c) ∧ Hid (Is zs N) ∧ Hid (At w' A n zs) ∧ n ≤ 1048576 ∧ Below w.heap.size w w'
theorem out1_new {w w' : World} {e : Ending} {N : Int} {K : Nat} (hK : K ≤ 1048576) (h : ∃ v, e = .returned v ∧ New w w' v N K) : Out1 w e w' N := by
  obtain ⟨v, rfl, A, n, c, zs, rfl, h1, h2, h3, h4, h5⟩ := h
  exact ⟨A, n, c, zs, rfl, h1, h2, by omega, h5⟩
theorem out1_newR {w w' : World} {e : Ending} {N : Int} {K : Nat} (hK : K ≤ 1048576) (h : ∃ v, e = .returned v ∧ NewR w w' v N K) : Out1 w e w' N := by
  obtain ⟨v, rfl, A, n, c, zs, rfl, h1, h2, h3, h4, h5, h6, _⟩ := h
  exact ⟨A, n, c, zs, rfl, h1, h2, by omega, h6⟩

def SubO (x y : Int) (zs : List Int) (ev : Int) : Prop := (y ≤ x ∧ Is zs (x - y) ∧ ev = 0) ∨ (x < y ∧ zs = [] ∧ ev = 2)
theorem SubO.uniq {x y : Int} {zs zs' : List Int} {ev ev' : Int} (h : Hid (SubO x y zs ev)) (g : Hid (SubO x y zs' ev')) : zs' = zs ∧ ev' = ev := by
  rcases h.out with ⟨a, b, c⟩ | ⟨a, b, c⟩ <;> rcases g.out with ⟨a', b', c'⟩ | ⟨a', b', c'⟩
  · exact ⟨b'.uniq b, by omega⟩
  · omega
  · omega
  · exact ⟨by rw [b, b'], by omega⟩
def DivO (x y : Int) (qs rs : List Int) (ev : Int) : Prop := (y ≠ 0 ∧ Is qs (x / y) ∧ Is rs (x % y) ∧ ev = 0) ∨ (y = 0 ∧ qs = [] ∧ rs = [] ∧ ev = 2)
theorem DivO.uniq {x y : Int} {zs zs' ys ys' : List Int} {ev ev' : Int} (h : Hid (DivO x y zs ys ev)) (g : Hid (DivO x y zs' ys' ev')) : zs' = zs ∧ ys' = ys ∧ ev' = ev := by
  rcases h.out with ⟨a, b, c, d⟩ | ⟨a, b, c, d⟩ <;> rcases g.out with ⟨a', b', c', d'⟩ | ⟨a', b', c', d'⟩
  · exact ⟨b'.uniq b, c'.uniq c, by omega⟩
  · exact absurd a' a
  · exact absurd a a'
  · exact ⟨by rw [b, b'], by rw [c, c'], by omega⟩
def FitO (xs : List Int) (k : Int) (zs : List Int) (ev : Int) : Prop :=
  ((k < 0 ∨ 512 < k) ∧ zs = [] ∧ ev = 2) ∨ (0 ≤ k ∧ k ≤ 512 ∧ k.toNat < (trim xs).length ∧ zs = [] ∧ ev = 3) ∨ (0 ≤ k ∧ k ≤ 512 ∧ (trim xs).length ≤ k.toNat ∧ zs = trim xs ++ List.replicate (k.toNat - (trim xs).length) 0 ∧ ev = 0)
theorem FitO.uniq {xs : List Int} {k : Int} {zs zs' : List Int} {ev ev' : Int} (h : Hid (FitO xs k zs ev)) (g : Hid (FitO xs k zs' ev')) : zs' = zs ∧ ev' = ev := by
  rcases h.out with ⟨a, b, c⟩ | ⟨a, b, c, d, e⟩ | ⟨a, b, c, d, e⟩ <;> rcases g.out with ⟨a', b', c'⟩ | ⟨a', b', c', d', e'⟩ | ⟨a', b', c', d', e'⟩ <;> first | omega | (constructor <;> simp_all)
def ReadO (l : List UInt8) (zs : List Int) (ev : Int) : Prop :=
  (l = [] ∧ zs = [] ∧ ev = 2) ∨ (l ≠ [] ∧ ¬ isHex l ∧ zs = [] ∧ ev = 7) ∨ (l ≠ [] ∧ isHex l ∧ 8192 < (Lib.trimLeftB l 48).length ∧ zs = [] ∧ ev = 3) ∨ (l ≠ [] ∧ isHex l ∧ (Lib.trimLeftB l 48).length ≤ 8192 ∧ Is zs (hexV (Lib.trimLeftB l 48)) ∧ ev = 0)
theorem ReadO.uniq {l : List UInt8} {zs zs' : List Int} {ev ev' : Int} (h : Hid (ReadO l zs ev)) (g : Hid (ReadO l zs' ev')) : zs' = zs ∧ ev' = ev := by
  rcases h.out with ⟨a, b, c⟩ | ⟨a, b, c, d⟩ | ⟨a, b, c, d, e⟩ | ⟨a, b, c, d, e⟩ <;> rcases g.out with ⟨a', b', c'⟩ | ⟨a', b', c', d'⟩ | ⟨a', b', c', d', e'⟩ | ⟨a', b', c', d', e'⟩
  all_goals first
    | exact absurd a a' | exact absurd a' a | exact absurd b b' | exact absurd b' b | (exfalso; omega)
    | exact ⟨by rw [b, b'], by omega⟩ | exact ⟨by rw [c, c'], by omega⟩ | exact ⟨by rw [d, d'], by omega⟩ | exact ⟨d'.uniq d, by omega⟩

section
variable {w : World} {A B : Option Addr} {na ca nb cb : Nat} {xs ys : List Int}
theorem nilAt (w : World) : Hid (At w none 0 []) := Lib.hid Rd.nil
theorem sub_any (ha : Hid (At w A na xs)) (hb : Hid (At w B nb ys)) (la : na ≤ 12) (lb : nb ≤ 12) :
    Calls Tryd.prog 11 #[.slice A na ca, .slice B nb cb] w fun e w' => Out2 w e w' (SubO (V xs) (V ys)) := by
  by_cases h : V ys ≤ V xs
  · refine (sub_u 12 ha hb (by omega) (by omega) (by omega) h).mono ?_
    rintro e w' ⟨v, rfl, A1, n1, c1, zs, rfl, h1, h2, h3, h4, h5⟩
    exact ⟨A1, n1, c1, zs, 0, rfl, Lib.hid (.inl ⟨h, h1.out, rfl⟩), h2, by omega, h5⟩
  · refine (subE_u ha hb (by omega) (by omega) (by omega)).mono ?_
    rintro e w' ⟨rfl, hb⟩
    exact ⟨none, 0, 0, [], 2, rfl, Lib.hid (.inr ⟨by omega, rfl, rfl⟩), nilAt _, by omega, hb⟩
theorem rsub_any (ha : Hid (At w A na xs)) (hb : Hid (At w B nb ys)) (la : na ≤ 12) (lb : nb ≤ 12) :
    Calls Tryd.prog 27 #[.slice A na ca, .slice B nb cb] w fun e w' => Out2 w e w' (SubO (V xs) (V ys)) := by
  by_cases h : V ys ≤ V xs
  · refine (sub_r A B na ca nb cb xs ys w ha.out hb.out (by omega) (by omega) h).mono ?_
    rintro e w' ⟨v, rfl, A1, n1, c1, zs, rfl, h1, h2, h3, h4, h5, h6, _⟩
    exact ⟨A1, n1, c1, zs, 0, rfl, Lib.hid (.inl ⟨h, h1.out, rfl⟩), h2, by omega, h6⟩
  · refine (subE_r A B na ca nb cb xs ys w ha.out hb.out (by omega) (by omega) (by omega)).mono ?_
    rintro e w' ⟨rfl, rfl⟩
    exact ⟨none, 0, 0, [], 2, rfl, Lib.hid (.inr ⟨by omega, rfl, rfl⟩), nilAt _, by omega, Below.refl _ _⟩
theorem div_any (ha : Hid (At w A na xs)) (hb : Hid (At w B nb ys)) (la : na ≤ 12) (lb : nb ≤ 12) (hA : na ≤ ca) (hB : nb ≤ cb) (hA' : ca ≤ 9223372036854775807) (hB' : cb ≤ 9223372036854775807) :
    Calls Tryd.prog 12 #[.slice A na ca, .slice B nb cb] w fun e w' => Out3 w e w' (DivO (V xs) (V ys)) := by
  by_cases h : V ys = 0
  · refine (div0_u hb (by omega) hB hB' h).mono ?_
    rintro e w' ⟨rfl, hb⟩
    exact ⟨none, 0, 0, [], none, 0, 0, [], 2, rfl, Lib.hid (.inr ⟨h, rfl, rfl, rfl⟩), nilAt _, nilAt _, by omega, by omega, hb⟩
  · refine (div_u 14 14 ha hb (by omega) (by omega) hA hB hA' hB' (by omega) (by omega) h).mono ?_
    rintro e w' ⟨v1, v2, rfl, ⟨A1, n1, c1, q, rfl, h1, h2, h3, h4, h5⟩, ⟨A2, n2, c2, r, rfl, g1, g2, g3, g4, g5⟩⟩
    exact ⟨A1, n1, c1, q, A2, n2, c2, r, 0, rfl, Lib.hid (.inl ⟨h, h1.out, g1.out, rfl⟩), h2, g2, by omega, by omega, h5⟩
theorem rdiv_any (ha : Hid (At w A na xs)) (hb : Hid (At w B nb ys)) (la : na ≤ 12) (lb : nb ≤ 12) (hA : na ≤ ca) (hB : nb ≤ cb) (hA' : ca ≤ 9223372036854775807) (hB' : cb ≤ 9223372036854775807) :
    Calls Tryd.prog 28 #[.slice A na ca, .slice B nb cb] w fun e w' => Out3 w e w' (DivO (V xs) (V ys)) := by
  by_cases h : V ys = 0
  · refine (divE_r A B na ca nb cb xs ys w hb.out (by omega) h).mono ?_
    rintro e w' ⟨rfl, rfl⟩
    exact ⟨none, 0, 0, [], none, 0, 0, [], 2, rfl, Lib.hid (.inr ⟨h, rfl, rfl, rfl⟩), nilAt _, nilAt _, by omega, by omega, Below.refl _ _⟩
  · refine (div_r A B na ca nb cb xs ys w ha.out hb.out ⟨hA, by omega⟩ hA' ⟨hB, by omega⟩ hB' h).mono ?_
    rintro e w' ⟨v1, v2, rfl, ⟨A1, n1, c1, q, rfl, h1, h2, h3, h4, h5, h6, _⟩, ⟨A2, n2, c2, r, rfl, g1, g2, g3, g4, g5, g6, _⟩⟩
    exact ⟨A1, n1, c1, q, A2, n2, c2, r, 0, rfl, Lib.hid (.inl ⟨h, h1.out, g1.out, rfl⟩), h2, g2, by omega, by omega, h6⟩
theorem fit_any (k : Int) (ha : Hid (At w A na xs)) (la : na ≤ 12) (hA : na ≤ ca) (hA' : ca ≤ 9223372036854775807) :
    Calls Tryd.prog 14 #[.slice A na ca, .int .i64 k] w fun e w' => Out2 w e w' (FitO xs k) := by
  by_cases h : k < 0 ∨ 512 < k
  · refine (fit_bad A na ca k w h).mono ?_
    rintro e w' ⟨rfl, rfl⟩
    exact ⟨none, 0, 0, [], 2, rfl, Lib.hid (.inl ⟨h, rfl, rfl⟩), nilAt _, by omega, Below.refl _ _⟩
  · obtain ⟨m, rfl⟩ : ∃ m : Nat, k = m := ⟨k.toNat, by omega⟩
    by_cases h2 : m < (trim xs).length
    · refine (fit_long A na ca m w.heap.size xs w ha.out ⟨hA, by omega⟩ hA' (by omega) h2).mono ?_
      rintro e w' ⟨rfl, rfl⟩
      exact ⟨none, 0, 0, [], 3, rfl, Lib.hid (.inr (.inl ⟨by omega, by omega, by simpa using h2, rfl, rfl⟩)), nilAt _, by omega, Below.refl _ _⟩
    · refine (fit_ok A na ca m w.heap.size xs w ha.out (Nat.le_refl _) ⟨hA, by omega⟩ hA' (by omega) (by omega)).mono ?_
      rintro e w' ⟨rfl, h3, h4⟩
      exact ⟨_, _, _, trim xs ++ List.replicate (m - (trim xs).length) 0, 0, rfl, Lib.hid (.inr (.inr ⟨by omega, by omega, by simp; omega, by rw [Int.toNat_natCast], rfl⟩)), Lib.hid (h3.rd0 h3.lt (ha.out.ws.trim.zapp _) (by rw [List.length_append, List.length_replicate]; omega)), by omega, h4⟩
theorem rfit_any (k : Int) (ha : Hid (At w A na xs)) (la : na ≤ 12) (hA : na ≤ ca) (hA' : ca ≤ 9223372036854775807) :
    Calls Tryd.prog 29 #[.slice A na ca, .int .i64 k] w fun e w' => Out2 w e w' (FitO xs k) := by
  by_cases h : k < 0 ∨ 512 < k
  · refine (fitE_r A na ca k w h).mono ?_
    rintro e w' ⟨rfl, rfl⟩
    exact ⟨none, 0, 0, [], 2, rfl, Lib.hid (.inl ⟨h, rfl, rfl⟩), nilAt _, by omega, Below.refl _ _⟩
  · obtain ⟨m, rfl⟩ : ∃ m : Nat, k = m := ⟨k.toNat, by omega⟩
    by_cases h2 : m < (trim xs).length
    · refine (fitL_r A na ca m xs w ha.out ⟨hA, by omega⟩ hA' (by omega) h2).mono ?_
      rintro e w' ⟨rfl, hb⟩
      exact ⟨none, 0, 0, [], 3, rfl, Lib.hid (.inr (.inl ⟨by omega, by omega, by simpa using h2, rfl, rfl⟩)), nilAt _, by omega, hb⟩
    · refine (fit_r A na ca m xs w ha.out ⟨hA, by omega⟩ hA' (by omega) (by omega)).mono ?_
      rintro e w' ⟨A1, c1, rfl, h3, h4, h5, h6⟩
      exact ⟨_, _, _, _, 0, rfl, Lib.hid (.inr (.inr ⟨by omega, by omega, by simp; omega, by rw [Int.toNat_natCast], rfl⟩)), h3, by omega, h6⟩
theorem read_any (s : ByteArray) (hs : s.size ≤ 1073741824) :
    Calls Tryd.prog 15 #[.string s] w fun e w' => Out2 w e w' (ReadO s.data.toList) := by
  by_cases h0 : s.data.toList = []
  · refine (read_empty s w h0).mono ?_
    rintro e w' ⟨rfl, rfl⟩
    exact ⟨none, 0, 0, [], 2, rfl, Lib.hid (.inl ⟨h0, rfl, rfl⟩), nilAt _, by omega, Below.refl _ _⟩
  · refine (read_n s w hs h0).mono ?_
    rintro e w' ⟨h1, h2, h3⟩
    by_cases hx : isHex s.data.toList
    · by_cases hl : 8192 < (Lib.trimLeftB s.data.toList 48).length
      · obtain ⟨rfl, rfl⟩ := h2 hx hl
        exact ⟨none, 0, 0, [], 3, rfl, Lib.hid (.inr (.inr (.inl ⟨h0, hx, hl, rfl, rfl⟩))), nilAt _, by omega, Below.refl _ _⟩
      · obtain ⟨v, rfl, A1, n1, c1, zs, rfl, g1, g2, g3, g4, g5⟩ := h3 hx (by omega)
        exact ⟨A1, n1, c1, zs, 0, rfl, Lib.hid (.inr (.inr (.inr ⟨h0, hx, by omega, g1, rfl⟩))), Lib.hid g2, by omega, g5⟩
    · obtain ⟨rfl, rfl⟩ := h1 hx
      exact ⟨none, 0, 0, [], 7, rfl, Lib.hid (.inr (.inl ⟨h0, hx, rfl, rfl⟩)), nilAt _, by omega, Below.refl _ _⟩
theorem rread_any (s : ByteArray) (hs : s.size ≤ 1073741824) :
    Calls Tryd.prog 30 #[.string s] w fun e w' => Out2 w e w' (ReadO s.data.toList) := by
  by_cases h0 : s.data.toList = []
  · refine (readE_r s w h0).mono ?_
    rintro e w' ⟨rfl, rfl⟩
    exact ⟨none, 0, 0, [], 2, rfl, Lib.hid (.inl ⟨h0, rfl, rfl⟩), nilAt _, by omega, Below.refl _ _⟩
  · refine (read_r s w hs h0).mono ?_
    rintro e w' ⟨h1, h2, h3⟩
    by_cases hx : isHex s.data.toList
    · by_cases hl : 8192 < (Lib.trimLeftB s.data.toList 48).length
      · obtain ⟨rfl, rfl⟩ := h2 hx hl
        exact ⟨none, 0, 0, [], 3, rfl, Lib.hid (.inr (.inr (.inl ⟨h0, hx, hl, rfl, rfl⟩))), nilAt _, by omega, Below.refl _ _⟩
      · obtain ⟨v, rfl, A1, n1, c1, zs, rfl, g1, g2, g3, g4, g5, g6, _⟩ := h3 hx (by omega)
        exact ⟨A1, n1, c1, zs, 0, rfl, Lib.hid (.inr (.inr (.inr ⟨h0, hx, by omega, g1.out, rfl⟩))), g2, by omega, g6⟩
    · obtain ⟨rfl, rfl⟩ := h1 hx
      exact ⟨none, 0, 0, [], 7, rfl, Lib.hid (.inr (.inl ⟨h0, hx, rfl, rfl⟩)), nilAt _, by omega, Below.refl _ _⟩
theorem trim_1 (ha : Hid (At w A na xs)) (la : na ≤ 12) (hA : na ≤ ca) (hA' : ca ≤ 9223372036854775807) :
    Calls Tryd.prog 22 #[.slice A na ca] w fun e w' => Out1 w e w' (V xs) := (trim_u 12 ha (by omega) hA hA' la).mono fun _ _ h => out1_new (by omega) h
theorem rtrim_1 (ha : Hid (At w A na xs)) (la : na ≤ 12) (hA : na ≤ ca) (hA' : ca ≤ 9223372036854775807) :
    Calls Tryd.prog 31 #[.slice A na ca] w fun e w' => Out1 w e w' (V xs) :=
  (trim_r A na ca xs w ha.out hA hA' (by omega)).mono fun _ _ ⟨v, h, g, k⟩ => out1_newR (K := 12) (by omega) ⟨v, h, newR_of g (trim_trim _) (V_trim _) (by have := trim_le xs; have := ha.out.len; omega) k (Nat.le_refl _)⟩
theorem add_1 (ha : Hid (At w A na xs)) (hb : Hid (At w B nb ys)) (la : na ≤ 12) (lb : nb ≤ 12) :
    Calls Tryd.prog 18 #[.slice A na ca, .slice B nb cb] w fun e w' => Out1 w e w' (V xs + V ys) := (add_u 13 ha hb (by omega) (by omega) (by omega)).mono fun _ _ h => out1_new (by omega) h
theorem radd_1 (ha : Hid (At w A na xs)) (hb : Hid (At w B nb ys)) (la : na ≤ 12) (lb : nb ≤ 12) :
    Calls Tryd.prog 33 #[.slice A na ca, .slice B nb cb] w fun e w' => Out1 w e w' (V xs + V ys) := (add_r A B na ca nb cb xs ys w ha.out hb.out (by omega) (by omega)).mono fun _ _ h => out1_newR (by omega) h
theorem mul_1 (ha : Hid (At w A na xs)) (hb : Hid (At w B nb ys)) (la : na ≤ 12) (lb : nb ≤ 12) (hA : na ≤ ca) (hB : nb ≤ cb) (hA' : ca ≤ 9223372036854775807) (hB' : cb ≤ 9223372036854775807) :
    Calls Tryd.prog 19 #[.slice A na ca, .slice B nb cb] w fun e w' => Out1 w e w' (V xs * V ys) := (mul_u 24 ha hb (by omega) (by omega) hA hB hA' hB' (by omega)).mono fun _ _ h => out1_new (by omega) h
theorem rmul_1 (ha : Hid (At w A na xs)) (hb : Hid (At w B nb ys)) (la : na ≤ 12) (lb : nb ≤ 12) (hA : na ≤ ca) (hB : nb ≤ cb) (hA' : ca ≤ 9223372036854775807) (hB' : cb ≤ 9223372036854775807) :
    Calls Tryd.prog 34 #[.slice A na ca, .slice B nb cb] w fun e w' => Out1 w e w' (V xs * V ys) := (mul_r A B na ca nb cb xs ys w ha.out hb.out ⟨hA, by omega⟩ hA' ⟨hB, by omega⟩ hB').mono fun _ _ h => out1_newR (by omega) h
theorem low_1 (k : Int) (hk : (Lit.int .i64 k).wf = true) (ha : Hid (At w A na xs)) (la : na ≤ 12) (hA : na ≤ ca) (hA' : ca ≤ 9223372036854775807) :
    Calls Tryd.prog 25 #[.slice A na ca, .int .i64 k] w fun e w' => Out1 w e w' (lo xs k.toNat) :=
  (low_n A na ca w.heap.size k xs w ha.out (Nat.le_refl _) ⟨hA, by omega⟩ hA' hk).mono fun _ _ ⟨v, h, g⟩ => out1_new (K := 12) (by omega) ⟨v, h, New.of g (by omega)⟩
theorem rlow_1 (k : Int) (hk : (Lit.int .i64 k).wf = true) (ha : Hid (At w A na xs)) (la : na ≤ 12) (hA : na ≤ ca) (hA' : ca ≤ 9223372036854775807) :
    Calls Tryd.prog 37 #[.slice A na ca, .int .i64 k] w fun e w' => Out1 w e w' (lo xs k.toNat) :=
  (low_r A na ca k xs w ha.out hA hA' (by omega) hk).mono fun _ _ h => out1_newR (by omega) h
theorem rcmp_u (ha : Hid (At w A na xs)) (hb : Hid (At w B nb ys)) (la : na ≤ 12) (lb : nb ≤ 12) :
    Calls Tryd.prog 32 #[.slice A na ca, .slice B nb cb] w fun e w' => e = .returned (.int .i64 (cmpN (V xs) (V ys))) ∧ Below w.heap.size w w' :=
  (compare_r A B na ca nb cb _ _ xs ys w ha.out hb.out (by omega) (by omega)).mono fun _ _ h => ⟨h.1, by rw [h.2]; exact Below.refl _ _⟩
theorem rbits_n (ha : Hid (At w A na xs)) (la : na ≤ 12) (hA : na ≤ ca) (hA' : ca ≤ 9223372036854775807) :
    Calls Tryd.prog 35 #[.slice A na ca] w fun e w' => e = .returned (.int .i64 (nbits (trim xs))) ∧ Below w.heap.size w w' := bits_r A na ca xs w ha.out hA hA' (by omega)
theorem bit_u (i : Int) (hi : (Lit.int .i64 i).wf = true) (ha : Hid (At w A na xs)) :
    Calls Tryd.prog 24 #[.slice A na ca, .int .i64 i] w fun e w' => e = .returned (.bool (bitAt (V xs) i)) ∧ Below w.heap.size w w' :=
  (bit_n A na ca _ i xs w ha.out hi).mono fun _ _ h => ⟨h.1, by rw [h.2]; exact Below.refl _ _⟩
theorem rbit_u (i : Int) (hi : (Lit.int .i64 i).wf = true) (ha : Hid (At w A na xs)) :
    Calls Tryd.prog 36 #[.slice A na ca, .int .i64 i] w fun e w' => e = .returned (.bool (bitAt (V xs) i)) ∧ Below w.heap.size w w' :=
  (bit_r A na ca _ i xs w ha.out hi).mono fun _ _ h => ⟨h.1, by rw [h.2]; exact Below.refl _ _⟩
theorem text_s (ha : Hid (At w A na xs)) (la : na ≤ 12) (hA : na ≤ ca) (hA' : ca ≤ 9223372036854775807) (s : ByteArray) (hs : s = ⟨(hexes (V xs) (digs xs)).toArray⟩) :
    Calls Tryd.prog 17 #[.slice A na ca] w fun e w' => e = .returned (.string s) ∧ Below w.heap.size w w' := by
  rw [hs]; exact text_n A na ca xs w ha.out ⟨hA, by omega⟩ hA'
theorem rtext_s (ha : Hid (At w A na xs)) (la : na ≤ 12) (hA : na ≤ ca) (hA' : ca ≤ 9223372036854775807) (s : ByteArray) (hs : s = ⟨(hexes (V xs) (digs xs)).toArray⟩) :
    Calls Tryd.prog 38 #[.slice A na ca] w fun e w' => e = .returned (.string s) ∧ Below w.heap.size w w' := by
  rw [hs]; exact text_r A na ca xs w ha.out ⟨hA, by omega⟩ hA'
end
end Nt
end Go.Proofs.YtdklchejnpaenaaDoor
