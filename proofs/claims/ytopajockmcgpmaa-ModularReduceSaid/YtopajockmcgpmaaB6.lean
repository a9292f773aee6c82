/- The kit's comparisons of naturals. | The examples of chapter 2, as every law asks them first. | The contracts of the naturals in one shape: an answer, and nothing below the heap's end has turned. For walks that are written by program. | append to limbs of one's own; how many bits a number has. | More contracts in one shape. | Digits by sixteen: what is told is read again. -/
import Derived.Test.YtopajockmcgpmaaB1
import Derived.Test.YtopajockmcgpmaaB4
import Derived.Test.YtopajockmcgpmaaB5
import Derived.Test.YtopajockmcgpmaaB3
import Derived.Deep.QuietTactic
import Derived.BigQuiet
import Derived.Maps.AppendAt
import Derived.Laws.AppendOwn
namespace Go.Proofs.Ytopajockmcgpmaa
open Go Go.RowKit
namespace Nt
open Wd Sti
set_option linter.unusedVariables false
theorem eq_of_at {xs ys : List Int} (hl : xs.length = ys.length) (h : ∀ j, j < xs.length → Nt.at_ xs j = Nt.at_ ys j) : xs = ys := by
  apply List.ext_getElem hl
  intro i h1 h2
  have := h i h1
  unfold Nt.at_ at this
  rw [List.getElem?_eq_getElem h1, List.getElem?_eq_getElem h2] at this
  exact this

set_option maxHeartbeats 1000000 in
theorem same_c (A B : Option Addr) (n c m d Ba Bb : Nat) (xs ys : List Int) (w : World) (ha : Rd w Ba A n xs) (hb : Rd w Bb B m ys) (hn : n ≤ 4611686018427387904) (hm : m ≤ 4611686018427387904) :
    Calls Try.prog 19 #[.slice A n c, .slice B m d] w fun e w' => e = .returned (.bool (decide (xs = ys))) ∧ ∃ q, w' = w.drewN q := by
  by_cases hnm : n = m
  · subst hnm
    go_enter Try.func19, Try.ntmps19
    go_wp2_with fail
    go_loopw [5] (fun i wr => ∃ k q : Nat, k ≤ n ∧ i = .int .i64 k ∧ (∀ j, j < k → Nt.at_ xs j = Nt.at_ ys j) ∧ wr = w.drewN q) (fun i _ => n - (intOf i).toNat)
    case atStart => exact ⟨0, 0, Nat.zero_le _, rfl, fun j hj => absurd hj (by omega), rfl⟩
    case round =>
      obtain ⟨k, q, hk, rfl, hz, rfl⟩ := hrel
      by_cases hlt : k < n
      · obtain ⟨ad, rfl, _, hca⟩ := ha.at_ hlt
        obtain ⟨bd, rfl, _, hcb⟩ := hb.at_ hlt
        have hki : (k : Int) < (n : Int) := by omega
        by_cases hx : Nt.at_ xs k = Nt.at_ ys k
        · have HZ : Hid (∀ j, j < k + 1 → Nt.at_ xs j = Nt.at_ ys j) := Lib.hid (fun j hj => by
            rcases Nat.lt_succ_iff_lt_or_eq.1 hj with h | rfl
            · exact hz j h
            · exact hx)
          rw [hx] at hca
          clear hx hz ha hb
          generalize Nt.at_ ys k = z at *
          go_wp2_with fail
          go_quiet (fail)
          go_wp2_with fail
          go_roundw
          case rel => exact ⟨k + 1, _, by omega, by go_num, HZ.out, rfl⟩
          case measure => (simp [intOf] <;> omega)
        · have hne : xs ≠ ys := fun e => hx (by rw [e])
          have HN := Lib.hid hne
          have hxx : (Nt.at_ xs k != Nt.at_ ys k) = true := by simpa using hx
          clear hne hz ha hb hx
          generalize Nt.at_ ys k = z at *
          generalize Nt.at_ xs k = z' at *
          go_wp2_with fail
          go_quiet (fail)
          go_wp2_with fail
          go_ret
          exact ⟨by rw [decide_eq_false HN.out]; rfl, _, World.drewN_drewN _ _ _⟩
      · obtain rfl : k = n := by omega
        have HE := Lib.hid (eq_of_at (by rw [ha.len, hb.len]) (fun j hj => hz j (by rw [ha.len] at hj; exact hj)))
        clear hz ha hb
        go_wp2_with fail
        go_ret
        exact ⟨by rw [decide_eq_true HE.out]; rfl, _, rfl⟩
  · have hne : xs ≠ ys := fun e => hnm (by rw [← ha.len, ← hb.len, e])
    have HN := Lib.hid hne
    clear ha hb hne
    go_enter Try.func19, Try.ntmps19
    go_wp2_with fail
    go_ret
    exact ⟨by rw [decide_eq_false HN.out]; rfl, 0, rfl⟩

theorem V_of_at {xs ys : List Int} (h : ∀ j, Nt.at_ xs j = Nt.at_ ys j) : V xs = V ys := by
  have e : ∀ k, lo xs k = lo ys k := by
    intro k
    induction k with
    | zero => rw [lo_zero, lo_zero]
    | succ k ih => rw [lo_succ, lo_succ, ih, h]
  have := e (max xs.length ys.length)
  rwa [lo_all (by omega), lo_all (by omega)] at this

theorem trim_iff {xs : List Int} (hn : xs ≠ []) : trim xs = xs ↔ Nt.at_ xs (xs.length - 1) ≠ 0 := ⟨fun h => trim_last h hn, fun h => trim_of_last (.inr h)⟩
set_option maxHeartbeats 1000000 in
theorem trimd_c (A : Option Addr) (n c Ba : Nat) (xs : List Int) (w : World) (ha : Rd w Ba A n xs) (hn : n ≤ 4611686018427387904) :
    Calls Try.prog 35 #[.slice A n c] w fun e w' => e = .returned (.bool (decide (trim xs = xs))) ∧ w' = w := by
  rcases Nat.eq_zero_or_pos n with rfl | h0
  · obtain rfl : xs = [] := List.eq_nil_of_length_eq_zero ha.len
    clear ha
    go_enter Try.func35, Try.ntmps35
    go_wp2_with fail
    go_ret
    exact ⟨rfl, rfl⟩
  · obtain ⟨i, rfl⟩ : ∃ i, n = i + 1 := ⟨n - 1, by omega⟩
    obtain ⟨ad, rfl, _, hca⟩ := ha.at_ (k := i) (by omega)
    have ht := trim_iff (xs := xs) (fun e => by have := ha.len; rw [e] at this; simp at this)
    rw [ha.len] at ht
    simp only [Nat.add_sub_cancel] at ht
    have HT := Lib.hid (show decide (trim xs = xs) = (Nt.at_ xs i != 0) by
      by_cases hz : Nt.at_ xs i = 0
      · rw [decide_eq_false (fun e => (ht.1 e) hz)]; simp [hz]
      · rw [decide_eq_true (ht.2 hz)]; simp [hz])
    clear ha ht
    rw [HT.out]
    clear HT
    generalize Nt.at_ xs i = z at *
    have h1 : (((i : Int) + 1) == 0) = false := by simp; omega
    go_enter Try.func35, Try.ntmps35
    go_wp2_with fail
    go_ret
    exact ⟨rfl, rfl⟩
end Nt
end Go.Proofs.Ytopajockmcgpmaa
namespace Go.Proofs.Ytopajockmcgpmaa
open Go Go.RowKit
namespace Nt
open Wd Sti
set_option linter.unusedVariables false
theorem Is.of_list {l : List Int} {n : Int} (h : ∀ x ∈ l, W x) (ht : trim l = l) (hv : V l = n) : Is l n := ⟨h, ht, hv⟩
theorem below_alloc {w : World} (o : Obj) : Below w.heap.size w (w.alloc o) := (Below.refl _ w).alloc (Nat.le_refl _) o
theorem below_trans {a b c : World} (h : Below a.heap.size a b) (k : Below b.heap.size b c) : Below a.heap.size a c := h.trans (k.mono h.size)
theorem isFF : Is [255] 255 := ⟨fun x hx => by simp at hx; subst hx; unfold Wd.W; omega, by decide, by decide⟩
theorem textFF {zs : List Int} (h : Is zs 255) : hexes (V zs) (digs zs) = [102, 102] := by
  rw [h.uniq isFF]; decide +kernel
theorem isSq : Is [1, 18446744073709551614] (18446744073709551615 * 18446744073709551615) := ⟨fun x hx => by simp at hx; rcases hx with rfl | rfl <;> (unfold Wd.W; omega), by decide, by decide⟩
theorem hexV_trimLeft (l : List UInt8) : hexV (Lib.trimLeftB l 48) = hexV l := by
  unfold Lib.trimLeftB
  induction l with
  | nil => rfl
  | cons b l ih =>
    rw [List.dropWhile_cons]
    split
    · rename_i h
      have : b = 48 := by simpa using h
      subst this
      rw [ih]
      have h0 : dv_ (48 : UInt8).toNat = 0 := by decide
      simp only [hexV, h0]
      omega
    · rfl
end Nt
end Go.Proofs.Ytopajockmcgpmaa
namespace Go.Proofs.Ytopajockmcgpmaa
open Go Go.RowKit
namespace Nt
open Wd Sti
set_option linter.unusedVariables false
/-- a natural at hand -/
def At (w : World) (A : Option Addr) (n : Nat) (xs : List Int) : Prop := Rd w w.heap.size A n xs
theorem At.step {w w' : World} {A : Option Addr} {n : Nat} {xs : List Int} (h : Hid (At w A n xs)) (hb : Below w.heap.size w w') : Hid (At w' A n xs) := Lib.hid ((Rd.below h.out hb).more hb.size)
theorem bel_step {w0 w w' : World} (h : Hid (Below w0.heap.size w0 w)) (hb : Below w.heap.size w w') : Hid (Below w0.heap.size w0 w') := Lib.hid (below_trans h.out hb)
theorem Is.uniq' {xs ys : List Int} {n m : Int} (h : Is xs n) (g : Is ys m) (e : n = m) : xs = ys := by subst e; exact h.uniq g
/-- a new natural -/
def New (w w' : World) (v : Value) (N : Int) (K : Nat) : Prop := ∃ A n c zs, v = .slice A n c ∧ Hid (Is zs N) ∧ Hid (At w' A n zs) ∧ n ≤ c ∧ c ≤ K ∧ Below w.heap.size w w'
theorem New.of {w w' : World} {v : Value} {N : Int} {m K : Nat} (h : Ans w w' v N m) (hK : m ≤ K) : New w w' v N K := by
  obtain ⟨A, n, c, zs, h1, h2, h3, h4, h5, h6⟩ := h
  exact ⟨A, n, c, zs, h1, Lib.hid h2, Lib.hid h3, h4, Nat.le_trans h5 hK, h6⟩
section
variable {w : World} {A B : Option Addr} {na ca nb cb : Nat} {xs ys : List Int}
theorem add_u (K : Nat) (ha : Hid (At w A na xs)) (hb : Hid (At w B nb ys)) (la : na ≤ 1048576) (lb : nb ≤ 1048576) (hK : max na nb + 1 ≤ K) :
    Calls Try.prog 39 #[.slice A na ca, .slice B nb cb] w fun e w' => ∃ v, e = .returned v ∧ New w w' v (V xs + V ys) K :=
  (add_n A B na ca nb cb xs ys w ha.out hb.out (by omega) (by omega)).mono fun e w' ⟨v, h, g⟩ => ⟨v, h, New.of g hK⟩
theorem mul_u (K : Nat) (ha : Hid (At w A na xs)) (hb : Hid (At w B nb ys)) (la : na ≤ 1048576) (lb : nb ≤ 1048576) (hA : na ≤ ca) (hB : nb ≤ cb) (hA' : ca ≤ 9223372036854775807) (hB' : cb ≤ 9223372036854775807) (hK : na + nb ≤ K) :
    Calls Try.prog 47 #[.slice A na ca, .slice B nb cb] w fun e w' => ∃ v, e = .returned v ∧ New w w' v (V xs * V ys) K :=
  (mul_n A B na ca nb cb xs ys w ha.out hb.out ⟨hA, by omega⟩ hA' ⟨hB, by omega⟩ hB').mono fun e w' ⟨v, h, g⟩ => ⟨v, h, New.of g hK⟩
theorem sub_u (K : Nat) (ha : Hid (At w A na xs)) (hb : Hid (At w B nb ys)) (la : na ≤ 1048576) (lb : nb ≤ 1048576) (hK : max na nb ≤ K) (h : V ys ≤ V xs) :
    Calls Try.prog 46 #[.slice A na ca, .slice B nb cb] w fun e w' => ∃ v, e = .returned (.tuple #[v, .int .i64 0]) ∧ New w w' v (V xs - V ys) K :=
  (sub_n A B na ca nb cb xs ys w ha.out hb.out (by omega) (by omega)).mono fun e w' hh => by obtain ⟨v, h, g⟩ := hh.1 h; exact ⟨v, h, New.of g hK⟩
theorem subE_u (ha : Hid (At w A na xs)) (hb : Hid (At w B nb ys)) (la : na ≤ 1048576) (lb : nb ≤ 1048576) (h : V xs < V ys) :
    Calls Try.prog 46 #[.slice A na ca, .slice B nb cb] w fun e w' => e = .returned (.tuple #[.slice none 0 0, .int .i64 2]) ∧ Below w.heap.size w w' :=
  (sub_n A B na ca nb cb xs ys w ha.out hb.out (by omega) (by omega)).mono fun e w' hh => hh.2 h
theorem trim_u (K : Nat) (ha : Hid (At w A na xs)) (la : na ≤ 1048576) (hA : na ≤ ca) (hA' : ca ≤ 9223372036854775807) (hK : na ≤ K) :
    Calls Try.prog 50 #[.slice A na ca] w fun e w' => ∃ v, e = .returned v ∧ New w w' v (V xs) K :=
  (trim_n A na ca w.heap.size xs w ha.out (Nat.le_refl _) ⟨hA, by omega⟩ hA').mono fun e w' ⟨v, h, g⟩ => ⟨v, h, New.of g hK⟩
theorem cmp_u (ha : Hid (At w A na xs)) (hb : Hid (At w B nb ys)) (la : na ≤ 1048576) (lb : nb ≤ 1048576) :
    Calls Try.prog 42 #[.slice A na ca, .slice B nb cb] w fun e w' => e = .returned (.int .i64 (cmpN (V xs) (V ys))) ∧ Below w.heap.size w w' :=
  compare_n A B na ca nb cb w.heap.size w.heap.size xs ys w ha.out (Nat.le_refl _) hb.out (Nat.le_refl _) (by omega) (by omega)
theorem same_u (ha : Hid (At w A na xs)) (hb : Hid (At w B nb ys)) (la : na ≤ 1048576) (lb : nb ≤ 1048576) (b : Bool) (h : decide (xs = ys) = b) :
    Calls Try.prog 19 #[.slice A na ca, .slice B nb cb] w fun e w' => e = .returned (.bool b) ∧ Below w.heap.size w w' := by
  rw [← h]
  exact (same_c A B na ca nb cb w.heap.size w.heap.size xs ys w ha.out hb.out (by omega) (by omega)).mono fun e w' ⟨h, q, g⟩ => ⟨h, by rw [g]; exact below_drewN (Below.refl _ _) q⟩
theorem trimd_u (ha : Hid (At w A na xs)) (la : na ≤ 1048576) (b : Bool) (h : decide (trim xs = xs) = b) :
    Calls Try.prog 35 #[.slice A na ca] w fun e w' => e = .returned (.bool b) ∧ Below w.heap.size w w' := by
  rw [← h]
  exact (trimd_c A na ca w.heap.size xs w ha.out (by omega)).mono fun e w' ⟨h, g⟩ => ⟨h, by rw [g]; exact Below.refl _ _⟩
theorem bits_u (ha : Hid (At w A na xs)) (la : na ≤ 1048576) (hA : na ≤ ca) (hA' : ca ≤ 9223372036854775807) :
    Calls Try.prog 40 #[.slice A na ca] w fun e w' => e = .returned (.int .i64 (nbits (trim xs))) ∧ Below w.heap.size w w' :=
  (bits_n A na ca w.heap.size xs w ha.out ⟨hA, by omega⟩ hA').mono fun e w' ⟨h, g⟩ => ⟨h, by rw [g]; exact Below.refl _ _⟩
end
end Nt
end Go.Proofs.Ytopajockmcgpmaa
namespace Go.Proofs.Ytopajockmcgpmaa
open Go Go.RowKit
namespace Nt
open Wd Sti
set_option linter.unusedVariables false
theorem run_append_nil {w : World} (t ty e : TypeId) (i : TypeInfo) (ht : Try.prog.underlying t = some (.slice e)) (hi : Try.prog.info? e = some i)
    (v : Value) (n : Nat) (xs : List Value) (base size : Nat) (hown : w.ownsRow base e size v n xs) (c : Nat) : (Builtin.append_ #[t, t] ty #[v, .slice none 0 c]).run Try.prog w = .ok v w := by
  rcases hown.2 with ⟨rfl, rfl⟩ | ⟨g, cap, cur, rfl, _, _, hnc, _⟩
  · simp [Builtin.append_, run_underlying ht, sizeOf, typeInfo, hi, Builtin.lenOf, Builtin.firstCells]
  · simp [Builtin.append_, run_underlying ht, sizeOf, typeInfo, hi, Builtin.lenOf, Builtin.firstCells, hnc, storeCells]
theorem own_at {w : World} {base n : Nat} {v : Value} {xs : List Int} (h : w.ownsRow base 29 1 v n (xs.map (Value.int .u64))) (hw : Ws xs) :
    ∃ A c, v = .slice A n c ∧ At w A n xs ∧ n ≤ c ∧ c ≤ 9223372036854775807 := by
  have hl := h.1
  rw [List.length_map, Nat.mul_one] at hl
  rcases h.2 with ⟨rfl, rfl⟩ | ⟨g, cap, cur, rfl, _, hg, hnc, hcm, hcs, htk⟩
  · exact ⟨none, 0, rfl, ⟨hl, hw, fun h => absurd h (by omega)⟩, Nat.le_refl _, by omega⟩
  · have hlt : g < w.heap.size := (Array.getElem?_eq_some_iff.1 hg).1
    refine ⟨_, _, rfl, ⟨hl, hw, fun h0 => ⟨_, rfl, hlt, fun j hj => ?_⟩⟩, hnc, hcm⟩
    exact World.ownsRow.cells h (g := g) rfl j _ (by rw [List.getElem?_map, at_lt (by omega)]; rfl)
theorem append_run {w : World} (ty : TypeId) {g k m c B0 : Nat} {xs ys : List Int} {A : Option Addr} (hg : Bk w g 29 (us xs)) (hx : xs.length = k) (hw : Ws xs) (hs : At w A m ys) (hk : k + m ≤ 1048576) (hB : B0 ≤ g) :
    ∃ A' c' w', (Builtin.append_ #[24, 24] ty #[.slice (some ⟨g, 0, none⟩) k k, .slice A m c]).run Try.prog w = .ok (.slice A' (k + m) c') w' ∧ At w' A' (k + m) (xs ++ ys) ∧ k + m ≤ c' ∧ c' ≤ 9223372036854775807 ∧ Below B0 w w' := by
  obtain ⟨i, hi, hz, h1, h2⟩ := info_parts info_u64
  have hgl := hg.lt
  have hown : w.ownsRow B0 29 1 (.slice (some ⟨g, 0, none⟩) k k) k (xs.map (Value.int .u64)) :=
    ⟨by rw [List.length_map, hx, Nat.mul_one], .inr ⟨g, k, us xs, rfl, hB, hg, Nat.le_refl _, by simp only [maxLen]; omega, by rw [us_size, hx, Nat.mul_one], by
      rw [Nat.mul_one]; unfold us; rw [List.take_of_length_le (by simp [hx])]⟩⟩
  have hwy : Ws (xs ++ ys) := hw.append hs.ws
  rcases A with _ | ad
  · have hm : m = 0 := by
      rcases Nat.eq_zero_or_pos m with h0 | h0
      · exact h0
      · obtain ⟨ad, h, _⟩ := hs.rd h0
        cases h
    subst hm
    obtain rfl : ys = [] := List.eq_nil_of_length_eq_zero hs.len
    refine ⟨_, _, w, run_append_nil _ ty 29 i Try.underlying24 hi _ _ _ _ _ hown c, ?_, Nat.le_refl _, by omega, Below.refl _ _⟩
    rw [List.append_nil]
    exact hg.rd0 hgl hw hx
  · have hcells : ∀ j u, (ys.map (Value.int .u64))[j]? = some u → w.cell? (ad.add j) = some u := by
      intro j u hu
      rw [List.getElem?_map] at hu
      have hj : j < m := by
        rcases Nat.lt_or_ge j ys.length with h | h
        · rw [← hs.len]; exact h
        · rw [List.getElem?_eq_none h] at hu; cases hu
      obtain ⟨ad', he, _, hc⟩ := hs.rd (by omega)
      cases he
      rw [hc j hj]
      rw [at_lt (by rw [hs.len]; exact hj)] at hu
      exact hu
    obtain ⟨v', w', hrun, h3, h4, h5, h6⟩ := run_append_own_at (P := Try.prog) w B0 24 ty 29 i (.int .u64 0) 1 8 Try.underlying24 hi hz h1 h2 rfl (by omega) _ k _ hown ad m c (ys.map (Value.int .u64)) (by rw [List.length_map, hs.len, Nat.mul_one]) hcells
      (fun u hu => by obtain ⟨x, _, rfl⟩ := List.mem_map.1 hu; simp [Value.oneCell']) (by simp only [maxLen]; omega) (by omega) (by omega)
    rw [← List.map_append] at h3
    obtain ⟨A', c', rfl, h7, h8, h9⟩ := own_at h3 hwy
    exact ⟨A', c', w', hrun, h7, h8, h9, (Below.refl _ w).grown h4 (by omega) (fun j e => by simp [Value.ownBlock] at e; omega)⟩

theorem wpList_append_eq {P : Program} {w : World} {ops : Array Oper} {rest : List Oper} {o : Oper} {a : Act} {Q : Exit → Act → World → Prop} (hgd : o.guard = none) (s x : Operand) (t : TypeId)
    (ho : o.op = .call { callee := .builtin .append, args := #[s, x], argTypes := #[t, t] }) (v sx : Value) (hs : a.eval s = v) (hx : a.eval x = sx) (v' : Value) (w' : World)
    (hrun : (Builtin.append_ #[t, t] o.type #[v, sx]).run P w = .ok v' w') (h : wpList P ops Q rest (a.put o.dst v') w') : wpList P ops Q (o :: rest) a w :=
  wpList_plain hgd fun _ hK => by
    unfold Oper.wp execOp
    simp only [ho, resolve, invoke, builtin, Sem.run_bind, Sem.run_pure, Result.andThen_ok, List.map_toArray, List.map_cons, List.map_nil, hs, hx, hrun]
    exact hK _ _ h

/-! ### bits -/
structure BitsR (N : Int) (n : Nat) : Prop where
  up : N < 2 ^ n
  lo : N ≠ 0 → 1 ≤ n ∧ 2 ^ (n - 1) ≤ N
  zero : N = 0 → n = 0
theorem p2_lt {a b : Nat} (h : (2 : Int) ^ a < 2 ^ b) : a < b := by
  rcases Nat.lt_or_ge a b with h' | h'
  · exact h'
  · have := pow_le h'; omega
theorem BitsR.uniq {N : Int} {m n : Nat} (h : BitsR N m) (g : BitsR N n) : m = n := by
  by_cases h0 : N = 0
  · rw [h.zero h0, g.zero h0]
  · obtain ⟨a, b⟩ := h.lo h0
    obtain ⟨c, d⟩ := g.lo h0
    have e1 := p2_lt (a := m - 1) (b := n) (by have := g.up; omega)
    have e2 := p2_lt (a := n - 1) (b := m) (by have := h.up; omega)
    omega
theorem BitsR.mul {a b : Int} {m n k : Nat} (ha0 : 0 ≤ a) (hb0 : 0 ≤ b) (ha : BitsR a m) (hb : BitsR b n) (hk : BitsR (a * b) k) (h1 : a ≠ 0) (h2 : b ≠ 0) : k = m + n ∨ k + 1 = m + n := by
  obtain ⟨a1, a2⟩ := ha.lo h1
  obtain ⟨b1, b2⟩ := hb.lo h2
  have hab : a * b ≠ 0 := Int.mul_ne_zero h1 h2
  obtain ⟨k1, k2⟩ := hk.lo hab
  have p1 := pow_pos2 (m - 1)
  have p2 := pow_pos2 (n - 1)
  have l1 : (2 : Int) ^ (m - 1) * 2 ^ (n - 1) ≤ a * b := Int.mul_le_mul a2 b2 (by omega) ha0
  have u1 : a * b < 2 ^ m * 2 ^ n := by
    have := pow_pos2 m
    have h3 : a * b ≤ a * 2 ^ n := Int.mul_le_mul_of_nonneg_left (Int.le_of_lt hb.up) ha0
    have h4 : a * 2 ^ n < 2 ^ m * 2 ^ n := Int.mul_lt_mul_of_pos_right ha.up (by have := pow_pos2 n; omega)
    omega
  rw [← Int.pow_add] at l1 u1
  have e1 := p2_lt (a := m - 1 + (n - 1)) (b := k) (by have := hk.up; omega)
  have e2 := p2_lt (a := k - 1) (b := m + n) (by omega)
  omega
theorem BitsR.shift {a : Int} {m : Nat} (k : Nat) (ha : BitsR a m) (h0 : a ≠ 0) : BitsR (a * P k) (m + 64 * k) := by
  obtain ⟨a1, a2⟩ := ha.lo h0
  have hp := P_pos k
  refine ⟨?_, fun _ => ⟨by omega, ?_⟩, fun h => absurd h (Int.mul_ne_zero h0 (by omega))⟩
  · rw [Int.pow_add, two_P]; exact Int.mul_lt_mul_of_pos_right ha.up (by omega)
  · rw [show m + 64 * k - 1 = (m - 1) + 64 * k by omega, Int.pow_add, two_P]; exact Int.mul_le_mul_of_nonneg_right a2 (by omega)
theorem BitsR.lt {a b : Int} {m n : Nat} (ha : BitsR a m) (hb : BitsR b n) (h : m < n) : a < b := by
  have hb0 : b ≠ 0 := fun e => by have := hb.zero e; omega
  obtain ⟨b1, b2⟩ := hb.lo hb0
  have := pow_le (show m ≤ n - 1 by omega)
  have := ha.up
  omega
theorem nbits_R {zs : List Int} (hz : Ws zs) (ht : trim zs = zs) : BitsR (V zs) (nbits zs) := by
  rcases zs with _ | ⟨x, l⟩
  · refine ⟨by decide, fun h => absurd rfl h, fun _ => rfl⟩
  · have hne : (x :: l) ≠ [] := by simp
    have htop := trim_last ht hne
    obtain ⟨m, hm⟩ : ∃ m, (x :: l).length = m + 1 := ⟨l.length, rfl⟩
    generalize x :: l = zs at *
    have e0 : zs.length - 1 = m := by omega
    rw [e0] at htop
    have hw := hz.at_ m
    have hs := V_split zs m
    rw [hi_succ, hi_all (k := m + 1) (by omega)] at hs
    have h1 := lo_nonneg hz m
    have h2 := lo_lt hz m
    have hp := P_pos m
    unfold nbits
    rw [if_neg (by omega), e0]
    unfold Wd.W at hw
    obtain ⟨t, ht'⟩ : ∃ t : Nat, Nt.at_ zs m = t := ⟨(Nt.at_ zs m).toNat, by omega⟩
    rw [ht'] at hs htop hw ⊢
    rw [Int.toNat_natCast]
    have ht0 : t ≠ 0 := fun e => htop (by rw [e]; rfl)
    obtain ⟨b1, b2, b3⟩ := bl_spec t (by omega)
    obtain ⟨b4, b5⟩ := b2 ht0
    generalize Lib.bitLen t = b at *
    have c1 : (t : Int) + 1 ≤ 2 ^ b := by
      have h : t + 1 ≤ 2 ^ b := b1
      exact_mod_cast h
    have c2 : (2 : Int) ^ (b - 1) ≤ t := by exact_mod_cast b5
    have e1 : (2 : Int) ^ (m * 64 + b) = P m * 2 ^ b := by rw [Int.pow_add, Nat.mul_comm, two_P]
    have e2 : (2 : Int) ^ (m * 64 + b - 1) = P m * 2 ^ (b - 1) := by rw [show m * 64 + b - 1 = m * 64 + (b - 1) by omega, Int.pow_add, Nat.mul_comm, two_P]
    have d1 : P m * ((t : Int) + 1) ≤ P m * 2 ^ b := Int.mul_le_mul_of_nonneg_left c1 (by omega)
    have d2 : P m * 2 ^ (b - 1) ≤ P m * (t : Int) := Int.mul_le_mul_of_nonneg_left c2 (by omega)
    have d3 : P m * ((t : Int) + 1) = P m * t + P m := by rw [Int.mul_add, Int.mul_one]
    have d4 : P m * 1 ≤ P m * (t : Int) := Int.mul_le_mul_of_nonneg_left (by omega) (by omega)
    have hs' : V zs = lo zs m + P m * t := by rw [hs]; simp
    refine ⟨by rw [e1]; omega, fun _ => ⟨by omega, by rw [e2]; omega⟩, fun h => by omega⟩
theorem V_shift (k : Nat) (xs : List Int) : V (List.replicate k 0 ++ xs) = P k * V xs := by rw [V_append, V_zeros, List.length_replicate]; omega
end Nt
end Go.Proofs.Ytopajockmcgpmaa
namespace Go.Proofs.Ytopajockmcgpmaa
open Go Go.RowKit
namespace Nt
open Wd Sti
set_option linter.unusedVariables false
theorem pick_u {w : World} (n m : Int) (hn : (Lit.int .i64 n).wf = true) (hm : (Lit.int .i64 m).wf = true) (k : Nat) (h : Kit.pick n m = (k : Int)) :
    Calls Try.prog 36 #[.int .i64 n, .int .i64 m] w fun e w' => e = .returned (.int .i64 (k : Int)) ∧ Below w.heap.size w w' := by
  rw [← h]
  exact (Kit.pick_c n m w hn hm).mono fun e w' ⟨h, g⟩ => ⟨h, by rw [← g]; exact Below.refl _ _⟩
section
variable {w : World} {A B : Option Addr} {na ca nb cb : Nat} {xs ys : List Int}
theorem bits_ex {n : Nat} {B : Nat} (h : Rd w B A n xs) : ∃ m : Nat, BitsR (V xs) m ∧ m ≤ 64 * n := by
  refine ⟨nbits (trim xs), ?_, ?_⟩
  · have := nbits_R h.ws.trim (trim_trim xs)
    rwa [V_trim] at this
  · have h1 := nbits_le h.ws.trim
    have h2 := trim_le xs
    have h3 := h.len
    omega
theorem bitsv_u (ha : Hid (At w A na xs)) (la : na ≤ 1048576) (hA : na ≤ ca) (hA' : ca ≤ 9223372036854775807) (m : Nat) (h : BitsR (V xs) m) :
    Calls Try.prog 40 #[.slice A na ca] w fun e w' => e = .returned (.int .i64 (m : Int)) ∧ Below w.heap.size w w' := by
  have := nbits_R ha.out.ws.trim (trim_trim xs)
  rw [V_trim] at this
  rw [h.uniq this]
  exact bits_u ha la hA hA'
theorem cmpv_u (ha : Hid (At w A na xs)) (hb : Hid (At w B nb ys)) (la : na ≤ 1048576) (lb : nb ≤ 1048576) (v : Int) (h : cmpN (V xs) (V ys) = v) :
    Calls Try.prog 42 #[.slice A na ca, .slice B nb cb] w fun e w' => e = .returned (.int .i64 v) ∧ Below w.heap.size w w' := by
  rw [← h]; exact cmp_u ha hb la lb
theorem cmp_lt' {a b : Int} (h : a < b) : cmpN a b = -1 := if_pos h
theorem cmp_eq' {a b : Int} (h : a = b) : cmpN a b = 0 := by unfold cmpN; rw [if_neg (by omega), if_pos h]
theorem cmp_gt' {a b : Int} (h : b < a) : cmpN a b = 1 := by unfold cmpN; rw [if_neg (by omega), if_neg (by omega)]
end
end Nt
end Go.Proofs.Ytopajockmcgpmaa
namespace Go.Proofs.Ytopajockmcgpmaa
open Go Go.RowKit
namespace Nt
open Wd Sti
set_option linter.unusedVariables false
theorem hexb_hex : ∀ d : Nat, d < 16 → hexd (hexb d).toNat = some d
  | 0, _ => rfl | 1, _ => rfl | 2, _ => rfl | 3, _ => rfl | 4, _ => rfl | 5, _ => rfl | 6, _ => rfl | 7, _ => rfl
  | 8, _ => rfl | 9, _ => rfl | 10, _ => rfl | 11, _ => rfl | 12, _ => rfl | 13, _ => rfl | 14, _ => rfl | 15, _ => rfl
  | d + 16, h => absurd h (by omega)
theorem dv_hexb {d : Nat} (h : d < 16) : dv_ (hexb d).toNat = d := by unfold dv_; rw [hexb_hex d h]; rfl
theorem hexes_succ (v : Int) (n : Nat) : hexes v (n + 1) = hexb (dig v n) :: hexes v n := by
  apply List.ext_getElem?
  intro k
  rcases Nat.lt_or_ge k (n + 1) with h | h
  · rw [hexes_get v (n + 1) k h]
    cases k with
    | zero => rfl
    | succ k =>
      rw [List.getElem?_cons_succ, hexes_get v n k (by omega)]
      congr 3
      omega
  · rw [List.getElem?_eq_none (by rw [hexes_len]; exact h), List.getElem?_eq_none (by rw [List.length_cons, hexes_len]; exact h)]
theorem hexes_hex (v : Int) (n : Nat) : isHex (hexes v n) := by
  induction n with
  | zero => intro b hb; simp [hexes] at hb
  | succ n ih =>
    intro b hb
    rw [hexes_succ] at hb
    rcases List.mem_cons.1 hb with rfl | hb
    · rw [hexb_hex _ (dig_lt _ _)]; rfl
    · exact ih b hb
theorem hexV_hexes {v : Int} (h : 0 ≤ v) (n : Nat) : hexV (hexes v n) = v % 16 ^ n := by
  induction n with
  | zero => rw [Int.pow_zero, Int.emod_one]; rfl
  | succ n ih =>
    rw [hexes_succ]
    simp only [hexV]
    rw [ih, hexes_len, dv_hexb (dig_lt _ _)]
    have h1 := pow16_pos n
    have e : ((dig v n : Nat) : Int) = v / 16 ^ n % 16 := by unfold dig; omega
    rw [e, Int.pow_succ]
    have h2 := Int.emod_add_mul_ediv v (16 ^ n)
    have h3 := Int.emod_nonneg v (show (16 : Int) ^ n ≠ 0 by omega)
    have h4 := Int.emod_lt_of_pos v (show (0 : Int) < 16 ^ n by omega)
    have h5 := Int.emod_add_mul_ediv (v / 16 ^ n) 16
    generalize v / 16 ^ n = q at *
    have h6 : v = (v % 16 ^ n + q % 16 * 16 ^ n) + (16 ^ n * 16) * (q / 16) := by
      have : 16 ^ n * q = 16 ^ n * (q % 16) + 16 ^ n * (16 * (q / 16)) := by rw [← Int.mul_add, h5]
      rw [Int.mul_comm (q % 16), Int.mul_assoc]; omega
    have h7 : q % 16 * 16 ^ n ≤ 15 * 16 ^ n := Int.mul_le_mul_of_nonneg_right (by omega) (by omega)
    have h8 : 0 ≤ q % 16 * 16 ^ n := Int.mul_nonneg (by omega) (by omega)
    generalize v % 16 ^ n = r at *
    rw [h6, Int.add_mul_emod_self_left, Int.emod_eq_of_lt (a := r + q % 16 * 16 ^ n) (by omega) (by omega)]
    omega
theorem digs_up {xs : List Int} (h : Ws xs) : V xs < 16 ^ digs xs := by
  have h1 := nbits_R h.trim (trim_trim xs)
  rw [V_trim] at h1
  have h2 := h1.up
  have h3 := pow_le (show nbits (trim xs) ≤ digs xs * 4 by unfold digs; omega)
  rw [pow16] at h3
  omega
theorem text_back {xs : List Int} (h : Ws xs) : hexV (hexes (V xs) (digs xs)) = V xs := by
  rw [hexV_hexes (V_nonneg h), Int.emod_eq_of_lt (V_nonneg h) (digs_up h)]
/-- a number of m digits whose first is none that is 0 is told in m digits -/
theorem digs_top {xs : List Int} {m : Nat} (h : Ws xs) (h1 : V xs < 16 ^ (m + 1)) (h2 : m = 0 ∨ 16 ^ m ≤ V xs) : digs xs = m + 1 := by
  have hb := nbits_R h.trim (trim_trim xs)
  rw [V_trim] at hb
  unfold digs
  generalize nbits (trim xs) = b at *
  rw [← pow16, show (m + 1) * 4 = 4 * m + 4 by omega] at h1
  have hup : b ≤ 4 * m + 4 := by
    by_cases h0 : V xs = 0
    · rw [hb.zero h0]; omega
    · obtain ⟨b1, b2⟩ := hb.lo h0
      have := p2_lt (a := b - 1) (b := 4 * m + 4) (by omega)
      omega
  rcases h2 with rfl | h2
  · omega
  · rw [← pow16, Nat.mul_comm] at h2
    have := p2_lt (a := 4 * m) (b := b) (by have := hb.up; omega)
    omega
/-- the digits that are told of what was read are those that stood there, small -/
theorem dig_hexV : ∀ (l : List UInt8) (k : Nat) (h : k < l.length), dig (hexV l) (l.length - 1 - k) = dv_ (l[k]'h).toNat := by
  intro l
  induction l with
  | nil => intro k h; cases h
  | cons b l ih =>
    intro k h
    have hb := hexV_bd l
    have hp := pow16_pos l.length
    have hd := dv_lt b.toNat
    cases k with
    | zero =>
      simp only [List.length_cons, Nat.add_sub_cancel, Nat.sub_zero, List.getElem_cons_zero]
      unfold dig
      simp only [hexV]
      rw [Int.add_comm, Int.add_mul_ediv_right _ _ (by omega), Int.ediv_eq_zero_of_lt hb.1 hb.2]
      omega
    | succ k =>
      have hk : k < l.length := by simpa using h
      have := ih k hk
      rw [List.getElem_cons_succ, ← this]
      have e : (b :: l).length - 1 - (k + 1) = l.length - 1 - k := by simp only [List.length_cons]; omega
      rw [e]
      unfold dig
      simp only [hexV]
      obtain ⟨q, hq⟩ : ∃ q, l.length = (l.length - 1 - k) + 1 + q := ⟨l.length - (l.length - 1 - k) - 1, by omega⟩
      generalize l.length - 1 - k = j at *
      have hpj := pow16_pos j
      have e2 : (dv_ b.toNat : Int) * 16 ^ l.length = 16 ^ j * (16 * ((dv_ b.toNat : Int) * 16 ^ q)) := by
        rw [hq, Int.pow_add, Int.pow_succ]
        ac_rfl
      rw [e2, Int.add_comm, Int.add_mul_ediv_left _ _ (by omega), Int.add_mul_emod_self_left]
theorem small_fin : ∀ c : Fin 256, (hexd c.val).isSome = true → (hexb (dv_ c.val)).toNat = c.val ∨ (hexb (dv_ c.val)).toNat = c.val + 32 ∧ c.val ≤ 70 := by
  decide +kernel
theorem small_of (c : Nat) (h : (hexd c).isSome = true) (hc : c < 256) : (hexb (dv_ c)).toNat = c ∨ (hexb (dv_ c)).toNat = c + 32 ∧ c ≤ 70 := small_fin ⟨c, hc⟩ h
theorem hexV_drop_zero {l : List UInt8} : ∀ (k : Nat), k ≤ l.length → (∀ j b, j < k → l[j]? = some b → b = 48) → hexV (l.drop k) = hexV l := by
  induction l with
  | nil => intro k hk _; simp
  | cons x l ih =>
    intro k hk h
    cases k with
    | zero => rfl
    | succ k =>
      rw [List.drop_succ_cons, ih k (by simpa using hk) (fun j b hj hb => h (j + 1) b (by omega) (by rw [List.getElem?_cons_succ]; exact hb))]
      have : x = 48 := h 0 x (by omega) rfl
      subst this
      have h0 : dv_ (48 : UInt8).toNat = 0 := by decide
      simp only [hexV, h0]
      omega
theorem size_mk (l : List UInt8) : (⟨l.toArray⟩ : ByteArray).size = l.length := by show l.toArray.size = _; rw [List.size_toArray]
/-- what is told of what was read has its length, noughts ahead left away -/
theorem digs_read {z : List Int} {l : List UInt8} {k : Nat} (hw : Ws z) (hv : V z = hexV l) (hx : isHex l) (hk : k < l.length)
    (hc : ∀ (j : Nat) b, j < k → l[j]? = some b → b = 48) (he : l.length - k = 1 ∨ ∃ b, l[k]? = some b ∧ b ≠ 48) : digs z = l.length - k := by
  have h0 := hexV_drop_zero k (by omega) hc
  have hb := (hexV_bd (l.drop k)).2
  rw [h0, ← hv, List.length_drop] at hb
  obtain ⟨m, hm⟩ : ∃ m, l.length - k = m + 1 := ⟨l.length - k - 1, by omega⟩
  rw [hm] at hb he ⊢
  refine digs_top hw hb ?_
  rcases he with he | ⟨b, e1, e2⟩
  · left; omega
  · right
    obtain ⟨q, rfl⟩ := List.getElem?_eq_some_iff.1 e1
    have h3 := List.drop_eq_getElem_cons hk
    have h4 : dv_ (l[k]).toNat ≠ 0 := by
      intro e
      have := dv_zero (hx _ (List.getElem_mem hk)) e
      exact e2 (UInt8.toNat_inj.1 this)
    have h5 := hexV_top (l := l.drop (k + 1)) h4
    rw [← h3, h0, ← hv, List.length_drop] at h5
    have : l.length - (k + 1) = m := by omega
    rw [this] at h5
    exact h5
theorem told_same {l : List UInt8} {k : Nat} {u t : ByteArray} (hx : isHex l) (hk : k < l.length) (hu : u = ⟨(hexes (hexV l) (l.length - k)).toArray⟩)
    (ht : t.data.toList = l.drop k) (i : Nat) (h1 : i < u.size) (h2 : i < t.size) : (u[i]'h1).toNat = (t[i]'h2).toNat ∨ (u[i]'h1).toNat = (t[i]'h2).toNat + 32 ∧ (t[i]'h2).toNat ≤ 70 := by
  have a1 := bytes_get h1
  have a2 := bytes_get h2
  have hs : t.size = l.length - k := by rw [← bytes_len, ht, List.length_drop]
  have e : u.data.toList = hexes (hexV l) (l.length - k) := by rw [hu]
  rw [e, hexes_get _ _ _ (by omega)] at a1
  rw [ht, List.getElem?_drop, List.getElem?_eq_getElem (by omega)] at a2
  have b1 := Option.some.inj a1
  have b2 := Option.some.inj a2
  have b3 := dig_hexV l (k + i) (by omega)
  rw [show l.length - 1 - (k + i) = l.length - k - 1 - i by omega] at b3
  rw [← b1, ← b2, b3]
  exact small_of _ (hx _ (List.getElem_mem _)) (UInt8.toNat_lt _)
theorem tail_list (t : ByteArray) : (t.extract 1 t.size).data.toList = t.data.toList.drop 1 := by
  obtain ⟨⟨l⟩⟩ := t
  show ((⟨l.toArray⟩ : ByteArray).extract 1 (⟨l.toArray⟩ : ByteArray).size).data.toList = l.drop 1
  rw [size_mk, Lib.extract_mk]
  show List.take (l.length - 1) (List.drop 1 l) = _
  rw [List.take_of_length_le (by simp)]
end Nt
end Go.Proofs.Ytopajockmcgpmaa
