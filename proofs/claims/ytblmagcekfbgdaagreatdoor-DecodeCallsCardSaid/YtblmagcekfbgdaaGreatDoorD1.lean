/- The document's own Check, whole; Flags, Jump. | The document's own row of registers that are told. | What is asked of the landed package inst; rows of numbers compared; the chapter's examples as each law asks them first. -/
import Derived.Test.YtblmagcekfbgdaaGreatDoorC1
import Derived.Test.YtblmagcekfbgdaaGreatDoorC3
import Derived.Test.YtblmagcekfbgdaaGreatDoorC4
import Derived.Test.YtblmagcekfbgdaaGreatDoorC5
import Derived.Maps.AppendAt
import Derived.Laws.AppendOwn
import Derived.Laws.OwnMore
import Derived.OwnWalk
import Derived.Deep.RegionHeld3
import Derived.BigQuiet
import Derived.Deep.QuietTactic
namespace Go.Proofs.YtblmagcekfbgdaaGreatDoor
open Go Go.RowKit
namespace Is
open Nt
set_option linter.unusedVariables false
set_option linter.unusedSimpArgs false
theorem check_r (i : Ins) (w : World) : Calls Tryz.prog 32 #[.agg i.vs] w fun e w' => e = .returned (.int .i64 (chk i)) ∧ Below w.heap.size w w' := by
  cases hf : formOf i.op with
  | ds => exact check_ds i hf w
  | di => exact check_di i hf w
  | dm => exact check_dm i hf w
  | sm => exact check_sm i hf w
  | dj => exact check_dj i hf w
  | dst => exact check_dst i hf w
  | d => exact check_d i hf w
  | db => exact check_db i hf w
  | s => exact check_s i hf w
  | j => exact check_j i hf w
  | r => exact check_r' i hf w
  | no => exact check_no i hf w
theorem chk_01 (i : Ins) : (okI i = true ∧ chk i = 0) ∨ (okI i = false ∧ chk i = 2) := by
  unfold chk
  cases okI i
  · right; exact ⟨rfl, rfl⟩
  · left; exact ⟨rfl, rfl⟩
theorem ok_op {i : Ins} (h : okI i = true) : 1 ≤ i.op ∧ i.op ≤ 33 := by
  rcases op_cases i.op with h1 | h1 | h1 | h1 | h1 | h1 | h1 | h1 | h1 | h1 | h1 | h1 | h1 | h1 | h1 | h1 | h1 | h1 | h1 | h1 | h1 | h1 | h1 | h1 | h1 | h1 | h1 | h1 | h1 | h1 | h1 | h1 | h1 | h1
  all_goals first | omega | skip
  exfalso
  have e : formOf i.op = .no := by
    unfold formOf
    rw [if_neg (by omega), if_neg (by omega), if_neg (by omega), if_neg (by omega), if_neg (by omega), if_neg (by omega), if_neg (by omega), if_neg (by omega), if_neg (by omega), if_neg (by omega), if_neg (by omega)]
  unfold okI at h
  rw [e] at h
  cases h
end Is
end Go.Proofs.YtblmagcekfbgdaaGreatDoor
namespace Go.Proofs.YtblmagcekfbgdaaGreatDoor
open Go Go.RowKit
namespace Is
open Nt
set_option linter.unusedVariables false
def iv (xs : List Int) : List Value := xs.map (Value.int .i64)
def regK (p : Int → Bool) (k : Nat) : List Int := ((List.range k).map fun (j : Nat) => (j : Int)).filter p
theorem regK_succ (p : Int → Bool) (k : Nat) : regK p (k + 1) = regK p k ++ (if p (k : Int) then [(k : Int)] else []) := by
  unfold regK
  rw [List.range_succ, List.map_append, List.filter_append]
  congr 1
  cases h : p (k : Int) <;> simp [h]
theorem regK_len (p : Int → Bool) (k : Nat) : (regK p k).length ≤ k := by
  unfold regK
  refine Nat.le_trans (List.length_filter_le _ _) ?_
  simp
/-- sixteen truths as cells -/
def tab (p : Int → Bool) : Array Value := ((List.range 16).map fun (k : Nat) => Value.bool (p (k : Int))).toArray
theorem tab_get (p : Int → Bool) {k : Nat} (h : k < 16) : (tab p)[k]? = some (.bool (p (k : Int))) := by
  unfold tab
  rw [List.getElem?_toArray, List.getElem?_map, List.getElem?_range h]; rfl
theorem tab_size (p : Int → Bool) : (tab p).size = 16 := by unfold tab; simp
theorem tab_set (p : Int → Bool) {r : Nat} (h : r < 16) : (tab p).setIfInBounds r (.bool true) = tab (fun z => p z || decide (z = (r : Int))) := by
  apply Array.ext_getElem?
  intro i
  rw [Array.getElem?_setIfInBounds, tab_size]
  by_cases hi : r = i
  · subst hi
    rw [if_pos rfl, if_pos h, tab_get _ h]; simp
  · rw [if_neg hi]
    rcases Nat.lt_or_ge i 16 with h8 | h8
    · rw [tab_get _ h8, tab_get _ h8]
      have : ¬ ((i : Int) = (r : Int)) := by omega
      simp [this]
    · rw [Array.getElem?_eq_none (by rw [tab_size]; exact h8), Array.getElem?_eq_none (by rw [tab_size]; exact h8)]
theorem info_int : (Tryz.prog.info? 3).map (fun i => (i.zero, i.size, i.bytes)) = some (some (.int .i64 0), 1, 8) := by kernel_rfl
theorem ownsRow_base {w : World} {B B' : Nat} {e : TypeId} {s n : Nat} {v : Value} {xs : List Value} (h : w.ownsRow B e s v n xs) (hB : B' ≤ B) : w.ownsRow B' e s v n xs := by
  refine ⟨h.1, ?_⟩
  rcases h.2 with h1 | ⟨g, c, cur, h1, h2, h3⟩
  · exact .inl h1
  · exact .inr ⟨g, c, cur, h1, Nat.le_trans hB h2, h3⟩
theorem one_new (W : World) (z : Int) (j : Nat) (u : Value) (hu : [Value.int .i64 z][j]? = some u) : (W.alloc (.cells #[.int .i64 z] 3)).cell? ((⟨W.heap.size, 0, none⟩ : Addr).add j) = some u := by
  have e : (⟨W.heap.size, 0, none⟩ : Addr).add j = ⟨W.heap.size, j, none⟩ := by
    unfold Addr.add; split
    · rename_i e; rw [e]
    · simp
  rw [e, World.cell?_alloc_at _ _ _ _ (by simp)]
  simpa using hu
/-- a row of registers of one's own -/
def RowP (xs : List Int) (w : World) (e : Ending) (w' : World) : Prop := ∃ v, e = .returned v ∧ w'.ownsRow w.heap.size 3 1 v xs.length (iv xs) ∧ Below w.heap.size w w'
end Is
end Go.Proofs.YtblmagcekfbgdaaGreatDoor
namespace Go.Proofs.YtblmagcekfbgdaaGreatDoor
open Go Go.RowKit
namespace Is
open Nt
set_option linter.unusedVariables false
/-- the n-th number -/
def nth (xs : List Int) (k : Nat) : Int := (xs[k]?).getD 0
/-- a slice of numbers that reads as xs, below block B -/
structure RdI (w : World) (B : Nat) (A : Option Addr) (n : Nat) (xs : List Int) : Prop where
  len : xs.length = n
  rd : 0 < n → ∃ ad, A = some ad ∧ ad.block < B ∧ ∀ j, j < n → w.cell? (ad.add j) = some (.int .i64 (nth xs j))
theorem RdI.at_ {w : World} {B n k : Nat} {A : Option Addr} {xs : List Int} (h : RdI w B A n xs) (hk : k < n) : ∃ ad, A = some ad ∧ ad.block < B ∧ w.cell? (ad.add k) = some (.int .i64 (nth xs k)) := by
  obtain ⟨ad, e, hb, hc⟩ := h.rd (by omega)
  exact ⟨ad, e, hb, hc k hk⟩
theorem RdI.keep {w w' : World} {B n : Nat} {A : Option Addr} {xs : List Int} (h : RdI w B A n xs) (hk : ∀ p : Addr, p.block < B → w'.cell? p = w.cell? p) : RdI w' B A n xs :=
  ⟨h.len, fun hn => by
    obtain ⟨ad, e, hb, hc⟩ := h.rd hn
    exact ⟨ad, e, hb, fun j hj => (hk _ (by rw [Nt.block_add]; exact hb)).trans (hc j hj)⟩⟩
theorem RdI.more {w : World} {B B' n : Nat} {A : Option Addr} {xs : List Int} (h : RdI w B A n xs) (hB : B ≤ B') : RdI w B' A n xs :=
  ⟨h.len, fun hn => by
    obtain ⟨ad, e, hb, hc⟩ := h.rd hn
    exact ⟨ad, e, by omega, hc⟩⟩
def AtI (w : World) (A : Option Addr) (n : Nat) (xs : List Int) : Prop := RdI w w.heap.size A n xs
theorem AtI.below {w w' : World} {A : Option Addr} {n : Nat} {xs : List Int} (h : Hid (AtI w A n xs)) (hb : Below w.heap.size w w') : Hid (AtI w' A n xs) := Lib.hid ((RdI.keep h.out (fun _ hp => hb.cell hp)).more hb.size)
theorem nth_lt {xs : List Int} {k : Nat} (h : k < xs.length) : xs[k]? = some (nth xs k) := by unfold nth; rw [List.getElem?_eq_getElem h]; rfl
theorem eq_of_nth {xs ys : List Int} (hl : xs.length = ys.length) (h : ∀ j, j < xs.length → nth xs j = nth ys j) : xs = ys := by
  apply List.ext_getElem?
  intro j
  rcases Nat.lt_or_ge j xs.length with hj | hj
  · rw [nth_lt hj, nth_lt (by omega), h j hj]
  · rw [List.getElem?_eq_none hj, List.getElem?_eq_none (by omega)]
/-- numbers that are told -/
def TellP (xs : List Int) (w : World) (e : Ending) (w' : World) : Prop := ∃ A n c, e = .returned (.slice A n c) ∧ Hid (AtI w' A n xs) ∧ Below w.heap.size w w'
theorem RowP.tell {xs : List Int} {w w' : World} {e : Ending} (h : RowP xs w e w') : TellP xs w e w' := by
  obtain ⟨v, rfl, ho, hb⟩ := h
  rcases ho.2 with ⟨rfl, hz⟩ | ⟨g, c, cur, rfl, hg, _⟩
  · exact ⟨_, _, _, rfl, Lib.hid ⟨hz, fun h => absurd h (by omega)⟩, hb⟩
  · refine ⟨_, _, _, rfl, Lib.hid ⟨rfl, fun _ => ⟨_, rfl, (ho.lt g rfl).2, fun j hj => ?_⟩⟩, hb⟩
    have e : (⟨g, 0, none⟩ : Addr).add j = ⟨g, j, none⟩ := by
      unfold Addr.add; split
      · rename_i e; rw [e]
      · simp
    rw [e, ho.cellAt j (by omega)]
    unfold iv
    rw [List.getElem?_map, nth_lt hj]; rfl
end Is
end Go.Proofs.YtblmagcekfbgdaaGreatDoor
