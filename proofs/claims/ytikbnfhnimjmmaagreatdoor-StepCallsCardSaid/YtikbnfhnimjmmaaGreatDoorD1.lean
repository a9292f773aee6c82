/- The document's own Check, whole; Flags, Jump. | The document's own row of registers that are told. | What is asked of the landed package inst; rows of numbers compared; the chapter's examples as each law asks them first. | The document's own Flags, Jump. -/
import Derived.Test.YtikbnfhnimjmmaaGreatDoorC1
import Derived.Test.YtikbnfhnimjmmaaGreatDoorC3
import Derived.Test.YtikbnfhnimjmmaaGreatDoorC5
import Derived.Maps.AppendAt
import Derived.Laws.AppendOwn
import Derived.Laws.OwnMore
import Derived.OwnWalk
import Derived.Deep.RegionHeld3
import Derived.BigQuiet
import Derived.Deep.QuietTactic
namespace Go.Proofs.YtikbnfhnimjmmaaGreatDoor
open Go Go.RowKit
namespace Is
open Nt
set_option linter.unusedVariables false
set_option linter.unusedSimpArgs false
theorem check_r (i : Ins) (w : World) : Calls Tryz.prog 73 #[.agg i.vs] w fun e w' => e = .returned (.int .i64 (chk i)) ∧ Below w.heap.size w w' := by
  cases hf : formOf i.op with
  | ds => exact check_ds i hf w
  | di => exact check_di i hf w
  | dm => exact check_dm i hf w
  | sm => exact check_sm i hf w
  | dj => exact check_dj i hf w
  | dst => exact check_dst i hf w
  | d => exact check_d i hf w
  | db => exact check_db i hf w
  | s => exact check_s i hf w
  | j => exact check_j i hf w
  | r => exact check_r' i hf w
  | no => exact check_no i hf w
theorem chk_01 (i : Ins) : (okI i = true ∧ chk i = 0) ∨ (okI i = false ∧ chk i = 2) := by
  unfold chk
  cases okI i
  · right; exact ⟨rfl, rfl⟩
  · left; exact ⟨rfl, rfl⟩
theorem ok_op {i : Ins} (h : okI i = true) : 1 ≤ i.op ∧ i.op ≤ 33 := by
  rcases op_cases i.op with h1 | h1 | h1 | h1 | h1 | h1 | h1 | h1 | h1 | h1 | h1 | h1 | h1 | h1 | h1 | h1 | h1 | h1 | h1 | h1 | h1 | h1 | h1 | h1 | h1 | h1 | h1 | h1 | h1 | h1 | h1 | h1 | h1 | h1
  all_goals first | omega | skip
  exfalso
  have e : formOf i.op = .no := by
    unfold formOf
    rw [if_neg (by omega), if_neg (by omega), if_neg (by omega), if_neg (by omega), if_neg (by omega), if_neg (by omega), if_neg (by omega), if_neg (by omega), if_neg (by omega), if_neg (by omega), if_neg (by omega)]
  unfold okI at h
  rw [e] at h
  cases h
end Is
end Go.Proofs.YtikbnfhnimjmmaaGreatDoor
namespace Go.Proofs.YtikbnfhnimjmmaaGreatDoor
open Go Go.RowKit
namespace Is
open Nt
set_option linter.unusedVariables false
def iv (xs : List Int) : List Value := xs.map (Value.int .i64)
def regK (p : Int → Bool) (k : Nat) : List Int := ((List.range k).map fun (j : Nat) => (j : Int)).filter p
theorem regK_succ (p : Int → Bool) (k : Nat) : regK p (k + 1) = regK p k ++ (if p (k : Int) then [(k : Int)] else []) := by
  unfold regK
  rw [List.range_succ, List.map_append, List.filter_append]
  congr 1
  cases h : p (k : Int) <;> simp [h]
theorem regK_len (p : Int → Bool) (k : Nat) : (regK p k).length ≤ k := by
  unfold regK
  refine Nat.le_trans (List.length_filter_le _ _) ?_
  simp
/-- sixteen truths as cells -/
def tab (p : Int → Bool) : Array Value := ((List.range 16).map fun (k : Nat) => Value.bool (p (k : Int))).toArray
theorem tab_get (p : Int → Bool) {k : Nat} (h : k < 16) : (tab p)[k]? = some (.bool (p (k : Int))) := by
  unfold tab
  rw [List.getElem?_toArray, List.getElem?_map, List.getElem?_range h]; rfl
theorem tab_size (p : Int → Bool) : (tab p).size = 16 := by unfold tab; simp
theorem tab_set (p : Int → Bool) {r : Nat} (h : r < 16) : (tab p).setIfInBounds r (.bool true) = tab (fun z => p z || decide (z = (r : Int))) := by
  apply Array.ext_getElem?
  intro i
  rw [Array.getElem?_setIfInBounds, tab_size]
  by_cases hi : r = i
  · subst hi
    rw [if_pos rfl, if_pos h, tab_get _ h]; simp
  · rw [if_neg hi]
    rcases Nat.lt_or_ge i 16 with h8 | h8
    · rw [tab_get _ h8, tab_get _ h8]
      have : ¬ ((i : Int) = (r : Int)) := by omega
      simp [this]
    · rw [Array.getElem?_eq_none (by rw [tab_size]; exact h8), Array.getElem?_eq_none (by rw [tab_size]; exact h8)]
theorem info_int : (Tryz.prog.info? 3).map (fun i => (i.zero, i.size, i.bytes)) = some (some (.int .i64 0), 1, 8) := by kernel_rfl
theorem ownsRow_base {w : World} {B B' : Nat} {e : TypeId} {s n : Nat} {v : Value} {xs : List Value} (h : w.ownsRow B e s v n xs) (hB : B' ≤ B) : w.ownsRow B' e s v n xs := by
  refine ⟨h.1, ?_⟩
  rcases h.2 with h1 | ⟨g, c, cur, h1, h2, h3⟩
  · exact .inl h1
  · exact .inr ⟨g, c, cur, h1, Nat.le_trans hB h2, h3⟩
theorem one_new (W : World) (z : Int) (j : Nat) (u : Value) (hu : [Value.int .i64 z][j]? = some u) : (W.alloc (.cells #[.int .i64 z] 3)).cell? ((⟨W.heap.size, 0, none⟩ : Addr).add j) = some u := by
  have e : (⟨W.heap.size, 0, none⟩ : Addr).add j = ⟨W.heap.size, j, none⟩ := by
    unfold Addr.add; split
    · rename_i e; rw [e]
    · simp
  rw [e, World.cell?_alloc_at _ _ _ _ (by simp)]
  simpa using hu
/-- a row of registers of one's own -/
def RowP (xs : List Int) (w : World) (e : Ending) (w' : World) : Prop := ∃ v, e = .returned v ∧ w'.ownsRow w.heap.size 3 1 v xs.length (iv xs) ∧ Below w.heap.size w w'
end Is
end Go.Proofs.YtikbnfhnimjmmaaGreatDoor
namespace Go.Proofs.YtikbnfhnimjmmaaGreatDoor
open Go Go.RowKit
namespace Is
open Nt
set_option linter.unusedVariables false
/-- the n-th number -/
def nth (xs : List Int) (k : Nat) : Int := (xs[k]?).getD 0
/-- a slice of numbers that reads as xs, below block B -/
structure RdI (w : World) (B : Nat) (A : Option Addr) (n : Nat) (xs : List Int) : Prop where
  len : xs.length = n
  rd : 0 < n → ∃ ad, A = some ad ∧ ad.block < B ∧ ∀ j, j < n → w.cell? (ad.add j) = some (.int .i64 (nth xs j))
theorem RdI.at_ {w : World} {B n k : Nat} {A : Option Addr} {xs : List Int} (h : RdI w B A n xs) (hk : k < n) : ∃ ad, A = some ad ∧ ad.block < B ∧ w.cell? (ad.add k) = some (.int .i64 (nth xs k)) := by
  obtain ⟨ad, e, hb, hc⟩ := h.rd (by omega)
  exact ⟨ad, e, hb, hc k hk⟩
theorem RdI.keep {w w' : World} {B n : Nat} {A : Option Addr} {xs : List Int} (h : RdI w B A n xs) (hk : ∀ p : Addr, p.block < B → w'.cell? p = w.cell? p) : RdI w' B A n xs :=
  ⟨h.len, fun hn => by
    obtain ⟨ad, e, hb, hc⟩ := h.rd hn
    exact ⟨ad, e, hb, fun j hj => (hk _ (by rw [Nt.block_add]; exact hb)).trans (hc j hj)⟩⟩
theorem RdI.more {w : World} {B B' n : Nat} {A : Option Addr} {xs : List Int} (h : RdI w B A n xs) (hB : B ≤ B') : RdI w B' A n xs :=
  ⟨h.len, fun hn => by
    obtain ⟨ad, e, hb, hc⟩ := h.rd hn
    exact ⟨ad, e, by omega, hc⟩⟩
def AtI (w : World) (A : Option Addr) (n : Nat) (xs : List Int) : Prop := RdI w w.heap.size A n xs
theorem AtI.below {w w' : World} {A : Option Addr} {n : Nat} {xs : List Int} (h : Hid (AtI w A n xs)) (hb : Below w.heap.size w w') : Hid (AtI w' A n xs) := Lib.hid ((RdI.keep h.out (fun _ hp => hb.cell hp)).more hb.size)
theorem nth_lt {xs : List Int} {k : Nat} (h : k < xs.length) : xs[k]? = some (nth xs k) := by unfold nth; rw [List.getElem?_eq_getElem h]; rfl
theorem eq_of_nth {xs ys : List Int} (hl : xs.length = ys.length) (h : ∀ j, j < xs.length → nth xs j = nth ys j) : xs = ys := by
  apply List.ext_getElem?
  intro j
  rcases Nat.lt_or_ge j xs.length with hj | hj
  · rw [nth_lt hj, nth_lt (by omega), h j hj]
  · rw [List.getElem?_eq_none hj, List.getElem?_eq_none (by omega)]
set_option maxHeartbeats 2000000 in
theorem same_i (A B : Option Addr) (n c m d Ba Bb : Nat) (xs ys : List Int) (w : World) (ha : RdI w Ba A n xs) (hb : RdI w Bb B m ys) (hn : n ≤ 1000000) (hm : m ≤ 1000000) :
    Calls Tryz.prog 45 #[.slice A n c, .slice B m d] w fun e w' => e = .returned (.bool (decide (xs = ys))) ∧ ∃ q, w' = w.drewN q := by
  by_cases hnm : n = m
  · subst hnm
    go_enter Tryz.func45, Tryz.ntmps45
    go_wp2_with fail
    go_loopw [5] (fun i wr => ∃ k q : Nat, k ≤ n ∧ i = .int .i64 k ∧ (∀ j, j < k → nth xs j = nth ys j) ∧ wr = w.drewN q) (fun i _ => n - (intOf i).toNat)
    case atStart => exact ⟨0, 0, Nat.zero_le _, rfl, fun j hj => absurd hj (by omega), rfl⟩
    case round =>
      obtain ⟨k, q, hk, rfl, hz, rfl⟩ := hrel
      by_cases hlt : k < n
      · obtain ⟨ad, rfl, _, hca⟩ := ha.at_ hlt
        obtain ⟨bd, rfl, _, hcb⟩ := hb.at_ hlt
        have hki : (k : Int) < (n : Int) := by omega
        by_cases hx : nth xs k = nth ys k
        · have HZ : Hid (∀ j, j < k + 1 → nth xs j = nth ys j) := Lib.hid (fun j hj => by
            rcases Nat.lt_succ_iff_lt_or_eq.1 hj with h | rfl
            · exact hz j h
            · exact hx)
          rw [hx] at hca
          clear hx hz ha hb
          generalize nth ys k = z at *
          go_wp2_with fail
          go_quiet (fail)
          go_wp2_with fail
          go_roundw
          case rel => exact ⟨k + 1, _, by omega, by go_num, HZ.out, rfl⟩
          case measure => (simp [intOf] <;> omega)
        · have hne : xs ≠ ys := fun e => hx (by rw [e])
          have HN := Lib.hid hne
          have hxx : (nth xs k != nth ys k) = true := by simpa using hx
          clear hne hz ha hb hx
          generalize nth ys k = z at *
          generalize nth xs k = z' at *
          go_wp2_with fail
          go_quiet (fail)
          go_wp2_with fail
          go_ret
          exact ⟨by rw [decide_eq_false HN.out]; rfl, _, World.drewN_drewN _ _ _⟩
      · obtain rfl : k = n := by omega
        have HE := Lib.hid (eq_of_nth (by rw [ha.len, hb.len]) (fun j hj => hz j (by rw [ha.len] at hj; exact hj)))
        clear hz ha hb
        go_wp2_with fail
        go_ret
        exact ⟨by rw [decide_eq_true HE.out]; rfl, _, rfl⟩
  · have hne : xs ≠ ys := fun e => hnm (by rw [← ha.len, ← hb.len, e])
    have HN := Lib.hid hne
    clear hne ha hb
    have hmi : ¬ ((n : Int) = (m : Int)) := by omega
    have hmb : ((n : Int) == (m : Int)) = false := by rw [beq_eq_false_iff_ne]; exact hmi
    have hmn : ((n : Int) != (m : Int)) = true := by rw [bne, hmb]; rfl
    go_enter Tryz.func45, Tryz.ntmps45
    go_wp2_with fail
    go_ret
    exact ⟨by rw [decide_eq_false HN.out]; rfl, 0, rfl⟩
/-- numbers that are told -/
def TellP (xs : List Int) (w : World) (e : Ending) (w' : World) : Prop := ∃ A n c, e = .returned (.slice A n c) ∧ Hid (AtI w' A n xs) ∧ Below w.heap.size w w'
theorem RowP.tell {xs : List Int} {w w' : World} {e : Ending} (h : RowP xs w e w') : TellP xs w e w' := by
  obtain ⟨v, rfl, ho, hb⟩ := h
  rcases ho.2 with ⟨rfl, hz⟩ | ⟨g, c, cur, rfl, hg, _⟩
  · exact ⟨_, _, _, rfl, Lib.hid ⟨hz, fun h => absurd h (by omega)⟩, hb⟩
  · refine ⟨_, _, _, rfl, Lib.hid ⟨rfl, fun _ => ⟨_, rfl, (ho.lt g rfl).2, fun j hj => ?_⟩⟩, hb⟩
    have e : (⟨g, 0, none⟩ : Addr).add j = ⟨g, j, none⟩ := by
      unfold Addr.add; split
      · rename_i e; rw [e]
      · simp
    rw [e, ho.cellAt j (by omega)]
    unfold iv
    rw [List.getElem?_map, nth_lt hj]; rfl
end Is
end Go.Proofs.YtikbnfhnimjmmaaGreatDoor
namespace Go.Proofs.YtikbnfhnimjmmaaGreatDoor
open Go Go.RowKit
namespace Is
open Nt
set_option linter.unusedVariables false
set_option linter.unusedSimpArgs false
set_option maxRecDepth 100000 in
set_option maxHeartbeats 4000000 in
theorem jump_r (i : Ins) (w : World) : Calls Tryz.prog 98 #[.agg i.vs] w fun e w' => e = .returned (.bool (jmpB i)) ∧ Below w.heap.size w w' := by
  have HC := Lib.hid (fun W => check_r i W)
  have HB := Lib.hid ((Below.refl w.heap.size w).alloc (Nat.le_refl _) (.cells i.vs 26))
  rcases chk_01 i with ⟨hk, he⟩ | ⟨hk, he⟩
  · have e1 : jmpB i = (decide (i.op = 30) || decide (i.op = 31) || decide (i.op = 32)) := by unfold jmpB; rw [hk]; rfl
    rw [e1]
    rw [he] at HC
    clear e1 hk he
    obtain ⟨op, d, s, t, b, x, sc, di, im⟩ := i
    unfold Ins.vs at *
    dsimp only at *
    by_cases h30 : op = 30 ∨ op = 31 ∨ op = 32
    · rcases h30 with rfl | rfl | rfl
      all_goals
        go_enter Tryz.func98, Tryz.ntmps98
        go_wp2_with (go_at_call 73; refine (HC.out _).mono ?_; rintro e w' ⟨rfl, hb⟩; have c0 : w'.cell? ⟨w.heap.size, 0, none⟩ = _ := (hb.cell (p := ⟨w.heap.size, 0, none⟩) (by simp)).trans (World.cell?_alloc_at _ _ _ _ rfl); simp only [List.getElem?_toArray, List.getElem?_cons_zero] at c0; have HB2 := Lib.hid (HB.out.trans (hb.mono (by simp))); clear hb)
        go_ret
        exact ⟨rfl, HB2.out⟩
    · have n1 : (op == 30) = false := by rw [beq_eq_false_iff_ne]; omega
      have n2 : (op == 31) = false := by rw [beq_eq_false_iff_ne]; omega
      have n3 : (op == 32) = false := by rw [beq_eq_false_iff_ne]; omega
      have e2 : (decide (op = 30) || decide (op = 31) || decide (op = 32)) = false := by simp; omega
      rw [e2]
      clear e2 h30
      go_enter Tryz.func98, Tryz.ntmps98
      go_wp2_with (go_at_call 73; refine (HC.out _).mono ?_; rintro e w' ⟨rfl, hb⟩; have c0 : w'.cell? ⟨w.heap.size, 0, none⟩ = _ := (hb.cell (p := ⟨w.heap.size, 0, none⟩) (by simp)).trans (World.cell?_alloc_at _ _ _ _ rfl); simp only [List.getElem?_toArray, List.getElem?_cons_zero] at c0; have HB2 := Lib.hid (HB.out.trans (hb.mono (by simp))); clear hb)
      go_ret
      exact ⟨rfl, HB2.out⟩
  · have e1 : jmpB i = false := by unfold jmpB; rw [hk]; rfl
    rw [e1]
    rw [he] at HC
    clear e1 hk he
    unfold Ins.vs at *
    go_enter Tryz.func98, Tryz.ntmps98
    go_wp2_with (go_at_call 73; refine (HC.out _).mono ?_; rintro e w' ⟨rfl, hb⟩; have HB2 := Lib.hid (HB.out.trans (hb.mono (by simp))); clear hb)
    go_ret
    exact ⟨rfl, HB2.out⟩
end Is
end Go.Proofs.YtikbnfhnimjmmaaGreatDoor
