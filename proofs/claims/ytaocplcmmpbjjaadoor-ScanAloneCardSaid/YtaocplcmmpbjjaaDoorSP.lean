/- The landed All; Each, as an iterator. -/
import Derived.Test.YtaocplcmmpbjjaaDoorSO
namespace Go.Proofs.YtaocplcmmpbjjaaDoor
open Go Go.RowKit Go.Maps Go.Shelf
namespace Sn
open Nt
set_option linter.unusedVariables false
set_option linter.unusedSimpArgs false
set_option maxHeartbeats 1000000 in
theorem collect_in (n : Nat) (hn : 3 ≤ n) (g : Nat) (fb lb : Array Value) (eg : ∀ args w, (callFunc g args).run Tryd.prog w = .ok (.enter g args) w)
    (n₀ R0 M : Nat) (s : ByteArray) (hs : s.size ≤ 100000) (xs : List Tok) (hxl : xs.length ≤ 100000) (w : World) (hn0 : n₀ ≤ w.heap.size) (hR0 : R0 < n₀) (hseq : SeqR (n - 1 - 1) Tryd.prog g fb lb (encT s) n₀ (fun R' W X => R' = R0 ∧ X = W) xs (TelE s M) w) :
    CallsIn Fence.wide n Tryd.prog 21 #[.func (.func g) fb lb] w (ColP s R0 M xs w) := by
  have hn1 : 1 ≤ n := by omega
  refine callsIn_of_wp Tryd.func21 rfl trivial ?_ rfl
  simp only [Tryd.ntmps21, List.size_toArray, List.length_cons, List.length_nil, Nat.reduceAdd, Nat.reduceSub, Array.replicate_succ, Array.replicate_zero, List.push_toArray, List.append_toArray, List.nil_append, List.cons_append]
  gi_wp2
  refine ⟨trivial, ?_⟩
  gi_at_call 30
  refine (appSeq_in (n - 1) (by omega) g fb lb eg n₀ R0 M s hs xs hxl w hn0 hR0 hseq).mono ?_
  rintro e w' ⟨v, rfl, hE, hrow, hnil, hb⟩
  gi_wp2
  go_ret
  exact ⟨v, rfl, hE, hrow, hnil, hb⟩
theorem ownsRow_base {W : World} {b b' : Nat} {e : TypeId} {size : Nat} {v : Value} {k : Nat} {xs : List Value} (h : W.ownsRow b e size v k xs) (hb : b' ≤ b) : W.ownsRow b' e size v k xs := by
  refine ⟨h.1, ?_⟩
  rcases h.2 with h | ⟨g, cap, cur, h1, h2, h3⟩
  · exact .inl h
  · exact .inr ⟨g, cap, cur, h1, by omega, h3⟩
/-- what All answers -/
def allA (s : ByteArray) : List Tok × Nat × Nat := if 65536 < s.size then ([], 0, 3) else match tl s s.size 0 0 4 with
  | (ts, none) => (ts, s.size, 0)
  | (_, some (p, y)) => ([], p, y)
def AllP (s : ByteArray) (w : World) (e : Ending) (w' : World) : Prop :=
  ∃ v, e = .returned (.tuple #[v, .int .i64 ((allA s).2.1 : Int), .int .i64 ((allA s).2.2 : Int)]) ∧ w'.ownsRow w.heap.size 33 3 v (allA s).1.length (tokRow s (allA s).1) ∧ (v = .slice none 0 0 ↔ (allA s).1 = []) ∧ Below w.heap.size w w'
theorem finS_len (s : ByteArray) (p b k : Nat) : (finS s p b k).1.length ≤ 1 := by
  unfold finS
  repeat' split
  all_goals simp
theorem finS_err (s : ByteArray) (p b k : Nat) : (finS s p b k).2 = none ∨ (finS s p b k) = ([], some (p, 3)) := by
  unfold finS
  repeat' split
  all_goals simp
theorem tl_len (s : ByteArray) : ∀ (f pos p k : Nat), (tl s f pos p k).1.length ≤ f + 1
  | 0, pos, p, k => finS_len s p pos k
  | f + 1, pos, p, k => by
    have h1 := finS_len s p pos k
    show (if pos < s.size then (if okR s pos && goR k (Utf8.decode s pos).1 then tl s f (pos + (Utf8.decode s pos).2) p k else tlN s f pos p k) else finS s p pos k).1.length ≤ f + 1 + 1
    split
    · split
      · have := tl_len s f (pos + (Utf8.decode s pos).2) p k
        omega
      · unfold tlN
        rcases hq : finS s p pos k with ⟨ts, e⟩
        rw [hq] at h1
        cases e with
        | some e => exact Nat.le_trans h1 (by omega)
        | none =>
          dsimp only
          repeat' split
          · exact Nat.le_trans h1 (by omega)
          · exact Nat.le_trans h1 (by omega)
          · have := tl_len s f (pos + (Utf8.decode s pos).2) pos (kndR (Utf8.decode s pos).1)
            have h1' : ts.length ≤ 1 := h1
            show (ts ++ _).length ≤ _
            rw [List.length_append]
            omega
    · omega
theorem tl_err (s : ByteArray) : ∀ (f pos p k : Nat) (e : Nat × Nat), (tl s f pos p k).2 = some e → e.2 ≠ 0
  | 0, pos, p, k, e => fun h => by
    rcases finS_err s p pos k with h1 | h1
    · rw [show (tl s 0 pos p k).2 = (finS s p pos k).2 from rfl, h1] at h; cases h
    · rw [show (tl s 0 pos p k).2 = (finS s p pos k).2 from rfl, h1] at h; cases h; show (3 : Nat) ≠ 0; decide
  | f + 1, pos, p, k, e => by
    show (if pos < s.size then (if okR s pos && goR k (Utf8.decode s pos).1 then tl s f (pos + (Utf8.decode s pos).2) p k else tlN s f pos p k) else finS s p pos k).2 = some e → _
    intro h
    split at h
    · split at h
      · exact tl_err s f _ p k e h
      · rcases finS_err s p pos k with h1 | h1
        · rcases hq : finS s p pos k with ⟨ts, q⟩
          rw [hq] at h1
          obtain rfl : q = none := h1
          unfold tlN at h
          rw [hq] at h
          dsimp only at h
          split at h
          · cases h; show (4 : Nat) ≠ 0; decide
          · split at h
            · cases h; show (7 : Nat) ≠ 0; decide
            · exact tl_err s f _ pos _ e h
        · unfold tlN at h
          rw [h1] at h
          cases h; show (3 : Nat) ≠ 0; decide
    · rcases finS_err s p pos k with h1 | h1
      · rw [h1] at h; cases h
      · rw [h1] at h; cases h; show (3 : Nat) ≠ 0; decide
set_option maxRecDepth 100000 in
set_option maxHeartbeats 2000000 in
theorem all_l (s : ByteArray) (hs : s.size ≤ 100000) (w : World) (hT : Lib.Utf8Tabs 0 1 w) : Calls Tryd.prog 9 #[.string s] w (AllP s w) := by
  by_cases hl : 65536 < s.size
  · have e1 : ((s.size : Int) ≤ 65536) = False := eq_false (by omega)
    have hA : allA s = ([], 0, 3) := by unfold allA; rw [if_pos hl]
    have HA := Lib.hid hA
    have e2 : ((65536 : Int) < (s.size : Int)) = True := eq_true (by omega)
    clear hl hA
    go_enter Tryd.func9, Tryd.ntmps9
    go_wp2_with fail
    go_ret3
    unfold AllP
    rw [HA.out]
    exact ⟨_, rfl, World.ownsRow_nil _ _ _ _, by simp, Below.refl _ _⟩
  · have e1 : ((65536 : Int) < (s.size : Int)) = False := eq_false (by omega)
    have HT := Lib.hid hT
    have HL := Lib.hid hl
    have HB := Lib.hid (begin_l s w)
    have HSZ := Lib.hid hs
    clear hl hT hs
    go_enter Tryd.func9, Tryd.ntmps9
    go_wp2_with fail
    go_at_call 20
    refine HB.out.mono ?_
    rintro e w1 ⟨R, M, rfl, hwM, hMR, hr, hm, hb⟩
    clear HB
    have hRl : R < w1.heap.size := Bk.lt hr
    have l0 : 0 < w.heap.size := World.block_lt_of_cell? w _ (HT.out.1 0 (by omega))
    have l1 : 1 < w.heap.size := World.block_lt_of_cell? w _ (HT.out.2 0 (by omega)).1
    have HT1 := Lib.hid (tabs_eq HT.out (hb.block _ l0) (hb.block _ l1))
    have HCO := Lib.hid (collect_in 6 (by omega) _ _ _ (enters_of Tryd.func29 (by kernel_rfl) rfl) w1.heap.size R M s HSZ.out (tl s s.size 0 0 4).1 (by have := tl_len s s.size 0 0 4; have := HL.out; omega) w1 (Nat.le_refl _) hRl
      (tell_seq (6 - 1 - 1) (by omega) w1.heap.size R M s HSZ.out w1 hr hm HT1.out ⟨by omega, by omega, by omega⟩ ⟨by have := hb.size; omega, by have := hb.size; omega, Nat.le_refl _⟩))
    obtain ⟨c0, c1, c2, c3, c4, c5, c6⟩ := hr.cells
    unfold telF at c1
    have HBW := Lib.hid hb
    have HWR := Lib.hid (show w.heap.size ≤ R by omega)
    clear hr hm hb hwM hMR hRl l0 l1
    go_wp2_with fail
    go_at_call 21
    refine ((callsIn_wide (n := 6)).1 HCO.out).mono ?_
    rintro e w2 ⟨v, rfl, ⟨k, p, a, y, hr, hm⟩, hrow, hnil, hg⟩
    obtain ⟨d0, d1, d2, d3, d4, d5, d6⟩ := hr.cells
    have HRW := Lib.hid hrow
    have HN := Lib.hid hnil
    have HBX : Hid (Below w.heap.size w w2) := Lib.hid ⟨hg.os.trans HBW.out.os, hg.tape.trans HBW.out.tape, hg.output.trans HBW.out.output, Nat.le_trans HBW.out.size hg.size, fun k hk => (hg.block k (Nat.lt_of_lt_of_le hk HBW.out.size) (fun e => by have := HWR.out; cases e; omega)).trans (HBW.out.block k hk)⟩
    have HSW := Lib.hid HBW.out.size
    clear hr hrow hnil hg HCO c0 c1 c2 c3 c4 c5 c6
    rcases hq : tl s s.size 0 0 4 with ⟨ts, q⟩
    rw [hq] at hm HRW HN
    have hlq := HL.out
    cases q with
    | none =>
      dsimp only at hm
      subst hm
      have hA : allA s = (ts, s.size, 0) := by unfold allA; rw [if_neg hlq, hq]
      have HA := Lib.hid hA
      clear hA hq hlq
      go_wp2_with fail
      go_ret3
      unfold AllP
      rw [HA.out]
      exact ⟨v, rfl, ownsRow_base HRW.out HSW.out, HN.out, HBX.out⟩
    | some er =>
      obtain ⟨pe, ye⟩ := er
      obtain ⟨rfl, rfl⟩ := hm
      have hne : ye ≠ 0 := tl_err s s.size 0 0 4 (pe, ye) (by rw [hq])
      have hA : allA s = ([], pe, ye) := by unfold allA; rw [if_neg hlq, hq]
      have HA := Lib.hid hA
      have e5 : ((ye : Int) == 0) = false := by simp; omega
      have e6 : ((ye : Int) = 0) = False := eq_false (by omega)
      clear hA hq hlq hne
      go_wp2_with fail
      go_quiet (fail)
      go_wp2_with fail
      go_ret3
      unfold AllP
      rw [HA.out]
      exact ⟨_, rfl, World.ownsRow_nil _ _ _ _, by simp, HBX.out.trans ((bel_drN w2 _).mono HBX.out.size)⟩
end Sn
end Go.Proofs.YtaocplcmmpbjjaaDoor
