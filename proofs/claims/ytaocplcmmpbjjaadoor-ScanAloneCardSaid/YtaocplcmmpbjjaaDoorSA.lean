/- Plain: a source as runes; the machine that makes words of them. -/
import Derived.Laws.RangeAny
namespace Go.Proofs.YtaocplcmmpbjjaaDoor
open Go
namespace Sn
set_option linter.unusedVariables false
set_option linter.unusedSimpArgs false
/-- a rune: what it is, how many bytes, whether they are right -/
structure Rn where
  c : Nat
  n : Nat
  ok : Bool
def letR (c : Nat) : Bool := if c < 128 then (decide (97 ≤ c) && decide (c ≤ 122)) || (decide (65 ≤ c) && decide (c ≤ 90)) || decide (c = 95) else (decide (c < 55296) || (decide (57344 ≤ c) && decide (c ≤ 1114111)))
def digR (c : Nat) : Bool := decide (48 ≤ c) && decide (c ≤ 57)
def sgnR (c : Nat) : Bool := [40, 41, 91, 93, 123, 125, 60, 62, 44, 59, 58, 61, 43, 45, 42].contains c
def whtR (c : Nat) : Bool := decide (c = 32) || decide (c = 9) || decide (c = 10) || decide (c = 13)
def kndR (c : Nat) : Nat := if letR c then 1 else if digR c then 2 else if sgnR c then 3 else if whtR c then 4 else if c = 35 then 5 else 0
def goR (k c : Nat) : Bool := if k = 1 then letR c || digR c else if k = 2 then digR c else if k = 3 then false else if k = 4 then whtR c else if k = 5 then decide (c ≠ 10) else false
def wid (l : List Rn) : Nat := (l.map (·.n)).sum
def valR (l : List Rn) : Nat := l.foldl (fun v r => v * 10 + (r.c - 48)) 0
/-- a word: its kind, where it begins, its runes -/
structure Wr where
  k : Nat
  at_ : Nat
  rs : List Rn
/-- what ends: an error, or words (at most one) -/
def fin (p k : Nat) (cur : List Rn) : List Wr × Option (Nat × Nat) :=
  if k = 4 ∨ k = 5 then ([], none) else if k = 2 ∧ 18446744073709551616 ≤ valR cur then ([], some (p, 3)) else ([⟨k, p, cur⟩], none)
/-- the machine: runes that come, where the part under way begins, its kind, its runes -/
def sc : List Rn → Nat → Nat → List Rn → List Wr × Option (Nat × Nat)
  | [], p, k, cur => fin p k cur
  | r :: rs, p, k, cur =>
    if r.ok && goR k r.c then sc rs p k (cur ++ [r])
    else match fin p k cur with
      | (ts, some e) => (ts, some e)
      | (ts, none) =>
        if r.ok = false then (ts, some (p + wid cur, 4))
        else if kndR r.c = 0 ∨ (kndR r.c = 1 ∧ k = 2) then (ts, some (p + wid cur, 7))
        else (ts ++ (sc rs (p + wid cur) (kndR r.c) [r]).1, (sc rs (p + wid cur) (kndR r.c) [r]).2)
theorem sc_nil (p k : Nat) (cur : List Rn) : sc [] p k cur = fin p k cur := rfl
theorem sc_cons (r : Rn) (rs : List Rn) (p k : Nat) (cur : List Rn) : sc (r :: rs) p k cur =
    if r.ok && goR k r.c then sc rs p k (cur ++ [r])
    else match fin p k cur with
      | (ts, some e) => (ts, some e)
      | (ts, none) =>
        if r.ok = false then (ts, some (p + wid cur, 4))
        else if kndR r.c = 0 ∨ (kndR r.c = 1 ∧ k = 2) then (ts, some (p + wid cur, 7))
        else (ts ++ (sc rs (p + wid cur) (kndR r.c) [r]).1, (sc rs (p + wid cur) (kndR r.c) [r]).2) := rfl
theorem wid_app (a b : List Rn) : wid (a ++ b) = wid a + wid b := by unfold wid; rw [List.map_append, List.sum_append]
theorem wid_nil : wid [] = 0 := rfl
theorem wid_one (r : Rn) : wid [r] = r.n := by unfold wid; simp
/-- words moved on -/
def mv (d : Nat) (q : List Wr × Option (Nat × Nat)) : List Wr × Option (Nat × Nat) := (q.1.map fun t => ⟨t.k, t.at_ + d, t.rs⟩, q.2.map fun e => (e.1 + d, e.2))
theorem fin_mv (d p k : Nat) (cur : List Rn) : fin (p + d) k cur = mv d (fin p k cur) := by
  unfold fin mv
  split
  · rfl
  · split <;> rfl
theorem mv_pair (d : Nat) (ts : List Wr) (e : Option (Nat × Nat)) : mv d (ts, e) = (ts.map fun t => ⟨t.k, t.at_ + d, t.rs⟩, e.map fun e => (e.1 + d, e.2)) := rfl
theorem sc_mv (d : Nat) : ∀ (l : List Rn) (p k : Nat) (cur : List Rn), sc l (p + d) k cur = mv d (sc l p k cur)
  | [], p, k, cur => fin_mv d p k cur
  | r :: rs, p, k, cur => by
    rw [sc_cons r rs (p + d), sc_cons r rs p, fin_mv]
    by_cases hg : (r.ok && goR k r.c) = true
    · rw [if_pos hg, if_pos hg]
      exact sc_mv d rs p k _
    · rw [if_neg hg, if_neg hg]
      rcases fin p k cur with ⟨ts, e⟩
      rw [mv_pair]
      cases e with
      | some e => rfl
      | none =>
        rw [Option.map_none]
        dsimp only
        by_cases h1 : r.ok = false
        · rw [if_pos h1, if_pos h1, mv_pair, Option.map_some]
          rw [show p + d + wid cur = p + wid cur + d by omega]
        · rw [if_neg h1, if_neg h1]
          by_cases h2 : kndR r.c = 0 ∨ (kndR r.c = 1 ∧ k = 2)
          · rw [if_pos h2, if_pos h2, mv_pair, Option.map_some]
            rw [show p + d + wid cur = p + wid cur + d by omega]
          · rw [if_neg h2, if_neg h2, show p + d + wid cur = p + wid cur + d by omega, sc_mv d rs (p + wid cur), mv_pair]
            rcases sc rs (p + wid cur) (kndR r.c) [r] with ⟨ts2, e2⟩
            rw [mv_pair, List.map_append]
/-- where white begins, or a comment, does not matter but for an error's place -/
theorem sc_wht (k : Nat) (hk : k = 4 ∨ k = 5) : ∀ (l : List Rn) (p p' : Nat) (cur cur' : List Rn), p + wid cur = p' + wid cur' → sc l p k cur = sc l p' k cur'
  | [], p, p', cur, cur', h => by rw [sc_nil, sc_nil]; unfold fin; rw [if_pos hk, if_pos hk]
  | r :: rs, p, p', cur, cur', h => by
    rw [sc_cons r rs p, sc_cons r rs p']
    by_cases hg : (r.ok && goR k r.c) = true
    · rw [if_pos hg, if_pos hg]
      exact sc_wht k hk rs p p' _ _ (by rw [wid_app, wid_app, wid_one]; omega)
    · rw [if_neg hg, if_neg hg]
      unfold fin
      rw [if_pos hk, if_pos hk]
      dsimp only
      rw [h]
theorem go_nl (k : Nat) : goR k 10 = decide (k = 4) := by
  unfold goR
  by_cases h1 : k = 1
  · subst h1; decide
  by_cases h2 : k = 2
  · subst h2; decide
  by_cases h3 : k = 3
  · subst h3; decide
  by_cases h4 : k = 4
  · subst h4; decide
  by_cases h5 : k = 5
  · subst h5; decide
  simp [h1, h2, h3, h4, h5]
def nl : Rn := ⟨10, 1, true⟩
/-- two sources with a line feed between -/
theorem sc_join : ∀ (l m : List Rn) (p k : Nat) (cur : List Rn), sc (l ++ nl :: m) p k cur =
    match sc l p k cur with
    | (ts, some e) => (ts, some e)
    | (ts, none) => (ts ++ (sc m (p + wid cur + wid l) 4 [nl]).1, (sc m (p + wid cur + wid l) 4 [nl]).2)
  | [], m, p, k, cur => by
    rw [List.nil_append, sc_cons nl m, sc_nil]
    rw [show nl.ok = true from rfl, show nl.c = 10 from rfl, go_nl, Bool.true_and, wid_nil, Nat.add_zero]
    by_cases h4 : k = 4
    · subst h4
      rw [decide_eq_true rfl, if_pos rfl]
      unfold fin
      rw [if_pos (.inl rfl)]
      dsimp only
      rw [List.nil_append]
      exact sc_wht 4 (.inl rfl) m p (p + wid cur) (cur ++ [nl]) [nl] (by rw [wid_app, wid_one]; omega)
    · rw [decide_eq_false h4, if_neg (by decide)]
      rcases fin p k cur with ⟨ts, e⟩
      cases e with
      | some e => rfl
      | none =>
        dsimp only
        rw [if_neg (by decide), show kndR 10 = 4 from by decide, if_neg (by omega)]
  | r :: l, m, p, k, cur => by
    rw [List.cons_append, sc_cons r (l ++ nl :: m), sc_cons r l]
    by_cases hg : (r.ok && goR k r.c) = true
    · rw [if_pos hg, if_pos hg, sc_join l m p k (cur ++ [r])]
      rw [show p + wid (cur ++ [r]) + wid l = p + wid cur + wid (r :: l) by rw [wid_app, wid_one]; unfold wid; simp only [List.map_cons, List.sum_cons]; omega]
    · rw [if_neg hg, if_neg hg]
      rcases fin p k cur with ⟨ts, e⟩
      cases e with
      | some e => rfl
      | none =>
        dsimp only
        by_cases h1 : r.ok = false
        · rw [if_pos h1, if_pos h1]
        · rw [if_neg h1, if_neg h1]
          by_cases h2 : kndR r.c = 0 ∨ (kndR r.c = 1 ∧ k = 2)
          · rw [if_pos h2, if_pos h2]
          · rw [if_neg h2, if_neg h2, sc_join l m (p + wid cur) (kndR r.c) [r]]
            rw [show p + wid cur + wid [r] + wid l = p + wid cur + wid (r :: l) by rw [wid_one]; unfold wid; simp only [List.map_cons, List.sum_cons]; omega]
            rcases sc l (p + wid cur) (kndR r.c) [r] with ⟨ts2, e2⟩
            cases e2 with
            | some e2 => rfl
            | none => dsimp only; rw [List.append_assoc]
end Sn
end Go.Proofs.YtaocplcmmpbjjaaDoor
