/- Plain: the machine's words. -/
import Derived.Test.YtaocplcmmpbjjaaDoorSW
namespace Go.Proofs.YtaocplcmmpbjjaaDoor
open Go Go.RowKit
namespace Sn
set_option linter.unusedVariables false
set_option linter.unusedSimpArgs false
/-- what a word is -/
def WOk (k : Nat) (rs : List Rn) : Prop := (k = 1 ∨ k = 2 ∨ k = 3) ∧ (∃ r0 rest, rs = r0 :: rest ∧ r0.ok = true ∧ kndR r0.c = k ∧ ∀ r ∈ rest, r.ok = true ∧ goR k r.c = true) ∧ (k = 2 → valR rs < 18446744073709551616)
/-- a part under way -/
def StOk (k : Nat) (cur : List Rn) : Prop := (k = 4 ∨ k = 5) ∨ ((k = 1 ∨ k = 2 ∨ k = 3) ∧ ∃ r0 rest, cur = r0 :: rest ∧ r0.ok = true ∧ kndR r0.c = k ∧ ∀ r ∈ rest, r.ok = true ∧ goR k r.c = true)
/-- words that lie one behind the other among these runes -/
def Ch : Nat → List Rn → List Wr → Prop
  | _, _, [] => True
  | p, tot, t :: ts => ∃ pre rest, tot = pre ++ t.rs ++ rest ∧ t.at_ = p + wid pre ∧ WOk t.k t.rs ∧ Ch (t.at_ + wid t.rs) rest ts
theorem ch_shift (p : Nat) (c l : List Rn) (ts : List Wr) (h : Ch (p + wid c) l ts) : Ch p (c ++ l) ts := by
  cases ts with
  | nil => trivial
  | cons t ts =>
    obtain ⟨pre, rest, h1, h2, h3, h4⟩ := h
    exact ⟨c ++ pre, rest, by rw [h1]; simp, by rw [h2, wid_app]; omega, h3, h4⟩
theorem fin_st {p k : Nat} {cur : List Rn} (h : StOk k cur) : (fin p k cur = ([], none) ∧ (k = 4 ∨ k = 5)) ∨ fin p k cur = ([], some (p, 3)) ∨ (fin p k cur = ([⟨k, p, cur⟩], none) ∧ WOk k cur) := by
  unfold fin
  rcases h with h | ⟨h, hr⟩
  · exact .inl ⟨by rw [if_pos h], h⟩
  · rw [if_neg (by omega)]
    by_cases h2 : k = 2 ∧ 18446744073709551616 ≤ valR cur
    · rw [if_pos h2]; exact .inr (.inl rfl)
    · rw [if_neg h2]; exact .inr (.inr ⟨rfl, h, hr, fun e => by omega⟩)
theorem StOk.more {k : Nat} {cur : List Rn} {r : Rn} (h : StOk k cur) (ho : r.ok = true) (hg : goR k r.c = true) : StOk k (cur ++ [r]) := by
  rcases h with h | ⟨h, r0, rest, h1, h2, h3, h4⟩
  · exact .inl h
  · refine .inr ⟨h, r0, rest ++ [r], by rw [h1]; rfl, h2, h3, fun x hx => ?_⟩
    rcases List.mem_append.1 hx with hx | hx
    · exact h4 x hx
    · rw [List.mem_singleton.1 hx]; exact ⟨ho, hg⟩
theorem StOk.new {r : Rn} (ho : r.ok = true) (hk : kndR r.c ≠ 0) : StOk (kndR r.c) [r] := by
  have h5 : kndR r.c ≤ 5 := by
    unfold kndR
    repeat' split
    all_goals omega
  by_cases h : kndR r.c = 4 ∨ kndR r.c = 5
  · exact .inl h
  · exact .inr ⟨by omega, r, [], rfl, ho, rfl, fun x hx => by cases hx⟩
theorem sc_ch : ∀ (l : List Rn) (p k : Nat) (cur : List Rn), StOk k cur → Ch p (cur ++ l) (sc l p k cur).1
  | [], p, k, cur, h => by
    rw [sc_nil]
    rcases fin_st (p := p) h with ⟨e, _⟩ | e | ⟨e, hw⟩
    · rw [e]; trivial
    · rw [e]; trivial
    · rw [e]; exact ⟨[], [], by simp, by rw [wid_nil]; rfl, hw, trivial⟩
  | r :: l, p, k, cur, h => by
    rw [sc_cons]
    by_cases hg : (r.ok && goR k r.c) = true
    · rw [if_pos hg]
      obtain ⟨h1, h2⟩ := Bool.and_eq_true _ _ ▸ hg
      have := sc_ch l p k (cur ++ [r]) (h.more h1 h2)
      rwa [List.append_assoc] at this
    · rw [if_neg hg]
      rcases fin_st (p := p) h with ⟨e, hk⟩ | e | ⟨e, hw⟩
      · rw [e]
        dsimp only
        split
        · trivial
        · split
          · trivial
          · rename_i h1 h2
            rw [List.nil_append]
            exact ch_shift p cur (r :: l) _ (sc_ch l (p + wid cur) (kndR r.c) [r] (StOk.new (by simpa using h1) (by omega)))
      · rw [e]; trivial
      · rw [e]
        dsimp only
        have one : ∀ X, Ch (p + wid cur) (r :: l) X → Ch p (cur ++ r :: l) (⟨k, p, cur⟩ :: X) := fun X hX => ⟨[], r :: l, by simp, by rw [wid_nil]; rfl, hw, hX⟩
        split
        · exact one [] trivial
        · split
          · exact one [] trivial
          · rename_i h1 h2
            exact one _ (sc_ch l (p + wid cur) (kndR r.c) [r] (StOk.new (by simpa using h1) (by omega)))
/-- what is no white -/
theorem knd_wht {c : Nat} (h : kndR c = 1 ∨ kndR c = 2 ∨ kndR c = 3) : whtR c = false := by
  cases hw : whtR c with
  | false => rfl
  | true =>
    exfalso
    unfold whtR at hw
    simp only [Bool.or_eq_true, decide_eq_true_eq] at hw
    rcases hw with ((rfl | rfl) | rfl) | rfl <;> revert h <;> decide
theorem go4 (c : Nat) : goR 4 c = whtR c := rfl
theorem sc_go : ∀ (rest l : List Rn) (p k : Nat) (cur : List Rn), (∀ r ∈ rest, r.ok = true ∧ goR k r.c = true) → sc (rest ++ l) p k cur = sc l p k (cur ++ rest)
  | [], l, p, k, cur, _ => by rw [List.nil_append, List.append_nil]
  | r :: rest, l, p, k, cur, h => by
    obtain ⟨h1, h2⟩ := h r (by simp)
    rw [List.cons_append, sc_cons, h1, h2, if_pos (by decide), sc_go rest l p k _ (fun x hx => h x (by simp [hx])), List.append_assoc]
    rfl
/-- a word, out of white -/
theorem sc_word {k : Nat} {rs : List Rn} (h : WOk k rs) (l : List Rn) (p : Nat) (cur : List Rn) : sc (rs ++ l) p 4 cur = sc l (p + wid cur) k rs := by
  obtain ⟨hk, ⟨r0, rest, rfl, h0, h1, h2⟩, _⟩ := h
  rw [List.cons_append, sc_cons, h0, go4, knd_wht (by omega), if_neg (by decide)]
  unfold fin
  rw [if_pos (.inl rfl)]
  dsimp only
  rw [if_neg (by decide), if_neg (by omega), h1, sc_go rest l _ k [r0] h2, List.nil_append]
  rfl
theorem fin_word {k p : Nat} {rs : List Rn} (h : WOk k rs) : fin p k rs = ([⟨k, p, rs⟩], none) := by
  obtain ⟨hk, _, h2⟩ := h
  unfold fin
  rw [if_neg (by omega), if_neg (fun h => by have := h2 h.1; omega)]
def bl : Rn := ⟨32, 1, true⟩
def hs : Rn := ⟨35, 1, true⟩
theorem go_end (k : Nat) (hk : k = 1 ∨ k = 2 ∨ k = 3) : goR k 32 = false ∧ goR k 35 = false ∧ goR k 10 = false := by
  rcases hk with rfl | rfl | rfl <;> decide
/-- a word ends at a blank -/
theorem sc_bl {k p : Nat} {rs : List Rn} (h : WOk k rs) (l : List Rn) : sc (bl :: l) p k rs = (⟨k, p, rs⟩ :: (sc l (p + wid rs) 4 [bl]).1, (sc l (p + wid rs) 4 [bl]).2) := by
  rw [sc_cons, show bl.ok = true from rfl, show bl.c = 32 from rfl, (go_end k h.1).1, if_neg (by decide), fin_word h]
  dsimp only
  rw [if_neg (by decide), show kndR 32 = 4 from by decide, if_neg (by omega)]
  rfl
/-- a word ends at a comment, which ends at a line feed -/
theorem sc_hs {k p : Nat} {rs : List Rn} (h : WOk k rs) (l : List Rn) : sc (hs :: nl :: l) p k rs = (⟨k, p, rs⟩ :: (sc l (p + wid rs + 1) 4 [nl]).1, (sc l (p + wid rs + 1) 4 [nl]).2) := by
  rw [sc_cons, show hs.ok = true from rfl, show hs.c = 35 from rfl, (go_end k h.1).2.1, if_neg (by decide), fin_word h]
  dsimp only
  rw [if_neg (by decide), show kndR 35 = 5 from by decide, if_neg (by omega)]
  rw [sc_cons, show nl.ok = true from rfl, show nl.c = 10 from rfl, go_nl, if_neg (by decide)]
  unfold fin
  rw [if_pos (.inr rfl)]
  dsimp only
  rw [if_neg (by decide), show kndR 10 = 4 from by decide, if_neg (by omega), wid_one]
  rfl
/-- words, a blank ahead of each, told again -/
def placed : List Wr → Nat → List Wr
  | [], _ => []
  | t :: ts, p => ⟨t.k, p + 1, t.rs⟩ :: placed ts (p + 1 + wid t.rs)
theorem sc_again : ∀ (ts : List Wr) (k p : Nat) (rs : List Rn), WOk k rs → (∀ t ∈ ts, WOk t.k t.rs) → sc (ts.flatMap fun t => bl :: t.rs) p k rs = (⟨k, p, rs⟩ :: placed ts (p + wid rs), none)
  | [], k, p, rs, h, _ => by
    show sc [] p k rs = _
    rw [sc_nil, fin_word h]
    rfl
  | t :: ts, k, p, rs, h, ht => by
    show sc (bl :: (t.rs ++ ts.flatMap fun t => bl :: t.rs)) p k rs = _
    rw [sc_bl h, sc_word (ht t (by simp)), wid_one, show bl.n = 1 from rfl, sc_again ts t.k _ t.rs (ht t (by simp)) (fun x hx => ht x (by simp [hx]))]
    rfl
theorem ch_ok : ∀ (ts : List Wr) (p : Nat) (tot : List Rn), Ch p tot ts → ∀ t ∈ ts, WOk t.k t.rs
  | [], _, _, _, t, ht => by cases ht
  | t :: ts, p, tot, ⟨_, _, _, _, h1, h2⟩, x, hx => by
    rcases List.mem_cons.1 hx with rfl | hx
    · exact h1
    · exact ch_ok ts _ _ h2 x hx
end Sn
end Go.Proofs.YtaocplcmmpbjjaaDoor
