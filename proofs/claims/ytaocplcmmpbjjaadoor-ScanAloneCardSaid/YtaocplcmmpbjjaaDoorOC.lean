/- Plain: a word alone; what it tells as a number. -/
import Derived.Test.YtaocplcmmpbjjaaDoorOA
namespace Go.Proofs.YtaocplcmmpbjjaaDoor
open Go Go.RowKit
namespace Sn
set_option linter.unusedVariables false
set_option linter.unusedSimpArgs false
def numN : List Rn → Nat → Option Nat
  | [], n => some n
  | r :: rs, n => if digR r.c then (if (18446744073709551615 - (r.c - 48)) / 10 < n then none else numN rs (10 * n + (r.c - 48))) else none
theorem numF_numN (s : ByteArray) : ∀ (f p n : Nat), numF s f p n = numN (rnsF s f p) n
  | 0, p, n => rfl
  | f + 1, p, n => by
    by_cases hp : p < s.size
    · rw [numF_step s f p n hp, rnsF_step s f p hp]
      show _ = (if digR (Utf8.decode s p).1 then _ else _)
      rw [numF_numN s f]
    · rw [numF_end s (f + 1) p n hp, rnsF_end s (f + 1) p hp]
      rfl
theorem numR_numN (s : ByteArray) (h : s.size ≠ 0) : numR s = numN (rn (Bs s)) 0 := by
  unfold numR
  rw [if_neg h, numF_numN, rns_rn]
theorem numN_dig : ∀ (rs : List Rn) (n : Nat), (∀ r ∈ rs, digR r.c = true) → numN rs n = numD (rs.map fun r => r.c - 48) n
  | [], n, _ => rfl
  | r :: rs, n, h => by
    show (if digR r.c then _ else _) = (if _ then _ else _)
    rw [if_pos (h r (by simp)), numN_dig rs _ (fun x hx => h x (by simp [hx]))]
theorem valD_map : ∀ (rs : List Rn) (n : Nat), valD (rs.map fun r => r.c - 48) n = rs.foldl (fun v r => v * 10 + (r.c - 48)) n
  | [], n => rfl
  | r :: rs, n => valD_map rs _
theorem knd_2 {c : Nat} (h : kndR c = 2) : digR c = true := by
  unfold kndR at h
  split at h
  · omega
  · split at h
    · assumption
    · split at h
      · omega
      · split at h
        · omega
        · split at h <;> omega
theorem knd_13 {c : Nat} (h : kndR c = 1 ∨ kndR c = 3) : digR c = false := by
  cases hd : digR c with
  | false => rfl
  | true =>
    exfalso
    unfold kndR at h
    have hl : letR c = false := by
      unfold digR at hd
      rw [Bool.and_eq_true, decide_eq_true_eq, decide_eq_true_eq] at hd
      unfold letR
      rw [if_pos (by omega)]
      simp
      omega
    rw [hl, hd] at h
    simp at h
theorem dig_le {c : Nat} (h : digR c = true) : c - 48 ≤ 9 := by
  unfold digR at h
  rw [Bool.and_eq_true, decide_eq_true_eq, decide_eq_true_eq] at h
  omega
/-- what a word tells as a number -/
theorem num_word {k : Nat} {rs : List Rn} (h : WOk k rs) : (numN rs 0).isSome = decide (k = 2) := by
  obtain ⟨hk, ⟨r0, rest, rfl, h0, h1, h2⟩, h3⟩ := h
  by_cases hk2 : k = 2
  · subst hk2
    have hd : ∀ r ∈ r0 :: rest, digR r.c = true := fun r hr => by
      rcases List.mem_cons.1 hr with rfl | hr
      · exact knd_2 h1
      · exact (h2 r hr).2
    rw [numN_dig _ _ hd, numD_eq _ 0 (fun d hd' => by
      obtain ⟨r, hr, rfl⟩ := List.mem_map.1 hd'
      exact dig_le (hd r hr)) (by omega), valD_map]
    have : valR (r0 :: rest) < 18446744073709551616 := h3 rfl
    unfold valR at this
    rw [if_neg (by omega)]
    rfl
  · rw [decide_eq_false hk2]
    show (if digR r0.c then _ else _ : Option Nat).isSome = false
    rw [knd_13 (by omega), if_neg (by decide)]
    rfl
/-! ### a word alone, and two -/
theorem wid_pos {k : Nat} {rs : List Rn} {l : List UInt8} (h : WOk k rs) (hl : rn l = rs) : 0 < l.length := by
  obtain ⟨_, ⟨r0, rest, rfl, _⟩, _⟩ := h
  rcases l with _ | ⟨a, l⟩
  · cases hl
  · exact Nat.succ_pos _
theorem scn_one {X : ByteArray} {k : Nat} {rs : List Rn} (h : WOk k rs) (hX : rn (Bs X) = rs) : (scn X).2 = none ∧ Tx X = [⟨k, X, 0⟩] := by
  have hs : scn X = ([⟨k, 0, rs⟩], none) := by
    unfold scn
    rw [hX, ← List.append_nil rs, sc_word h, List.append_nil, sc_nil, fin_word h]
    rfl
  refine ⟨by rw [hs], ?_⟩
  unfold Tx
  rw [hs]
  show [wtv (Bs X) ⟨k, 0, rs⟩] = _
  have hw := rn_wid _ (Bs X) (Nat.le_refl _)
  rw [hX] at hw
  unfold wtv wtx
  show [(⟨k, ⟨(List.take (wid rs) (List.drop 0 (Bs X))).toArray⟩, 0⟩ : TV)] = _
  rw [List.drop_zero, hw, List.take_length]
theorem scn_two {X Y : ByteArray} {k j : Nat} {rs qs : List Rn} (h : WOk k rs) (hX : rn (Bs X) = rs) (g : WOk j qs) (hY : rn (Bs Y) = qs) :
    (scn (X ++ ⟨#[35]⟩ ++ nlB ++ Y)).2 = none ∧ Tx (X ++ ⟨#[35]⟩ ++ nlB ++ Y) = [⟨k, X, 0⟩, ⟨j, Y, X.size + 2⟩] := by
  have hwx := rn_wid _ (Bs X) (Nat.le_refl _)
  have hwy := rn_wid _ (Bs Y) (Nat.le_refl _)
  rw [hX] at hwx
  rw [hY] at hwy
  have hB : Bs (X ++ ⟨#[35]⟩ ++ nlB ++ Y) = Bs X ++ 35 :: 10 :: Bs Y := by
    rw [bs_app, bs_app, bs_app, List.append_assoc, List.append_assoc]
    rfl
  have hr : rn (Bs (X ++ ⟨#[35]⟩ ++ nlB ++ Y)) = rs ++ hs :: nl :: qs := by
    rw [hB, rn_app _ (Bs X) _ (Nat.le_refl _) (.inr ⟨35, _, rfl, by decide⟩), rn_asc 35 _ (by decide), rn_asc 10 _ (by decide), hX, hY]
    rfl
  have hs' : scn (X ++ ⟨#[35]⟩ ++ nlB ++ Y) = ([⟨k, 0, rs⟩, ⟨j, X.size + 2, qs⟩], none) := by
    unfold scn
    rw [hr, sc_word h, sc_hs h, ← List.append_nil qs, sc_word g, List.append_nil, sc_nil, fin_word g, wid_one, wid_nil]
    show ([(⟨k, 0, rs⟩ : Wr), ⟨j, 0 + 0 + wid rs + 1 + nl.n, qs⟩], none) = _
    rw [hwx, bs_size, show nl.n = 1 from rfl, show 0 + 0 + X.size + 1 + 1 = X.size + 2 by omega]
  refine ⟨by rw [hs'], ?_⟩
  unfold Tx
  rw [hs', hB]
  show [wtv _ ⟨k, 0, rs⟩, wtv _ ⟨j, X.size + 2, qs⟩] = _
  unfold wtv wtx
  show [(⟨k, ⟨(List.take (wid rs) (List.drop 0 (Bs X ++ 35 :: 10 :: Bs Y))).toArray⟩, 0⟩ : TV), ⟨j, ⟨(List.take (wid qs) (List.drop (X.size + 2) (Bs X ++ 35 :: 10 :: Bs Y))).toArray⟩, X.size + 2⟩] = _
  have e1 : List.take (wid rs) (List.drop 0 (Bs X ++ 35 :: 10 :: Bs Y)) = Bs X := by rw [List.drop_zero, hwx, List.take_left]
  have e2 : List.take (wid qs) (List.drop (X.size + 2) (Bs X ++ 35 :: 10 :: Bs Y)) = Bs Y := by
    rw [show Bs X ++ 35 :: 10 :: Bs Y = (Bs X ++ [35, 10]) ++ Bs Y by simp, List.drop_left' (by rw [List.length_append, bs_size]; rfl), hwy, List.take_length]
  rw [e1, e2]
/-- a nought ahead does not matter -/
theorem num_zero (X : ByteArray) (h : X.size ≠ 0) : ((numR (⟨#[48]⟩ ++ X)).getD 0) = (numR X).getD 0 := by
  have hs : (⟨#[48]⟩ ++ X : ByteArray).size ≠ 0 := by
    rw [← bs_size, bs_app, List.length_append]
    show 1 + _ ≠ 0
    omega
  rw [numR_numN _ hs, numR_numN _ h, bs_app]
  show (numN (rn (48 :: Bs X)) 0).getD 0 = _
  rw [rn_asc 48 _ (by decide)]
  show (if digR 48 then (if (18446744073709551615 - (48 - 48)) / 10 < 0 then none else numN (rn (Bs X)) (10 * 0 + (48 - 48))) else none : Option Nat).getD 0 = _
  rw [if_pos (by decide), if_neg (by decide)]
/-! ### words of one byte -/
theorem dec_low {l : List UInt8} (h : (decL l).1 < 128) (h0 : l ≠ []) : ∃ b r, l = b :: r ∧ b.toNat = (decL l).1 ∧ (decL l).2 = 1 := by
  have h1 := decL_drop ⟨l.toArray⟩ 0
  have e0 : (ByteArray.mk l.toArray).data.toList.drop 0 = l := by simp
  rw [e0] at h1
  have hl : 0 < l.length := List.length_pos_iff.2 h0
  have hs : (ByteArray.mk l.toArray).size = l.length := by show l.toArray.size = _; simp
  rw [h1] at h ⊢
  obtain ⟨h2, h3⟩ := decode_low ⟨l.toArray⟩ 0 (by rw [hs]; exact hl) h
  cases l with
  | nil => exact absurd rfl h0
  | cons b r =>
    refine ⟨b, r, rfl, ?_, by rw [h3]⟩
    rw [h3]
    rfl
theorem knd_3 {c : Nat} (h : kndR c = 3) : sgnR c = true ∧ letR c = false := by
  unfold kndR at h
  split at h
  · omega
  · rename_i h1
    split at h
    · omega
    · split at h
      · rename_i h2
        exact ⟨h2, by simpa using h1⟩
      · split at h
        · omega
        · split at h <;> omega
theorem knd_1 {c : Nat} (h : kndR c = 1) : letR c = true := by
  unfold kndR at h
  split at h
  · assumption
  · split at h
    · omega
    · split at h
      · omega
      · split at h
        · omega
        · split at h <;> omega
theorem sgn_lt {c : Nat} (h : sgnR c = true) : c < 128 := by
  unfold sgnR at h
  simp only [List.contains_cons, List.contains_nil, Bool.or_false, Bool.or_eq_true, beq_iff_eq] at h
  omega
/-- a sign is one byte, no letter -/
theorem word_sign {X : ByteArray} {rs : List Rn} (h : WOk 3 rs) (hX : rn (Bs X) = rs) : ∃ b : UInt8, Bs X = [b] ∧ letR b.toNat = false := by
  obtain ⟨_, ⟨r0, rest, rfl, h0, h1, h2⟩, _⟩ := h
  have hne : Bs X ≠ [] := by intro e; rw [e] at hX; cases hX
  have hre : rest = [] := by
    cases rest with
    | nil => rfl
    | cons r rest => exact absurd (h2 r (by simp)).2 (by show ¬ (false = true); decide)
  subst hre
  rw [rn_cons _ hne] at hX
  obtain ⟨e1, e2⟩ := List.cons.inj hX
  obtain ⟨s1, s2⟩ := knd_3 h1
  have hc : (decL (Bs X)).1 = r0.c := congrArg Rn.c e1
  obtain ⟨b, r, hb, hb2, hb3⟩ := dec_low (by rw [hc]; exact sgn_lt s1) hne
  rw [hb3, hb] at e2
  have hr : r = [] := by
    cases r with
    | nil => rfl
    | cons q r => rw [List.drop_one, List.tail_cons, rn_cons _ (by simp)] at e2; cases e2
  subst hr
  exact ⟨b, hb, by rw [hb2, hc]; exact s2⟩
/-- a name of one byte is a letter -/
theorem word_name {X : ByteArray} {rs : List Rn} (h : WOk 1 rs) (hX : rn (Bs X) = rs) (h1 : X.size = 1) : ∃ b : UInt8, Bs X = [b] ∧ letR b.toNat = true := by
  obtain ⟨_, ⟨r0, rest, rfl, h0, hk, h2⟩, _⟩ := h
  have hl : (Bs X).length = 1 := by rw [bs_size]; exact h1
  obtain ⟨b, hb⟩ := List.length_eq_one_iff.1 hl
  have hne : Bs X ≠ [] := by rw [hb]; simp
  rw [rn_cons _ hne] at hX
  obtain ⟨e1, e2⟩ := List.cons.inj hX
  have hc : (decL (Bs X)).1 = r0.c := congrArg Rn.c e1
  have ho : okL (Bs X) = true := (congrArg Rn.ok e1).trans h0
  by_cases hlt : b.toNat < 128
  · have hd : decL [b] = (b.toNat, 1) := by
      unfold decL Lib.decodeN
      simp only [List.getD_cons_zero]
      rw [if_pos hlt]
    rw [hb, hd] at hc
    exact ⟨b, hb, by rw [show b.toNat = r0.c from hc]; exact knd_1 hk⟩
  · exfalso
    have hd : decL [b] = (65533, 1) := by
      unfold decL Lib.decodeN
      simp only [List.getD_cons_zero, List.length_singleton]
      rw [if_neg hlt, if_neg (by omega), if_neg (by omega), if_neg (by omega)]
    rw [hb] at ho
    unfold okL at ho
    rw [hd] at ho
    simp at ho
end Sn
end Go.Proofs.YtaocplcmmpbjjaaDoor
