/- Plain: the machine by places, and by runes. -/
import Derived.Test.YtaocplcmmpbjjaaDoorSJ
namespace Go.Proofs.YtaocplcmmpbjjaaDoor
open Go Go.RowKit
namespace Sn
set_option linter.unusedVariables false
set_option linter.unusedSimpArgs false
/-- a word by its places -/
structure Tok where
  k : Nat
  p : Nat
  b : Nat
def finS (s : ByteArray) (p b k : Nat) : List Tok × Option (Nat × Nat) :=
  if k = 4 ∨ k = 5 then ([], none) else if k = 2 ∧ numR (s.extract p b) = none then ([], some (p, 3)) else ([⟨k, p, b⟩], none)
/-- the machine by places -/
def tl (s : ByteArray) : Nat → Nat → Nat → Nat → List Tok × Option (Nat × Nat)
  | 0, pos, p, k => finS s p pos k
  | f + 1, pos, p, k => if pos < s.size then
      (if okR s pos && goR k (Utf8.decode s pos).1 then tl s f (pos + (Utf8.decode s pos).2) p k
      else match finS s p pos k with
        | (ts, some e) => (ts, some e)
        | (ts, none) =>
          if okR s pos = false then (ts, some (pos, 4))
          else if kndR (Utf8.decode s pos).1 = 0 ∨ (kndR (Utf8.decode s pos).1 = 1 ∧ k = 2) then (ts, some (pos, 7))
          else (ts ++ (tl s f (pos + (Utf8.decode s pos).2) pos (kndR (Utf8.decode s pos).1)).1, (tl s f (pos + (Utf8.decode s pos).2) pos (kndR (Utf8.decode s pos).1)).2))
    else finS s p pos k
def tokOf (t : Wr) : Tok := ⟨t.k, t.at_, t.at_ + wid t.rs⟩
def toks (q : List Wr × Option (Nat × Nat)) : List Tok × Option (Nat × Nat) := (q.1.map tokOf, q.2)
/-- the part under way -/
structure Cur (s : ByteArray) (p pos k : Nat) (cur : List Rn) : Prop where
  w : p + wid cur = pos
  le : pos ≤ s.size
  dig : k = 2 → ∃ ds : List Nat, ds ≠ [] ∧ (∀ d ∈ ds, d ≤ 9) ∧ p + ds.length = pos ∧ (∀ i d, ds[i]? = some d → Utf8.decode s (p + i) = (48 + d, 1)) ∧ valR cur = valD ds 0
theorem width_le (s : ByteArray) (p : Nat) (h : p < s.size) : p + (Utf8.decode s p).2 ≤ s.size := by
  simp only [Utf8.decode]
  repeat' split
  all_goals simp_all [Utf8.runeError]
  all_goals omega
theorem finS_fin {s : ByteArray} {p pos k : Nat} {cur : List Rn} (h : Cur s p pos k cur) : finS s p pos k = toks (fin p k cur) := by
  unfold finS fin
  by_cases h45 : k = 4 ∨ k = 5
  · rw [if_pos h45, if_pos h45]
    rfl
  rw [if_neg h45, if_neg h45]
  have hok : toks ([⟨k, p, cur⟩], none) = ([⟨k, p, pos⟩], none) := by
    unfold toks tokOf
    rw [← h.w]
    rfl
  by_cases h2 : k = 2
  · obtain ⟨ds, h0, h9, hl, hd, hv⟩ := h.dig h2
    have hn := numR_digits (s.extract p pos) ds h9 (by rw [ByteArray.size_extract]; have := h.le; omega) h0 (fun i d hi => by
      have hlt := (List.getElem?_eq_some_iff.1 hi).1
      have he := hd i d hi
      have h9' := h9 d (List.mem_of_getElem? hi)
      rw [decode_cut s p pos i (by omega) h.le (by rw [he]; show 48 + d < 128; omega), he])
    rw [hv]
    by_cases hb : 18446744073709551615 < valD ds 0
    · rw [if_pos hb] at hn
      rw [if_pos ⟨h2, hn⟩, if_pos ⟨h2, by omega⟩]
      rfl
    · rw [if_neg hb] at hn
      rw [if_neg (by rw [hn]; simp), if_neg (by omega), hok]
  · rw [if_neg (fun h => h2 h.1), if_neg (fun h => h2 h.1), hok]
theorem dig_of (s : ByteArray) (pos : Nat) (hp : pos < s.size) (h : digR (Utf8.decode s pos).1 = true) : ∃ d, d ≤ 9 ∧ Utf8.decode s pos = (48 + d, 1) := by
  unfold digR at h
  rw [Bool.and_eq_true, decide_eq_true_eq, decide_eq_true_eq] at h
  obtain ⟨_, h2⟩ := decode_low s pos hp (by omega)
  refine ⟨(Utf8.decode s pos).1 - 48, by omega, ?_⟩
  rw [h2] at h ⊢
  show ((s[pos]'hp).toNat, 1) = (48 + ((s[pos]'hp).toNat - 48), 1)
  have h3 : 48 ≤ (s[pos]'hp).toNat := h.1
  rw [show 48 + ((s[pos]'hp).toNat - 48) = (s[pos]'hp).toNat by omega]
theorem valR_app (cur : List Rn) (r : Rn) : valR (cur ++ [r]) = valR cur * 10 + (r.c - 48) := by unfold valR; rw [List.foldl_append]; rfl
theorem valD_app (ds : List Nat) (d : Nat) : valD (ds ++ [d]) 0 = valD ds 0 * 10 + d := by unfold valD; rw [List.foldl_append]; rfl
theorem Cur.more {s : ByteArray} {p pos k : Nat} {cur : List Rn} (h : Cur s p pos k cur) (hp : pos < s.size) (hg : goR k (Utf8.decode s pos).1 = true) :
    Cur s p (pos + (Utf8.decode s pos).2) k (cur ++ [⟨(Utf8.decode s pos).1, (Utf8.decode s pos).2, okR s pos⟩]) := by
  refine ⟨?_, width_le s pos hp, fun h2 => ?_⟩
  · rw [wid_app, wid_one, ← Nat.add_assoc, h.w]
  · obtain ⟨ds, h0, h9, hl, hd, hv⟩ := h.dig h2
    subst h2
    obtain ⟨d, hd9, hdec⟩ := dig_of s pos hp hg
    refine ⟨ds ++ [d], by simp, fun x hx => ?_, ?_, fun i x hx => ?_, ?_⟩
    · rcases List.mem_append.1 hx with h | h
      · exact h9 x h
      · rw [List.mem_singleton.1 h]; exact hd9
    · rw [hdec, List.length_append]
      show p + (ds.length + 1) = pos + 1
      omega
    · rcases Nat.lt_or_ge i ds.length with hi | hi
      · rw [List.getElem?_append_left hi] at hx
        exact hd i x hx
      · rw [List.getElem?_append_right hi] at hx
        have hi0 : i - ds.length = 0 := by
          have := (List.getElem?_eq_some_iff.1 hx).1
          simp at this
          omega
        rw [hi0] at hx
        simp at hx
        subst hx
        rw [show p + i = pos by omega]
        exact hdec
    · rw [valR_app, valD_app, hv, hdec]
      show valD ds 0 * 10 + (48 + d - 48) = _
      rw [show 48 + d - 48 = d by omega]
theorem Cur.new {s : ByteArray} {pos : Nat} (hp : pos < s.size) : Cur s pos (pos + (Utf8.decode s pos).2) (kndR (Utf8.decode s pos).1) [⟨(Utf8.decode s pos).1, (Utf8.decode s pos).2, okR s pos⟩] := by
  refine ⟨by rw [wid_one], width_le s pos hp, fun h2 => ?_⟩
  have hg : digR (Utf8.decode s pos).1 = true := by
    unfold kndR at h2
    split at h2
    · omega
    · split at h2
      · assumption
      · split at h2
        · omega
        · split at h2
          · omega
          · split at h2 <;> omega
  obtain ⟨d, hd9, hdec⟩ := dig_of s pos hp hg
  refine ⟨[d], by simp, fun x hx => by rw [List.mem_singleton.1 hx]; exact hd9, by rw [hdec]; rfl, fun i x hx => ?_, ?_⟩
  · have hi0 : i = 0 := by
      have := (List.getElem?_eq_some_iff.1 hx).1
      simp at this
      exact this
    subst hi0
    simp at hx
    subst hx
    exact hdec
  · rw [hdec]
    show 0 * 10 + (48 + d - 48) = 0 * 10 + d
    omega
theorem tl_sc (s : ByteArray) : ∀ (f pos p k : Nat) (cur : List Rn), s.size ≤ pos + f → Cur s p pos k cur → tl s f pos p k = toks (sc (rnsF s f pos) p k cur)
  | 0, pos, p, k, cur, hf, hc => finS_fin hc
  | f + 1, pos, p, k, cur, hf, hc => by
    by_cases hp : pos < s.size
    · have hw := Lib.width_pos s pos
      rw [rnsF_step s f pos hp, sc_cons]
      show (if pos < s.size then _ else _) = _
      rw [if_pos hp]
      by_cases hg : (okR s pos && goR k (Utf8.decode s pos).1) = true
      · rw [if_pos hg, if_pos hg]
        exact tl_sc s f _ p k _ (by omega) (hc.more hp ((Bool.and_eq_true _ _ ▸ hg : _ ∧ _).2))
      · rw [if_neg hg, if_neg hg, finS_fin hc]
        rcases fin p k cur with ⟨ts, e⟩
        cases e with
        | some e => rfl
        | none =>
          show (if okR s pos = false then _ else _) = toks (if okR s pos = false then _ else _)
          rw [hc.w]
          by_cases h1 : okR s pos = false
          · rw [if_pos h1, if_pos h1]
            rfl
          · rw [if_neg h1, if_neg h1]
            by_cases h2 : kndR (Utf8.decode s pos).1 = 0 ∨ (kndR (Utf8.decode s pos).1 = 1 ∧ k = 2)
            · rw [if_pos h2, if_pos h2]
              rfl
            · rw [if_neg h2, if_neg h2, tl_sc s f _ pos _ _ (by omega) (Cur.new hp)]
              unfold toks
              rw [List.map_append]
    · rw [rnsF_end s _ pos hp, sc_nil]
      show (if pos < s.size then _ else _) = _
      rw [if_neg hp]
      exact finS_fin hc
end Sn
end Go.Proofs.YtaocplcmmpbjjaaDoor
