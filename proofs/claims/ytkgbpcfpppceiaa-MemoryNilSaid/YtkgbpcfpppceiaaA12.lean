/- What the statements of memories share: numbers that may be, a word that was stored. -/
import Derived.Test.YtkgbpcfpppceiaaA11
namespace Go.Proofs.Ytkgbpcfpppceiaa
open Go Go.RowKit
namespace Mm
open Wd Nt
set_option linter.unusedVariables false
theorem u64_W {a : Int} (h : (Lit.int .u64 a).wf = true) : Wd.W a := by
  unfold Wd.W
  simp [Lit.wf, IntKind.min, IntKind.max, IntKind.signed, IntKind.bits] at h; omega
/-- what the loops over what was and what is now go by -/
structure StF (M M' : List Reg) (p v x : Int) (inB : Nat → Nat → Bool) (hit : Nat → Nat → Nat) : Prop where
  len : M'.length = M.length
  same : ∀ (i : Nat) (r s : Reg), M[i]? = some r → M'[i]? = some s → s.base = r.base ∧ s.bytes.length = r.bytes.length
  flag : ∀ (i k : Nat) (r : Reg), M[i]? = some r → k < r.bytes.length → inB i k = (decide (x = 0) && decide ((r.base + k - p) % 18446744073709551616 < 8))
  put : ∀ (i k : Nat) (r s : Reg), M[i]? = some r → M'[i]? = some s → k < r.bytes.length → inB i k = true → bt s.bytes k = v / 2 ^ (8 * ((r.base + k - p) % 18446744073709551616).toNat) % 256 ∧ r.write = true
  keep : ∀ (i k : Nat) (r s : Reg), M[i]? = some r → M'[i]? = some s → k < r.bytes.length → inB i k = false → bt s.bytes k = bt r.bytes k
  h0 : hit 0 0 = 0
  hk : ∀ (i k : Nat) (r : Reg), M[i]? = some r → k < r.bytes.length → hit i (k + 1) = hit i k + (if inB i k then 1 else 0)
  hi : ∀ (i : Nat) (r : Reg), M[i]? = some r → hit (i + 1) 0 = hit i r.bytes.length
  last : x = 0 → hit M.length 0 = 8
  bnd : ∀ i k, hit i k ≤ 8
theorem StF.fault {M : List Reg} {p v x : Int} (h : x ≠ 0) : StF M M p v x (fun _ _ => false) (fun _ _ => 0) :=
  ⟨rfl, fun i r s h1 h2 => by rw [h1] at h2; cases h2; exact ⟨rfl, rfl⟩, fun i k r h1 h2 => by rw [decide_eq_false h, Bool.false_and], fun i k r s h1 h2 h3 h4 => (by cases h4), fun i k r s h1 h2 _ _ => by rw [h1] at h2; cases h2; rfl,
    rfl, fun i k r _ _ => rfl, fun i r _ => rfl, fun h0 => absurd h0 h, fun _ _ => by omega⟩
theorem hitk (d k : Nat) : min 8 (k + 1 - d) = min 8 (k - d) + (if (decide (d ≤ k) && decide (k < d + 8)) = true then 1 else 0) := by
  by_cases h1 : d ≤ k
  · by_cases h2 : k < d + 8
    · rw [decide_eq_true h1, decide_eq_true h2, Bool.and_self, if_pos rfl]; omega
    · rw [decide_eq_false h2, Bool.and_false]; simp; omega
  · rw [decide_eq_false h1, Bool.false_and]; simp; omega
theorem StF.ok {M : List Reg} {p v : Int} {i0 : Nat} {r0 : Reg} (hM : Good M) (hO : Oks M) (hp : W p) (hv : W v) (hh : Hits M p 8 i0 r0) (hw : r0.write = true) :
    StF M (M.set i0 (r0.put p v)) p v 0 (fun i k => decide (i = i0) && (decide ((p - r0.base).toNat ≤ k) && decide (k < (p - r0.base).toNat + 8)))
      (fun i k => if i < i0 then 0 else if i = i0 then min 8 (k - (p - r0.base).toNat) else 8) := by
  obtain ⟨g1, g2, g3, g4⟩ := hh
  obtain ⟨d, hd⟩ : ∃ d, d = (p - r0.base).toNat := ⟨_, rfl⟩
  rw [← hd]
  have hpd : p = r0.base + d := by omega
  have hl0 : r0.len = r0.bytes.length := rfl
  have hdl : d + 8 ≤ r0.bytes.length := by omega
  have hs0 := hM.short i0 r0 g1
  have hf0 := hM.fits i0 r0 g1
  have hb0 := (hO r0 (List.mem_of_getElem? g1)).base
  unfold W at hb0 hp hv
  have hi0 := (List.getElem?_eq_some_iff.1 g1).1
  have hbyte : ∀ k, k < r0.bytes.length → bt (r0.put p v).bytes k = if d ≤ k ∧ k < d + 8 then byteOf v (k - d) else bt r0.bytes k := by
    intro k hk
    unfold Reg.put
    rw [← hd]
    exact bt_putN _ _ _ _ _ hdl
  refine ⟨List.length_set .., fun i r s h1 h2 => ?_, fun i k r h1 h2 => ?_, fun i k r s h1 h2 h3 h4 => ?_, fun i k r s h1 h2 h3 h4 => ?_, ?_, fun i k r h1 h2 => ?_, fun i r h1 => ?_, fun _ => ?_, fun i k => ?_⟩
  · rcases set_get g1 h2 with ⟨rfl, rfl⟩ | ⟨_, h3⟩
    · rw [g1] at h1; cases h1
      refine ⟨rfl, ?_⟩
      have := r0.put_len p v
      unfold Reg.len at this; omega
    · rw [h1] at h3; cases h3; exact ⟨rfl, rfl⟩
  · rw [decide_eq_true (rfl : (0 : Int) = 0), Bool.true_and, Bool.eq_iff_iff]
    simp only [Bool.and_eq_true, decide_eq_true_eq]
    have hb := (hO r (List.mem_of_getElem? h1)).base
    have hf := hM.fits i r h1
    unfold W at hb
    have hlr : r.len = r.bytes.length := rfl
    constructor
    · rintro ⟨rfl, h3, h4⟩
      rw [g1] at h1; cases h1
      omega
    · intro h3
      by_cases hi : i = i0
      · subst hi
        rw [g1] at h1; cases h1
        have := hM.short i r0 g1
        refine ⟨rfl, ?_, ?_⟩ <;> omega
      · exfalso
        rcases hM.apart i i0 r r0 h1 g1 hi with h4 | h4 <;> omega
  · simp only [Bool.and_eq_true, decide_eq_true_eq] at h4
    obtain ⟨rfl, h5, h6⟩ := h4
    rw [g1] at h1; cases h1
    rcases set_get g1 h2 with ⟨_, rfl⟩ | ⟨h7, _⟩
    · rw [hbyte k h3, if_pos ⟨h5, h6⟩]
      refine ⟨?_, hw⟩
      rw [byte_at]
      congr 1
      omega
    · exact absurd rfl h7
  · rcases set_get g1 h2 with ⟨rfl, rfl⟩ | ⟨_, h5⟩
    · rw [g1] at h1; cases h1
      rw [hbyte k h3, if_neg]
      intro h5
      rw [decide_eq_true rfl, decide_eq_true h5.1, decide_eq_true h5.2] at h4
      cases h4
    · rw [h1] at h5; cases h5; rfl
  · show (if 0 < i0 then 0 else if 0 = i0 then min 8 (0 - d) else 8) = 0
    by_cases h1 : 0 < i0
    · rw [if_pos h1]
    · rw [if_neg h1, if_pos (by omega)]; omega
  · show (if i < i0 then 0 else if i = i0 then min 8 (k + 1 - d) else 8) = (if i < i0 then 0 else if i = i0 then min 8 (k - d) else 8) + _
    by_cases h3 : i < i0
    · rw [if_pos h3, if_pos h3, decide_eq_false (by omega), Bool.false_and]; rfl
    · rw [if_neg h3, if_neg h3]
      by_cases h4 : i = i0
      · rw [if_pos h4, if_pos h4, decide_eq_true h4, Bool.true_and]; exact hitk d k
      · rw [if_neg h4, if_neg h4, decide_eq_false h4, Bool.false_and]; rfl
  · show (if i + 1 < i0 then 0 else if i + 1 = i0 then min 8 (0 - d) else 8) = (if i < i0 then 0 else if i = i0 then min 8 (r.bytes.length - d) else 8)
    by_cases h3 : i < i0
    · rw [if_pos h3]
      by_cases h4 : i + 1 < i0
      · rw [if_pos h4]
      · rw [if_neg h4, if_pos (by omega)]; omega
    · rw [if_neg h3, if_neg (by omega), if_neg (by omega)]
      by_cases h4 : i = i0
      · subst h4
        rw [g1] at h1; cases h1
        rw [if_pos rfl]; omega
      · rw [if_neg h4]
  · show (if M.length < i0 then 0 else if M.length = i0 then min 8 (0 - d) else 8) = 8
    rw [if_neg (by omega), if_neg (by omega)]
  · show (if i < i0 then 0 else if i = i0 then min 8 (k - d) else 8) ≤ 8
    split
    · omega
    · split <;> omega
end Mm
end Go.Proofs.Ytkgbpcfpppceiaa
