/- Plain: runes of rows of bytes that are put together, or cut; words of them. -/
import Derived.Test.YtaocplcmmpbjjaaDoorSV
namespace Go.Proofs.YtaocplcmmpbjjaaDoor
open Go Go.RowKit
namespace Sn
set_option linter.unusedVariables false
set_option linter.unusedSimpArgs false
def okL (l : List UInt8) : Bool := decide ((decL l).1 ≠ 65533) || decide (1 < (decL l).2)
def rnOf (l : List UInt8) : Rn := ⟨(decL l).1, (decL l).2, okL l⟩
def rnL : Nat → List UInt8 → List Rn
  | 0, _ => []
  | f + 1, l => if l = [] then [] else rnOf l :: rnL f (l.drop (decL l).2)
def rn (l : List UInt8) : List Rn := rnL l.length l
theorem decL_le (l : List UInt8) (h : l ≠ []) : (decL l).2 ≤ l.length := by
  have h1 := decL_drop ⟨l.toArray⟩ 0
  have hs : (ByteArray.mk l.toArray).size = l.length := by show l.toArray.size = _; simp
  have hl : 0 < l.length := List.length_pos_iff.2 h
  have h2 := width_le ⟨l.toArray⟩ 0 (by rw [hs]; exact hl)
  rw [← h1, hs] at h2
  simpa using h2
theorem rnL_fuel : ∀ (f g : Nat) (l : List UInt8), l.length ≤ f → l.length ≤ g → rnL f l = rnL g l
  | 0, 0, l, _, _ => rfl
  | 0, g + 1, l, hf, _ => by
    have : l = [] := List.eq_nil_of_length_eq_zero (by omega)
    subst this
    rfl
  | f + 1, 0, l, _, hg => by
    have : l = [] := List.eq_nil_of_length_eq_zero (by omega)
    subst this
    rfl
  | f + 1, g + 1, l, hf, hg => by
    show (if l = [] then [] else rnOf l :: rnL f (l.drop (decL l).2)) = (if l = [] then [] else rnOf l :: rnL g (l.drop (decL l).2))
    by_cases h : l = []
    · rw [if_pos h, if_pos h]
    · rw [if_neg h, if_neg h, rnL_fuel f g _ (by rw [List.length_drop]; have := decL_pos l; omega) (by rw [List.length_drop]; have := decL_pos l; omega)]
theorem rn_nil : rn [] = [] := rfl
theorem rn_cons (l : List UInt8) (h : l ≠ []) : rn l = rnOf l :: rn (l.drop (decL l).2) := by
  have hl : 0 < l.length := List.length_pos_iff.2 h
  have hp := decL_pos l
  unfold rn
  obtain ⟨n, hn⟩ : ∃ n, l.length = n + 1 := ⟨l.length - 1, by omega⟩
  rw [hn]
  show (if l = [] then [] else rnOf l :: rnL n (l.drop (decL l).2)) = _
  rw [if_neg h, rnL_fuel n _ _ (by rw [List.length_drop]; omega) (Nat.le_refl _)]
theorem rnsF_rnL (s : ByteArray) : ∀ (f p : Nat), rnsF s f p = rnL f (s.data.toList.drop p)
  | 0, p => rfl
  | f + 1, p => by
    have hs : s.data.toList.length = s.size := Array.length_toList
    show (if p < s.size then _ else _) = (if s.data.toList.drop p = [] then [] else _)
    by_cases hp : p < s.size
    · rw [if_pos hp, if_neg (by intro h; have := List.drop_eq_nil_iff.1 h; omega)]
      unfold rnOf okL okR
      rw [decL_drop, rnsF_rnL s f, List.drop_drop]
    · rw [if_neg hp, if_pos (List.drop_eq_nil_of_le (by omega))]
theorem rns_rn (s : ByteArray) : rnsF s s.size 0 = rn s.data.toList := by
  rw [rnsF_rnL, List.drop_zero]
  unfold rn
  rw [show s.data.toList.length = s.size from Array.length_toList]
theorem rn_wid : ∀ (n : Nat) (l : List UInt8), l.length ≤ n → wid (rn l) = l.length
  | 0, l, h => by
    have : l = [] := List.eq_nil_of_length_eq_zero (by omega)
    subst this
    rfl
  | n + 1, l, h => by
    by_cases h0 : l = []
    · subst h0; rfl
    · have h1 := decL_pos l
      have h2 := decL_le l h0
      rw [rn_cons l h0]
      have ih := rn_wid n (l.drop (decL l).2) (by rw [List.length_drop]; omega)
      rw [List.length_drop] at ih
      show (((rnOf l) :: rn (l.drop (decL l).2)).map (·.n)).sum = l.length
      rw [List.map_cons, List.sum_cons]
      have h3 : ((rn (l.drop (decL l).2)).map (·.n)).sum = l.length - (decL l).2 := ih
      rw [h3]
      show (decL l).2 + (l.length - (decL l).2) = l.length
      omega
/-- what begins with an ASCII byte, or nothing -/
def Asc (b : List UInt8) : Prop := b = [] ∨ ∃ h r, b = h :: r ∧ h.toNat < 128
theorem rn_app : ∀ (n : Nat) (a b : List UInt8), a.length ≤ n → Asc b → rn (a ++ b) = rn a ++ rn b
  | 0, a, b, h, _ => by
    have : a = [] := List.eq_nil_of_length_eq_zero (by omega)
    subst this
    rfl
  | n + 1, a, b, h, hb => by
    by_cases h0 : a = []
    · subst h0; rfl
    · have h1 := decL_pos a
      have h2 := decL_le a h0
      have hd := decL_app a b h0 hb
      rw [rn_cons (a ++ b) (by simp [h0]), rn_cons a h0]
      have : rnOf (a ++ b) = rnOf a := by unfold rnOf okL; rw [hd]
      rw [this, hd, List.drop_append_of_le_length h2, rn_app n _ b (by rw [List.length_drop]; omega) hb]
      rfl
theorem rn_asc (x : UInt8) (b : List UInt8) (hx : x.toNat < 128) : rn (x :: b) = ⟨x.toNat, 1, true⟩ :: rn b := by
  have hd : decL (x :: b) = (x.toNat, 1) := by
    unfold decL Lib.decodeN
    simp only [List.getD_cons_zero]
    rw [if_pos hx]
  rw [rn_cons _ (by simp)]
  have : rnOf (x :: b) = ⟨x.toNat, 1, true⟩ := by
    unfold rnOf okL
    rw [hd]
    have : decide (x.toNat ≠ 65533) = true := decide_eq_true (by omega)
    show (⟨x.toNat, 1, decide (x.toNat ≠ 65533) || _⟩ : Rn) = _
    rw [this]
    rfl
  rw [this, hd]
  rfl
/-- the rest behind some runes -/
theorem rn_drop : ∀ (a b : List Rn) (l : List UInt8), rn l = a ++ b → rn (l.drop (wid a)) = b
  | [], b, l, h => by rw [wid_nil, List.drop_zero]; exact h
  | r :: a, b, l, h => by
    have h0 : l ≠ [] := by intro e; subst e; rw [rn_nil] at h; cases h
    rw [rn_cons l h0, List.cons_append] at h
    obtain ⟨h1, h2⟩ := List.cons.inj h
    have hw : wid (r :: a) = (decL l).2 + wid a := by
      rw [← h1]
      unfold wid
      rw [List.map_cons, List.sum_cons]
      rfl
    rw [hw, ← List.drop_drop]
    exact rn_drop a b _ h2
/-- the runes of what is cut between two runes -/
theorem rn_take : ∀ (a b : List Rn) (l : List UInt8), rn l = a ++ b → rn (l.take (wid a)) = a
  | [], b, l, h => by rw [wid_nil, List.take_zero]; rfl
  | r :: a, b, l, h => by
    have h0 : l ≠ [] := by intro e; subst e; rw [rn_nil] at h; cases h
    have hp := decL_pos l
    rw [rn_cons l h0, List.cons_append] at h
    obtain ⟨h1, h2⟩ := List.cons.inj h
    have hw : wid (r :: a) = (decL l).2 + wid a := by
      rw [← h1]
      unfold wid
      rw [List.map_cons, List.sum_cons]
      rfl
    have hd := decL_take l ((decL l).2 + wid a) (by omega)
    have hne : l.take ((decL l).2 + wid a) ≠ [] := by
      intro e
      have := congrArg List.length e
      rw [List.length_take] at this
      have hl : 0 < l.length := List.length_pos_iff.2 h0
      simp only [List.length_nil] at this
      omega
    rw [hw, rn_cons _ hne]
    have : rnOf (l.take ((decL l).2 + wid a)) = r := by
      rw [← h1]
      unfold rnOf okL
      rw [hd]
    rw [this, hd, List.drop_take, show (decL l).2 + wid a - (decL l).2 = wid a by omega, rn_take a b _ h2]
theorem rn_mid {a m b : List Rn} {l : List UInt8} (h : rn l = a ++ m ++ b) : rn ((l.drop (wid a)).take (wid m)) = m := by
  rw [List.append_assoc] at h
  exact rn_take m b _ (rn_drop a (m ++ b) l h)
end Sn
end Go.Proofs.YtaocplcmmpbjjaaDoor
