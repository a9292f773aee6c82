/- Plain reckoning of memories of regions: which may be, where an address lies, words and bytes; no program in it. | Slices of bytes and of regions, as they lie in memory. -/
import Derived.Test.YtikbnfhnimjmmaaGreatDoorA1
import Derived.Lib.MinMax
namespace Go.Proofs.YtikbnfhnimjmmaaGreatDoor
open Go.RowKit
namespace Mm
open Wd
set_option linter.unusedVariables false
/-- a region: its first address, its bytes, whether it may be written -/
structure Reg where
  base : Int
  bytes : List Int
  write : Bool
def Reg.len (r : Reg) : Int := r.bytes.length
def Bs (bs : List Int) : Prop := ∀ x ∈ bs, 0 ≤ x ∧ x ≤ 255
structure Reg.ok (r : Reg) : Prop where
  base : W r.base
  bytes : Bs r.bytes
def Oks (rs : List Reg) : Prop := ∀ r ∈ rs, r.ok
theorem Reg.len_nonneg (r : Reg) : 0 ≤ r.len := Int.natCast_nonneg _

/-! ### which regions may be -/
def Long (rs : List Reg) : Prop := ∃ (i : Nat) (r : Reg), rs[i]? = some r ∧ 1048576 < r.len
def BadAt (rs : List Reg) (i : Nat) (r : Reg) : Prop :=
  r.len = 0 ∨ 18446744073709551616 < r.base + r.len ∨ ∃ (k : Nat) (s : Reg), k < i ∧ rs[k]? = some s ∧ s.base ≤ r.base + r.len - 1 ∧ r.base ≤ s.base + s.len - 1
def Bad (rs : List Reg) : Prop := ∃ (i : Nat) (r : Reg), rs[i]? = some r ∧ BadAt rs i r
def ChkO (rs : List Reg) (x : Int) : Prop :=
  ((8 < rs.length ∨ Long rs) ∧ x = 3) ∨ (rs.length ≤ 8 ∧ ¬ Long rs ∧ Bad rs ∧ x = 2) ∨ (rs.length ≤ 8 ∧ ¬ Long rs ∧ ¬ Bad rs ∧ x = 0)
theorem ChkO.uniq {rs : List Reg} {x y : Int} (h : ChkO rs x) (g : ChkO rs y) : x = y := by
  rcases h with ⟨a, b⟩ | ⟨a, b, c, d⟩ | ⟨a, b, c, d⟩ <;> rcases g with ⟨a', b'⟩ | ⟨a', b', c', d'⟩ | ⟨a', b', c', d'⟩
  · omega
  · rcases a with h | h
    · omega
    · exact absurd h b'
  · rcases a with h | h
    · omega
    · exact absurd h b'
  · rcases a' with h | h
    · omega
    · exact absurd h b
  · omega
  · exact absurd c c'
  · rcases a' with h | h
    · omega
    · exact absurd h b
  · exact absurd c' c
  · omega
/-- regions that may be -/
structure Good (rs : List Reg) : Prop where
  few : rs.length ≤ 8
  pos : ∀ (i : Nat) (r : Reg), rs[i]? = some r → 0 < r.len
  short : ∀ (i : Nat) (r : Reg), rs[i]? = some r → r.len ≤ 1048576
  fits : ∀ (i : Nat) (r : Reg), rs[i]? = some r → r.base + r.len ≤ 18446744073709551616
  apart : ∀ (i j : Nat) (r s : Reg), rs[i]? = some r → rs[j]? = some s → i ≠ j → r.base + r.len ≤ s.base ∨ s.base + s.len ≤ r.base
theorem ChkO.good {rs : List Reg} (h : ChkO rs 0) : Good rs := by
  rcases h with ⟨_, b⟩ | ⟨_, _, _, d⟩ | ⟨a, b, c, _⟩
  · omega
  · omega
  · have low : ∀ (i j : Nat) (r s : Reg), rs[i]? = some r → rs[j]? = some s → j < i → r.base + r.len ≤ s.base ∨ s.base + s.len ≤ r.base := by
      intro i j r s hi hj hji
      rcases Int.lt_or_le (r.base + r.len - 1) s.base with h1 | h1
      · left; omega
      · rcases Int.lt_or_le (s.base + s.len - 1) r.base with h2 | h2
        · right; omega
        · exact absurd ⟨i, r, hi, .inr (.inr ⟨j, s, hji, hj, h1, h2⟩)⟩ c
    refine ⟨a, fun i r h => ?_, fun i r h => ?_, fun i r h => ?_, fun i j r s hi hj hne => ?_⟩
    · have := r.len_nonneg
      rcases Int.lt_or_le 0 r.len with h1 | h1
      · exact h1
      · exact absurd ⟨i, r, h, .inl (by omega)⟩ c
    · rcases Int.lt_or_le 1048576 r.len with h1 | h1
      · exact absurd ⟨i, r, h, h1⟩ b
      · exact h1
    · rcases Int.lt_or_le 18446744073709551616 (r.base + r.len) with h1 | h1
      · exact absurd ⟨i, r, h, .inr (.inl h1)⟩ c
      · exact h1
    · rcases Nat.lt_or_ge j i with h1 | h1
      · exact low i j r s hi hj h1
      · rcases low j i s r hj hi (by omega) with h2 | h2
        · right; exact h2
        · left; exact h2

/-! ### what does not hang on the order -/
theorem getElem?_of_mem {rs : List Reg} {r : Reg} (h : r ∈ rs) : ∃ i : Nat, rs[i]? = some r := List.mem_iff_getElem?.1 h
/-- apart, said of pairs of places: the same for a row in another order -/
def far (r s : Reg) : Prop := r.base + r.len ≤ s.base ∨ s.base + s.len ≤ r.base
theorem far_symm {r s : Reg} (h : far r s) : far s r := h.symm
theorem pairwise_get {rs : List Reg} {R : Reg → Reg → Prop} : rs.Pairwise R ↔ ∀ (i j : Nat) (r s : Reg), rs[i]? = some r → rs[j]? = some s → i < j → R r s := by
  rw [List.pairwise_iff_getElem]
  constructor
  · intro h i j r s hi hj hij
    obtain ⟨h1, h2⟩ := List.getElem?_eq_some_iff.1 hi
    obtain ⟨h3, h4⟩ := List.getElem?_eq_some_iff.1 hj
    rw [← h2, ← h4]
    exact h i j h1 h3 hij
  · intro h i j hi hj hij
    exact h i j _ _ (List.getElem?_eq_getElem hi) (List.getElem?_eq_getElem hj) hij
structure GoodS (rs : List Reg) : Prop where
  few : rs.length ≤ 8
  each : ∀ r ∈ rs, 0 < r.len ∧ r.len ≤ 1048576 ∧ r.base + r.len ≤ 18446744073709551616
  apart : rs.Pairwise far
theorem Good.iff (rs : List Reg) : Good rs ↔ GoodS rs := by
  constructor
  · intro h
    refine ⟨h.few, fun r hr => ?_, pairwise_get.2 fun i j r s hi hj hij => h.apart i j r s hi hj (by omega)⟩
    obtain ⟨i, hi⟩ := getElem?_of_mem hr
    exact ⟨h.pos i r hi, h.short i r hi, h.fits i r hi⟩
  · intro h
    refine ⟨h.few, fun i r hi => (h.each r (List.mem_of_getElem? hi)).1, fun i r hi => (h.each r (List.mem_of_getElem? hi)).2.1, fun i r hi => (h.each r (List.mem_of_getElem? hi)).2.2, fun i j r s hi hj hne => ?_⟩
    rcases Nat.lt_or_ge i j with h1 | h1
    · exact pairwise_get.1 h.apart i j r s hi hj h1
    · exact far_symm (pairwise_get.1 h.apart j i s r hj hi (by omega))
theorem Good.perm {rs ss : List Reg} (h : Good rs) (p : rs.Perm ss) : Good ss := by
  rw [Good.iff] at h ⊢
  exact ⟨by rw [← p.length_eq]; exact h.few, fun r hr => h.each r (p.mem_iff.2 hr), (p.pairwise_iff far_symm).1 h.apart⟩
/-- rising by their first addresses -/
def Rising (rs : List Reg) : Prop := rs.Pairwise fun r s => r.base ≤ s.base
theorem far_base {r s : Reg} (h : far r s) (hr : 0 < r.len) (hs : 0 < s.len) : r.base ≠ s.base := by
  rcases h with h | h <;> omega
theorem rising_uniq {rs ss ts : List Reg} (h : Good rs) (p : ss.Perm rs) (q : ts.Perm rs) (hs : Rising ss) (ht : Rising ts) : ss = ts := by
  have hg := (Good.iff _).1 (h.perm p.symm)
  refine List.Perm.eq_of_pairwise (le := fun r s : Reg => r.base ≤ s.base) (fun a b ha hb h1 h2 => ?_) hs ht (p.trans q.symm)
  have hb' : b ∈ ss := (p.trans q.symm).mem_iff.2 hb
  obtain ⟨i, hi⟩ := getElem?_of_mem ha
  obtain ⟨j, hj⟩ := getElem?_of_mem hb'
  by_cases hij : i = j
  · subst hij
    rw [hi] at hj
    exact Option.some.inj hj
  · have hf := (Good.iff _).2 hg |>.apart i j a b hi hj hij
    exact absurd (Int.le_antisymm h1 h2) (far_base hf (hg.each a ha).1 (hg.each b hb').1)
theorem chk_perm {rs ss : List Reg} {x : Int} (p : rs.Perm ss) (h : ChkO rs x) : ChkO ss x := by
  have hl := p.length_eq
  have hlong : ∀ {a b : List Reg}, a.Perm b → Long a → Long b := by
    rintro a b p ⟨i, r, hi, h1⟩
    obtain ⟨j, hj⟩ := getElem?_of_mem (p.mem_iff.1 (List.mem_of_getElem? hi))
    exact ⟨j, r, hj, h1⟩
  have hbad : ∀ {a b : List Reg}, a.Perm b → a.length ≤ 8 → ¬ Long a → ¬ Bad a → ¬ Bad b := by
    intro a b p h1 h2 h3 ⟨i, r, hi, hb⟩
    have hg : Good b := (ChkO.good (.inr (.inr ⟨h1, h2, h3, rfl⟩))).perm p
    rcases hb with hb | hb | ⟨k, s, hk, hs, h4, h5⟩
    · have := hg.pos i r hi; omega
    · have := hg.fits i r hi; omega
    · rcases hg.apart i k r s hi hs (by omega) with h6 | h6 <;> omega
  rcases h with ⟨a, b⟩ | ⟨a, b, c, d⟩ | ⟨a, b, c, d⟩
  · refine .inl ⟨?_, b⟩
    rcases a with h | h
    · left; omega
    · right; exact hlong p h
  · refine .inr (.inl ⟨by omega, fun h => b (hlong p.symm h), ?_, d⟩)
    apply Classical.byContradiction
    intro hn
    exact hbad p.symm (by omega) (fun h => b (hlong p.symm h)) hn c
  · exact .inr (.inr ⟨by omega, fun h => b (hlong p.symm h), hbad p a b c, d⟩)

/-! ### where an address lies -/
def Hits (M : List Reg) (p n : Int) (i : Nat) (r : Reg) : Prop := M[i]? = some r ∧ r.base ≤ p ∧ p < r.base + r.len ∧ n ≤ r.len - (p - r.base)
theorem Hits.uniq {M : List Reg} {p n m : Int} {i j : Nat} {r s : Reg} (hM : Good M) (h : Hits M p n i r) (g : Hits M p m j s) : i = j ∧ r = s := by
  obtain ⟨h1, h2, h3, _⟩ := h
  obtain ⟨g1, g2, g3, _⟩ := g
  by_cases hij : i = j
  · subst hij
    rw [h1] at g1
    exact ⟨rfl, Option.some.inj g1⟩
  · rcases hM.apart i j r s h1 g1 hij with h | h <;> omega
def bt (bs : List Int) (k : Nat) : Int := bs[k]?.getD 0
theorem Bs.bt {bs : List Int} (h : Bs bs) (k : Nat) : 0 ≤ bt bs k ∧ bt bs k ≤ 255 := by
  unfold Mm.bt
  rcases Nat.lt_or_ge k bs.length with hk | hk
  · rw [List.getElem?_eq_getElem hk]; exact h _ (List.getElem_mem ..)
  · rw [List.getElem?_eq_none hk]; decide
theorem bt_lt {bs : List Int} {k : Nat} (h : k < bs.length) : bs[k]? = some (bt bs k) := by unfold bt; rw [List.getElem?_eq_getElem h]; rfl
theorem bt_set (bs : List Int) (k j : Nat) (v : Int) (hk : k < bs.length) : bt (bs.set k v) j = if j = k then v else bt bs j := by
  unfold bt
  by_cases h : j = k
  · subst h; rw [if_pos rfl, List.getElem?_set_self hk]; rfl
  · rw [if_neg h, List.getElem?_set_ne (fun e => h e.symm)]
theorem Bs.set {bs : List Int} (h : Bs bs) (k : Nat) {v : Int} (h0 : 0 ≤ v) (h1 : v ≤ 255) : Bs (bs.set k v) := by
  intro x hx
  rcases List.mem_or_eq_of_mem_set hx with h2 | h2
  · exact h x h2
  · rw [h2]; exact ⟨h0, h1⟩
/-- n bytes from k on as a number, the least one first -/
def wordN (bs : List Int) (k : Nat) : Nat → Int
  | 0 => 0
  | n + 1 => bt bs k + 256 * wordN bs (k + 1) n
def B256 : Nat → Int
  | 0 => 1
  | n + 1 => 256 * B256 n
theorem B256_pos (n : Nat) : 1 ≤ B256 n := by
  induction n with
  | zero => exact Int.le_refl _
  | succ n ih => unfold B256; omega
theorem wordN_bd {bs : List Int} (h : Bs bs) (k n : Nat) : 0 ≤ wordN bs k n ∧ wordN bs k n < B256 n := by
  induction n generalizing k with
  | zero => unfold wordN B256; omega
  | succ n ih =>
    have h1 := ih (k + 1)
    have h2 := h.bt k
    unfold wordN B256
    omega
/-- v's byte number i -/
def byteOf (v : Int) (i : Nat) : Int := v / B256 i % 256
theorem byteOf_bd (v : Int) (i : Nat) : 0 ≤ byteOf v i ∧ byteOf v i ≤ 255 := by unfold byteOf; omega
/-- the first n bytes of v laid from k on -/
def putN (bs : List Int) (k : Nat) (v : Int) : Nat → List Int
  | 0 => bs
  | n + 1 => (putN bs k v n).set (k + n) (byteOf v n)
theorem putN_len (bs : List Int) (k : Nat) (v : Int) (n : Nat) : (putN bs k v n).length = bs.length := by
  induction n with
  | zero => rfl
  | succ n ih => unfold putN; rw [List.length_set]; exact ih
theorem putN_bs {bs : List Int} (h : Bs bs) (k : Nat) (v : Int) (n : Nat) : Bs (putN bs k v n) := by
  induction n with
  | zero => exact h
  | succ n ih => exact ih.set _ (byteOf_bd v n).1 (byteOf_bd v n).2
theorem bt_putN (bs : List Int) (k : Nat) (v : Int) (n j : Nat) (hk : k + n ≤ bs.length) : bt (putN bs k v n) j = if k ≤ j ∧ j < k + n then byteOf v (j - k) else bt bs j := by
  induction n with
  | zero => rw [if_neg (by omega)]; rfl
  | succ n ih =>
    unfold putN
    rw [bt_set _ _ _ _ (by rw [putN_len]; omega)]
    by_cases h : j = k + n
    · rw [if_pos h, if_pos (by omega), h]; congr 1; omega
    · rw [if_neg h, ih (by omega)]
      by_cases h2 : k ≤ j ∧ j < k + n
      · rw [if_pos h2, if_pos (by omega)]
      · rw [if_neg h2, if_neg (by omega)]
theorem B256_div (v : Int) (n : Nat) : v / B256 (n + 1) = v / B256 n / 256 := by
  rw [Int.ediv_ediv_of_nonneg (by have := B256_pos n; omega)]
  show v / (256 * B256 n) = _
  rw [Int.mul_comm]
theorem emod_256 (u b : Int) (hb : 0 < b) : u % (256 * b) = u % 256 + 256 * (u / 256 % b) := by
  have h1 := Int.mul_ediv_add_emod u 256
  have h2 := Int.mul_ediv_add_emod (u / 256) b
  have h3 := Int.emod_nonneg (u / 256) (show b ≠ 0 by omega)
  have h4 := Int.emod_lt_of_pos (u / 256) hb
  generalize u / 256 % b = m at *
  generalize u / 256 / b = d at *
  have e : u = (u % 256 + 256 * m) + (256 * b) * d := by
    rw [Int.mul_assoc]
    omega
  have h5 : u % 256 + 256 * m < 256 * b := by omega
  have h6 : 0 ≤ u % 256 + 256 * m := by omega
  generalize u % 256 + 256 * m = k at *
  rw [e, Int.add_mul_emod_self_left, Int.emod_eq_of_lt h6 h5]
theorem wordN_of {bs : List Int} {k : Nat} {v : Int} (n i : Nat) (h : ∀ j, j < n → bt bs (k + j) = byteOf v (i + j)) : wordN bs k n = v / B256 i % B256 n := by
  induction n generalizing k i with
  | zero => show (0 : Int) = _; rw [show B256 0 = 1 from rfl, Int.emod_one]
  | succ n ih =>
    have h0 := h 0 (by omega)
    have h1 := ih (k := k + 1) (i + 1) (fun j hj => by have := h (j + 1) (by omega); rw [show k + 1 + j = k + (j + 1) by omega, show i + 1 + j = i + (j + 1) by omega]; exact this)
    unfold wordN
    rw [h1, B256_div]
    simp only [Nat.add_zero] at h0
    rw [h0]
    unfold byteOf
    generalize v / B256 i = u
    show u % 256 + 256 * (u / 256 % B256 n) = u % (256 * B256 n)
    rw [emod_256 _ _ (by have := B256_pos n; omega)]
theorem B256_8 : B256 8 = 18446744073709551616 := rfl
theorem word_put {bs : List Int} {k : Nat} {v : Int} (hv : W v) (hk : k + 8 ≤ bs.length) : wordN (putN bs k v 8) k 8 = v := by
  rw [wordN_of 8 0 (v := v) (fun j hj => by rw [bt_putN _ _ _ _ _ hk, if_pos (by omega)]; congr 1; omega), B256_8]
  unfold W at hv
  rw [show B256 0 = 1 from rfl, Int.ediv_one]
  omega

/-! ### what is told, what is laid -/
def LoadO (M : List Reg) (p v e : Int) : Prop := (∃ i r, Hits M p 8 i r ∧ v = wordN r.bytes (p - r.base).toNat 8 ∧ e = 0) ∨ ((∀ i r, ¬ Hits M p 8 i r) ∧ v = 0 ∧ e = 11)
theorem LoadO.uniq {M : List Reg} {p v e v' e' : Int} (hM : Good M) (h : LoadO M p v e) (g : LoadO M p v' e') : v = v' ∧ e = e' := by
  rcases h with ⟨i, r, a, b, c⟩ | ⟨a, b, c⟩ <;> rcases g with ⟨i', r', a', b', c'⟩ | ⟨a', b', c'⟩
  · obtain ⟨rfl, rfl⟩ := a.uniq hM a'
    exact ⟨by rw [b, b'], by rw [c, c']⟩
  · exact absurd a (a' _ _)
  · exact absurd a' (a _ _)
  · exact ⟨by rw [b, b'], by rw [c, c']⟩
def Reg.put (r : Reg) (p v : Int) : Reg := { r with bytes := putN r.bytes (p - r.base).toNat v 8 }
theorem Reg.put_len (r : Reg) (p v : Int) : (r.put p v).len = r.len := by unfold Reg.len Reg.put; rw [putN_len]
def StoreO (M : List Reg) (p v : Int) (M' : List Reg) (e : Int) : Prop :=
  (∃ i r, Hits M p 8 i r ∧ r.write = true ∧ M' = M.set i (r.put p v) ∧ e = 0) ∨ ((∀ i r, Hits M p 8 i r → r.write = false) ∧ M' = M ∧ e = 11)
theorem StoreO.uniq {M M' M'' : List Reg} {p v e e' : Int} (hM : Good M) (h : StoreO M p v M' e) (g : StoreO M p v M'' e') : M' = M'' ∧ e = e' := by
  rcases h with ⟨i, r, a, w, b, c⟩ | ⟨a, b, c⟩ <;> rcases g with ⟨i', r', a', w', b', c'⟩ | ⟨a', b', c'⟩
  · obtain ⟨rfl, rfl⟩ := a.uniq hM a'
    exact ⟨by rw [b, b'], by rw [c, c']⟩
  · have := a' _ _ a; rw [w] at this; cases this
  · have := a _ _ a'; rw [w'] at this; cases this
  · exact ⟨by rw [b, b'], by rw [c, c']⟩
theorem set_get {M : List Reg} {i j : Nat} {r s t : Reg} (hi : M[i]? = some r) (hj : (M.set i s)[j]? = some t) : (j = i ∧ t = s) ∨ (j ≠ i ∧ M[j]? = some t) := by
  by_cases h : j = i
  · subst h
    rw [List.getElem?_set_self (List.getElem?_eq_some_iff.1 hi).1] at hj
    exact .inl ⟨rfl, (Option.some.inj hj).symm⟩
  · rw [List.getElem?_set_ne (fun e => h e.symm)] at hj
    exact .inr ⟨h, hj⟩
theorem set_good {M : List Reg} {i : Nat} {r s : Reg} (hM : Good M) (hi : M[i]? = some r) (hb : s.base = r.base) (hl : s.len = r.len) : Good (M.set i s) := by
  have key : ∀ (j : Nat) (t : Reg), (M.set i s)[j]? = some t → ∃ u, M[j]? = some u ∧ t.base = u.base ∧ t.len = u.len := by
    intro j t hj
    rcases set_get hi hj with ⟨rfl, rfl⟩ | ⟨_, h⟩
    · exact ⟨r, hi, hb, hl⟩
    · exact ⟨t, h, rfl, rfl⟩
  refine ⟨by rw [List.length_set]; exact hM.few, fun j t hj => ?_, fun j t hj => ?_, fun j t hj => ?_, fun j k t u hj hk hne => ?_⟩
  · obtain ⟨x, h1, h2, h3⟩ := key j t hj; rw [h3]; exact hM.pos j x h1
  · obtain ⟨x, h1, h2, h3⟩ := key j t hj; rw [h3]; exact hM.short j x h1
  · obtain ⟨x, h1, h2, h3⟩ := key j t hj; rw [h2, h3]; exact hM.fits j x h1
  · obtain ⟨x, h1, h2, h3⟩ := key j t hj
    obtain ⟨y, h4, h5, h6⟩ := key k u hk
    rw [h2, h3, h5, h6]
    exact hM.apart j k x y h1 h4 hne
theorem StoreO.good {M M' : List Reg} {p v e : Int} (hM : Good M) (h : StoreO M p v M' e) : Good M' := by
  rcases h with ⟨i, r, a, w, b, c⟩ | ⟨a, b, c⟩
  · rw [b]; exact set_good hM a.1 rfl (r.put_len p v)
  · rw [b]; exact hM
theorem StoreO.oks {M M' : List Reg} {p v e : Int} (hM : Oks M) (h : StoreO M p v M' e) : Oks M' := by
  rcases h with ⟨i, r, a, w, b, c⟩ | ⟨a, b, c⟩
  · rw [b]
    intro s hs
    rcases List.mem_or_eq_of_mem_set hs with h | h
    · exact hM s h
    · have hr := hM r (List.mem_of_getElem? a.1)
      rw [h]; exact ⟨hr.base, putN_bs hr.bytes _ _ _⟩
  · rw [b]; exact hM
def BytesO (M : List Reg) (p n : Int) (s : List Int) (e : Int) : Prop :=
  (n < 0 ∧ s = [] ∧ e = 2) ∨ (0 ≤ n ∧ ∃ i r, Hits M p n i r ∧ s = (r.bytes.drop (p - r.base).toNat).take n.toNat ∧ e = 0) ∨ (0 ≤ n ∧ (∀ i r, ¬ Hits M p n i r) ∧ s = [] ∧ e = 11)
theorem BytesO.uniq {M : List Reg} {p n : Int} {s s' : List Int} {e e' : Int} (hM : Good M) (h : BytesO M p n s e) (g : BytesO M p n s' e') : s = s' ∧ e = e' := by
  rcases h with ⟨a, b, c⟩ | ⟨n0, i, r, a, b, c⟩ | ⟨n0, a, b, c⟩ <;> rcases g with ⟨a', b', c'⟩ | ⟨n0', i', r', a', b', c'⟩ | ⟨n0', a', b', c'⟩
  · exact ⟨by rw [b, b'], by rw [c, c']⟩
  · omega
  · omega
  · omega
  · obtain ⟨rfl, rfl⟩ := a.uniq hM a'
    exact ⟨by rw [b, b'], by rw [c, c']⟩
  · exact absurd a (a' _ _)
  · omega
  · exact absurd a' (a _ _)
  · exact ⟨by rw [b, b'], by rw [c, c']⟩
end Mm
end Go.Proofs.YtikbnfhnimjmmaaGreatDoor
namespace Go.Proofs.YtikbnfhnimjmmaaGreatDoor
open Go Go.RowKit
namespace Mm
open Wd Nt
set_option linter.unusedVariables false
/-- a slice of bytes that reads as bs, below block B -/
structure Rd8 (w : World) (B : Nat) (A : Option Addr) (n : Nat) (bs : List Int) : Prop where
  len : bs.length = n
  ok : Bs bs
  rd : 0 < n → ∃ ad, A = some ad ∧ ad.block < B ∧ ∀ j, j < n → w.cell? (ad.add j) = some (.int .u8 (bt bs j))
/-- a region that lies at an address -/
def RegAt (w : World) (B : Nat) (ad : Addr) (r : Reg) : Prop :=
  ∃ A n c, w.cell? ad = some (.int .u64 r.base) ∧ w.cell? ⟨ad.block, ad.off + 1, none⟩ = some (.slice A n c) ∧ w.cell? ⟨ad.block, ad.off + 2, none⟩ = some (.bool r.write) ∧ Rd8 w B A n r.bytes ∧ n ≤ c ∧ c ≤ 9223372036854775807
/-- a slice of regions that reads as rs, below block B -/
structure RdR (w : World) (B : Nat) (A : Option Addr) (n : Nat) (rs : List Reg) : Prop where
  len : rs.length = n
  oks : Oks rs
  rd : 0 < n → ∃ ad, A = some ad ∧ ad.block < B ∧ ∀ (j : Nat) (r : Reg), rs[j]? = some r → RegAt w B (ad.add (j * 3)) r
section
variable {w w' : World} {B B' n : Nat} {A : Option Addr} {bs : List Int} {rs : List Reg}
theorem Rd8.nil : Rd8 w B A 0 [] := ⟨rfl, (fun _ h => by cases h), fun h => absurd h (by omega)⟩
theorem Rd8.at_ {k : Nat} (h : Rd8 w B A n bs) (hk : k < n) : ∃ ad, A = some ad ∧ ad.block < B ∧ w.cell? (ad.add k) = some (.int .u8 (bt bs k)) := by
  obtain ⟨ad, e, hb, hc⟩ := h.rd (by omega)
  exact ⟨ad, e, hb, hc k hk⟩
theorem Rd8.keep (h : Rd8 w B A n bs) (hk : ∀ p : Addr, p.block < B → w'.cell? p = w.cell? p) : Rd8 w' B A n bs :=
  ⟨h.len, h.ok, fun hn => by
    obtain ⟨ad, e, hb, hc⟩ := h.rd hn
    exact ⟨ad, e, hb, fun j hj => (hk _ (by rw [Nt.block_add]; exact hb)).trans (hc j hj)⟩⟩
theorem Rd8.more (h : Rd8 w B A n bs) (hB : B ≤ B') : Rd8 w B' A n bs :=
  ⟨h.len, h.ok, fun hn => by
    obtain ⟨ad, e, hb, hc⟩ := h.rd hn
    exact ⟨ad, e, by omega, hc⟩⟩
theorem RegAt.keep {ad : Addr} {r : Reg} (h : RegAt w B ad r) (ha : ad.block < B) (hk : ∀ p : Addr, p.block < B → w'.cell? p = w.cell? p) : RegAt w' B ad r := by
  obtain ⟨A, n, c, h1, h2, h3, h4, h5, h6⟩ := h
  exact ⟨A, n, c, (hk _ ha).trans h1, (hk ⟨ad.block, ad.off + 1, none⟩ ha).trans h2, (hk ⟨ad.block, ad.off + 2, none⟩ ha).trans h3, h4.keep hk, h5, h6⟩
theorem RegAt.more {ad : Addr} {r : Reg} (h : RegAt w B ad r) (hB : B ≤ B') : RegAt w B' ad r := by
  obtain ⟨A, n, c, h1, h2, h3, h4, h5, h6⟩ := h
  exact ⟨A, n, c, h1, h2, h3, h4.more hB, h5, h6⟩
theorem RdR.nil : RdR w B A 0 [] := ⟨rfl, (fun _ h => by cases h), fun h => absurd h (by omega)⟩
theorem RdR.keep (h : RdR w B A n rs) (hk : ∀ p : Addr, p.block < B → w'.cell? p = w.cell? p) : RdR w' B A n rs :=
  ⟨h.len, h.oks, fun hn => by
    obtain ⟨ad, e, hb, hc⟩ := h.rd hn
    exact ⟨ad, e, hb, fun j r hj => (hc j r hj).keep (by rw [Nt.block_add]; exact hb) hk⟩⟩
theorem RdR.more (h : RdR w B A n rs) (hB : B ≤ B') : RdR w B' A n rs :=
  ⟨h.len, h.oks, fun hn => by
    obtain ⟨ad, e, hb, hc⟩ := h.rd hn
    exact ⟨ad, e, by omega, fun j r hj => (hc j r hj).more hB⟩⟩
theorem RdR.below (h : RdR w B A n rs) (hb : Below B w w') : RdR w' B A n rs := h.keep fun _ hp => hb.cell hp
theorem RdR.at_ {j : Nat} {r : Reg} (h : RdR w B A n rs) (hj : rs[j]? = some r) : ∃ ad, A = some ad ∧ ad.block < B ∧ RegAt w B (ad.add (j * 3)) r := by
  have hl := (List.getElem?_eq_some_iff.1 hj).1
  obtain ⟨ad, e, hb, hc⟩ := h.rd (by rw [← h.len]; omega)
  exact ⟨ad, e, hb, hc j r hj⟩
theorem get_lt {rs : List Reg} {j : Nat} (h : j < rs.length) : ∃ r, rs[j]? = some r := ⟨_, List.getElem?_eq_getElem h⟩
end
/-- the slice at hand, all that is below the heap's end -/
def AtR (w : World) (A : Option Addr) (n : Nat) (rs : List Reg) : Prop := RdR w w.heap.size A n rs
theorem AtR.step {w w' : World} {A : Option Addr} {n : Nat} {rs : List Reg} (h : Hid (AtR w A n rs)) (hb : Below w.heap.size w w') : Hid (AtR w' A n rs) := Lib.hid ((RdR.below h.out hb).more hb.size)

/-! ### LightRegions -/
/-- what is gone through -/
def lightR (rs : List Reg) : Bool := decide (rs.length ≤ 10) && (rs.all fun r => decide (r.len ≤ 300))
theorem light_c (A : Option Addr) (n c : Nat) (rs : List Reg) (w : World) (h : Hid (AtR w A n rs)) (hc : n ≤ 9223372036854775807) (hn : n ≤ 10) (hall : ∀ (i : Nat) (r : Reg), rs[i]? = some r → r.len ≤ 300) :
    Calls Tryz.prog 26 #[.slice A n c] w fun e w' => e = .returned (.bool true) ∧ w' = w := by
  go_enter Tryz.func26, Tryz.ntmps26
  go_wp2_with fail
  go_loop [3] (fun i => ∃ k : Nat, k ≤ n ∧ i = .int .i64 (k : Int)) (fun i => n - (intOf i).toNat)
  case atStart => exact ⟨0, Nat.zero_le _, rfl⟩
  case round =>
    obtain ⟨k, hk, rfl⟩ := hrel
    rcases Nat.lt_or_ge k n with hkn | hkn
    · obtain ⟨r, hr⟩ := get_lt (rs := rs) (j := k) (by rw [h.out.len]; omega)
      obtain ⟨ad, rfl, hb, A1, n1, c1, h1, h2, h3, h4, h5, h6⟩ := h.out.at_ hr
      have hl := hall k r hr
      unfold Reg.len at hl
      rw [h4.len] at hl
      have hkni : (k : Int) < (n : Int) := by omega
      have hk11 : (k : Int) < 11 := by omega
      clear h1 h3
      go_wp2_with fail
      go_round
      case rel => exact ⟨k + 1, by omega, by go_num⟩
      case measure => (simp [intOf] <;> omega)
    · obtain rfl : k = n := by omega
      have hk10 : (k : Int) ≤ 10 := by omega
      go_wp2_with fail
      go_ret
      exact ⟨rfl, rfl⟩
def Lite (rs : List Reg) : Prop := rs.length ≤ 10 ∧ ∀ (i : Nat) (r : Reg), rs[i]? = some r → r.len ≤ 300
theorem lightN_c (A : Option Addr) (n c : Nat) (rs : List Reg) (w : World) (h : Hid (AtR w A n rs)) (hc : n ≤ 9223372036854775807) (hno : ¬ Lite rs) :
    Calls Tryz.prog 26 #[.slice A n c] w fun e w' => e = .returned (.bool false) ∧ w' = w := by
  have HNO := Lib.hid hno
  clear hno
  go_enter Tryz.func26, Tryz.ntmps26
  go_wp2_with fail
  go_loop [3] (fun i => ∃ k : Nat, k ≤ n ∧ k ≤ 11 ∧ i = .int .i64 (k : Int) ∧ Hid (∀ (j : Nat) (r : Reg), j < k → rs[j]? = some r → r.len ≤ 300)) (fun i => n - (intOf i).toNat)
  case atStart => exact ⟨0, Nat.zero_le _, by omega, rfl, Lib.hid (fun j r hj => absurd hj (by omega))⟩
  case round =>
    obtain ⟨k, hk, hk2, rfl, hI⟩ := hrel
    rcases Nat.lt_or_ge k n with hkn | hkn
    · rcases Nat.lt_or_ge k 11 with hk11 | hk11
      · obtain ⟨r, hr⟩ := get_lt (rs := rs) (j := k) (by rw [h.out.len]; omega)
        obtain ⟨ad, rfl, hb, A1, n1, c1, h1, h2, h3, h4, h5, h6⟩ := h.out.at_ hr
        have hkni : (k : Int) < (n : Int) := by omega
        have hk11i : (k : Int) < 11 := by omega
        have hlen : r.len = n1 := by unfold Reg.len; rw [h4.len]
        have HLEN := Lib.hid hlen
        have HR := Lib.hid hr
        clear h1 h3 hlen hr
        by_cases hl : n1 ≤ 300
        · have hI' : Hid (∀ (j : Nat) (r : Reg), j < k + 1 → rs[j]? = some r → r.len ≤ 300) := Lib.hid (fun j s hj hs => by
            by_cases e : j = k
            · subst e
              rw [HR.out] at hs
              cases hs
              rw [HLEN.out]; omega
            · exact hI.out j s (by omega) hs)
          go_wp2_with fail
          go_round
          case rel => exact ⟨k + 1, by omega, by omega, by go_num, hI'⟩
          case measure => (simp [intOf] <;> omega)
        · have hl' : (300 : Int) < (n1 : Int) := by omega
          go_wp2_with fail
          go_ret
          exact ⟨rfl, rfl⟩
      · obtain rfl : k = 11 := by omega
        have hn11 : (11 : Int) < (n : Int) := by omega
        go_wp2_with fail
        go_ret
        exact ⟨ret_b (decide_eq_false (by omega)), rfl⟩
    · obtain rfl : k = n := by omega
      rcases Nat.lt_or_ge k 11 with hk11 | hk11
      · exact absurd ⟨by rw [h.out.len]; omega, fun j r hr => hI.out j r (by rw [← h.out.len]; exact (List.getElem?_eq_some_iff.1 hr).1) hr⟩ HNO.out
      · obtain rfl : k = 11 := by omega
        go_wp2_with fail
        go_ret
        exact ⟨rfl, rfl⟩
end Mm
end Go.Proofs.YtikbnfhnimjmmaaGreatDoor
