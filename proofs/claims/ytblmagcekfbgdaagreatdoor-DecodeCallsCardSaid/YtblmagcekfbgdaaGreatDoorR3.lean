/- Bytes of texts as instructions: the instruction at a place, all of them; no program in it. -/
import Derived.Test.YtblmagcekfbgdaaGreatDoorR1
import Derived.Test.YtblmagcekfbgdaaGreatDoorEncX
import Derived.Lib.Strings
namespace Go.Proofs.YtblmagcekfbgdaaGreatDoor
open Go Go.RowKit Go.Lib
namespace Is
open Nt
set_option linter.unusedVariables false
set_option linter.unusedSimpArgs false
/-- the byte at a place of a text; behind its end 0 -/
def bA (s : ByteArray) (p : Nat) : Int := (((s.data.toList[p]?).getD 0).toNat : Int)
def BB (B : Nat → Int) : Prop := ∀ p, 0 ≤ B p ∧ B p ≤ 255
theorem bA_bb (s : ByteArray) : BB (bA s) := fun p => by
  unfold bA
  have := UInt8.toNat_lt ((s.data.toList[p]?).getD 0)
  omega
theorem low_b {B : Nat → Int} (h : BB B) (k n : Nat) : 0 ≤ lowB B k n ∧ lowB B k n < 256 ^ n := by
  induction n with
  | zero => simp [lowB]
  | succ n ih =>
    have hP : (0 : Int) < 256 ^ n := Int.pow_pos (by decide)
    have hb := h (k + n)
    unfold lowB
    rw [Int.pow_succ]
    generalize (256 : Int) ^ n = P at *
    have h8 : B (k + n) * P ≤ 255 * P := Int.mul_le_mul_of_nonneg_right (by omega) (by omega)
    have h9 : 0 ≤ B (k + n) * P := Int.mul_nonneg hb.1 (by omega)
    omega
theorem num_i64 {B : Nat → Int} (h : BB B) (k n : Nat) (hn : n ≤ 8) : I64 (numB B k n) := by
  have hl := low_b h k n
  have h9 : (256 : Int) ^ n ≤ 18446744073709551616 := by
    rcases (show n = 0 ∨ n = 1 ∨ n = 2 ∨ n = 3 ∨ n = 4 ∨ n = 5 ∨ n = 6 ∨ n = 7 ∨ n = 8 by omega) with rfl | rfl | rfl | rfl | rfl | rfl | rfl | rfl | rfl <;> decide
  unfold numB sgnB I64
  generalize (256 : Int) ^ n = P at *
  split <;> omega
theorem wf_of {i : Ins} (h1 : I64 i.op) (h2 : I64 i.d) (h3 : I64 i.s) (h4 : I64 i.t) (h5 : I64 i.b) (h6 : I64 i.x) (h7 : I64 i.sc) (h8 : I64 i.di) (h9 : I64 i.im) : i.wf := ⟨h1, h2, h3, h4, h5, h6, h7, h8, h9⟩
theorem i64s {z : Int} (h : -1000 ≤ z) (h' : z ≤ 1000) : I64 z := ⟨by omega, by omega⟩
theorem i64_0 : I64 0 := i64s (by decide) (by decide)
theorem zI_wf : zI.wf := by refine wf_of ?_ ?_ ?_ ?_ ?_ ?_ ?_ ?_ ?_ <;> exact i64s (by decide) (by decide)
theorem mid_b (b r : Int) : 0 ≤ midR b r ∧ midR b r ≤ 15 := by unfold midR rxM; omega
theorem lst_b (b r : Int) : 0 ≤ lstR b r ∧ lstR b r ≤ 15 := by unfold lstR rxL; omega
theorem twoM_wf (B : Nat → Int) (k : Nat) (r op : Int) (ho : 0 ≤ op ∧ op ≤ 33) : (twoM B k r op).wf := by
  have h1 := mid_b (B k) r
  have h2 := lst_b (B k) r
  unfold twoM
  split
  · refine wf_of ?_ ?_ ?_ ?_ ?_ ?_ ?_ ?_ ?_ <;> exact i64s (by dsimp only; omega) (by dsimp only; omega)
  · exact zI_wf
theorem ofDig_b (b d : Int) : 0 ≤ ofDig b d ∧ ofDig b d ≤ 33 := by unfold ofDig; repeat (first | (split <;> try omega) | omega)
theorem ofReg_b (b : Int) : 0 ≤ ofReg b ∧ ofReg b ≤ 33 := by unfold ofReg; repeat (first | (split <;> try omega) | omega)
theorem dsp_b {b : Int} (h : 0 ≤ b ∧ b ≤ 255) : dspN b ≤ 4 := by unfold dspN; split <;> omega
theorem sc_pow {z : Int} (h : 0 ≤ z ∧ z ≤ 3) : 1 ≤ (2 : Int) ^ z.toNat ∧ (2 : Int) ^ z.toNat ≤ 8 := by
  rcases (show z = 0 ∨ z = 1 ∨ z = 2 ∨ z = 3 by omega) with rfl | rfl | rfl | rfl <;> decide
theorem plI_wf {B : Nat → Int} (h : BB B) (op d s : Int) (k : Nat) (r : Int) (ho : 0 ≤ op ∧ op ≤ 33) (hd : 0 ≤ d ∧ d ≤ 15) (hs : 0 ≤ s ∧ s ≤ 15) : (plI op d s B k r).wf := by
  have hk := h k
  have hk1 := h (k + 1)
  unfold plI
  refine wf_of (i64s (by dsimp only; omega) (by dsimp only; omega)) (i64s (by dsimp only; omega) (by dsimp only; omega)) (i64s (by dsimp only; omega) (by dsimp only; omega)) (i64s (by dsimp only; omega) (by dsimp only; omega)) ?_ ?_ ?_ ?_ (i64s (by dsimp only; omega) (by dsimp only; omega))
  · show I64 (plBase B k + rxL r)
    unfold plBase rxL; split <;> exact i64s (by omega) (by omega)
  · show I64 (wdX (plIdx B k) r)
    unfold wdX plIdx rxX; split <;> split <;> exact i64s (by omega) (by omega)
  · show I64 (plSc B k)
    unfold plSc
    split
    · have := sc_pow (z := B (k + 1) / 64) (by omega)
      exact i64s (by omega) (by omega)
    · exact i64s (by omega) (by omega)
  · show I64 (plDi B k)
    exact num_i64 h _ _ (by have := dsp_b hk; omega)
theorem ofPl_wf {B : Nat → Int} (h : BB B) (b m : Int) (k : Nat) (r : Int) (hm : 0 ≤ m ∧ m ≤ 15) : (ofPl b m B k r).wf := by
  unfold ofPl
  split
  · exact plI_wf h _ _ _ _ _ (by omega) (by omega) (by omega)
  · split
    · exact plI_wf h _ _ _ _ _ (by omega) (by omega) (by omega)
    · split
      · exact plI_wf h _ _ _ _ _ (by omega) (by omega) (by omega)
      · exact zI_wf
theorem digI_wf {B : Nat → Int} (h : BB B) (k : Nat) (r b : Int) (n : Nat) (hn : n ≤ 8) : (digI B k r b n).wf := by
  have h1 := ofDig_b b (midR (B k) r)
  have h2 := lst_b (B k) r
  unfold digI
  split
  · refine wf_of ?_ ?_ ?_ ?_ ?_ ?_ ?_ ?_ (num_i64 h _ _ hn) <;> exact i64s (by dsimp only; omega) (by dsimp only; omega)
  · exact zI_wf
theorem twoI_wf {B : Nat → Int} (h : BB B) (k : Nat) (r b : Int) : (twoI B k r b).wf := by
  have h1 := ofReg_b b
  have h2 := lst_b (B k) r
  have h3 := mid_b (B k) r
  unfold twoI
  split
  · refine wf_of ?_ ?_ ?_ ?_ ?_ ?_ ?_ ?_ ?_ <;> exact i64s (by dsimp only; omega) (by dsimp only; omega)
  · exact ofPl_wf h _ _ _ _ h3
theorem chI_wf (B : Nat → Int) (k : Nat) (r : Int) : (chI B k r).wf := by
  unfold chI
  split
  · exact twoM_wf _ _ _ _ (by omega)
  · split
    · exact twoM_wf _ _ _ _ (by omega)
    · exact zI_wf
theorem wI_wf {B : Nat → Int} (h : BB B) (k : Nat) (r : Int) : (wI B k r).wf := by
  have hk := h k
  unfold wI
  split
  · refine wf_of ?_ ?_ ?_ ?_ ?_ ?_ ?_ ?_ (num_i64 h _ _ (by omega)) <;> exact i64s (by dsimp only [rxL]; omega) (by dsimp only [rxL]; omega)
  · split
    · exact chI_wf _ _ _
    · split
      · exact digI_wf h _ _ _ _ (by omega)
      · split
        · exact digI_wf h _ _ _ _ (by omega)
        · split
          · exact digI_wf h _ _ _ _ (by omega)
          · exact twoI_wf h _ _ _
theorem shI_wf {b a : Int} (hb : 0 ≤ b ∧ b ≤ 255) (ha : 0 ≤ a ∧ a ≤ 8) : (shI b a).wf := by
  unfold shI
  split <;> (refine wf_of ?_ ?_ ?_ ?_ ?_ ?_ ?_ ?_ ?_ <;> exact i64s (by dsimp only; omega) (by dsimp only; omega))
theorem juI_wf {op n : Int} (ho : 0 ≤ op ∧ op ≤ 33) (hn : I64 n) : (juI op n).wf := by
  unfold juI
  refine wf_of ?_ ?_ ?_ ?_ ?_ ?_ ?_ ?_ hn <;> exact i64s (by dsimp only; omega) (by dsimp only; omega)
theorem jifI_wf {B : Nat → Int} (h : BB B) (k : Nat) : (jifI B k).wf := by
  unfold jifI
  split
  · exact juI_wf (by omega) (num_i64 h _ _ (by omega))
  · split
    · exact juI_wf (by omega) (num_i64 h _ _ (by omega))
    · exact zI_wf
theorem prI_wf {B : Nat → Int} (h : BB B) (k : Nat) : (prI B k).wf := by
  have h1 := h (k + 1)
  have h2 := twoM_wf B (k + 3) ((255 - B k) / 32) 19 (by omega)
  unfold prI
  exact wf_of h2.op h2.d (i64s (by dsimp only; omega) (by dsimp only; omega)) h2.s i64_0 i64_0 i64_0 i64_0 i64_0
theorem gI_wf {B : Nat → Int} (h : BB B) (k : Nat) : (gI B k).wf := by
  have hk := h k
  unfold gI
  split
  · exact wI_wf h _ _
  · split
    · exact shI_wf hk (by omega)
    · split
      · exact jifI_wf h _
      · split
        · exact shI_wf (h _) (by omega)
        · split
          · exact twoM_wf _ _ _ _ (by omega)
          · split
            · refine wf_of ?_ ?_ ?_ ?_ ?_ ?_ ?_ ?_ ?_ <;> exact i64s (by decide) (by decide)
            · split
              · exact prI_wf h _
              · split
                · exact juI_wf (by omega) (num_i64 h _ _ (by omega))
                · split
                  · exact twoM_wf _ _ _ _ (by omega)
                  · exact zI_wf
theorem opEnd_lt (B : Nat → Int) (k : Nat) : k < opEnd B k := by unfold opEnd plEnd; split <;> omega
theorem opEnd_b {B : Nat → Int} (h : BB B) (k : Nat) : opEnd B k ≤ k + 6 := by
  have := dsp_b (h k)
  unfold opEnd plEnd sibN; split <;> (try split) <;> omega
theorem wE_b {B : Nat → Int} (h : BB B) (k : Nat) : k < wE B k ∧ wE B k ≤ k + 12 := by
  have h1 := opEnd_lt B (k + 1)
  have h2 := opEnd_lt B (k + 2)
  have h3 := opEnd_b h (k + 1)
  have h4 := opEnd_b h (k + 2)
  unfold wE
  repeat (first | (split <;> try omega) | omega)
theorem gE_b {B : Nat → Int} (h : BB B) (k : Nat) : k < gE B k ∧ gE B k ≤ k + 16 := by
  have h1 := opEnd_lt B (k + 4)
  have h2 := opEnd_lt B (k + 5)
  have h3 := opEnd_b h (k + 4)
  have h4 := opEnd_b h (k + 5)
  have h5 := wE_b h (k + 1)
  have h6 : k + 1 < jifE B (k + 1) ∧ jifE B (k + 1) ≤ k + 6 := by unfold jifE; repeat (first | (split <;> try omega) | omega)
  unfold gE
  repeat (first | (split <;> try omega) | omega)

/-- bytes stand at a place of a text, whole -/
def Pre (s : ByteArray) (k : Nat) (l : List Int) : Prop := k + l.length ≤ s.size ∧ At (bA s) k l
theorem size_data (s : ByteArray) : s.data.toList.length = s.size := by rw [Array.length_toList]; rfl
theorem bA_get {s : ByteArray} {p : Nat} {u : UInt8} (h : s.data.toList[p]? = some u) : bA s p = (u.toNat : Int) := by unfold bA; rw [h]; rfl
theorem u8_of {c : Int} (h : 0 ≤ c ∧ c ≤ 255) : ((UInt8.ofNat c.toNat).toNat : Int) = c := by rw [UInt8.toNat_ofNat']; omega
theorem pre_iff {s : ByteArray} {k : Nat} {l : List Int} (hl : B8s l) (hk : k ≤ s.size) : Pre s k l ↔ toU8 l <+: s.data.toList.drop k := by
  have hsz := size_data s
  constructor
  · rintro ⟨h1, h2⟩
    refine ⟨s.data.toList.drop (k + l.length), ?_⟩
    apply List.ext_getElem?
    intro j
    have hlen : (toU8 l).length = l.length := List.length_map ..
    rcases Nat.lt_or_ge j l.length with hj | hj
    · rw [List.getElem?_append_left (by omega), List.getElem?_drop]
      have hlt : k + j < s.data.toList.length := by omega
      have e1 : s.data.toList[k + j]? = some (s.data.toList[k + j]) := List.getElem?_eq_getElem hlt
      have e2 := h2 j (l[j]) (List.getElem?_eq_getElem hj)
      rw [bA_get e1] at e2
      have e3 : (toU8 l)[j]? = some (UInt8.ofNat (l[j]).toNat) := by unfold toU8; rw [List.getElem?_map, List.getElem?_eq_getElem hj]; rfl
      rw [e3, e1, ← e2]
      simp
    · rw [List.getElem?_append_right (by omega), List.getElem?_drop, List.getElem?_drop, hlen]
      congr 1
      omega
  · rintro ⟨r, hr⟩
    have hlen : (toU8 l).length = l.length := List.length_map ..
    refine ⟨?_, fun j c hj => ?_⟩
    · have h2 := congrArg List.length hr
      rw [List.length_append, List.length_drop, hlen] at h2
      omega
    · have hjl : j < l.length := (List.getElem?_eq_some_iff.1 hj).1
      have e1 : s.data.toList[k + j]? = some (UInt8.ofNat c.toNat) := by
        rw [← List.getElem?_drop, ← hr, List.getElem?_append_left (by omega)]
        unfold toU8
        rw [List.getElem?_map, hj]
        rfl
      rw [bA_get e1]
      exact u8_of (hl c (List.mem_of_getElem? hj))
theorem extract_list (s : ByteArray) (a b : Nat) : (s.extract a b).data.toList = (s.data.toList.drop a).take (b - a) := by
  rw [ByteArray.data_extract, Array.toList_extract]
  try simp [List.extract]
/-- the landed package's look: does the text from k on begin so? -/
theorem pre_prefix {s : ByteArray} {k : Nat} {l : List Int} (hl : B8s l) (hk : k ≤ s.size) : Go.Lib.hasPrefix (s.extract k s.size).data.toList (strU l).data.toList = true ↔ Pre s k l := by
  have e : (s.extract k s.size).data.toList = s.data.toList.drop k := by
    rw [extract_list]
    exact List.take_of_length_le (by rw [List.length_drop, size_data]; exact Nat.le_refl _)
  rw [e, pre_iff hl hk]
  unfold Go.Lib.hasPrefix
  rw [List.isPrefixOf_iff_prefix]
  simp [strU]
/-- the document's look: are these bytes so? -/
theorem pre_cut {s : ByteArray} {k : Nat} {l : List Int} (hl : B8s l) (hk : k + l.length ≤ s.size) : ((s.extract k (k + l.length)).toList == (strU l).toList) = true ↔ Pre s k l := by
  rw [pre_iff hl (by omega), beq_iff_eq, toL8, extract_list, strU_list, Nat.add_sub_cancel_left]
  have hlen : (toU8 l).length = l.length := List.length_map ..
  constructor
  · intro h
    rw [← h]
    exact List.take_prefix _ _
  · rintro ⟨r, hr⟩
    rw [← hr, List.take_append_of_le_length (by omega), List.take_of_length_le (by omega)]
/-- the instruction at a place of a text -/
def isI (s : ByteArray) (k : Nat) (i : Ins) : Bool := okI i && Go.Lib.hasPrefix (s.extract k s.size).data.toList (encS i).data.toList
def decO (s : ByteArray) (k : Nat) : Option Ins := if isI s k (gI (bA s) k) = true then some (gI (bA s) k) else none
theorem isI_iff {s : ByteArray} {k : Nat} {i : Ins} (hk : k ≤ s.size) : isI s k i = true ↔ okI i = true ∧ Pre s k (encL i) := by
  unfold isI
  rw [Bool.and_eq_true]
  constructor
  · rintro ⟨h1, h2⟩
    refine ⟨h1, ?_⟩
    unfold encS at h2
    rw [if_pos h1] at h2
    exact (pre_prefix (encl_ok i h1).1 hk).1 h2
  · rintro ⟨h1, h2⟩
    refine ⟨h1, ?_⟩
    unfold encS
    rw [if_pos h1]
    exact (pre_prefix (encl_ok i h1).1 hk).2 h2
theorem decO_iff {s : ByteArray} {k : Nat} {i : Ins} (hk : k ≤ s.size) : decO s k = some i ↔ okI i = true ∧ i.wf ∧ Pre s k (encL i) := by
  unfold decO
  constructor
  · intro h
    split at h
    · rename_i h1
      cases h
      have h2 := (isI_iff hk).1 h1
      exact ⟨h2.1, gI_wf (bA_bb s) k, h2.2⟩
    · cases h
  · rintro ⟨h1, h2, h3⟩
    have e := (rd_ok i h1 h2 (bA s) k h3.2).1
    rw [e, if_pos ((isI_iff hk).2 ⟨h1, h3⟩)]
theorem decO_end {s : ByteArray} : decO s s.size = none := by
  cases h : decO s s.size with
  | none => rfl
  | some i =>
    have h2 := (decO_iff (Nat.le_refl _)).1 h
    have h3 := h2.2.2.1
    have h4 := (encl_ok i h2.1).2.1
    omega
/-- all, from a place on: the instructions, and where they end -/
def runL (s : ByteArray) : Nat → Nat → List Ins × Nat
  | 0, k => ([], k)
  | f + 1, k => match decO s k with
    | none => ([], k)
    | some i => (i :: (runL s f (k + (encL i).length)).1, (runL s f (k + (encL i).length)).2)
def allD (s : ByteArray) : List Ins × Nat := runL s (s.size + 1) 0
theorem runL_some {s : ByteArray} {f k : Nat} {i : Ins} (h : decO s k = some i) : runL s (f + 1) k = (i :: (runL s f (k + (encL i).length)).1, (runL s f (k + (encL i).length)).2) := by
  conv => lhs; unfold runL
  rw [h]
theorem runL_none {s : ByteArray} {f k : Nat} (h : decO s k = none) : runL s (f + 1) k = ([], k) := by
  conv => lhs; unfold runL
  rw [h]
theorem Pre.app {s : ByteArray} {k : Nat} {l m : List Int} (h : Pre s k l) (h' : Pre s (k + l.length) m) : Pre s k (l ++ m) := by
  refine ⟨by have := h'.1; rw [List.length_append]; omega, fun j c hj => ?_⟩
  rcases Nat.lt_or_ge j l.length with h1 | h1
  · rw [List.getElem?_append_left h1] at hj; exact h.2 j c hj
  · rw [List.getElem?_append_right h1] at hj
    have := h'.2 (j - l.length) c hj
    rw [show k + l.length + (j - l.length) = k + j by omega] at this
    exact this
theorem Pre.left {s : ByteArray} {k : Nat} {l m : List Int} (h : Pre s k (l ++ m)) : Pre s k l := by
  refine ⟨by have := h.1; rw [List.length_append] at this; omega, fun j c hj => ?_⟩
  exact h.2 j c (by rw [List.getElem?_append_left (List.getElem?_eq_some_iff.1 hj).1]; exact hj)
theorem Pre.right {s : ByteArray} {k : Nat} {l m : List Int} (h : Pre s k (l ++ m)) : Pre s (k + l.length) m := by
  refine ⟨by have := h.1; rw [List.length_append] at this; omega, fun j c hj => ?_⟩
  rw [show k + l.length + j = k + (l.length + j) by omega]
  exact h.2 (l.length + j) c (by rw [List.getElem?_append_right (by omega), Nat.add_sub_cancel_left]; exact hj)
theorem allOk_cons (i : Ins) (l : List Ins) : allOk (i :: l) = (okI i && allOk l) := by unfold allOk; simp
theorem runL_ok {s : ByteArray} : ∀ (f k : Nat), s.size < k + f → k ≤ s.size →
    allOk (runL s f k).1 = true ∧ (∀ i ∈ (runL s f k).1, i.wf) ∧ (runL s f k).2 = k + (catU (runL s f k).1).length ∧ Pre s k (catU (runL s f k).1) ∧ (runL s f k).2 ≤ s.size ∧ decO s (runL s f k).2 = none
  | 0, k, h, hk => by omega
  | f + 1, k, h, hk => by
    cases e : decO s k with
    | none =>
      rw [runL_none e]
      exact ⟨rfl, (fun i hi => by cases hi), (by simp [catU]), ⟨(by simp [catU]; exact hk), (fun j c hj => by simp [catU] at hj)⟩, hk, e⟩
    | some i =>
      have h1 := (decO_iff hk).1 e
      have h2 := (encl_ok i h1.1).2.1
      have h3 := h1.2.2.1
      have ih := runL_ok (s := s) f (k + (encL i).length) (by omega) h3
      rw [runL_some e]
      obtain ⟨a1, a2, a3, a4, a5, a6⟩ := ih
      refine ⟨?_, ?_, ?_, ?_, a5, a6⟩
      · rw [allOk_cons, h1.1, a1]; rfl
      · intro x hx
        rcases List.mem_cons.1 hx with rfl | hx
        · exact h1.2.1
        · exact a2 x hx
      · show _ = k + (catU (i :: _)).length
        rw [a3]
        simp only [catU, List.length_append]
        omega
      · show Pre s k (encL i ++ _)
        exact h1.2.2.app a4
/-- whatever is put is all, to the end -/
theorem runL_put {s : ByteArray} : ∀ (l : List Ins) (f k : Nat), s.size < k + f → allOk l = true → (∀ i ∈ l, i.wf) → Pre s k (catU l) → k + (catU l).length = s.size → runL s f k = (l, s.size)
  | [], f, k, h, _, _, hp, he => by
    simp [catU] at he
    subst he
    cases f with
    | zero => omega
    | succ f => exact runL_none decO_end
  | i :: l, f, k, h, hk, hw, hp, he => by
    rw [allOk_cons, Bool.and_eq_true] at hk
    have hl := encl_ok i hk.1
    have hp' : Pre s k (encL i ++ catU l) := hp
    have he' : k + ((encL i).length + (catU l).length) = s.size := by simpa [catU] using he
    cases f with
    | zero => omega
    | succ f =>
      have e : decO s k = some i := (decO_iff (by omega)).2 ⟨hk.1, hw i (by simp), hp'.left⟩
      rw [runL_some e, runL_put l f (k + (encL i).length) (by omega) hk.2 (fun x hx => hw x (by simp [hx])) hp'.right (by omega)]
/-- the landed package's guesses -/
def gsL (s : ByteArray) : Nat → Nat → Option (List Ins)
  | 0, _ => none
  | f + 1, k => if s.size ≤ k then some [] else if (gI (bA s) k).op = 0 then none else (gsL s f (gE (bA s) k)).map (gI (bA s) k :: ·)
def gsD (s : ByteArray) : List Ins := (gsL s (s.size + 1) 0).getD []
theorem op_ne {i : Ins} (h : okI i = true) : i.op ≠ 0 := by
  intro e
  have hk := okI_iff h
  rw [e] at hk
  exact hk
theorem gsL_wf {s : ByteArray} : ∀ (f k : Nat) (l : List Ins), gsL s f k = some l → ∀ i ∈ l, i.wf
  | 0, k, l, h => by simp [gsL] at h
  | f + 1, k, l, h => by
    unfold gsL at h
    split at h
    · cases h; intro i hi; cases hi
    · split at h
      · cases h
      · obtain ⟨m, hm, rfl⟩ := Option.map_eq_some_iff.1 h
        intro i hi
        rcases List.mem_cons.1 hi with rfl | hi
        · exact gI_wf (bA_bb s) k
        · exact gsL_wf f _ m hm i hi
theorem gsD_wf (s : ByteArray) : ∀ i ∈ gsD s, i.wf := by
  unfold gsD
  cases h : gsL s (s.size + 1) 0 with
  | none => intro i hi; cases hi
  | some l => exact gsL_wf _ _ l h
theorem gsL_put {s : ByteArray} : ∀ (l : List Ins) (f k : Nat), s.size < k + f → allOk l = true → (∀ i ∈ l, i.wf) → Pre s k (catU l) → k + (catU l).length = s.size → gsL s f k = some l
  | [], f, k, h, _, _, hp, he => by
    simp [catU] at he
    subst he
    cases f with
    | zero => omega
    | succ f => unfold gsL; rw [if_pos (Nat.le_refl _)]
  | i :: l, f, k, h, hk, hw, hp, he => by
    rw [allOk_cons, Bool.and_eq_true] at hk
    have hl := encl_ok i hk.1
    have hp' : Pre s k (encL i ++ catU l) := hp
    have he' : k + ((encL i).length + (catU l).length) = s.size := by simpa [catU] using he
    cases f with
    | zero => omega
    | succ f =>
      have e := rd_ok i hk.1 (hw i (by simp)) (bA s) k hp'.left.2
      unfold gsL
      rw [if_neg (by omega), e.1, e.2.1, if_neg (op_ne hk.1), gsL_put l f (k + (encL i).length) (by omega) hk.2 (fun x hx => hw x (by simp [hx])) hp'.right (by omega)]
      rfl
/-- is the text just what is put for the guesses? -/
def gok (s : ByteArray) : Bool := allOk (gsD s) && decide (toU8 (catU (gsD s)) = s.data.toList)
theorem gok_yes {s : ByteArray} (h : gok s = true) : allD s = (gsD s, s.size) := by
  unfold gok at h
  rw [Bool.and_eq_true, decide_eq_true_eq] at h
  have hb := cat_b8 _ h.1
  have hlen : (catU (gsD s)).length = s.size := by
    have := congrArg List.length h.2
    rw [size_data] at this
    rw [← this]
    exact (List.length_map ..).symm
  exact runL_put _ _ 0 (by omega) h.1 (gsD_wf s) ((pre_iff hb (by omega)).2 (by rw [h.2]; exact List.prefix_rfl)) (by omega)
theorem allD_ok (s : ByteArray) : allOk (allD s).1 = true ∧ (∀ i ∈ (allD s).1, i.wf) ∧ (allD s).2 = (catU (allD s).1).length ∧ Pre s 0 (catU (allD s).1) ∧ (allD s).2 ≤ s.size ∧ decO s (allD s).2 = none := by
  have h := runL_ok (s := s) (s.size + 1) 0 (by omega) (by omega)
  rw [Nat.zero_add] at h
  exact h
theorem gok_no {s : ByteArray} (h : gok s = false) : (allD s).2 < s.size := by
  obtain ⟨h1, h2, h3, h4, h5, h6⟩ := allD_ok s
  rcases Nat.lt_or_ge (allD s).2 s.size with h7 | h7
  · exact h7
  · exfalso
    have e : (catU (allD s).1).length = s.size := by omega
    have hg : gsD s = (allD s).1 := by
      unfold gsD
      rw [gsL_put (allD s).1 (s.size + 1) 0 (by omega) h1 h2 h4 (by omega)]
      rfl
    have hp := (pre_iff (cat_b8 _ h1) (Nat.zero_le _)).1 h4
    have hq : toU8 (catU (allD s).1) = s.data.toList := by
      obtain ⟨r, hr⟩ := hp
      rw [List.drop_zero] at hr
      have h8 := congrArg List.length hr
      rw [List.length_append, size_data, show (toU8 (catU (allD s).1)).length = (catU (allD s).1).length from List.length_map .., e] at h8
      have h9 : r = [] := List.eq_nil_of_length_eq_zero (by omega)
      rw [← hr, h9, List.append_nil]
    unfold gok at h
    rw [hg, h1, decide_eq_true hq] at h
    cases h
end Is
end Go.Proofs.YtblmagcekfbgdaaGreatDoor
