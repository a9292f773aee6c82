/- Plain, for LimbRounds: the two programs, what may be, how many events, how they are answered. -/
import Derived.Test.YtfemoipbphianaaDoorPA
import Derived.Test.YtfemoipbphianaaDoorSC
namespace Go.Proofs.YtfemoipbphianaaDoor
open Go Go.RowKit
namespace Lb
open Wd Nt Gr
set_option linter.unusedVariables false
set_option linter.unusedSimpArgs false
def rdO (k d im : Int) : Op := ⟨k, d, -1, -1, -1, -1, 0, im⟩
def rdHead : List Op := [rdO 1 0 5, rdO 1 1 9223372036854775808, rdO 1 2 1]
def rdLoop (T : Nat) : Op := rdO 16 5 (T : Int)
def rdEnd : Op := rdO 17 (-1) 0
def rdA (bufs : List Bf) (L : List Op) (T : Nat) : Pg := ⟨6, bufs, rdHead ++ [rdLoop T] ++ L ++ [rdEnd]⟩
/-- the rounds from i on -/
def rdRows (L : List Op) : Nat → Nat → List Op
  | 0, _ => []
  | m + 1, i => rdO 1 5 (i : Int) :: L ++ rdRows L m (i + 1)
def rdB (bufs : List Bf) (L : List Op) (T : Nat) : Pg := ⟨6, bufs, rdHead ++ rdRows L T 0⟩
theorem rdRows_len (L : List Op) : ∀ m i, (rdRows L m i).length = m * (1 + L.length)
  | 0, i => by simp [rdRows]
  | m + 1, i => by
    unfold rdRows
    rw [List.length_append, List.length_cons, rdRows_len L m (i + 1), Nat.add_mul]
    omega
theorem rdRows_at (L : List Op) : ∀ m i j k, j < m → k < 1 + L.length → (rdRows L m i)[j * (1 + L.length) + k]? = (rdO 1 5 ((i + j : Nat) : Int) :: L)[k]?
  | m + 1, i, 0, k, _, hk => by
    unfold rdRows
    rw [Nat.zero_mul, Nat.zero_add, List.getElem?_append_left (by rw [List.length_cons]; omega), Nat.add_zero]
  | m + 1, i, j + 1, k, hj, hk => by
    unfold rdRows
    rw [show (j + 1) * (1 + L.length) + k = (1 + L.length) + (j * (1 + L.length) + k) by rw [Nat.add_mul, Nat.one_mul]; omega, List.getElem?_append_right (by rw [List.length_cons]; omega), List.length_cons, show 1 + L.length + (j * (1 + L.length) + k) - (L.length + 1) = j * (1 + L.length) + k by omega, rdRows_at L m (i + 1) j k (by omega) hk, show i + 1 + j = i + (j + 1) by omega]
  | 0, i, j, k, hj, _ => absurd hj (by omega)
theorem rdRows_snoc (L : List Op) : ∀ m i, rdRows L (m + 1) i = rdRows L m i ++ [rdO 1 5 ((i + m : Nat) : Int)] ++ L
  | 0, i => by
    show rdO 1 5 (i : Int) :: L ++ [] = [] ++ [rdO 1 5 ((i + 0 : Nat) : Int)] ++ L
    simp
  | m + 1, i => by
    show rdO 1 5 (i : Int) :: L ++ rdRows L (m + 1) (i + 1) = (rdO 1 5 (i : Int) :: L ++ rdRows L m (i + 1)) ++ [rdO 1 5 ((i + (m + 1) : Nat) : Int)] ++ L
    rw [rdRows_snoc L m (i + 1), show i + 1 + m = i + (m + 1) by omega]
    simp
theorem outAt_b (bufs : List Bf) (L : List Op) (T : Nat) : OutAt (rdB bufs L T).op 3 L 5 T := by
  have hl : rdHead.length = 3 := rfl
  refine ⟨fun i hi => ⟨rdO 1 5 (i : Int), ?_, rfl, rfl, rfl, rfl⟩, fun i hi j o ho => ?_, ?_⟩
  · show (rdHead ++ rdRows L T 0)[3 + i * (1 + L.length)]? = _
    rw [List.getElem?_append_right (by rw [hl]; omega), hl, show 3 + i * (1 + L.length) - 3 = i * (1 + L.length) + 0 by omega, rdRows_at L T 0 i 0 hi (by omega), Nat.zero_add]
    rfl
  · show (rdHead ++ rdRows L T 0)[3 + i * (1 + L.length) + 1 + j]? = _
    have hj := (List.getElem?_eq_some_iff.1 ho).1
    rw [List.getElem?_append_right (by rw [hl]; omega), hl, show 3 + i * (1 + L.length) + 1 + j - 3 = i * (1 + L.length) + (j + 1) by omega, rdRows_at L T 0 i (j + 1) hi (by omega), List.getElem?_cons_succ]
    exact ho
  · show (rdHead ++ rdRows L T 0).length = _
    rw [List.length_append, rdRows_len, hl]
/-! ### ends -/
theorem enF_plain : ∀ (L : List Op) (s : List Int × List Nat), (∀ o ∈ L, o.k ≠ 16 ∧ o.k ≠ 17) → L.foldl enO s = (s.1 ++ List.replicate L.length (-1), s.2)
  | [], s, _ => by simp
  | o :: L, s, h => by
    have h0 := h o (by simp)
    rw [List.foldl_cons, enF_plain L _ (fun x hx => h x (by simp [hx])), enO_pl h0.1 h0.2]
    simp [List.replicate_succ]
theorem rdHead_pl : ∀ o ∈ rdHead, o.k ≠ 16 ∧ o.k ≠ 17 := fun o ho => by
  simp only [rdHead, List.mem_cons, List.not_mem_nil, or_false] at ho
  rcases ho with rfl | rfl | rfl <;> exact ⟨by decide, by decide⟩
theorem loopAt_a {bufs : List Bf} {L : List Op} {T : Nat} (hk : ∀ o ∈ L, o.k ≠ 16 ∧ o.k ≠ 17) : LoopAt (rdA bufs L T).op (enP (rdA bufs L T).op) 3 L 5 T := by
  have hop : (rdA bufs L T).op = rdHead ++ (rdLoop T :: (L ++ [rdEnd])) := by unfold rdA; simp
  have hl : rdHead.length = 3 := rfl
  refine ⟨⟨rdLoop T, by rw [hop]; rfl, rfl, rfl, rfl⟩, fun i o ho => ?_, ⟨rdEnd, ?_, rfl⟩, ?_, ?_⟩
  · have hi := (List.getElem?_eq_some_iff.1 ho).1
    rw [hop, List.getElem?_append_right (by rw [hl]; omega), hl, show 3 + 1 + i - 3 = i + 1 by omega, List.getElem?_cons_succ, List.getElem?_append_left hi]
    exact ho
  · rw [hop, List.getElem?_append_right (by rw [hl]; omega), hl, show 3 + 1 + L.length - 3 = L.length + 1 by omega, List.getElem?_cons_succ, List.getElem?_append_right (Nat.le_refl _), Nat.sub_self]
    rfl
  · have he : enP (rdA bufs L T).op = ((List.replicate 3 (-1) ++ [-1] ++ List.replicate L.length (-1)) ++ [3]).set 3 (((List.replicate 3 (-1) ++ [-1] ++ List.replicate L.length (-1) : List Int).length : Nat) : Int) := by
      unfold enP enF
      rw [hop, List.foldl_append, enF_plain rdHead _ rdHead_pl, List.foldl_cons, enO_16 (by rfl), List.foldl_append, enF_plain L _ hk, List.foldl_cons, List.foldl_nil, enO_17 (by rfl)]
      rfl
    unfold enAt
    rw [he, List.getElem?_set]
    have hn : (List.replicate 3 (-1) ++ [-1] ++ List.replicate L.length (-1) : List Int).length = 4 + L.length := by
      simp
      omega
    rw [if_neg (by omega), List.getElem?_append_right (by rw [hn]; omega), hn, show 3 + 1 + L.length - (4 + L.length) = 0 by omega]
    rfl
  · rw [hop, List.length_append, List.length_cons, List.length_append, hl]
    simp
    omega
/-! ### events -/
theorem evF_plain : ∀ (L : List Op) (t e : Nat) (fr : List (Nat × Nat)), (∀ o ∈ L, o.k ≠ 16 ∧ o.k ≠ 17) → e + L.length ≤ 1125899906842624 → L.foldl evO ((t, e) :: fr) = (t, e + L.length) :: fr
  | [], t, e, fr, _, _ => rfl
  | o :: L, t, e, fr, h, hl => by
    have h0 := h o (by simp)
    rw [List.length_cons] at hl
    have h1 : evO ((t, e) :: fr) o = (t, e + 1) :: fr := by
      unfold evO
      rw [if_neg h0.1, if_neg h0.2]
      show (t, capN (e + 1)) :: fr = _
      rw [show capN (e + 1) = e + 1 by unfold capN; omega]
    rw [List.foldl_cons, h1, evF_plain L t (e + 1) fr (fun x hx => h x (by simp [hx])) (by omega), List.length_cons]
    congr 2
    omega
theorem evP_a {bufs : List Bf} {L : List Op} {T : Nat} (hk : ∀ o ∈ L, o.k ≠ 16 ∧ o.k ≠ 17) (hl : L.length ≤ 20) (hT : T ≤ 8) : evP (rdA bufs L T).op = 3 + (1 + L.length) * T := by
  have hop : (rdA bufs L T).op = rdHead ++ (rdLoop T :: (L ++ [rdEnd])) := by unfold rdA; simp
  have hm : (1 + L.length) * T ≤ 21 * 8 := Nat.mul_le_mul (by omega) hT
  have h : evF (rdA bufs L T).op = [(1, 3 + (1 + L.length) * T)] := by
    unfold evF
    rw [hop, List.foldl_append, evF_plain rdHead 1 0 [] rdHead_pl (by decide), List.foldl_cons, show evO ((1, 0 + rdHead.length) :: []) (rdLoop T) = (T, 1) :: (1, 3) :: [] from rfl, List.foldl_append, evF_plain L T 1 _ hk (by omega), List.foldl_cons, List.foldl_nil]
    show [(1, capN (3 + capN ((1 + L.length) * T)))] = _
    rw [show capN ((1 + L.length) * T) = (1 + L.length) * T by unfold capN; omega, show capN (3 + (1 + L.length) * T) = 3 + (1 + L.length) * T by unfold capN; omega]
  unfold evP
  rw [h]
  rfl
theorem rdRows_pl {L : List Op} (hk : ∀ o ∈ L, o.k ≠ 16 ∧ o.k ≠ 17) : ∀ m i, ∀ o ∈ rdRows L m i, o.k ≠ 16 ∧ o.k ≠ 17
  | 0, i, o, ho => by cases ho
  | m + 1, i, o, ho => by
    unfold rdRows at ho
    rcases List.mem_append.1 ho with ho | ho
    · rcases List.mem_cons.1 ho with rfl | ho
      · exact ⟨show (1 : Int) ≠ 16 by decide, show (1 : Int) ≠ 17 by decide⟩
      · exact hk o ho
    · exact rdRows_pl hk m (i + 1) o ho
theorem evP_b {bufs : List Bf} {L : List Op} {T : Nat} (hk : ∀ o ∈ L, o.k ≠ 16 ∧ o.k ≠ 17) (hl : L.length ≤ 20) (hT : T ≤ 8) : evP (rdB bufs L T).op = 3 + T * (1 + L.length) := by
  have hm : T * (1 + L.length) ≤ 8 * 21 := Nat.mul_le_mul hT (by omega)
  have hpl : ∀ o ∈ (rdB bufs L T).op, o.k ≠ 16 ∧ o.k ≠ 17 := fun o ho => by
    rcases List.mem_append.1 ho with ho | ho
    · exact rdHead_pl o ho
    · exact rdRows_pl hk T 0 o ho
  have hlen : (rdB bufs L T).op.length = 3 + T * (1 + L.length) := by
    show (rdHead ++ rdRows L T 0).length = _
    rw [List.length_append, rdRows_len]
    rfl
  unfold evP evF
  rw [evF_plain _ 1 0 [] hpl (by rw [hlen]; omega), hlen]
  simp
/-! ### what may be -/
theorem sAt_pl : ∀ (L : List Op) (s : Ah), (∀ o ∈ L, o.k ≠ 16 ∧ o.k ≠ 17) → (L.foldl adv s).lp = s.lp
  | [], s, _ => rfl
  | o :: L, s, h => by
    have h0 := h o (by simp)
    rw [List.foldl_cons, sAt_pl L _ (fun x hx => h x (by simp [hx]))]
    unfold adv
    rw [if_neg h0.2]
    show (if o.k = 16 then s.lp ++ [o.d] else s.lp) = s.lp
    rw [if_neg h0.1]
/-- of what stands ahead, more is made, and no loop is open -/
structure Mo (s s' : Ah) : Prop where
  lp : s'.lp = []
  md : ∀ i, s.md i = true → s'.md i = true
theorem Mo.has {s s' : Ah} (h : Mo s s') {r : Int} (hr : hasR s.md r = true) : hasR s'.md r = true := by
  unfold hasR at *
  rw [Bool.or_eq_true] at *
  exact hr.imp id (h.md _)
theorem adv_mdR {s : Ah} {o : Op} (h17 : o.k ≠ 17) (i : Nat) : (adv s o).md i = (decide (o.e ≠ -1 ∧ i = o.e.toNat) || (decide (o.d ≠ -1 ∧ i = o.d.toNat) || s.md i)) := by
  unfold adv
  rw [if_neg h17]
  show setR (setR s.md o.d true) o.e true i = _
  unfold setR
  by_cases h1 : o.e ≠ -1 ∧ i = o.e.toNat
  · rw [if_pos h1, decide_eq_true h1]; rfl
  · rw [if_neg h1, decide_eq_false h1, Bool.false_or]
    by_cases h2 : o.d ≠ -1 ∧ i = o.d.toNat
    · rw [if_pos h2, decide_eq_true h2]; rfl
    · rw [if_neg h2, decide_eq_false h2]; rfl
theorem Mo.adv {s s' : Ah} {o : Op} (h : Mo s s') (h16 : o.k ≠ 16) (h17 : o.k ≠ 17) : Mo (Lb.adv s o) (Lb.adv s' o) := by
  refine ⟨?_, fun i hi => ?_⟩
  · unfold Lb.adv
    rw [if_neg h17]
    show (if o.k = 16 then s'.lp ++ [o.d] else s'.lp) = []
    rw [if_neg h16, h.lp]
  · rw [adv_mdR h17] at hi ⊢
    simp only [Bool.or_eq_true] at hi ⊢
    exact hi.imp id (fun h2 => h2.imp id (h.md i))
theorem Mo.flt {regs : Int} {bufs : List Bf} {s s' : Ah} {o : Op} (h : Mo s s') (h16 : o.k ≠ 16) (h17 : o.k ≠ 17) (hf : fltO regs bufs s o = 0) : fltO regs bufs s' o = 0 := by
  obtain ⟨h1, h2, h3, h4, h5, h6⟩ := flt_zero hf
  have hm : misP s' o = false := by
    unfold misP
    rw [if_neg h17, if_neg h16, h.lp]
    rfl
  unfold fltO
  rw [if_neg (by rw [h1]; decide), if_neg (by rw [hm]; decide), if_neg (fun e => h16 e.1), h.has h4, h.has h5, h.has h6]
  rfl
/-- operations that may be where less is made, one behind the other, and on -/
theorem chk_line {regs : Int} {bufs : List Bf} {M : List Op} : ∀ (L : List Op) (s s' : Ah) (n : Nat), (∀ o ∈ L, o.k ≠ 16 ∧ o.k ≠ 17) → (∀ k o, L[k]? = some o → fltO regs bufs ((L.take k).foldl adv s) o = 0) → Mo s s' → chkG regs bufs (L ++ M) s' n = chkG regs bufs M (L.foldl adv s') (n + L.length) ∧ Mo (L.foldl adv s) (L.foldl adv s')
  | [], s, s', n, _, _, h => ⟨rfl, h⟩
  | o :: L, s, s', n, hk, hf, h => by
    have h0 := hk o (by simp)
    have hf0 := h.flt h0.1 h0.2 (hf 0 o rfl)
    obtain ⟨e1, e2⟩ := chk_line (M := M) L (adv s o) (adv s' o) (n + 1) (fun x hx => hk x (by simp [hx])) (fun k x hx => hf (k + 1) x (by rw [List.getElem?_cons_succ]; exact hx)) (h.adv h0.1 h0.2)
    refine ⟨?_, e2⟩
    show (if fltO regs bufs s' o ≠ 0 then (n, fltO regs bufs s' o) else chkG regs bufs (L ++ M) (adv s' o) (n + 1)) = _
    rw [if_neg (by simpa using hf0), e1, List.length_cons]
    show chkG regs bufs M (L.foldl adv (adv s' o)) (n + 1 + L.length) = chkG regs bufs M (L.foldl adv (adv s' o)) (n + (L.length + 1))
    rw [show n + 1 + L.length = n + (L.length + 1) by omega]
/-- made things stay made -/
theorem md_grow : ∀ (L : List Op) (s : Ah), (∀ o ∈ L, o.k ≠ 16 ∧ o.k ≠ 17) → ∀ i, s.md i = true → (L.foldl adv s).md i = true
  | [], s, _, i, h => h
  | o :: L, s, hk, i, h => by
    have h0 := hk o (by simp)
    refine md_grow L (adv s o) (fun x hx => hk x (by simp [hx])) i ?_
    rw [adv_mdR h0.2, h, Bool.or_true, Bool.or_true]
/-- what stands ahead of the loop's body -/
def rdS (T : Nat) : Ah := (rdHead ++ [rdLoop T]).foldl adv ah0
theorem rdS_lp (T : Nat) : (rdS T).lp = [5] := rfl
theorem rd_take {bufs : List Bf} {L : List Op} {T k : Nat} (hk : k ≤ L.length) : sAt (rdA bufs L T).op (4 + k) = (L.take k).foldl adv (rdS T) := by
  have hop : (rdA bufs L T).op = (rdHead ++ [rdLoop T]) ++ (L ++ [rdEnd]) := by unfold rdA; simp
  have hl : (rdHead ++ [rdLoop T]).length = 4 := rfl
  unfold sAt rdS
  rw [hop, List.take_append, hl, List.take_of_length_le (by rw [hl]; omega), show 4 + k - 4 = k by omega, List.take_append_of_le_length hk, List.foldl_append]
theorem rd_body {bufs : List Bf} {L : List Op} {T : Nat} {k : Nat} {o : Op} (h : (chkP (rdA bufs L T)).2 = 0) (hk : L[k]? = some o) : fltO 6 bufs ((L.take k).foldl adv (rdS T)) o = 0 := by
  have hkl := (List.getElem?_eq_some_iff.1 hk).1
  have hop : (rdA bufs L T).op = (rdHead ++ [rdLoop T]) ++ (L ++ [rdEnd]) := by unfold rdA; simp
  have hl : (rdHead ++ [rdLoop T]).length = 4 := rfl
  have := (ok_of h).flt (4 + k) o (by rw [hop, List.getElem?_append_right (by rw [hl]; omega), hl, show 4 + k - 4 = k by omega, List.getElem?_append_left hkl]; exact hk)
  rw [rd_take (by omega)] at this
  exact this
theorem rd_off {bufs : List Bf} {L : List Op} {T : Nat} (h : (chkP (rdA bufs L T)).2 = 0) (hpl : ∀ o ∈ L, o.k ≠ 16 ∧ o.k ≠ 17) : ∀ o ∈ L, Off 5 o := by
  intro o ho
  obtain ⟨k, hk⟩ := List.mem_iff_getElem?.1 ho
  obtain ⟨h1, h2, _⟩ := flt_zero (rd_body h hk)
  have hp := hpl o ho
  have hrg := opOk_lt (rg := 6) (by decide) h1
  unfold misP at h2
  rw [if_neg hp.2, if_neg hp.1, sAt_pl _ _ (fun x hx => hpl x (List.mem_of_mem_take hx)), rdS_lp] at h2
  rw [Bool.or_eq_false_iff] at h2
  have d5 : o.d ≠ 5 := fun e => by rw [e] at h2; exact absurd h2.1 (by decide)
  have e5 : o.e ≠ 5 := fun e => by rw [e] at h2; exact absurd h2.2 (by decide)
  have := hrg.d
  have := hrg.e
  unfold Off
  exact ⟨by omega, by omega⟩
theorem rdO_flt (bufs : List Bf) (s : Ah) (hs : s.lp = []) (i : Nat) (hi : i < 100) : fltO 6 bufs s (rdO 1 5 (i : Int)) = 0 := by
  have ho : opOk 6 bufs (rdO 1 5 (i : Int)) = true := by
    unfold opOk rgOk plOk rOk rdO
    simp [hD, hE, hA, hB, hC, mm, leI, moI]
    omega
  unfold fltO
  rw [ho]
  simp [misP, rdO, hs, hasR]
theorem rd_rows {bufs : List Bf} {L : List Op} {T : Nat} (h : (chkP (rdA bufs L T)).2 = 0) (hpl : ∀ o ∈ L, o.k ≠ 16 ∧ o.k ≠ 17) : ∀ (m i n : Nat) (s' : Ah), i + m < 100 → s'.lp = [] → (∀ j, (rdS T).md j = true → s'.md j = true) → (chkG 6 bufs (rdRows L m i) s' n).2 = 0
  | 0, i, n, s', _, hs, _ => by
    show (if s'.lp.isEmpty then (0 : Int) else 9) = 0
    rw [hs]
    rfl
  | m + 1, i, n, s', hm, hs, hmd => by
    unfold rdRows
    show (chkG 6 bufs (rdO 1 5 (i : Int) :: (L ++ rdRows L m (i + 1))) s' n).2 = 0
    unfold chkG
    rw [if_neg (by rw [rdO_flt bufs s' hs i (by omega)]; exact fun h => h rfl)]
    have hmo : Mo (rdS T) (adv s' (rdO 1 5 (i : Int))) := by
      refine ⟨hs, fun j hj => ?_⟩
      rw [adv_mdR (by show (1 : Int) ≠ 17; decide), hmd j hj, Bool.or_true, Bool.or_true]
    obtain ⟨e1, e2⟩ := chk_line (M := rdRows L m (i + 1)) L (rdS T) (adv s' (rdO 1 5 (i : Int))) (n + 1) hpl (fun k o ho => rd_body h ho) hmo
    rw [e1]
    exact rd_rows h hpl m (i + 1) _ _ (by omega) e2.lp (fun j hj => e2.md j (md_grow L _ hpl j hj))
/-- the rounds written out may be, too -/
theorem rd_chk {bufs : List Bf} {L : List Op} {T : Nat} (h : (chkP (rdA bufs L T)).2 = 0) (hpl : ∀ o ∈ L, o.k ≠ 16 ∧ o.k ≠ 17) (hl : L.length ≤ 20) (hT : T ≤ 8) : (chkP (rdB bufs L T)).2 = 0 := by
  have hm : T * (1 + L.length) ≤ 8 * 21 := Nat.mul_le_mul hT (by omega)
  have hlen : (rdB bufs L T).op.length = 3 + T * (1 + L.length) := by
    show (rdHead ++ rdRows L T 0).length = _
    rw [List.length_append, rdRows_len]
    rfl
  have hz := (ok_of h).ref
  have hr : refP (rdB bufs L T) = 0 := by
    replace hz : (if decide (64 < (6 : Int)) || decide (32 < bufs.length) || decide (65536 < (rdA bufs L T).op.length) || bufs.any longB then (3 : Int) else if decide ((6 : Int) < 0) || bufs.any wrongB then 2 else 0) = 0 := hz
    have e1 : (decide (64 < (6 : Int)) || decide (32 < bufs.length) || decide (65536 < (rdA bufs L T).op.length) || bufs.any longB) = false := by
      rw [Bool.eq_false_iff]
      intro e
      rw [if_pos e] at hz
      cases hz
    have hz2 := hz
    rw [if_neg (by rw [e1]; decide)] at hz2
    have e2 : (decide ((6 : Int) < 0) || bufs.any wrongB) = false := by
      rw [Bool.eq_false_iff]
      intro e
      rw [if_pos e] at hz2
      cases hz2
    simp only [Bool.or_eq_false_iff] at e1 e2
    show (if decide (64 < (6 : Int)) || decide (32 < bufs.length) || decide (65536 < (rdB bufs L T).op.length) || bufs.any longB then (3 : Int) else if decide ((6 : Int) < 0) || bufs.any wrongB then 2 else 0) = 0
    rw [e1.1.1.2, e1.2, e2.2, hlen, decide_eq_false (by omega : ¬ 65536 < 3 + T * (1 + L.length))]
    rfl
  unfold chkP
  rw [if_neg (by simpa using hr)]
  show (chkG 6 bufs (rdHead ++ rdRows L T 0) ah0 0).2 = 0
  obtain ⟨e1, e2⟩ := chk_line (regs := 6) (bufs := bufs) (M := rdRows L T 0) rdHead ah0 ah0 0 rdHead_pl (fun k o ho => by
    have hk3 := (List.getElem?_eq_some_iff.1 ho).1
    have hop : (rdA bufs L T).op = rdHead ++ (rdLoop T :: (L ++ [rdEnd])) := by unfold rdA; simp
    have := (ok_of h).flt k o (by rw [hop, List.getElem?_append_left hk3]; exact ho)
    unfold sAt at this
    rw [hop, List.take_append_of_le_length (by omega)] at this
    exact this) ⟨rfl, fun _ h => h⟩
  rw [e1]
  match T, hT with
  | 0, _ => show (if (rdHead.foldl adv ah0).lp.isEmpty then (0 : Int) else 9) = 0; rfl
  | T + 1, hT =>
    -- the first round makes register 5
    unfold rdRows
    show (chkG 6 bufs (rdO 1 5 ((0 : Nat) : Int) :: (L ++ rdRows L T (0 + 1))) (rdHead.foldl adv ah0) (0 + rdHead.length)).2 = 0
    unfold chkG
    rw [if_neg (by rw [rdO_flt bufs _ rfl 0 (by omega)]; exact fun h => h rfl)]
    have hmo : Mo (rdS (T + 1)) (adv (rdHead.foldl adv ah0) (rdO 1 5 ((0 : Nat) : Int))) := by
      refine ⟨rfl, fun j hj => ?_⟩
      have e : (rdS (T + 1)).md = (adv (rdHead.foldl adv ah0) (rdLoop (T + 1))).md := rfl
      rw [e, adv_mdR (by show (16 : Int) ≠ 17; decide)] at hj
      rw [adv_mdR (by show (1 : Int) ≠ 17; decide)]
      exact hj
    obtain ⟨e1, e2⟩ := chk_line (M := rdRows L T (0 + 1)) L (rdS (T + 1)) (adv (rdHead.foldl adv ah0) (rdO 1 5 ((0 : Nat) : Int))) (0 + rdHead.length + 1) hpl (fun k o ho => rd_body h ho) hmo
    rw [e1]
    exact rd_rows h hpl T (0 + 1) _ _ (by omega) e2.lp (fun j hj => e2.md j (md_grow L _ hpl j hj))
/-- what LimbRounds asks -/
structure RoundsA (r q : Ans) : Prop where
  er : r.er = q.er
  out : r.out = q.out
  ats : r.ev.map (·.2) = q.ev.map (·.2)
theorem rd_same {bufs : List Bf} {L : List Op} {T : Nat} {hs : List (List Int)} {r q : Ans} (h : (chkP (rdA bufs L T)).2 = 0) (hpl : ∀ o ∈ L, o.k ≠ 16 ∧ o.k ≠ 17) (hl : L.length ≤ 20) (h0 : 0 < T) (hT : T ≤ 8) (hr : RunP (rdA bufs L T) hs r) (hq : RunP (rdB bufs L T) hs q) : RoundsA r q := by
  have hm1 : (1 + L.length) * T ≤ 21 * 8 := Nat.mul_le_mul (by omega) hT
  have hm2 : T * (1 + L.length) ≤ 8 * 21 := Nat.mul_le_mul hT (by omega)
  unfold RunP at hr hq
  rw [if_neg (by simpa using h), if_neg (by rw [evP_a hpl hl hT]; omega)] at hr
  rw [if_neg (by simpa using rd_chk h hpl hl hT), if_neg (by rw [evP_b hpl hl hT]; omega)] at hq
  have hb : (rdB bufs L T).bf = (rdA bufs L T).bf := rfl
  rw [hb] at hq
  by_cases hf : fitP (rdA bufs L T).bf hs = false
  · rw [if_pos hf] at hr hq
    rw [hr, hq]
    exact ⟨rfl, rfl, rfl⟩
  rw [if_neg hf] at hr hq
  obtain ⟨f, s, ⟨N, hN⟩, rfl⟩ := hr
  obtain ⟨g, t, ⟨M, hM⟩, rfl⟩ := hq
  -- the heads
  have hA := loopAt_a (bufs := bufs) (T := T) hpl
  have hB := outAt_b bufs L T
  have hopA : (rdA bufs L T).op = rdHead ++ (rdLoop T :: (L ++ [rdEnd])) := by unfold rdA; simp
  have hl3 : rdHead.length = 3 := rfl
  rcases line_al (ops := (rdA bufs L T).op) (ops' := (rdB bufs L T).op) (ends := enP (rdA bufs L T).op) (ends' := enP (rdB bufs L T).op) rdHead 0 0 (st0 (rdA bufs L T) hs) (st0 (rdB bufs L T) hs) rdHead_pl (fun i o ho => by
    have hi := (List.getElem?_eq_some_iff.1 ho).1
    rw [Nat.zero_add]
    exact ⟨by rw [hopA, List.getElem?_append_left hi]; exact ho, by show (rdHead ++ rdRows L T 0)[i]? = _; rw [List.getElem?_append_left hi]; exact ho⟩) rfl rfl ⟨rfl, rfl, rfl⟩ with ⟨n, s2, t2, k1, k2, k3⟩ | ⟨n, s2, t2, k1, k2, k3, k4, k5, _⟩
  · have e1 := runF_det hN (k1 0)
    have e2 := runF_det hM (k2 0)
    cases e1
    cases e2
    exact ⟨rfl, rfl, k3.ats⟩
  · obtain ⟨N1, N2, f', s3, t3, f1, f2, f3⟩ := loop_al (ends := enP (rdA bufs L T).op) (ends' := enP (rdB bufs L T).op) h0 (by omega) hA hB hpl (rd_off h hpl) (by rw [k4, hl3]) (by rw [k5, hl3]) k3
    have e1 := runF_det hN ((k1 N1).trans f1)
    have e2 := runF_det hM ((k2 N2).trans f2)
    cases e1
    cases e2
    cases f
    · exact ⟨rfl, rfl, f3.ats⟩
    · exact ⟨rfl, f3.rows, f3.ats⟩
end Lb
end Go.Proofs.YtfemoipbphianaaDoor
