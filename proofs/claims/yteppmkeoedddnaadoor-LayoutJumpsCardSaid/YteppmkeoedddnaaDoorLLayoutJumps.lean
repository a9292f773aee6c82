/- What is asked of the landed package decode; the chapter's examples as each law asks them first. | Plain facts of bytes as instructions that the laws ask for. | A good text's bytes read back, line by line; no program in it. | The landed package layout: Check, Places; the document's own Jump. | LayoutJumps: every jump of a good text goes where its label lies. -/
import Derived.Test.YteppmkeoedddnaaDoorT2
import Derived.Test.YteppmkeoedddnaaDoorN0
import Derived.Test.YteppmkeoedddnaaDoorY1
import Derived.Test.YteppmkeoedddnaaDoorY3
import Derived.Test.YteppmkeoedddnaaDoorYA
import Derived.Test.YteppmkeoedddnaaDoorW4
import Derived.Deep.RegionHeld3
namespace Go.Proofs.YteppmkeoedddnaaDoor
open Go Go.RowKit
namespace Is
open Nt
set_option linter.unusedVariables false
set_option linter.unusedSimpArgs false
theorem rD_eq {s : ByteArray} {k : Nat} {i : Ins} (hk : k < s.size) (h1 : okI i = true) (h2 : i.wf) (h3 : Pre s k (encL i)) : rD s (k : Int) = (i, ((encL i).length : Int), 0) :=
  rD_some hk ((decO_iff (by omega)).2 ⟨h1, h2, h3⟩)
theorem rD_bad {s : ByteArray} {k : Nat} (hk : k < s.size) (h : (decO s k).isNone = true) : rD s (k : Int) = (zI, 0, 4) := rD_none hk (Option.isNone_iff_eq_none.1 h)
theorem i64k {z : Int} (h : -1000 ≤ z) (h' : z ≤ 1000) : I64 z := i64s h h'
theorem wf_small {op d s t b x sc di im : Int} (h : ∀ z ∈ [op, d, s, t, b, x, sc, di, im], -1000 ≤ z ∧ z ≤ 1000) : (⟨op, d, s, t, b, x, sc, di, im⟩ : Ins).wf := by
  simp at h
  obtain ⟨h1, h2, h3, h4, h5, h6, h7, h8, h9⟩ := h
  exact ⟨i64k h1.1 h1.2, i64k h2.1 h2.2, i64k h3.1 h3.2, i64k h4.1 h4.2, i64k h5.1 h5.2, i64k h6.1 h6.2, i64k h7.1 h7.2, i64k h8.1 h8.2, i64k h9.1 h9.2⟩
theorem at_lit {s : ByteArray} {l : List Int} (h : (l.zipIdx.all fun x => bA s (0 + x.2) == x.1) = true) (hl : 0 + l.length ≤ s.size) : Pre s 0 l := by
  refine ⟨hl, fun j c hj => ?_⟩
  rw [List.all_eq_true] at h
  have h2 := h (c, j) (by rw [List.mem_zipIdx_iff_getElem?]; exact hj)
  simpa using h2
theorem ex1 : rD ⟨#[72, 17, 200]⟩ 0 = (⟨7, 0, 1, 0, 0, 0, 0, 0, 0⟩, 3, 0) :=
  rD_eq (s := ⟨#[72, 17, 200]⟩) (k := 0) (by decide) (by decide) (wf_small (by decide)) (at_lit (by decide +kernel) (by decide))
theorem ex2 : rD ⟨#[]⟩ 0 = (zI, 0, 8) := rD_end rfl
theorem ex3 : rD ⟨#[72, 139]⟩ 0 = (zI, 0, 4) := rD_bad (s := ⟨#[72, 139]⟩) (k := 0) (by decide) (by decide +kernel)
theorem ex4 : rD ⟨#[72, 139, 76, 36, 0]⟩ 0 = (zI, 0, 4) := rD_bad (s := ⟨#[72, 139, 76, 36, 0]⟩) (k := 0) (by decide) (by decide +kernel)
theorem i64_z : I64 0 := i64s (by decide) (by decide)
end Is
end Go.Proofs.YteppmkeoedddnaaDoor
namespace Go.Proofs.YteppmkeoedddnaaDoor
open Go Go.RowKit
namespace Is
open Nt
set_option linter.unusedVariables false
set_option linter.unusedSimpArgs false
theorem cat_ge (xs : List Ins) (h : allOk xs = true) : xs.length ≤ (catU xs).length := by
  induction xs with
  | nil => simp
  | cons x xs ih =>
    rw [allOk_cons, Bool.and_eq_true] at h
    have h1 := (encl_ok x h.1).2.1
    have h2 := ih h.2
    simp only [catU, List.length_append, List.length_cons]
    omega
theorem ba_ext {a b : ByteArray} (h : a.data.toList = b.data.toList) : a = b := by
  cases a; cases b
  simp at h
  rw [h]
theorem strU_data (l : List Int) : (strU l).data.toList = toU8 l := by unfold strU; simp
theorem strU_take (l : List Int) (k : Nat) : (strU l).extract 0 k = strU (l.take k) := by
  apply ba_ext
  rw [extract_list, strU_data, strU_data, Nat.sub_zero, List.drop_zero]
  unfold toU8
  rw [List.map_take]
/-- bytes at the beginning of a text that was put -/
theorem pre_strU {l m : List Int} (hl : B8s l) (hm : B8s m) : Pre (strU l) 0 m ↔ ∃ r, l = m ++ r := by
  rw [pre_iff hm (Nat.zero_le _), strU_data, List.drop_zero]
  constructor
  · rintro ⟨r, hr⟩
    have hlen := congrArg List.length hr
    rw [List.length_append, show (toU8 m).length = m.length from List.length_map .., show (toU8 l).length = l.length from List.length_map ..] at hlen
    refine ⟨l.drop m.length, ?_⟩
    have h1 : toU8 (l.take m.length) = toU8 m := by
      have h2 := congrArg (List.take m.length) hr
      rw [List.take_append_of_le_length (by rw [show (toU8 m).length = m.length from List.length_map ..]; exact Nat.le_refl _), List.take_of_length_le (by rw [show (toU8 m).length = m.length from List.length_map ..]; exact Nat.le_refl _)] at h2
      rw [h2]
      unfold toU8
      rw [List.map_take]
    have h3 := toU8_inj (hl.take m.length) hm h1
    have h4 := List.take_append_drop m.length l
    rw [h3] at h4
    exact h4.symm
  · rintro ⟨r, rfl⟩
    exact ⟨toU8 r, by unfold toU8; rw [List.map_append]⟩
/-- bytes of an instruction, cut -/
theorem rd_cut {i : Ins} (hk : okI i = true) (hw : i.wf) {k : Nat} (h1 : 1 ≤ k) (h2 : k ≤ (encL i).length) : rD ((encS i).extract 0 k) 0 = if k = (encL i).length then (i, ((encL i).length : Int), 0) else (zI, 0, 4) := by
  have he := encl_ok i hk
  have es : encS i = strU (encL i) := by unfold encS; rw [hk]; rfl
  rw [es, strU_take]
  have hsz : (strU ((encL i).take k)).size = k := by rw [size_strU, List.length_take]; omega
  have hb := he.1.take k
  split
  · rename_i e
    subst e
    rw [List.take_of_length_le (Nat.le_refl _)] at hsz ⊢
    refine rD_some (k := 0) (by omega) ((decO_iff (by omega)).2 ⟨hk, hw, (pre_strU he.1 he.1).2 ⟨[], by simp⟩⟩)
  · rename_i e
    refine rD_none (k := 0) (by omega) ?_
    cases hd : decO (strU ((encL i).take k)) 0 with
    | none => rfl
    | some j =>
      exfalso
      have hj := (decO_iff (by omega)).1 hd
      have hej := encl_ok j hj.1
      obtain ⟨r, hr⟩ := (pre_strU hb hej.1).1 hj.2.2
      have h5 : encL i ++ [] = encL j ++ (r ++ (encL i).drop k) := by
        rw [List.append_nil, ← List.append_assoc, ← hr]
        exact (List.take_append_drop k (encL i)).symm
      have h6 := enc_inj i j hk hj.1 hw hj.2.1 [] _ h5
      subst h6
      have h7 := congrArg List.length hr
      rw [List.length_take, List.length_append] at h7
      omega
/-- what all tells: it is what stands ahead -/
theorem all_facts (s : ByteArray) : allS (allD s).1 = strU (catU (allD s).1) ∧ allE (allD s).1 = 0 ∧ ((strU (catU (allD s).1)).toList == (s.extract 0 (allD s).2).toList) = true ∧ (allD s).2 ≤ s.size ∧ (allD s).1.length ≤ s.size ∧
    rD s ((allD s).2 : Int) = (if (allD s).2 = s.size then (zI, 0, 8) else (zI, 0, 4)) := by
  obtain ⟨h1, h2, h3, h4, h5, h6⟩ := allD_ok s
  refine ⟨?_, ?_, ?_, h5, ?_, ?_⟩
  · unfold allS; rw [h1]; rfl
  · unfold allE; rw [h1]; rfl
  · have h7 := (pre_cut (cat_b8 _ h1) (by omega)).2 h4
    rw [Nat.zero_add, ← h3] at h7
    rw [beq_iff_eq] at h7 ⊢
    exact h7.symm
  · have := cat_ge _ h1; omega
  · by_cases e : (allD s).2 = s.size
    · rw [if_pos e]; exact rD_end (by rw [e])
    · rw [if_neg e]; exact rD_none (by omega) h6
end Is
end Go.Proofs.YteppmkeoedddnaaDoor
namespace Go.Proofs.YteppmkeoedddnaaDoor
open Go Go.RowKit
namespace Ly
open Is Nt
set_option linter.unusedVariables false
set_option linter.unusedSimpArgs false
theorem jmp_ops {i : Ins} (h : jmpB i = true) : okI i = true ∧ (i.op = 30 ∨ i.op = 31 ∨ i.op = 32) := by
  unfold jmpB at h
  simpa [Bool.and_eq_true, Bool.or_eq_true, or_assoc] using h
theorem okI_im {i : Ins} (h : jmpB i = true) {x : Int} (hx : -2147483648 ≤ x ∧ x < 2147483648) : okI { i with im := x } = true ∧ (encL { i with im := x }).length = (encL i).length ∧ jmpB { i with im := x } = true := by
  obtain ⟨hok, ho⟩ := jmp_ops h
  have h2 : okI { i with im := x } = true := by
    obtain ⟨op, d, s, t, b, xx, sc, di, im⟩ := i
    dsimp only at ho hok ⊢
    have hf : formOf op = .j := by rcases ho with rfl | rfl | rfl <;> rfl
    unfold okI at hok ⊢
    dsimp only at hok ⊢
    rw [hf] at hok ⊢
    simp only [okF, plZ, Bool.and_eq_true] at hok ⊢
    refine ⟨hok.1, ?_⟩
    simp only [smallB, Bool.and_eq_true, decide_eq_true_eq]
    exact hx
  refine ⟨h2, ?_, ?_⟩
  · obtain ⟨op, d, s, t, b, xx, sc, di, im⟩ := i
    dsimp only at ho ⊢
    rcases ho with rfl | rfl | rfl <;> simp [encL, ltl_len]
  · unfold jmpB
    rw [h2]
    rcases ho with e | e | e <;> simp [e]
theorem flt_good {all pre : List Ln} {l : Ln} (h : fltL all pre l = 0) (h0 : l.lab = 0) : okI l.ins = true ∧ (jmpB l.ins = true → l.ins.im = 0) := by
  unfold fltL at h
  rw [if_neg (by simpa using h0)] at h
  split at h
  · cases h
  · rename_i hc
    refine ⟨?_, fun hj => ?_⟩
    · unfold chk at hc
      cases ho : okI l.ins with
      | true => rfl
      | false => rw [ho] at hc; simp at hc
    · rw [hj, if_pos rfl] at h
      split at h
      · cases h
      · rename_i hi
        simpa using hi
/-- a good line's instruction, put in its place -/
theorem fix_good {all pre : List Ln} {l : Ln} {b : Nat} (h : fltL all pre l = 0) (h0 : l.lab = 0) (hb : b ≤ 1000000) (ha : upL all ≤ 1000000) :
    okI (fixL all b l) = true ∧ (encL (fixL all b l)).length = szL l ∧ jmpB (fixL all b l) = jmpB l.ins ∧ (jmpB l.ins = false → fixL all b l = l.ins) ∧ (jmpB l.ins = true → { fixL all b l with im := 0 } = l.ins ∧ ∃ q : Nat, look all l.to = some q ∧ (fixL all b l).im = (q : Int) - (b : Int)) := by
  obtain ⟨hok, him⟩ := flt_good h h0
  have hsz : szL l = (encL l.ins).length := by unfold szL; rw [if_neg (by simpa using h0), encS_len hok]
  cases hj : jmpB l.ins with
  | false =>
    have e : fixL all b l = l.ins := by unfold fixL; rw [hj]; rfl
    rw [e]
    exact ⟨hok, hsz.symm, hj, fun _ => rfl, fun h => by cases h⟩
  | true =>
    obtain ⟨hp, q, hq⟩ := hasL_look (jmp_to h h0 hj)
    have hq2 := look_b all l.to hq
    have e : fixL all b l = { l.ins with im := (q : Int) - (b : Int) } := by unfold fixL; rw [hj, if_pos rfl, hq]; rfl
    obtain ⟨g1, g2, g3⟩ := okI_im hj (x := (q : Int) - (b : Int)) (by omega)
    rw [e]
    refine ⟨g1, by rw [g2, hsz], g3, (fun h => by cases h), fun _ => ⟨?_, q, hq, rfl⟩⟩
    have := him hj
    generalize l.ins = i at *
    obtain ⟨op, d, s, t, b, xx, sc, di, im⟩ := i
    dsimp only at this ⊢
    rw [this]
theorem insL_take {all ls : List Ln} {j : Nat} (h : j < ls.length) : insL all (ls.take (j + 1)) = if (lnA ls j).lab ≠ 0 then insL all (ls.take j) else insL all (ls.take j) ++ [fixL all (upL (ls.take (j + 1))) (lnA ls j)] := by
  rw [take_at h, insL_snoc]
theorem insL_rest {all ls : List Ln} (j : Nat) : ∃ rest, insL all ls = insL all (ls.take j) ++ rest := by
  refine ⟨((ls.drop j).foldl (stepI all) (((ls.take j).foldl (stepI all) (0, [])).1, [])).2, ?_⟩
  unfold insL
  conv => lhs; rw [← List.take_append_drop j ls, List.foldl_append]
  exact insG_fold all (ls.drop j) _ _
theorem upL_take_le {ls : List Ln} (j : Nat) : upL (ls.take j) ≤ upL ls := by
  conv => rhs; rw [← List.take_append_drop j ls, upL_app]
  omega
section
variable {ls : List Ln} (hu : upL ls ≤ 1000000) (hok : okC ls)
include hu hok
theorem flt_at {j : Nat} (h : j < ls.length) : ∃ pre, fltL ls pre (lnA ls j) = 0 := okC_mem (by omega) hok (List.mem_of_getElem? (lnA_at h))
theorem ins_good : ∀ j, j ≤ ls.length → allOk (insL ls (ls.take j)) = true ∧ (catU (insL ls (ls.take j))).length = upL (ls.take j) := by
  intro j
  induction j with
  | zero => intro _; exact ⟨rfl, rfl⟩
  | succ j ih =>
    intro hj
    obtain ⟨h1, h2⟩ := ih (by omega)
    rw [insL_take (by omega), up_at (by omega)]
    obtain ⟨pre, hf⟩ := flt_at hu hok (j := j) (by omega)
    by_cases h0 : (lnA ls j).lab = 0
    · rw [if_neg (by simpa using h0)]
      have hb := upL_take_le (ls := ls) (j + 1)
      rw [← up_at (by omega)]
      obtain ⟨g1, g2, _⟩ := fix_good (b := upL (ls.take (j + 1))) hf h0 (by omega) hu
      refine ⟨by rw [allOk_app, h1]; unfold allOk; simp [g1], ?_⟩
      rw [cat_snoc, List.length_append, h2, g2, up_at (by omega)]
    · rw [if_pos h0]
      refine ⟨h1, ?_⟩
      have : szL (lnA ls j) = 0 := by unfold szL; rw [if_pos h0]
      rw [this, h2]; rfl
theorem good_all : allOk (insL ls ls) = true ∧ (catU (insL ls ls)).length = upL ls := by
  have := ins_good hu hok ls.length (Nat.le_refl _)
  rwa [List.take_length] at this
theorem good_e : bytE ls = 0 := (bytE_iff ls).2 ⟨hok, (good_all hu hok).1⟩
theorem good_s : bytS ls = strU (catU (insL ls ls)) := by rw [bytS_ok hok]; unfold allS; rw [(good_all hu hok).1, if_pos rfl]
theorem good_size : (bytS ls).size = upL ls := by rw [good_s hu hok, size_strU, (good_all hu hok).2]
/-- what is read at a line's place -/
theorem good_at (hw : ∀ l ∈ ls, l.wf) {j : Nat} (h : j < ls.length) (h0 : (lnA ls j).lab = 0) : rD (bytS ls) ((upL (ls.take j) : Nat) : Int) = (fixL ls (upL (ls.take (j + 1))) (lnA ls j), ((szL (lnA ls j) : Nat) : Int), 0) := by
  obtain ⟨pre, hf⟩ := flt_at hu hok h
  have hb := upL_take_le (ls := ls) (j + 1)
  obtain ⟨g1, g2, _⟩ := fix_good (b := upL (ls.take (j + 1))) hf h0 (by omega) hu
  obtain ⟨rest, hr⟩ := insL_rest (all := ls) (ls := ls) (j + 1)
  rw [insL_take h, if_neg (by simpa using h0)] at hr
  have hi := (ins_good hu hok j (by omega)).2
  have hsz := good_size hu hok
  have hgs := good_s hu hok
  rw [hr, List.append_assoc, catU_app, List.singleton_append] at hgs
  have he := encl_ok _ g1
  have hup := up_at h
  rw [← g2]
  have hwf : (fixL ls (upL (ls.take (j + 1))) (lnA ls j)).wf := fix_wf (hw _ (List.mem_of_getElem? (lnA_at h))).ins (by omega) hu
  generalize fixL ls (upL (ls.take (j + 1))) (lnA ls j) = fx at *
  refine rD_eq (by omega) g1 hwf ((pre_iff he.1 (by omega)).2 ?_)
  rw [hgs, strU_data]
  have e : toU8 (catU (insL ls (ls.take j)) ++ catU (fx :: rest)) = toU8 (catU (insL ls (ls.take j))) ++ (toU8 (encL fx) ++ toU8 (catU rest)) := by unfold toU8; simp [catU]
  rw [e, List.drop_left' (by unfold toU8; rw [List.length_map, hi])]
  exact List.prefix_append _ _
omit hu in
theorem chk_end : (chkL ls [] ls).1 = ls.length := by
  have key : ∀ (r pre : List Ln), (chkL ls pre r).2 = 0 → (chkL ls pre r).1 = pre.length + r.length := by
    intro r
    induction r with
    | nil => intro pre _; unfold chkL; simp
    | cons l r ih =>
      intro pre h
      unfold chkL at h ⊢
      split at h
      · rename_i hn; exact absurd h hn
      · rename_i hn
        rw [if_neg hn, ih _ h]
        simp; omega
  simpa using key ls [] hok
end
theorem chk_le (ls : List Ln) : (chkL ls [] ls).1 ≤ ls.length := by
  have key : ∀ (r pre : List Ln), (chkL ls pre r).1 ≤ pre.length + r.length := by
    intro r
    induction r with
    | nil => intro pre; unfold chkL; simp
    | cons l r ih =>
      intro pre
      unfold chkL
      split
      · simp
      · have := ih (pre ++ [l])
        simp at this ⊢
        omega
  simpa using key ls []
theorem bad_byt {ls : List Ln} (h : (chkL ls [] ls).2 ≠ 0) : bytE ls = (chkL ls [] ls).2 ∧ bytS ls = ⟨#[]⟩ := by
  unfold bytE bytS
  rw [if_pos h, if_pos h]
  exact ⟨rfl, rfl⟩
/-- a label's place is a line's place -/
theorem look_at {ls : List Ln} {n : Int} (hn : n ≠ 0) : ∀ j, j ≤ ls.length → ∀ q, look (ls.take j) n = some q → ∃ k, k < j ∧ (lnA ls k).lab = n ∧ q = upL (ls.take k) := by
  intro j
  induction j with
  | zero => intro _ q h; rw [List.take_zero, look_nil] at h; cases h
  | succ j ih =>
    intro hj q h
    rw [take_at (by omega), look_snoc] at h
    split at h
    · rename_i e
      refine ⟨j, by omega, e, ?_⟩
      have h0 : szL (lnA ls j) = 0 := by unfold szL; rw [if_pos (by rw [e]; exact hn)]
      rw [← take_at (by omega), up_at (by omega), h0] at h
      simpa using h.symm
    · obtain ⟨k, h1, h2⟩ := ih (by omega) q h
      exact ⟨k, by omega, h2⟩
/-- whether one of the first k lines has this label and lies at t -/
def hereB (ls : List Ln) (n t : Int) (k : Nat) : Bool := (List.range k).any fun x => decide ((lnA ls x).lab = n) && decide (((upL (ls.take x) : Nat) : Int) = t)
theorem here_0 (ls : List Ln) (n t : Int) : hereB ls n t 0 = false := rfl
theorem here_succ (ls : List Ln) (n t : Int) (k : Nat) : hereB ls n t (k + 1) = (hereB ls n t k || (decide ((lnA ls k).lab = n) && decide (((upL (ls.take k) : Nat) : Int) = t))) := by
  unfold hereB
  rw [List.range_succ, List.any_append]
  simp
theorem here_all {ls : List Ln} {n : Int} (hn : n ≠ 0) {q : Nat} (h : look ls n = some q) {t : Int} (ht : t = (q : Int)) : hereB ls n t ls.length = true := by
  rw [← List.take_length (l := ls)] at h
  obtain ⟨k, h1, h2, h3⟩ := look_at hn ls.length (Nat.le_refl _) q (by simpa using h)
  unfold hereB
  rw [List.any_eq_true]
  exact ⟨k, List.mem_range.2 h1, by simp [h2, ht, h3]⟩
end Ly
end Go.Proofs.YteppmkeoedddnaaDoor
namespace Go.Proofs.YteppmkeoedddnaaDoor
open Go Go.RowKit
namespace Is
open Nt
set_option linter.unusedVariables false
set_option maxRecDepth 100000 in
set_option maxHeartbeats 4000000 in
theorem jump_r (i : Ins) (w : World) : Calls Tryd.prog 11 #[.agg i.vs] w fun e w' => e = .returned (.bool (jmpB i)) ∧ Below w.heap.size w w' := by
  have HC := Lib.hid (fun W => check_r i W)
  have HB := Lib.hid ((Below.refl w.heap.size w).alloc (Nat.le_refl _) (.cells i.vs 35))
  rcases chk_01 i with ⟨hk, he⟩ | ⟨hk, he⟩
  · have e1 : jmpB i = (decide (i.op = 30) || decide (i.op = 31) || decide (i.op = 32)) := by unfold jmpB; rw [hk]; rfl
    rw [e1]
    rw [he] at HC
    clear e1 hk he
    obtain ⟨op, d, s, t, b, x, sc, di, im⟩ := i
    unfold Ins.vs at *
    dsimp only at *
    by_cases h30 : op = 30 ∨ op = 31 ∨ op = 32
    · rcases h30 with rfl | rfl | rfl
      all_goals
        go_enter Tryd.func11, Tryd.ntmps11
        go_wp2_with (go_at_call 22; refine (HC.out _).mono ?_; rintro e w' ⟨rfl, hb⟩; have c0 : w'.cell? ⟨w.heap.size, 0, none⟩ = _ := (hb.cell (p := ⟨w.heap.size, 0, none⟩) (by simp)).trans (World.cell?_alloc_at _ _ _ _ rfl); simp only [List.getElem?_toArray, List.getElem?_cons_zero] at c0; have HB2 := Lib.hid (HB.out.trans (hb.mono (by simp))); clear hb)
        go_ret
        exact ⟨rfl, HB2.out⟩
    · have n1 : (op == 30) = false := by rw [beq_eq_false_iff_ne]; omega
      have n2 : (op == 31) = false := by rw [beq_eq_false_iff_ne]; omega
      have n3 : (op == 32) = false := by rw [beq_eq_false_iff_ne]; omega
      have e2 : (decide (op = 30) || decide (op = 31) || decide (op = 32)) = false := by simp; omega
      rw [e2]
      clear e2 h30
      go_enter Tryd.func11, Tryd.ntmps11
      go_wp2_with (go_at_call 22; refine (HC.out _).mono ?_; rintro e w' ⟨rfl, hb⟩; have c0 : w'.cell? ⟨w.heap.size, 0, none⟩ = _ := (hb.cell (p := ⟨w.heap.size, 0, none⟩) (by simp)).trans (World.cell?_alloc_at _ _ _ _ rfl); simp only [List.getElem?_toArray, List.getElem?_cons_zero] at c0; have HB2 := Lib.hid (HB.out.trans (hb.mono (by simp))); clear hb)
      go_ret
      exact ⟨rfl, HB2.out⟩
  · have e1 : jmpB i = false := by unfold jmpB; rw [hk]; rfl
    rw [e1]
    rw [he] at HC
    clear e1 hk he
    unfold Ins.vs at *
    go_enter Tryd.func11, Tryd.ntmps11
    go_wp2_with (go_at_call 22; refine (HC.out _).mono ?_; rintro e w' ⟨rfl, hb⟩; have HB2 := Lib.hid (HB.out.trans (hb.mono (by simp))); clear hb)
    go_ret
    exact ⟨rfl, HB2.out⟩
end Is
open Go.Shelf Go.Maps
namespace Ly
open Is Nt Rt
set_option linter.unusedVariables false
set_option linter.unusedSimpArgs false
attribute [local go_sem] Oper.semAt_some
/-! ### where each line begins -/
def pRow (ls : List Ln) (k : Nat) : List Value := (List.range k).map fun j => .int .i64 ((upL (ls.take j) : Nat) : Int)
theorem pRow_succ (ls : List Ln) (k : Nat) : pRow ls (k + 1) = pRow ls k ++ [.int .i64 ((upL (ls.take k) : Nat) : Int)] := by unfold pRow; rw [List.range_succ, List.map_append]; rfl
theorem pRow_len (ls : List Ln) (k : Nat) : (pRow ls k).length = k := by unfold pRow; simp
theorem pRow_get (ls : List Ln) {k j : Nat} (h : j < k) : (pRow ls k)[j]? = some (.int .i64 ((upL (ls.take j) : Nat) : Int)) := by unfold pRow; rw [List.getElem?_map, List.getElem?_range h]; rfl
/-- a box holds a row of places of one's own -/
def BoxP (ls : List Ln) (B base k : Nat) (X : World) : Prop := ∃ v, Boxed X B 27 v ∧ v.ownBlock ≠ some (B + 1) ∧ X.ownsRow base 3 1 v k (pRow ls k)
theorem bk_more2 {Y w1 : World} {B g : Nat} {t : TypeId} {cs : Array Value} {v v' : Value} {o : Obj} (hb : Bk Y g t cs) (hne : v.ownBlock ≠ some g) (hg : g ≠ B) (hgrow : (Y.alloc o).grownBy w1 v.ownBlock) : Bk (w1.setCell ⟨B, 0, none⟩ v') g t cs := by
  refine Bk.far (p := ⟨B, 0, none⟩) ?_ (show g ≠ B from hg) _
  exact (hgrow.block g (Nat.lt_of_lt_of_le hb.lt (by simp)) (fun e => hne e.symm)).trans (hb.alloc o)
set_option maxRecDepth 100000 in
theorem neP : (27 : TypeId) ≠ 3 ∧ (48 : TypeId) ≠ 3 := ⟨by decide, by decide⟩
set_option maxRecDepth 100000 in
set_option maxHeartbeats 8000000 in
theorem places_in (n : Nat) (hn : 2 ≤ n) (A : Option Addr) (cap mp c : Nat) (ls : List Ln) (hN : ls.length ≤ 1000) (hc : c ≤ 80000) (w : World) (hT : TabE w) (hG : G3 mp) (hR : RdL w mp A ls.length ls) (hS : SzE c mp w) :
    CallsIn Fence.wide n Tryd.prog 17 #[.agg #[.slice A ls.length cap, .map (some mp)]] w fun e W' => ∃ v, e = .returned v ∧ W'.ownsRow w.heap.size 3 1 v ls.length (pRow ls ls.length) ∧ Tn (fun k => k = mp) w W' ∧ SzE (c + ls.length) mp W' := by
  have hml := hS.lt
  have HT := Lib.hid hT
  have HR := Lib.hid hR
  have HS := Lib.hid hS
  have HLW := Lib.hid hR.oks
  have HG := Lib.hid hG
  have hlen4 : (ls.length : Int) ≤ 1000 := by omega
  clear hT hR hS
  refine callsIn_of_wp_marks Tryd.func17 rfl trivial ?_ rfl
  simp only [Tryd.ntmps17, List.size_toArray, List.length_cons, List.length_nil, Nat.reduceAdd, Nat.reduceSub, Array.replicate_succ, Array.replicate_zero, List.push_toArray, List.append_toArray, List.nil_append, List.cons_append]
  have HS0 : Hid (Bk (w.alloc (.cells #[.slice A ls.length cap, .map (some mp)] 48)) w.heap.size 48 #[.slice A ls.length cap, .map (some mp)]) := Lib.hid (Bk.new _ _ _)
  have HBB : Hid (Below w.heap.size w (w.alloc (.cells #[.slice A ls.length cap, .map (some mp)] 48))) := Lib.hid (bel_al _)
  have hc0 := HS0.out.cell 0
  dsimp at hc0
  obtain ⟨inf, hinf, hz, q1, q2⟩ := info_parts info_int
  gi_wp2_with (first | (gi_at_make; go_loud (refine wpListIn_make_own _ rfl _ _ 27 rfl w.heap.size 3 inf _ 1 Tryd.underlying27 hinf hz q1 .i64 .i64 _ ls.length rfl rfl rfl (by rw [q2]; omega) (by simp only [maxLen]; omega) (by rw [World.size_alloc]; omega) ?_; intro w3 hown hgrow; have HOWN := Lib.hid hown; have HGR := Lib.hid hgrow; have hlt3 : w.heap.size < w3.heap.size := Nat.lt_of_lt_of_le (by rw [World.size_alloc]; omega) hgrow.size; have hd0 : w3.cell? ⟨w.heap.size, 0, none⟩ = some (.slice A ls.length cap) := (World.cell?_of_block (hgrow.block w.heap.size (by rw [World.size_alloc]; omega) (by simp))).trans hc0; have hd1 : w3.cell? ⟨w.heap.size, 1, none⟩ = some (.map (some mp)) := (World.cell?_of_block (hgrow.block w.heap.size (by rw [World.size_alloc]; omega) (by simp))).trans (HS0.out.cell 1); clear hown hgrow hc0)) | fail)
  refine ⟨trivial, fun h => (by cases h), ?_⟩
  refine (each_in _ A ls.length cap mp _).mono ?_
  rintro e W0 ⟨rfl, hw2⟩
  have e2 : (w.alloc (.cells #[.slice A ls.length cap, .map (some mp)] 48)).heap.size = w.heap.size + 1 := by simp
  rw [e2] at HOWN
  have HR3 : Below w.heap.size w w3 := HBB.out.grown HGR.out (by rw [e2]; omega) (fun k e => by cases e)
  have hb5 : w.heap.size + 2 ≤ w3.heap.size := by
    have := (HOWN.out.lt (w.heap.size + 1) rfl).2
    omega
  have hs0 : W0.heap.size = w3.heap.size + 3 := by rw [hw2]; simp
  have HB0 : Below w.heap.size w W0 := by rw [hw2]; exact bel_tr (bel_tr (bel_tr HR3 (bel_al _)) (bel_al _)) (bel_al _)
  have HI0 : BoxP ls w3.heap.size w.heap.size 0 W0 := ⟨_, by rw [hw2]; exact ((Boxed.new _ _ _).alloc _).alloc _, by simp [Value.ownBlock]; omega, by rw [hw2]; exact ((HOWN.out.alloc _).alloc _).alloc _⟩
  have HA0 : Bk W0 (w3.heap.size + 1) 3 #[.int .i64 0] := by rw [hw2]; exact (Bk.new' (by simp)).alloc _
  have HC0 : Bk W0 (w3.heap.size + 2) 48 #[.slice A ls.length cap, .map (some mp)] := by rw [hw2]; exact Bk.new' (by simp)
  have e3 : ((w3.alloc (.cells #[.slice (some ⟨w.heap.size + 1, 0, none⟩) 0 ls.length] 27)).alloc (.cells #[.int .i64 0] 3)).heap.size = w3.heap.size + 2 := by simp
  rw [e3]
  clear hw2 e2 e3 hd0 hd1 HR3 HOWN HGR HBB HS0
  generalize w3.heap.size = B5 at *
  clear hlt3
  gi_wp2
  refine range_t (α := Nat) rfl (by omega) (gf := 40) (lb := #[.pointer (some ⟨B5 + 2, 0, none⟩)]) rfl trivial enters_each (each_t (n - 1) (by omega) (B5 + 2) mp c cap A ls hN (by omega) W0 (HT.out.keep HB0) HG.out (HR.out.below (HB0.mono (Nat.le_of_lt hml))) HC0 (by omega) (HS.out.below HB0)) (Below.refl _ _) (fun k e => by subst e; omega) (fun h k => h.trans k)
    (fun X l o o' hl ho _ => kpe_put (by omega) (by omega) (Array.getElem?_eq_some_iff.1 ho).1 o') (fun _ => rfl) (fun _ _ _ _ _ h _ => h) (fun xs X Y h k => ⟨h.1, tx_sz k h.2 (fun h => h) (by omega)⟩)
    (fun pre X => BoxP ls B5 w.heap.size pre.length X ∧ Bk X (B5 + 1) 3 #[.int .i64 ((upL (ls.take pre.length) : Nat) : Int)] ∧ Bk X (B5 + 2) 48 #[.slice A ls.length cap, .map (some mp)] ∧ Tn (fun k => k = mp) w X ∧ B5 + 3 ≤ X.heap.size) ?stay ⟨HI0, HA0, HC0, Tn.of_below HB0, by omega⟩
    (fun pre x a' X => a' = { tmps := #[.agg #[.slice A ls.length cap, .map (some mp)], .pointer (some ⟨w.heap.size, 0, none⟩), .slice none 0 0, .pointer (some ⟨B5, 0, none⟩), .pointer (some ⟨B5 + 1, 0, none⟩), .int .i64 ((upL (ls.take (x + 1)) : Nat) : Int), .pointer (some ⟨w.heap.size, 0, none⟩), .slice A ls.length cap, .int .i64 (ls.length : Int), .slice (some ⟨w.heap.size + 1, 0, none⟩) 0 ls.length, .agg #[.slice A ls.length cap, .map (some mp)], .func (.func 40) #[] #[.pointer (some ⟨B5 + 2, 0, none⟩)], .int .i64 ((upL (ls.take (x + 1)) : Nat) : Int), .agg (lnA ls x).vs, undef, undef, undef, undef, undef, undef], defers := [] }) (fun _ _ _ _ _ _ h k => h) ?assign ?body ?done
  case stay =>
    rintro s X Y ⟨⟨v, h0, hv, h1⟩, h2, h3, h4, h5⟩ k
    exact ⟨⟨v, k.block _ _ h0 (by omega) (fun _ => rfl), hv, tx_row k h1 (fun j e => by subst e; omega)⟩, tx_bk k h2 (by omega), tx_bk k h3 (by omega), tx_go h4 k (by omega), Nat.le_trans h5 k.size⟩
  case assign =>
    rintro l pre x X K hi hy hlen hK
    unfold encB
    gi_wp2
    exact hK _ _ (KeepsFrom.refl _ _) (kpe_refl _ _ _) hi hy rfl
  case body =>
    rintro l pre x a' X hl _ ⟨⟨v, hv, hne, hrow⟩, h2, h3, h4, h5⟩ ⟨rfl, hx⟩ rfl hlen
    rw [List.length_range] at hrow h2
    have HUP : Hid (upL (ls.take (x + 1)) ≤ 11000) := Lib.hid (by
      have h5 := upL_le (ls.take (x + 1))
      have h6 : (ls.take (x + 1)).length ≤ 1000 := by rw [List.length_take]; omega
      omega)
    have HRS := Lib.hid (pRow_succ ls x)
    obtain ⟨a0, ha0⟩ : ∃ a0 : Nat, upL (ls.take x) = a0 := ⟨_, rfl⟩
    obtain ⟨a1, ha1⟩ : ∃ a1 : Nat, upL (ls.take (x + 1)) = a1 := ⟨_, rfl⟩
    rw [ha0] at h2 HRS
    rw [ha1] at HUP
    have hm := h2.cell 0
    dsimp at hm
    have hf2 := h2.frozen 0
    have hbc := hv.cell
    have hxx : x < ls.length := hx
    have H1 := Lib.hid hv
    have H2 := Lib.hid h2
    have H3 := Lib.hid h3
    have H4 := Lib.hid h4
    have H6 := Lib.hid hrow
    have HNEW : Hid (∀ j u, [Value.int .i64 (a0 : Int)][j]? = some u → (X.alloc (.cells #[.int .i64 (a0 : Int)] 3)).cell? ((⟨X.heap.size, 0, none⟩ : Addr).add j) = some u) := Lib.hid (fun j u hu => by
      have e : (⟨X.heap.size, 0, none⟩ : Addr).add j = ⟨X.heap.size, j, none⟩ := by
        unfold Addr.add; split
        · rename_i e; rw [e]
        · simp
      rw [e, (Bk.new X 3 #[.int .i64 (a0 : Int)]).cell j]
      simpa using hu)
    clear hv h2 h3 h4 hrow
    rw [ha1]
    gi_wp2_with (first | (gi_at_builtin; go_loud (refine wpListIn_append_own_at _ rfl _ _ 27 rfl w.heap.size 3 inf _ 1 8 Tryd.underlying27 hinf hz q1 q2 rfl (by decide) _ _ _ rfl (H6.out.alloc _) ⟨X.heap.size, 0, none⟩ 1 1 [.int .i64 (a0 : Int)] rfl rfl HNEW.out (fun u hu => by simp at hu; subst hu; rfl) (by simp only [maxLen]; omega) (by omega) (by rw [World.size_alloc]; omega) ?_); intro v' w1 hown' hgrow _ hob; obtain ⟨g', cap', rfl⟩ := ownsRow_succ hown'; obtain ⟨hv1, hv2, hrow2, hko, hbl⟩ := H1.out.appended neP.1 H6.out (by omega) (by omega) hown' hgrow; have hc1 := hv1.cell; have hf1 := hv1.frozen; have hA2 := bk_more2 (v' := .slice (some ⟨g', 0, none⟩) (x + 1) cap') H2.out hne (show B5 + 1 ≠ B5 from by omega) hgrow; have hm2 := hA2.cell 0; have hf3 := hA2.frozen 0; dsimp at hm2) | fail)
    have hne2 : (Value.slice (some ⟨g', 0, none⟩) (x + 1) cap').ownBlock ≠ some (B5 + 1) := by
      rcases hob with e | e
      · rw [e]; exact hne
      · rw [e, World.size_alloc]; intro e2; injection e2; omega
    have hC2 := bk_more2 (v' := .slice (some ⟨g', 0, none⟩) (x + 1) cap') H3.out (fun e => row_off H6.out H3.out neP.2 _ e rfl) (show B5 + 2 ≠ B5 from by omega) hgrow
    have hC3 := hC2.far (p := ⟨B5 + 1, 0, none⟩) (show B5 + 2 ≠ B5 + 1 from by omega) (.int .i64 (a1 : Int))
    refine ⟨(hko.trans (KeepsOthers.setCell _ _ _)).from _, ⟨(hbl.mono (by omega)).setCell (p := ⟨B5 + 1, 0, none⟩) (by show mp + 1 ≤ B5 + 1; omega) _, fun o ho => ?_⟩, ?_, ?_, hC3, ?_, ?_⟩
    · rw [show X.heap[B5 + 2]? = _ from H3.out] at ho
      cases ho
      exact hC3
    · rw [len_range]
      refine ⟨_, (Below.heap_setCell _ ⟨B5 + 1, 0, none⟩ _ B5 (by show B5 ≠ B5 + 1; omega)).trans hv2, hne2, ?_⟩
      rw [HRS.out]
      exact hrow2.kept (grown_set _ ⟨B5 + 1, 0, none⟩ _) (.inr hne2)
    · rw [len_range, ha1]
      exact hA2.set_ 0 _
    · exact (((H4.out.alloc _).grown hgrow (fun j e hj => absurd (row_ge H6.out j e) (by omega))).setCell _ (fun h => by have h2 : B5 < w.heap.size := h; omega) _).setCell _ (fun h => by have h2 : B5 + 1 < w.heap.size := h; omega) _
    · exact Nat.le_trans h5 (Nat.le_trans hko.size (by simp [World.setCell]))
  case done =>
    rintro D xs X hD ⟨rfl, hsz⟩ ⟨⟨v, hv, hne, hrow⟩, h2, h3, h4, h5⟩ hK
    rw [List.length_range] at hrow
    have hcell := hv.cell
    gi_wp2
    refine ⟨by simp, .inl ⟨_, _, rfl, run_takeDeferred hK, ?_⟩⟩
    exact ⟨_, results_tmp rfl _ _ _, v, rfl, ownsRow_putObj hrow _ hK rfl, h4.putObj D (fun h => by omega) _, hsz.same (World.putObj_heap_other (by omega))⟩
set_option maxRecDepth 100000 in
set_option maxHeartbeats 4000000 in
theorem check_t (w : World) (hT : TabE w) (A : Option Addr) (cap : Nat) (ls : List Ln) (hR : RdL w w.heap.size A ls.length ls) (hN : ls.length ≤ 400) :
    Calls Tryd.prog 7 #[.slice A ls.length cap] w fun e W' => e = .returned (.tuple #[.int .i64 (((chkL ls [] ls).1 : Nat) : Int), .int .i64 (chkL ls [] ls).2]) ∧ Below w.heap.size w W' := by
  have HG := Lib.hid (tab_g3 hT (Nat.le_succ w.heap.size))
  have HT := Lib.hid hT
  have HR := Lib.hid hR
  have HKS := Lib.hid (sheet_l w A ls.length cap)
  obtain ⟨ck, hck⟩ : ∃ ck, chkL ls [] ls = ck := ⟨_, rfl⟩
  rw [hck]
  clear hT hR
  go_enter Tryd.func7, Tryd.ntmps7
  go_wp2_with fail
  go_at_call 14
  refine HKS.out.mono ?_
  rintro e w1 ⟨rfl, hb1, hs1⟩
  have hlt1 := hs1.lt
  obtain ⟨W2, hW2⟩ : ∃ W2, W2 = w1.alloc (.cells #[.slice A ls.length cap, .map (some (w.heap.size + 1))] 48) := ⟨_, rfl⟩
  have HB2 : Hid (Below w.heap.size w W2.drew) := Lib.hid (by rw [hW2]; exact (bel_tr hb1 (bel_al _)).drew)
  have HK2 : Hid (Bk W2.drew w1.heap.size 48 #[.slice A ls.length cap, .map (some (w.heap.size + 1))]) := Lib.hid (by rw [hW2]; exact (Bk.new _ _ _).drew)
  have HR2 := Lib.hid ((HR.out.below HB2.out).more (Nat.le_succ w.heap.size))
  have HT2 := Lib.hid (HT.out.keep HB2.out)
  have HS2 : Hid (SzE 0 (w.heap.size + 1) W2.drew) := Lib.hid (by rw [hW2]; exact hs1.below (bel_al (.cells #[.slice A ls.length cap, .map (some (w.heap.size + 1))] 48)).drew)
  have hz2 : W2.drew.heap.size = w1.heap.size + 1 := by rw [hW2]; simp [World.drew]
  have HLB := Lib.hid ((callsIn_wide (n := 2)).1 (labels_in 2 (by omega) A cap (w.heap.size + 1) 0 ls (by omega) (by omega) _ HT2.out HG.out HR2.out HS2.out))
  rw [hz2] at HLB
  have hsz2 : w.heap.size + 1 ≤ W2.drew.heap.size := by rw [hz2]; omega
  have HKT := Lib.hid (fun (y : World) (ht : Tn (fun k => k = w.heap.size + 1) W2.drew y) => (show Below w.heap.size w y ∧ Bk y w1.heap.size 48 #[.slice A ls.length cap, .map (some (w.heap.size + 1))] from ⟨HB2.out.trans (tn_bel ht (by omega) (by omega)), (ht.block _ HK2.out.lt (by omega)).trans HK2.out⟩))
  have HCF := Lib.hid (fun (y : World) (hl : LbE ls ls.length (w1.heap.size + 1 + 1) y) (ht : Tn (fun k => k = w.heap.size + 1) W2.drew y) (hs : SzE (0 + ls.length) (w.heap.size + 1) y) =>
    check_l' A cap (w.heap.size + 1) (0 + ls.length) (w1.heap.size + 1 + 1) ls.length ls (by omega) (by omega) y (HT.out.keep (HKT.out y ht).1) HG.out ((HR.out.below (HKT.out y ht).1).more (Nat.le_succ w.heap.size)) hs hl)
  rw [hck] at HCF
  rw [hW2] at HKT HCF HLB HK2
  have b1 := HK2.out.cell 0
  have b2 := HK2.out.cell 1
  dsimp at b1 b2
  clear hb1 hs1 hz2 hsz2 HB2 HR2 HT2 HS2 hW2 HKS hck
  go_wp2_with fail
  go_region_held3 (fun w' => w'.cell? ⟨w1.heap.size, 0, none⟩ = some (.slice A ls.length cap) ∧ w'.cell? ⟨w1.heap.size, 1, none⟩ = some (.map (some (w.heap.size + 1)))) (first | exact ⟨b1, b2⟩ | exact ⟨b1', b2'⟩ | exact ⟨b1'', b2''⟩ | fail)
    (first | (go_at_call 16; refine HLB.out.mono ?_; rintro e w3 ⟨rfl, hl3, ht3, hs3⟩; have HCK := Lib.hid (HCF.out _ hl3 ht3 hs3); have HK3 := (HKT.out _ ht3).2; have b1' : w3.cell? ⟨w1.heap.size, 0, none⟩ = some (.slice A ls.length cap) := HK3.cell 0; have b2' : w3.cell? ⟨w1.heap.size, 1, none⟩ = some (.map (some (w.heap.size + 1))) := HK3.cell 1) | (go_at_call 15; refine HCK.out.mono ?_; rintro e w4 ⟨rfl, ht4, hs4⟩; have HK4 := (HKT.out _ (ht3.trans ht4 (fun _ h _ => h))).2; have b1'' : w4.cell? ⟨w1.heap.size, 0, none⟩ = some (.slice A ls.length cap) := HK4.cell 0; have b2'' : w4.cell? ⟨w1.heap.size, 1, none⟩ = some (.map (some (w.heap.size + 1))) := HK4.cell 1) | fail)
  have HBF := (HKT.out _ (ht3.trans ht4 (fun _ h _ => h))).1
  clear b1 b2 b1' b2' b1'' b2'' HCK HKT HCF HLB HK3 HK4 ht3 ht4 hl3 hs3 hs4
  go_wp2_with fail
  go_ret2
  exact ⟨rfl, HBF⟩
/-- what Places answers -/
def PlP (c : Int) (ls : List Ln) (w : World) (e : Ending) (W' : World) : Prop := ∃ v, e = .returned (.tuple #[v, .int .i64 c]) ∧ Below w.heap.size w W' ∧ (c ≠ 0 → v = .slice none 0 0) ∧ (c = 0 → W'.ownsRow w.heap.size 3 1 v ls.length (pRow ls ls.length))
set_option maxRecDepth 100000 in
set_option maxHeartbeats 4000000 in
theorem places_t (w : World) (hT : TabE w) (A : Option Addr) (cap : Nat) (ls : List Ln) (hR : RdL w w.heap.size A ls.length ls) (hN : ls.length ≤ 400) :
    Calls Tryd.prog 8 #[.slice A ls.length cap] w (PlP (chkL ls [] ls).2 ls w) := by
  have HG := Lib.hid (tab_g3 hT (Nat.le_succ w.heap.size))
  have HT := Lib.hid hT
  have HR := Lib.hid hR
  have HKS := Lib.hid (sheet_l w A ls.length cap)
  obtain ⟨ck, hck⟩ : ∃ ck, chkL ls [] ls = ck := ⟨_, rfl⟩
  rw [hck]
  clear hT hR
  go_enter Tryd.func8, Tryd.ntmps8
  go_wp2_with fail
  go_at_call 14
  refine HKS.out.mono ?_
  rintro e w1 ⟨rfl, hb1, hs1⟩
  have hlt1 := hs1.lt
  obtain ⟨W2, hW2⟩ : ∃ W2, W2 = w1.alloc (.cells #[.slice A ls.length cap, .map (some (w.heap.size + 1))] 48) := ⟨_, rfl⟩
  have HB2 : Hid (Below w.heap.size w W2.drew) := Lib.hid (by rw [hW2]; exact (bel_tr hb1 (bel_al _)).drew)
  have HK2 : Hid (Bk W2.drew w1.heap.size 48 #[.slice A ls.length cap, .map (some (w.heap.size + 1))]) := Lib.hid (by rw [hW2]; exact (Bk.new _ _ _).drew)
  have HR2 := Lib.hid ((HR.out.below HB2.out).more (Nat.le_succ w.heap.size))
  have HT2 := Lib.hid (HT.out.keep HB2.out)
  have HS2 : Hid (SzE 0 (w.heap.size + 1) W2.drew) := Lib.hid (by rw [hW2]; exact hs1.below (bel_al (.cells #[.slice A ls.length cap, .map (some (w.heap.size + 1))] 48)).drew)
  have hz2 : W2.drew.heap.size = w1.heap.size + 1 := by rw [hW2]; simp [World.drew]
  have HLB := Lib.hid ((callsIn_wide (n := 2)).1 (labels_in 2 (by omega) A cap (w.heap.size + 1) 0 ls (by omega) (by omega) _ HT2.out HG.out HR2.out HS2.out))
  rw [hz2] at HLB
  have hsz2 : w.heap.size + 1 ≤ W2.drew.heap.size := by rw [hz2]; omega
  have HKT := Lib.hid (fun (y : World) (ht : Tn (fun k => k = w.heap.size + 1) W2.drew y) => (show Below w.heap.size w y ∧ Bk y w1.heap.size 48 #[.slice A ls.length cap, .map (some (w.heap.size + 1))] from ⟨HB2.out.trans (tn_bel ht (by omega) (by omega)), (ht.block _ HK2.out.lt (by omega)).trans HK2.out⟩))
  have HCF := Lib.hid (fun (y : World) (hl : LbE ls ls.length (w1.heap.size + 1 + 1) y) (ht : Tn (fun k => k = w.heap.size + 1) W2.drew y) (hs : SzE (0 + ls.length) (w.heap.size + 1) y) =>
    check_l' A cap (w.heap.size + 1) (0 + ls.length) (w1.heap.size + 1 + 1) ls.length ls (by omega) (by omega) y (HT.out.keep (HKT.out y ht).1) HG.out ((HR.out.below (HKT.out y ht).1).more (Nat.le_succ w.heap.size)) hs hl)
  rw [hck] at HCF
  rw [hW2] at HKT HCF HLB HK2
  have b1 := HK2.out.cell 0
  have b2 := HK2.out.cell 1
  dsimp at b1 b2
  clear hb1 hs1 hz2 hsz2 HB2 HR2 HT2 HS2 hW2 HKS hck
  go_wp2_with fail
  go_region_held3 (fun w' => w'.cell? ⟨w1.heap.size, 0, none⟩ = some (.slice A ls.length cap) ∧ w'.cell? ⟨w1.heap.size, 1, none⟩ = some (.map (some (w.heap.size + 1)))) (first | exact ⟨b1, b2⟩ | exact ⟨b1', b2'⟩ | exact ⟨b1'', b2''⟩ | fail)
    (first | (go_at_call 16; refine HLB.out.mono ?_; rintro e w3 ⟨rfl, hl3, ht3, hs3⟩; have HCK := Lib.hid (HCF.out _ hl3 ht3 hs3); have HK3 := (HKT.out _ ht3).2; have b1' : w3.cell? ⟨w1.heap.size, 0, none⟩ = some (.slice A ls.length cap) := HK3.cell 0; have b2' : w3.cell? ⟨w1.heap.size, 1, none⟩ = some (.map (some (w.heap.size + 1))) := HK3.cell 1) | (go_at_call 15; refine HCK.out.mono ?_; rintro e w4 ⟨rfl, ht4, hs4⟩; have HK4 := (HKT.out _ (ht3.trans ht4 (fun _ h _ => h))).2; have b1'' : w4.cell? ⟨w1.heap.size, 0, none⟩ = some (.slice A ls.length cap) := HK4.cell 0; have b2'' : w4.cell? ⟨w1.heap.size, 1, none⟩ = some (.map (some (w.heap.size + 1))) := HK4.cell 1) | fail)
  have HT4 : Hid (Tn (fun k => k = w.heap.size + 1) (w1.alloc (.cells #[.slice A ls.length cap, .map (some (w.heap.size + 1))] 48)).drew w4) := Lib.hid (ht3.trans ht4 (fun _ h _ => h))
  have HBF := Lib.hid (HKT.out _ HT4.out).1
  have HPL := Lib.hid ((callsIn_wide (n := 2)).1 (places_in 2 (by omega) A cap (w.heap.size + 1) (0 + ls.length + ls.length) ls (by omega) (by omega) w4 (HT.out.keep HBF.out) HG.out ((HR.out.below HBF.out).more (Nat.le_succ w.heap.size)) hs4))
  have hz4 : w.heap.size + 1 ≤ w4.heap.size := Nat.le_of_lt hs4.lt
  clear b1 b2 b1' b2' HCK HKT HCF HLB HK3 HK4 ht3 ht4 hl3 hs3 hs4
  obtain ⟨c1, c2⟩ := ck
  dsimp only
  by_cases hc : c2 = 0
  · subst hc
    go_wp2_with fail
    go_at_call 17
    refine HPL.out.mono ?_
    rintro e w5 ⟨v, rfl, hrow, ht5, hs5⟩
    have HB5 := Lib.hid (HBF.out.trans (tn_bel ht5 (by omega) (by omega)))
    have HRW := Lib.hid (own_base hrow (B' := w.heap.size) (by omega))
    clear hrow ht5 hs5
    go_wp2_with fail
    go_ret2
    exact ⟨v, rfl, HB5.out, fun h => absurd rfl h, fun _ => HRW.out⟩
  · have hne : (c2 != 0) = true := by simpa using hc
    go_wp2_with fail
    go_ret2
    exact ⟨_, rfl, HBF.out, fun _ => rfl, fun h => absurd h hc⟩
end Ly
end Go.Proofs.YteppmkeoedddnaaDoor
namespace Go.Proofs.YteppmkeoedddnaaDoor
open Go Go.RowKit Go.Maps
namespace layoutJumps
open Ly Is Nt Rt
set_option linter.unusedVariables false
set_option linter.unusedSimpArgs false
theorem fix_im {all : List Ln} {b : Nat} {l : Ln} : fixL all b l = { l.ins with im := (fixL all b l).im } := by
  unfold fixL
  split <;> rfl
/-- what is read at a line's place, and where its jump goes -/
theorem at_line {ls : List Ln} (hu : upL ls ≤ 1000000) (hok : okC ls) (hw : ∀ l ∈ ls, l.wf) {j : Nat} (h : j < ls.length) (h0 : (lnA ls j).lab = 0) :
    ∃ fi : Int, rD (bytS ls) ((upL (ls.take j) : Nat) : Int) = ({ (lnA ls j).ins with im := fi }, ((szL (lnA ls j) : Nat) : Int), 0) ∧ I64 fi ∧ jmpB { (lnA ls j).ins with im := fi } = jmpB (lnA ls j).ins ∧ (jmpB (lnA ls j).ins = false → fi = (lnA ls j).ins.im) ∧
      (jmpB (lnA ls j).ins = true → (lnA ls j).ins.im = 0 ∧ -100000000 ≤ fi ∧ fi ≤ 100000000 ∧ hereB ls (lnA ls j).to (((upL (ls.take j) : Nat) : Int) + ((szL (lnA ls j) : Nat) : Int) + fi) ls.length = true) := by
  obtain ⟨pre, hf⟩ := flt_at hu hok h
  have hb := upL_take_le (ls := ls) (j + 1)
  obtain ⟨g1, g2, g3, g4, g5⟩ := fix_good (b := upL (ls.take (j + 1))) hf h0 (by omega) hu
  have hwf : (fixL ls (upL (ls.take (j + 1))) (lnA ls j)).wf := fix_wf (hw _ (List.mem_of_getElem? (lnA_at h))).ins (by omega) hu
  have e := fix_im (all := ls) (b := upL (ls.take (j + 1))) (l := lnA ls j)
  refine ⟨(fixL ls (upL (ls.take (j + 1))) (lnA ls j)).im, by rw [good_at hu hok hw h h0, ← e], hwf.im, by rw [← e]; exact g3, fun hj => by rw [g4 hj], fun hj => ?_⟩
  obtain ⟨h1, q, hq, hi⟩ := g5 hj
  have hqb := look_b ls _ hq
  have him := (flt_good hf h0).2 hj
  have hto := (hasL_look (jmp_to hf h0 hj)).1
  refine ⟨him, by rw [hi]; omega, by rw [hi]; omega, here_all (by omega) hq ?_⟩
  rw [hi, up_at h]
  omega
theorem bel_tr4 {n : Nat} {a b c : World} (h : Below n a b) (k : Below b.heap.size b c) (hn : n ≤ a.heap.size := by omega) : Below n a c := h.trans (k.mono (Nat.le_trans hn h.size))
set_option maxRecDepth 100000 in
theorem key_inst : Tryd.prog.keyTypeAt 4 35 = true := by kernel_rfl
theorem form_inst (i : Ins) : (Value.agg i.vs).formed Tryd.prog 35 = true := by
  simp [Value.formed, Tryd.underlying35, lcells_inst, Ins.vs]
theorem insSame {i : Ins} (h : i.wf) (W : World) : (Op.equalIn 10000 35 (.agg i.vs) (.agg i.vs)).run Tryd.prog W = .ok true W := by
  obtain ⟨r, h1, h2⟩ := run_equalIn_deep (P := Tryd.prog) 9996 4 35 key_inst W 4 4 _ _ _ _ (form_inst i) (form_inst i) (kl_inst 1 h) (kl_inst 1 h)
  rw [h1, h2.2 rfl]
/-- a slice of places, read -/
structure RdP (w : World) (B : Nat) (A : Option Addr) (n : Nat) (ls : List Ln) : Prop where
  rd : 0 < n → ∃ ad, A = some ad ∧ ad.block < B ∧ ∀ j, j < n → w.cell? (ad.add j) = some (.int .i64 ((upL (ls.take j) : Nat) : Int))
theorem rdP_of {w : World} {B n : Nat} {v : Value} {ls : List Ln} (h : w.ownsRow B 3 1 v n (pRow ls n)) : ∃ A c, v = .slice A n c ∧ RdP w w.heap.size A n ls := by
  have hh := h
  rcases h.2 with ⟨rfl, h0⟩ | ⟨g, cap, cur, rfl, h2, h3, h4⟩
  · subst h0
    exact ⟨none, 0, rfl, ⟨fun h => absurd h (by omega)⟩⟩
  · exact ⟨_, _, rfl, ⟨fun _ => ⟨_, rfl, (Array.getElem?_eq_some_iff.1 h3).1, fun j hj => World.ownsRow.cells hh (g := g) rfl j _ (pRow_get ls hj)⟩⟩⟩
theorem RdP.below {w w' : World} {B n : Nat} {A : Option Addr} {ls : List Ln} (h : RdP w B A n ls) (hb : Below B w w') : RdP w' B A n ls :=
  ⟨fun h0 => by
    obtain ⟨ad, e, hB, hc⟩ := h.rd h0
    exact ⟨ad, e, hB, fun j hj => by rw [hb.cell (by rw [block_add]; exact hB)]; exact hc j hj⟩⟩
set_option maxRecDepth 100000 in
set_option maxHeartbeats 8000000 in
theorem walk_ (w : World) (HT : Hid (TabE w)) (A : Option Addr) (n c : Nat) (ls : List Ln) (hR : RdL w w.heap.size A n ls) (hn : n ≤ c) (hm : c ≤ 9223372036854775807) :
    Calls Tryd.prog 3 #[.slice A n c] w fun e w' => e = .returned (.bool true) ∧ Below w.heap.size w w' := by
  have HL := Lib.hid (llives_c w HT.out)
  rcases Nat.lt_or_ge 60 n with hbig | hsm
  · have hb1 : (60 : Int) < (n : Int) := by omega
    clear hR hn hm
    go_enter Tryd.func3, Tryd.ntmps3
    go_wp2_with fail
    go_at_call 6
    refine HL.out.mono ?_
    rintro e w1 ⟨rfl, hb1⟩
    have HB1 := Lib.hid hb1
    clear hb1 HL
    go_wp2_with fail
    go_ret
    exact ⟨rfl, HB1.out⟩
  · have hs1 : (n : Int) ≤ 60 := by omega
    have hlen : ls.length = n := hR.len
    have hup : upL ls ≤ 1000 := by have := upL_le ls; omega
    have HR := Lib.hid hR
    have HRW := Lib.hid (fun (W : World) (hB : Below w.heap.size w W) => (hR.below hB))
    have HWF := Lib.hid hR.oks
    have HCK := Lib.hid (fun (W : World) (hB : Below w.heap.size w W) => check_t W (HT.out.keep hB) A c ls (by rw [hlen]; exact (hR.below hB).more hB.size) (by omega))
    have HPL := Lib.hid (fun (W : World) (hB : Below w.heap.size w W) => places_t W (HT.out.keep hB) A c ls (by rw [hlen]; exact (hR.below hB).more hB.size) (by omega))
    have HBY := Lib.hid (fun (W : World) (hB : Below w.heap.size w W) => bytes_l W (HT.out.keep hB) A c ls (by rw [hlen]; exact (hR.below hB).more hB.size) (by omega))
    unfold PlP at HPL
    have hcl := chk_le ls
    have HBAD := Lib.hid (bad_byt (ls := ls))
    have HOK := Lib.hid (show (chkL ls [] ls).2 = 0 → (chkL ls [] ls).1 = n ∧ bytE ls = 0 ∧ (bytS ls).size = upL ls from fun h => ⟨by rw [← hlen]; exact chk_end h, good_e (by omega) h, good_size (by omega) h⟩)
    have HAT := Lib.hid (show (chkL ls [] ls).2 = 0 → _ from fun h (j : Nat) (hj : j < n) (h0 : (lnA ls j).lab = 0) => at_line (by omega) h hR.oks (by omega) h0)
    rw [hlen] at HCK HPL HBY hcl
    generalize chkL ls [] ls = ck at *
    obtain ⟨c1, c2⟩ := ck
    dsimp only at *
    have hc1 : (c1 : Int) ≤ (n : Int) := by omega
    have hc0 : (0 : Int) ≤ (c1 : Int) := by omega
    clear hR
    go_enter Tryd.func3, Tryd.ntmps3
    go_wp2_with fail
    go_at_call 6
    refine HL.out.mono ?_
    rintro e w1 ⟨rfl, hb1⟩
    have HB1 := Lib.hid hb1
    clear hb1 HL
    go_wp2_with fail
    go_at_call 7
    refine (HCK.out _ HB1.out).mono ?_
    rintro e w2 ⟨rfl, hb2⟩
    have HB2 := Lib.hid (bel_tr HB1.out hb2)
    clear hb2 HCK
    go_wp2_with fail
    go_at_call 8
    refine (HPL.out _ HB2.out).mono ?_
    rintro e w3 ⟨v, rfl, hb3, hv1, hv2⟩
    have HB3 := Lib.hid (bel_tr HB2.out hb3)
    have HV1 := Lib.hid hv1
    have HV2 := Lib.hid hv2
    clear hb3 HPL hv1 hv2
    go_wp2_with fail
    go_at_call 9
    refine (HBY.out _ HB3.out).mono ?_
    rintro e w4 ⟨rfl, hb4⟩
    have HB4 := Lib.hid (bel_tr HB3.out hb4)
    have HB34 := Lib.hid hb4
    clear hb4 HBY
    by_cases hc : c2 = 0
    · subst hc
      obtain ⟨e1, e2, e3⟩ := HOK.out rfl
      obtain ⟨PA, pc, rfl, hp⟩ := rdP_of (HV2.out rfl)
      have HP4 := Lib.hid (hp.below HB34.out)
      have HAT2 := Lib.hid (HAT.out rfl)
      have HZ := Lib.hid e3
      have hpz := HB34.out.size
      have hwz : w.heap.size ≤ w3.heap.size := HB3.out.size
      rw [e2]
      subst e1
      have HIN := Lib.hid (fun (a : Nat) (ha : a ≤ 1000) (W : World) => rInst_c (bytS ls) (a : Int) W ⟨by omega, by omega⟩ (by rw [HZ.out]; omega))
      generalize bytS ls = code at *
      clear e2 e3 hp HOK HAT HV1 HV2 HBAD HB1 HB2 HB3
      go_wp2_with fail
      go_loopw [9, 10] (fun a i W => ∃ k : Nat, k ≤ c1 ∧ i = .int .i64 (k : Int) ∧ Hid (a = .int .i64 ((upL (ls.take k) : Nat) : Int)) ∧ Hid (Below w4.heap.size w4 W)) (fun _ i _ => c1 - (intOf i).toNat)
      case atStart => exact ⟨0, Nat.zero_le _, rfl, Lib.hid (by simp [upL]), Lib.hid (Below.refl _ _)⟩
      case round =>
        obtain ⟨k, hk, rfl, HA, HW⟩ := hrel
        rcases Nat.lt_or_ge k c1 with hkn | hkn
        · have hkni : (k : Int) < (c1 : Int) := by omega
          have hk0 : (0 : Int) ≤ (k : Int) := by omega
          obtain ⟨ad, hA, hbad, _⟩ := HR.out.rd (by omega)
          obtain ⟨pd, hP, hbpd, _⟩ := HP4.out.rd (by omega)
          subst hA hP
          have hwb : w.heap.size ≤ w4.heap.size := HB4.out.size
          have HWW := Lib.hid (fun (W : World) (hB : Below w4.heap.size w4 W) => (show Below w.heap.size w W from HB4.out.trans (hB.mono hwb)))
          have HLN := Lib.hid (fun (W : World) (hB : Below w4.heap.size w4 W) (j : Nat) (hj : j < c1) => (show InLn W (ad.add (j * 11)) (lnA ls j) by
            obtain ⟨ad', e, _, h⟩ := (HRW.out W (HWW.out W hB)).rd (by omega)
            cases e
            exact h j _ (lnA_at (by omega))))
          have HPN := Lib.hid (fun (W : World) (hB : Below w4.heap.size w4 W) (j : Nat) (hj : j < c1) => (show W.cell? (pd.add j) = some (.int .i64 ((upL (ls.take j) : Nat) : Int)) by
            obtain ⟨ad', e, _, h⟩ := (HP4.out.below (hB.mono hpz)).rd (by omega)
            cases e
            exact h j hj))
          have HX := Lib.hid (HAT2.out k hkn)
          have hup1 := up_at (ls := ls) (j := k) (by omega)
          have hle0 := upL_take_le (ls := ls) k
          have hle1 := upL_take_le (ls := ls) (k + 1)
          have hwl := HWF.out _ (List.mem_of_getElem? (lnA_at (ls := ls) (j := k) (by omega)))
          have HIK := Lib.hid (HIN.out (upL (ls.take k)) (by omega))
          have hln := HLN.out wr HW.out k hkn
          have hpk := HPN.out wr HW.out k hkn
          have HLK := Lib.hid (fun (W : World) (hB : Below w4.heap.size w4 W) => HLN.out W hB k hkn)
          obtain rfl := HA.out
          obtain ⟨a0, ha0⟩ : ∃ a0, upL (ls.take k) = a0 := ⟨_, rfl⟩
          obtain ⟨a1, ha1⟩ : ∃ a1, upL (ls.take (k + 1)) = a1 := ⟨_, rfl⟩
          have HA1 := Lib.hid ha1
          have hpt1 : pd.block < w4.heap.size := by omega
          have hadt1 : ad.block < w4.heap.size := by omega
          rw [ha0] at hup1 hle0 HX HIK hpk ⊢
          rw [ha1] at hup1 hle1
          have hszb := szL_le (lnA ls k)
          have ha0i : (a0 : Int) ≤ 1000 := by omega
          have ha00 : (0 : Int) ≤ (a0 : Int) := by omega
          clear HA HIN HAT2 ha0 ha1 hle0
          by_cases h0 : (lnA ls k).lab = 0
          · obtain ⟨fi, h1, hfi, hj1, hj2, hj3⟩ := HX.out h0
            have HIQ := Lib.hid (fun W => by have h := HIK.out W; rw [h1] at h; exact h)
            have HJ := Lib.hid (fun W => by have h := jump_r { (lnA ls k).ins with im := fi } W; rw [hj1] at h; exact h)
            obtain ⟨sz, hsz⟩ : ∃ sz, szL (lnA ls k) = sz := ⟨_, rfl⟩
            rw [hsz] at hup1 HIQ hj3 hszb
            have hsz0 : (0 : Int) ≤ (sz : Int) := by omega
            have hsz1 : (sz : Int) ≤ 11 := by omega
            have hl0 := hln.a
            rw [h0] at hl0
            have HQS := Lib.hid (fun W => insSame hwl.ins W)
            have hto := hwl.to
            obtain ⟨tq, htq⟩ : ∃ tq, (lnA ls k).to = tq := ⟨_, rfl⟩
            have HTO := Lib.hid (fun (W : World) (hB : Below w4.heap.size w4 W) => (show W.cell? ⟨(ad.add (k * 11)).block, (ad.add (k * 11)).off + 10, none⟩ = some (.int .i64 tq) by rw [← htq]; exact (HLK.out W hB).c10))
            rw [htq] at hj3 hto
            have HIC := Lib.hid (fun (W : World) (hB : Below w4.heap.size w4 W) => (HLK.out W hB))
            obtain ⟨li, hli⟩ : ∃ li, (lnA ls k).ins = li := ⟨_, rfl⟩
            rw [hli] at HIQ HJ hj1 hj2 hj3 HQS
            have HI2 := Lib.hid (fun (W : World) (hB : Below w4.heap.size w4 W) => (show W.cell? ⟨(ad.add (k * 11)).block, (ad.add (k * 11)).off + 1, none⟩ = some (.int .i64 li.op) ∧ W.cell? ⟨(ad.add (k * 11)).block, (ad.add (k * 11)).off + 2, none⟩ = some (.int .i64 li.d) ∧ W.cell? ⟨(ad.add (k * 11)).block, (ad.add (k * 11)).off + 3, none⟩ = some (.int .i64 li.s) ∧ W.cell? ⟨(ad.add (k * 11)).block, (ad.add (k * 11)).off + 4, none⟩ = some (.int .i64 li.t) ∧ W.cell? ⟨(ad.add (k * 11)).block, (ad.add (k * 11)).off + 5, none⟩ = some (.int .i64 li.b) ∧ W.cell? ⟨(ad.add (k * 11)).block, (ad.add (k * 11)).off + 6, none⟩ = some (.int .i64 li.x) ∧ W.cell? ⟨(ad.add (k * 11)).block, (ad.add (k * 11)).off + 7, none⟩ = some (.int .i64 li.sc) ∧ W.cell? ⟨(ad.add (k * 11)).block, (ad.add (k * 11)).off + 8, none⟩ = some (.int .i64 li.di) ∧ W.cell? ⟨(ad.add (k * 11)).block, (ad.add (k * 11)).off + 9, none⟩ = some (.int .i64 li.im) by
              have h := HLK.out W hB
              rw [← hli]
              exact ⟨h.c1, h.c2, h.c3, h.c4, h.c5, h.c6, h.c7, h.c8, h.c9⟩))
            clear HIK HX h1 hsz hwl hln HLK HIC htq hli h0
            obtain ⟨jb, hjb⟩ : ∃ jb, jmpB li = jb := ⟨_, rfl⟩
            rw [hjb] at HJ hj2 hj3
            clear hjb hj1
            obtain ⟨op, d, s, t, b, x, sc, di, im⟩ := li
            unfold tD Ins.vs at HIQ
            unfold Ins.vs at HJ HQS
            dsimp only at HIQ HJ HQS HI2 hj2 hj3
            go_wp2_with fail
            go_at_call 10
            refine (HIQ.out _).mono ?_
            rintro e w5 ⟨rfl, hb5⟩
            have HB5 : Below w4.heap.size w4 w5 := bel_tr4 HW.out hb5
            have HB6 : Hid (Below w4.heap.size w4 (w5.alloc (.cells #[.int .i64 op, .int .i64 d, .int .i64 s, .int .i64 t, .int .i64 b, .int .i64 x, .int .i64 sc, .int .i64 di, .int .i64 fi] 35))) := Lib.hid (HB5.alloc HB5.size _)
            have HI6 : Hid (Bk (w5.alloc (.cells #[.int .i64 op, .int .i64 d, .int .i64 s, .int .i64 t, .int .i64 b, .int .i64 x, .int .i64 sc, .int .i64 di, .int .i64 fi] 35)) w5.heap.size 35 #[.int .i64 op, .int .i64 d, .int .i64 s, .int .i64 t, .int .i64 b, .int .i64 x, .int .i64 sc, .int .i64 di, .int .i64 fi]) := Lib.hid (Bk.new _ _ _)
            have hg5 : w4.heap.size ≤ w5.heap.size := HB5.size
            obtain ⟨e0, e1, e2, e3, e4, e5, e6, e7, e8⟩ := c9 HI6.out
            clear hb5 HB5 hl0 hpk
            go_wp2_with fail
            go_at_call 11
            refine (HJ.out _).mono ?_
            rintro e w7 ⟨rfl, hb7⟩
            have HI7 := Lib.hid (HI6.out.below hb7 HI6.out.lt)
            have HB7 : Hid (Below w4.heap.size w4 w7) := Lib.hid (bel_tr4 HB6.out hb7)
            have hg7 := HI7.out.lt
            clear e0 e1 e2 e3 e4 e5 e6 e7 e8 hb7 HI6 HB6 HIQ HJ
            generalize w5.heap.size = g5 at *
            cases jb with
            | false =>
              obtain rfl := hj2 rfl
              clear hj2 hj3
              obtain ⟨e0, e1, e2, e3, e4, e5, e6, e7, e8⟩ := c9 HI7.out
              obtain ⟨q1, q2, q3, q4, q5, q6, q7, q8, q9⟩ := HI2.out w7 HB7.out
              have HQE := HQS.out
              go_wp2_with fail
              go_quiet (fail)
              go_wp2_with fail
              go_roundw
              case rel => exact ⟨k + 1, by omega, by go_num, Lib.hid (by rw [HA1.out, hup1]; go_num), Lib.hid (HB7.out.trans ⟨rfl, rfl, rfl, Nat.le_refl _, fun _ _ => rfl⟩)⟩
              case measure => (simp [intOf] <;> omega)
            | true =>
              obtain ⟨rfl, hf1, hf2, hhere⟩ := hj3 rfl
              clear hj2 hj3
              rw [hlen] at hhere
              have HHR := Lib.hid hhere
              have HS7 := Lib.hid (fun q => here_succ ls tq ((a0 : Int) + (sz : Int) + fi) q)
              have H07 := Lib.hid (here_0 ls tq ((a0 : Int) + (sz : Int) + fi))
              clear hhere
              obtain ⟨e0, e1, e2, e3, e4, e5, e6, e7, e8⟩ := c9 HI7.out
              go_wp2_with fail
              clear e0 e1 e2 e3 e4 e5 e6 e7 e8
              go_loopw [15, 16] (fun v i W => ∃ q : Nat, q ≤ c1 ∧ i = .int .i64 (q : Int) ∧ Hid (v = .bool (hereB ls tq ((a0 : Int) + (sz : Int) + fi) q)) ∧ Hid (Below w7.heap.size w7 W)) (fun _ i _ => c1 - (intOf i).toNat)
              case atStart => exact ⟨0, Nat.zero_le _, rfl, Lib.hid (by rw [H07.out]), Lib.hid (Below.refl _ _)⟩
              case round =>
                obtain ⟨q, hq, rfl, HV, HWq⟩ := hrel
                have HBq : Hid (Below w4.heap.size w4 wr) := Lib.hid (bel_tr4 HB7.out HWq.out)
                rcases Nat.lt_or_ge q c1 with hqn | hqn
                · have hqni : (q : Int) < (c1 : Int) := by omega
                  have hq0 : (0 : Int) ≤ (q : Int) := by omega
                  have hlab := (HLN.out wr HBq.out q hqn).a
                  have htq := HTO.out wr HBq.out
                  have hpq := HPN.out wr HBq.out q hqn
                  have HS := Lib.hid (HS7.out q)
                  obtain rfl := HV.out
                  clear HV
                  generalize (lnA ls q).lab = lb at *
                  obtain ⟨aq, haq⟩ : ∃ aq : Int, ((upL (ls.take q) : Nat) : Int) = aq := ⟨_, rfl⟩
                  rw [haq] at hpq HS
                  clear haq
                  generalize hereB ls tq ((a0 : Int) + (sz : Int) + fi) q = hb at *
                  have HBN : ∀ m, Hid (Below w7.heap.size w7 (wr.drewN m)) := fun m => Lib.hid (HWq.out.trans ⟨rfl, rfl, rfl, Nat.le_refl _, fun _ _ => rfl⟩)
                  cases hb with
                  | true =>
                    go_wp2_with fail
                    go_quiet (fail)
                    go_wp2_with fail
                    go_roundw
                    case rel => exact ⟨q + 1, by omega, by go_num, Lib.hid (by rw [HS.out]; rfl), HBN _⟩
                    case measure => (simp [intOf] <;> omega)
                  | false =>
                    by_cases k1 : lb = tq
                    · obtain rfl : tq = lb := k1.symm
                      by_cases k2 : aq = (a0 : Int) + (sz : Int) + fi
                      · have k3 : (aq == (a0 : Int) + (sz : Int) + fi) = true := by rw [beq_iff_eq]; exact k2
                        have HSN : Hid (hereB ls tq ((a0 : Int) + (sz : Int) + fi) (q + 1) = true) := Lib.hid (by rw [HS.out]; simp [k2])
                        clear HS
                        go_wp2_with fail
                        go_quiet (fail)
                        go_wp2_with fail
                        go_roundw
                        case rel => exact ⟨q + 1, by omega, by go_num, Lib.hid (by rw [HSN.out]), HBN _⟩
                        case measure => (simp [intOf] <;> omega)
                      · have k3 : (aq == (a0 : Int) + (sz : Int) + fi) = false := by rw [beq_eq_false_iff_ne]; exact k2
                        have HSN : Hid (hereB ls tq ((a0 : Int) + (sz : Int) + fi) (q + 1) = false) := Lib.hid (by rw [HS.out]; simp [k2])
                        clear HS
                        go_wp2_with fail
                        go_quiet (fail)
                        go_wp2_with fail
                        go_roundw
                        case rel => exact ⟨q + 1, by omega, by go_num, Lib.hid (by rw [HSN.out]), HBN _⟩
                        case measure => (simp [intOf] <;> omega)
                    · have k3 : (lb == tq) = false := by rw [beq_eq_false_iff_ne]; exact k1
                      have HSN : Hid (hereB ls tq ((a0 : Int) + (sz : Int) + fi) (q + 1) = false) := Lib.hid (by rw [HS.out]; simp [k1])
                      clear HS
                      go_wp2_with fail
                      go_quiet (fail)
                      go_wp2_with fail
                      go_roundw
                      case rel => exact ⟨q + 1, by omega, by go_num, Lib.hid (by rw [HSN.out]), HBN _⟩
                      case measure => (simp [intOf] <;> omega)
                · obtain rfl : q = c1 := by omega
                  have hv := HV.out
                  rw [HHR.out] at hv
                  subst hv
                  have HI8 := Lib.hid (HI7.out.below HWq.out HI7.out.lt)
                  have HI9 := Lib.hid (HI8.out.set_ 8 (.int .i64 0))
                  have HB9 : Hid (Below w4.heap.size w4 (wr.setCell ⟨g5, 8, none⟩ (.int .i64 0))) := Lib.hid (HBq.out.setCell (p := ⟨g5, 8, none⟩) (show w4.heap.size ≤ g5 from hg5) _)
                  have m8 := HI8.out.cell 8
                  have f8 := HI8.out.frozen 8
                  dsimp at m8
                  obtain ⟨e0, e1, e2, e3, e4, e5, e6, e7, e8⟩ := c9 (show Bk (wr.setCell ⟨g5, 8, none⟩ (.int .i64 0)) g5 35 #[.int .i64 op, .int .i64 d, .int .i64 s, .int .i64 t, .int .i64 b, .int .i64 x, .int .i64 sc, .int .i64 di, .int .i64 0] from HI9.out)
                  obtain ⟨q1, q2, q3, q4, q5, q6, q7, q8, q9⟩ := HI2.out _ HB9.out
                  have HQE := HQS.out
                  clear HV HHR HS7 H07 HI7 HI8 HI9 HWq HBq HTO HLN HPN
                  go_wp2_with fail
                  go_quiet (fail)
                  go_wp2_with fail
                  go_roundw
                  case rel => exact ⟨k + 1, by omega, by go_num, Lib.hid (by rw [HA1.out, hup1]; go_num), Lib.hid (HB9.out.trans ⟨rfl, rfl, rfl, Nat.le_refl _, fun _ _ => rfl⟩)⟩
                  case measure => (simp [intOf] <;> omega)
          · have hl0 := hln.a
            have hsz : szL (lnA ls k) = 0 := by unfold szL; rw [if_pos h0]
            rw [hsz, Nat.add_zero] at hup1
            have hne : ((lnA ls k).lab != 0) = true := by simpa using h0
            generalize (lnA ls k).lab = lb at *
            clear hsz HX hwl hln HLK HIK
            go_wp2_with fail
            go_roundw
            case rel => exact ⟨k + 1, by omega, by go_num, Lib.hid (by rw [HA1.out, hup1]), HW⟩
            case measure => (simp [intOf] <;> omega)
        · obtain rfl : k = c1 := by omega
          obtain rfl := HA.out
          have e : upL (ls.take k) = upL ls := by rw [← hlen, List.take_length]
          have HBF : Below w.heap.size w wr := HB4.out.trans (HW.out.mono (by have := HB4.out.size; omega))
          have hz : ((upL (ls.take k) : Nat) : Int) = (code.size : Int) := by rw [HZ.out, e]
          generalize ((upL (ls.take k) : Nat) : Int) = az at *
          subst hz
          clear HAT2 HIN HP4 HA
          go_wp2_with fail
          go_ret
          exact ⟨rfl, HBF⟩
    · obtain ⟨e1, e2⟩ := HBAD.out hc
      obtain rfl := HV1.out hc
      have hne : (c2 != 0) = true := by simpa using hc
      rw [e1, e2]
      clear HAT HOK HV1 HV2 HBAD e1 e2 HB34
      go_wp2_with fail
      go_ret
      exact ⟨rfl, HB4.out⟩
end layoutJumps
end Go.Proofs.YteppmkeoedddnaaDoor
