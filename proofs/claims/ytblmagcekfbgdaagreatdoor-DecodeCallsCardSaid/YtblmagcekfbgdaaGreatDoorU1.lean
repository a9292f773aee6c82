/- What is asked of the landed package decode; the chapter's examples as each law asks them first. | Plain facts of bytes as instructions that the laws ask for. -/
import Derived.Test.YtblmagcekfbgdaaGreatDoorT2
import Derived.Test.YtblmagcekfbgdaaGreatDoorN0
namespace Go.Proofs.YtblmagcekfbgdaaGreatDoor
open Go Go.RowKit
namespace Is
open Nt
set_option linter.unusedVariables false
set_option linter.unusedSimpArgs false
/-- all that is asked of the landed package but Each, where G says what its tables hold -/
structure DecC (G : World → Prop) : Prop where
  keep : ∀ (w w' : World), G w → Below w.heap.size w w' → G w'
  inst : ∀ (code : ByteArray) (a : Int) (w : World), G w → I64 a → code.size ≤ 100000 → Calls Tryz.prog 5 #[.string code, .int .i64 a] w fun e w' => e = .returned (tD (rD code a)) ∧ Below w.heap.size w w'
  all : ∀ (code : ByteArray) (w : World), G w → code.size ≤ 400 → Calls Tryz.prog 7 #[.string code] w (TellA code w)
theorem DecC.tb {G : World → Prop} (dc : DecC G) {w W : World} (h : Hid (G w)) (hb : Hid (Below w.heap.size w W)) : G W := dc.keep _ _ h.out hb.out
theorem decC : DecC TabE := {
  keep := fun _ _ h hb => h.keep hb
  inst := fun code a w hT ha hs => dInst_l code a w hT ha hs
  all := fun code w hT hs => dAll_l code w hT hs }
theorem rD_eq {s : ByteArray} {k : Nat} {i : Ins} (hk : k < s.size) (h1 : okI i = true) (h2 : i.wf) (h3 : Pre s k (encL i)) : rD s (k : Int) = (i, ((encL i).length : Int), 0) :=
  rD_some hk ((decO_iff (by omega)).2 ⟨h1, h2, h3⟩)
theorem rD_bad {s : ByteArray} {k : Nat} (hk : k < s.size) (h : (decO s k).isNone = true) : rD s (k : Int) = (zI, 0, 4) := rD_none hk (Option.isNone_iff_eq_none.1 h)
theorem i64k {z : Int} (h : -1000 ≤ z) (h' : z ≤ 1000) : I64 z := i64s h h'
theorem wf_small {op d s t b x sc di im : Int} (h : ∀ z ∈ [op, d, s, t, b, x, sc, di, im], -1000 ≤ z ∧ z ≤ 1000) : (⟨op, d, s, t, b, x, sc, di, im⟩ : Ins).wf := by
  simp at h
  obtain ⟨h1, h2, h3, h4, h5, h6, h7, h8, h9⟩ := h
  exact ⟨i64k h1.1 h1.2, i64k h2.1 h2.2, i64k h3.1 h3.2, i64k h4.1 h4.2, i64k h5.1 h5.2, i64k h6.1 h6.2, i64k h7.1 h7.2, i64k h8.1 h8.2, i64k h9.1 h9.2⟩
theorem at_lit {s : ByteArray} {l : List Int} (h : (l.zipIdx.all fun x => bA s (0 + x.2) == x.1) = true) (hl : 0 + l.length ≤ s.size) : Pre s 0 l := by
  refine ⟨hl, fun j c hj => ?_⟩
  rw [List.all_eq_true] at h
  have h2 := h (c, j) (by rw [List.mem_zipIdx_iff_getElem?]; exact hj)
  simpa using h2
theorem ex1 : rD ⟨#[72, 17, 200]⟩ 0 = (⟨7, 0, 1, 0, 0, 0, 0, 0, 0⟩, 3, 0) :=
  rD_eq (s := ⟨#[72, 17, 200]⟩) (k := 0) (by decide) (by decide) (wf_small (by decide)) (at_lit (by decide +kernel) (by decide))
theorem ex2 : rD ⟨#[]⟩ 0 = (zI, 0, 8) := rD_end rfl
theorem ex3 : rD ⟨#[72, 139]⟩ 0 = (zI, 0, 4) := rD_bad (s := ⟨#[72, 139]⟩) (k := 0) (by decide) (by decide +kernel)
theorem ex4 : rD ⟨#[72, 139, 76, 36, 0]⟩ 0 = (zI, 0, 4) := rD_bad (s := ⟨#[72, 139, 76, 36, 0]⟩) (k := 0) (by decide) (by decide +kernel)
theorem i64_z : I64 0 := i64s (by decide) (by decide)
set_option maxRecDepth 100000 in
set_option maxHeartbeats 4000000 in
theorem dlives_c {G : World → Prop} (dc : DecC G) (w : World) (HG : Hid (G w)) : Calls Tryz.prog 4 #[] w fun e w' => e = .returned (.bool true) ∧ Below w.heap.size w w' := by
  have HB0 := Lib.hid (Below.refl w.heap.size w)
  have H1 := Lib.hid (fun W hg => dc.inst ⟨#[72, 17, 200]⟩ 0 W hg i64_z (by decide))
  have H2 := Lib.hid (fun W hg => dc.inst ⟨#[]⟩ 0 W hg i64_z (by decide))
  have H3 := Lib.hid (fun W hg => dc.inst ⟨#[72, 139]⟩ 0 W hg i64_z (by decide))
  have H4 := Lib.hid (fun W hg => dc.inst ⟨#[72, 139, 76, 36, 0]⟩ 0 W hg i64_z (by decide))
  rw [ex1] at H1
  rw [ex2] at H2
  rw [ex3] at H3
  rw [ex4] at H4
  have HEQ := instEq 7 0 1 0 0 0 0 0 0 7 0 1 0 0 0 0 0 0
  rw [show eqI ⟨7, 0, 1, 0, 0, 0, 0, 0, 0⟩ ⟨7, 0, 1, 0, 0, 0, 0, 0, 0⟩ = true from rfl] at HEQ
  unfold tD zI Ins.vs at H2 H3 H4
  unfold tD Ins.vs at H1
  dsimp only at H1 H2 H3 H4
  go_enter Tryz.func4, Tryz.ntmps4
  go_wp2_with fail
  go_at_call 5
  refine (H1.out _ (dc.tb HG (by assumption))).mono ?_
  rintro e w1 ⟨rfl, hb⟩
  have HB1 : Hid (Below w.heap.size w (w1.alloc (.cells #[.int .i64 7, .int .i64 0, .int .i64 1, .int .i64 0, .int .i64 0, .int .i64 0, .int .i64 0, .int .i64 0, .int .i64 0] 26))) := Lib.hid ((HB0.out.trans (hb.mono HB0.out.size)).alloc (by have := hb.size; omega) _)
  have HI1 := Lib.hid (Bk.new w1 26 #[.int .i64 7, .int .i64 0, .int .i64 1, .int .i64 0, .int .i64 0, .int .i64 0, .int .i64 0, .int .i64 0, .int .i64 0])
  clear hb
  go_wp2_with fail
  go_at_call 5
  refine (H2.out _ (dc.tb HG (by assumption))).mono ?_
  rintro e w2 ⟨rfl, hb⟩
  have HB2 : Hid (Below w.heap.size w (w2.alloc (.cells #[.int .i64 0, .int .i64 0, .int .i64 0, .int .i64 0, .int .i64 0, .int .i64 0, .int .i64 0, .int .i64 0, .int .i64 0] 26))) := Lib.hid ((HB1.out.trans (hb.mono HB1.out.size)).alloc (by have := hb.size; have := HB1.out.size; omega) _)
  have HI2 := Lib.hid ((HI1.out.below hb HI1.out.lt).alloc (.cells #[.int .i64 0, .int .i64 0, .int .i64 0, .int .i64 0, .int .i64 0, .int .i64 0, .int .i64 0, .int .i64 0, .int .i64 0] 26))
  clear hb HI1
  go_wp2_with fail
  go_at_call 5
  refine (H3.out _ (dc.tb HG (by assumption))).mono ?_
  rintro e w3 ⟨rfl, hb⟩
  have HB3 : Hid (Below w.heap.size w (w3.alloc (.cells #[.int .i64 0, .int .i64 0, .int .i64 0, .int .i64 0, .int .i64 0, .int .i64 0, .int .i64 0, .int .i64 0, .int .i64 0] 26))) := Lib.hid ((HB2.out.trans (hb.mono HB2.out.size)).alloc (by have := hb.size; have := HB2.out.size; omega) _)
  have HI3 := Lib.hid ((HI2.out.below hb HI2.out.lt).alloc (.cells #[.int .i64 0, .int .i64 0, .int .i64 0, .int .i64 0, .int .i64 0, .int .i64 0, .int .i64 0, .int .i64 0, .int .i64 0] 26))
  clear hb HI2
  go_wp2_with fail
  go_at_call 5
  refine (H4.out _ (dc.tb HG (by assumption))).mono ?_
  rintro e w4 ⟨rfl, hb⟩
  have HB4 : Hid (Below w.heap.size w (w4.alloc (.cells #[.int .i64 0, .int .i64 0, .int .i64 0, .int .i64 0, .int .i64 0, .int .i64 0, .int .i64 0, .int .i64 0, .int .i64 0] 26))) := Lib.hid ((HB3.out.trans (hb.mono HB3.out.size)).alloc (by have := hb.size; have := HB3.out.size; omega) _)
  have HI4 := Lib.hid (HI3.out.below hb HI3.out.lt)
  clear hb HI3
  have hlt := HI4.out.lt
  obtain ⟨b0, b1, b2, b3, b4, b5, b6, b7, b8⟩ := c9 HI4.out
  go_wp2_with fail
  go_ret
  exact ⟨rfl, HB4.out⟩
end Is
end Go.Proofs.YtblmagcekfbgdaaGreatDoor
namespace Go.Proofs.YtblmagcekfbgdaaGreatDoor
open Go Go.RowKit
namespace Is
open Nt
set_option linter.unusedVariables false
set_option linter.unusedSimpArgs false
theorem cat_ge (xs : List Ins) (h : allOk xs = true) : xs.length ≤ (catU xs).length := by
  induction xs with
  | nil => simp
  | cons x xs ih =>
    rw [allOk_cons, Bool.and_eq_true] at h
    have h1 := (encl_ok x h.1).2.1
    have h2 := ih h.2
    simp only [catU, List.length_append, List.length_cons]
    omega
theorem ba_ext {a b : ByteArray} (h : a.data.toList = b.data.toList) : a = b := by
  cases a; cases b
  simp at h
  rw [h]
theorem strU_data (l : List Int) : (strU l).data.toList = toU8 l := by unfold strU; simp
theorem strU_take (l : List Int) (k : Nat) : (strU l).extract 0 k = strU (l.take k) := by
  apply ba_ext
  rw [extract_list, strU_data, strU_data, Nat.sub_zero, List.drop_zero]
  unfold toU8
  rw [List.map_take]
/-- bytes at the beginning of a text that was put -/
theorem pre_strU {l m : List Int} (hl : B8s l) (hm : B8s m) : Pre (strU l) 0 m ↔ ∃ r, l = m ++ r := by
  rw [pre_iff hm (Nat.zero_le _), strU_data, List.drop_zero]
  constructor
  · rintro ⟨r, hr⟩
    have hlen := congrArg List.length hr
    rw [List.length_append, show (toU8 m).length = m.length from List.length_map .., show (toU8 l).length = l.length from List.length_map ..] at hlen
    refine ⟨l.drop m.length, ?_⟩
    have h1 : toU8 (l.take m.length) = toU8 m := by
      have h2 := congrArg (List.take m.length) hr
      rw [List.take_append_of_le_length (by rw [show (toU8 m).length = m.length from List.length_map ..]; exact Nat.le_refl _), List.take_of_length_le (by rw [show (toU8 m).length = m.length from List.length_map ..]; exact Nat.le_refl _)] at h2
      rw [h2]
      unfold toU8
      rw [List.map_take]
    have h3 := toU8_inj (hl.take m.length) hm h1
    have h4 := List.take_append_drop m.length l
    rw [h3] at h4
    exact h4.symm
  · rintro ⟨r, rfl⟩
    exact ⟨toU8 r, by unfold toU8; rw [List.map_append]⟩
/-- bytes of an instruction, cut -/
theorem rd_cut {i : Ins} (hk : okI i = true) (hw : i.wf) {k : Nat} (h1 : 1 ≤ k) (h2 : k ≤ (encL i).length) : rD ((encS i).extract 0 k) 0 = if k = (encL i).length then (i, ((encL i).length : Int), 0) else (zI, 0, 4) := by
  have he := encl_ok i hk
  have es : encS i = strU (encL i) := by unfold encS; rw [hk]; rfl
  rw [es, strU_take]
  have hsz : (strU ((encL i).take k)).size = k := by rw [size_strU, List.length_take]; omega
  have hb := he.1.take k
  split
  · rename_i e
    subst e
    rw [List.take_of_length_le (Nat.le_refl _)] at hsz ⊢
    refine rD_some (k := 0) (by omega) ((decO_iff (by omega)).2 ⟨hk, hw, (pre_strU he.1 he.1).2 ⟨[], by simp⟩⟩)
  · rename_i e
    refine rD_none (k := 0) (by omega) ?_
    cases hd : decO (strU ((encL i).take k)) 0 with
    | none => rfl
    | some j =>
      exfalso
      have hj := (decO_iff (by omega)).1 hd
      have hej := encl_ok j hj.1
      obtain ⟨r, hr⟩ := (pre_strU hb hej.1).1 hj.2.2
      have h5 : encL i ++ [] = encL j ++ (r ++ (encL i).drop k) := by
        rw [List.append_nil, ← List.append_assoc, ← hr]
        exact (List.take_append_drop k (encL i)).symm
      have h6 := enc_inj i j hk hj.1 hw hj.2.1 [] _ h5
      subst h6
      have h7 := congrArg List.length hr
      rw [List.length_take, List.length_append] at h7
      omega
/-- what all tells: it is what stands ahead -/
theorem all_facts (s : ByteArray) : allS (allD s).1 = strU (catU (allD s).1) ∧ allE (allD s).1 = 0 ∧ ((strU (catU (allD s).1)).toList == (s.extract 0 (allD s).2).toList) = true ∧ (allD s).2 ≤ s.size ∧ (allD s).1.length ≤ s.size ∧
    rD s ((allD s).2 : Int) = (if (allD s).2 = s.size then (zI, 0, 8) else (zI, 0, 4)) := by
  obtain ⟨h1, h2, h3, h4, h5, h6⟩ := allD_ok s
  refine ⟨?_, ?_, ?_, h5, ?_, ?_⟩
  · unfold allS; rw [h1]; rfl
  · unfold allE; rw [h1]; rfl
  · have h7 := (pre_cut (cat_b8 _ h1) (by omega)).2 h4
    rw [Nat.zero_add, ← h3] at h7
    rw [beq_iff_eq] at h7 ⊢
    exact h7.symm
  · have := cat_ge _ h1; omega
  · by_cases e : (allD s).2 = s.size
    · rw [if_pos e]; exact rD_end (by rw [e])
    · rw [if_neg e]; exact rD_none (by omega) h6
end Is
end Go.Proofs.YtblmagcekfbgdaaGreatDoor
