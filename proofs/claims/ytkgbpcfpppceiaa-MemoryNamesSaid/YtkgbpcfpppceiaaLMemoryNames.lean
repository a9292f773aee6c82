/- The walk of MemoryNames. -/
import Derived.Test.YtkgbpcfpppceiaaA11
namespace Go.Proofs.Ytkgbpcfpppceiaa
open Go Go.RowKit
namespace memoryNames
open Wd Nt Mm
set_option linter.unusedVariables false
variable {R : World → Nat → Nat → Value → List Reg → Prop}
theorem new_bad (mc : MemC R) (W : World) (A : Option Addr) (n c : Nat) (rs : List Reg) (x : Int) (h : AtR W A n rs) (hn : n ≤ 9223372036854775807) (hx : ChkO rs x) (h0 : x ≠ 0) :
    Calls Try.prog 11 #[.slice A n c] W fun e w' => e = .returned (.tuple #[.pointer none, .int .i64 x]) ∧ Below W.heap.size W w' :=
  (mc.new A n c rs W (Lib.hid h) hn).mono fun e w' ⟨hb, y, hy, h1⟩ => by
    obtain rfl := hy.uniq hx
    rcases h1 with ⟨_, rfl⟩ | ⟨h2, _⟩
    · exact ⟨rfl, hb⟩
    · exact absurd h2 h0
theorem at_one {W : World} {gl n c : Nat} {A : Option Addr} {r : Reg} (hl : Bk W gl 31 #[.int .u64 r.base, .slice A n c, .bool r.write]) (h8 : Rd8 W W.heap.size A n r.bytes) (hn : n ≤ c) (hc : c ≤ 9223372036854775807) (ok : r.ok) :
    AtR W (some ⟨gl, 0, none⟩) 1 [r] := by
  refine ⟨rfl, fun s hs => ?_, fun _ => ⟨_, rfl, hl.lt, fun j s hj => ?_⟩⟩
  · obtain rfl := List.mem_singleton.1 hs
    exact ok
  · rcases j with _ | j
    · obtain rfl : r = s := by simpa using hj
      exact ⟨A, n, c, hl.cell 0, hl.cell 1, hl.cell 2, h8, hn, hc⟩
    · simp at hj
theorem rd_nil (W : World) : Rd8 W W.heap.size none 0 [] := ⟨rfl, (fun x hx => by cases hx), (fun h => absurd h (by decide))⟩
theorem chk_e : ChkO [⟨1, [], false⟩] 2 := by
  refine .inr (.inl ⟨by decide, ?_, ⟨0, _, rfl, .inl rfl⟩, rfl⟩)
  rintro ⟨i, r, h, h2⟩
  rcases i with _ | i
  · obtain rfl := Option.some.inj h
    exact absurd h2 (by decide)
  · simp at h
theorem chk_f : ChkO [⟨1, zs 5, false⟩, ⟨5, zs 5, false⟩] 2 := by
  refine .inr (.inl ⟨by decide, ?_, ⟨1, _, rfl, .inr (.inr ⟨0, _, by decide, rfl, by decide, by decide⟩)⟩, rfl⟩)
  rintro ⟨i, r, h, h2⟩
  rcases i with _ | _ | i
  · obtain rfl := Option.some.inj h
    exact absurd h2 (by decide)
  · obtain rfl : (⟨5, zs 5, false⟩ : Reg) = r := by simpa using h
    exact absurd h2 (by decide)
  · simp at h
theorem chk_g : ChkO [⟨18446744073709551614, zs 3, false⟩] 2 := by
  refine .inr (.inl ⟨by decide, ?_, ⟨0, _, rfl, .inr (.inl (by decide))⟩, rfl⟩)
  rintro ⟨i, r, h, h2⟩
  rcases i with _ | i
  · obtain rfl := Option.some.inj h
    exact absurd h2 (by decide)
  · simp at h
theorem chk_h : ChkO (List.replicate 9 ⟨0, [], false⟩) 3 := .inl ⟨.inl (by decide), rfl⟩
theorem chk_i : ChkO [⟨0, zs 1048577, false⟩] 3 := .inl ⟨.inr ⟨0, _, rfl, by unfold Reg.len; rw [zs_len]; decide⟩, rfl⟩
def oM : List Reg := [⟨18446744073709551608, zs 8, true⟩]
theorem good_o : Mm.Good oM := by
  rw [Good.iff]
  refine ⟨by decide, fun r hr => ?_, List.pairwise_cons.2 ⟨(fun x hx => by cases hx), List.Pairwise.nil⟩⟩
  obtain rfl := List.mem_singleton.1 hr
  decide
theorem at_two {W : World} {gl g1 g2 n1 n2 : Nat} {b1 b2 : Int} {t1 t2 : Bool} (hl : Bk W gl 31 #[.int .u64 b1, .slice (some ⟨g1, 0, none⟩) n1 n1, .bool t1, .int .u64 b2, .slice (some ⟨g2, 0, none⟩) n2 n2, .bool t2])
    (h1 : Bk W g1 5 (b8 (zs n1)).toArray) (h2 : Bk W g2 5 (b8 (zs n2)).toArray) (w1 : Wd.W b1) (w2 : Wd.W b2) (l1 : n1 ≤ 1099511627776) (l2 : n2 ≤ 1099511627776) : AtR W (some ⟨gl, 0, none⟩) 2 [⟨b1, zs n1, t1⟩, ⟨b2, zs n2, t2⟩] := by
  refine ⟨rfl, ?_, fun _ => ⟨_, rfl, hl.lt, ?_⟩⟩
  · intro r hr
    simp only [List.mem_cons, List.not_mem_nil, or_false] at hr
    rcases hr with rfl | rfl
    · exact ⟨w1, zs_bs _⟩
    · exact ⟨w2, zs_bs _⟩
  · intro j r hj
    rcases j with _ | _ | j
    · obtain rfl : (⟨b1, zs n1, t1⟩ : Reg) = r := by simpa using hj
      exact ⟨_, n1, n1, hl.cell 0, hl.cell 1, hl.cell 2, bk_rd8 h1 (zs_len n1) (zs_bs n1), Nat.le_refl _, by omega⟩
    · obtain rfl : (⟨b2, zs n2, t2⟩ : Reg) = r := by simpa using hj
      exact ⟨_, n2, n2, hl.cell 3, hl.cell 4, hl.cell 5, bk_rd8 h2 (zs_len n2) (zs_bs n2), Nat.le_refl _, by omega⟩
    · simp at hj
theorem at_oneZ {W : World} {gl g n : Nat} {b : Int} {t : Bool} (hl : Bk W gl 31 #[.int .u64 b, .slice (some ⟨g, 0, none⟩) n n, .bool t]) (h : Bk W g 5 (b8 (zs n)).toArray) (hw : Wd.W b) (l : n ≤ 1099511627776) :
    AtR W (some ⟨gl, 0, none⟩) 1 [⟨b, zs n, t⟩] :=
  at_one (r := ⟨b, zs n, t⟩) hl (bk_rd8 h (zs_len n) (zs_bs n)) (Nat.le_refl _) (by omega) ⟨hw, zs_bs n⟩
theorem make_R9 (w : World) :
    (Instr.makeSlice 32 (.int .i64 9) (.int .i64 9)).run Try.prog w = .ok (.slice (some ⟨w.heap.size, 0, none⟩) 9 9) (w.alloc (.cells (madeCells (Value.agg #[.int .u64 0, .slice none 0 0, .bool false]).cells 27) 31)) := by
  obtain ⟨i, hi, hz, h1, h2⟩ := info_parts info_reg
  have hr := run_make (P := Try.prog) w 32 31 i (.agg #[.int .u64 0, .slice none 0 0, .bool false]) Try.underlying32 hi hz .i64 .i64 9 9 (by omega) (by omega) (by rw [h2]; decide) (by omega)
  rw [hr, h1]
  rfl
theorem z9_get (k : Nat) (h : k < 27) : (madeCells (Value.agg #[.int .u64 0, .slice none 0 0, .bool false]).cells 27)[k]? = some (if k % 3 = 0 then .int .u64 0 else if k % 3 = 1 then .slice none 0 0 else .bool false) := by
  have h3 : k % 3 = 0 ∨ k % 3 = 1 ∨ k % 3 = 2 := by omega
  rcases h3 with h3 | h3 | h3 <;> simp [madeCells, Value.cells, h3, h]
theorem at_nine {W : World} {gl : Nat} (hl : Bk W gl 31 (madeCells (Value.agg #[.int .u64 0, .slice none 0 0, .bool false]).cells 27)) : AtR W (some ⟨gl, 0, none⟩) 9 (List.replicate 9 ⟨0, [], false⟩) := by
  refine ⟨rfl, fun r hr => ?_, fun _ => ⟨_, rfl, hl.lt, fun j r hj => ?_⟩⟩
  · rw [(List.mem_replicate.1 hr).2]
    exact ⟨by unfold Wd.W; decide, (fun x hx => by cases hx)⟩
  · have hj9 : j < 9 := by simpa using (List.getElem?_eq_some_iff.1 hj).1
    obtain rfl : (⟨0, [], false⟩ : Reg) = r := by
      rw [List.getElem?_replicate, if_pos hj9] at hj
      exact Option.some.inj hj
    have e : (⟨gl, 0, none⟩ : Addr).add (j * 3) = ⟨gl, j * 3, none⟩ := by
      unfold Addr.add; split
      · rename_i e; rw [e]
      · simp
    rw [e]
    refine ⟨none, 0, 0, ?_, ?_, ?_, rd_nil W, Nat.le_refl _, by omega⟩
    · rw [hl.cell, z9_get _ (by omega), if_pos (by omega)]
    · show W.cell? ⟨gl, j * 3 + 1, none⟩ = _
      rw [hl.cell, z9_get _ (by omega), if_neg (by omega), if_pos (by omega)]
    · show W.cell? ⟨gl, j * 3 + 2, none⟩ = _
      rw [hl.cell, z9_get _ (by omega), if_neg (by omega), if_neg (by omega)]
def V8 : Int := 578437695752307201
def m1 : List Reg := [⟨100, putN (zs 16) 1 V8 8, true⟩, ⟨200, zs 9, false⟩]
theorem m1_len (k : Nat) (v : Int) : (putN (zs 16) k v 8).length = 16 := by rw [putN_len, zs_len]
theorem g16 : Mm.Good (ofM 16) := (of_good 16 (by omega) (by omega)).perm (of_perm 16).symm
theorem st_200 {M' : List Reg} {e : Int} (h : StoreO (ofM 16) 200 1 M' e) : e = 11 ∧ M' = ofM 16 := by
  obtain ⟨h1, h2⟩ := h.uniq g16 (M'' := ofM 16) (e' := 11) (.inr ⟨fun i r hr => by
    rcases hits_of hr with ⟨rfl, rfl⟩ | ⟨rfl, rfl⟩
    · exact absurd hr.2.2.1 (by unfold Reg.len; rw [zs_len]; decide)
    · rfl, rfl, rfl⟩)
  exact ⟨h2, h1⟩
theorem ld_201 {v e : Int} (h : LoadO (ofM 16) 201 v e) : e = 0 := by
  rcases h with ⟨_, _, _, _, h⟩ | ⟨h, _⟩
  · exact h
  · exact absurd (show Hits (ofM 16) 201 8 1 ⟨200, zs 9, false⟩ from ⟨rfl, by decide, by unfold Reg.len; rw [zs_len]; decide, by unfold Reg.len; rw [zs_len]; decide⟩) (h _ _)
theorem ld_202 {v e : Int} (h : LoadO (ofM 16) 202 v e) : e = 11 := by
  rcases h with ⟨i, r, hr, _, _⟩ | ⟨_, _, h⟩
  · exfalso
    rcases hits_of hr with ⟨rfl, rfl⟩ | ⟨rfl, rfl⟩
    · exact absurd hr.2.2.1 (by unfold Reg.len; rw [zs_len]; decide)
    · exact absurd hr.2.2.2 (by unfold Reg.len; rw [zs_len]; decide)
  · exact h
theorem st_101 {M' : List Reg} {e : Int} (h : StoreO (ofM 16) 101 578437695752307201 M' e) : M' = m1 := by
  have hh : Hits (ofM 16) 101 8 0 ⟨100, zs 16, true⟩ := ⟨rfl, by decide, by unfold Reg.len; rw [zs_len]; decide, by unfold Reg.len; rw [zs_len]; decide⟩
  exact (h.uniq g16 (M'' := m1) (e' := 0) (.inl ⟨0, _, hh, rfl, rfl, rfl⟩)).1
theorem m1_hit {p m : Int} {i : Nat} {r : Reg} (h : Hits m1 p m i r) : (r.base = 100 ∧ r.len = 16) ∨ (r.base = 200 ∧ r.len = 9) := by
  have h1 := h.1
  unfold m1 at h1
  rcases i with _ | _ | i
  · obtain rfl : (⟨100, putN (zs 16) 1 V8 8, true⟩ : Reg) = r := by simpa using h1
    left; exact ⟨rfl, by unfold Reg.len; rw [m1_len]; rfl⟩
  · obtain rfl : (⟨200, zs 9, false⟩ : Reg) = r := by simpa using h1
    right; exact ⟨rfl, by unfold Reg.len; rw [zs_len]; rfl⟩
  · simp at h1
theorem hit_101 (n : Int) (hn : n ≤ 15) : Hits m1 101 n 0 ⟨100, putN (zs 16) 1 V8 8, true⟩ := ⟨rfl, by decide, by unfold Reg.len; rw [m1_len]; decide, by unfold Reg.len; rw [m1_len]; show n ≤ (16 : Int) - (101 - 100); omega⟩
theorem by_101 (hG : Mm.Good m1) {s : List Int} {e : Int} (h : BytesO m1 101 3 s e) : s = [1, 2, 3] ∧ e = 0 :=
  h.uniq hG (.inr (.inl ⟨by omega, 0, _, hit_101 3 (by omega), by decide, rfl⟩))
theorem by_neg {s : List Int} {e : Int} (h : BytesO m1 101 (-1) s e) : e = 2 := by
  rcases h with ⟨_, _, h⟩ | ⟨h, _⟩ | ⟨h, _⟩
  · exact h
  · omega
  · omega
theorem by_116 {s : List Int} {e : Int} (h : BytesO m1 116 0 s e) : e = 11 := by
  rcases h with ⟨h, _⟩ | ⟨_, i, r, hr, _⟩ | ⟨_, _, _, h⟩
  · omega
  · exfalso
    have h2 := hr.2.1
    have h3 := hr.2.2.1
    rcases m1_hit hr with ⟨a, b⟩ | ⟨a, b⟩ <;> (rw [a] at h2 h3; rw [b] at h3; omega)
  · exact h
theorem ld_101 (hG : Mm.Good m1) {v e : Int} (h : LoadO m1 101 v e) : v = 578437695752307201 :=
  (h.uniq hG (v' := 578437695752307201) (e' := 0) (.inl ⟨0, _, hit_101 8 (by omega), by decide, rfl⟩)).1
theorem st_o {M' : List Reg} {e : Int} (h : StoreO oM 18446744073709551608 7 M' e) : e = 0 := by
  have hh : Hits oM 18446744073709551608 8 0 ⟨18446744073709551608, zs 8, true⟩ := ⟨rfl, by decide, by unfold Reg.len; rw [zs_len]; decide, by unfold Reg.len; rw [zs_len]; decide⟩
  exact (h.uniq good_o (.inl ⟨0, _, hh, rfl, rfl, rfl⟩)).2
theorem new_o (mc : MemC R) (W : World) (gl g : Nat) (hl : Bk W gl 31 #[.int .u64 18446744073709551608, .slice (some ⟨g, 0, none⟩) 8 8, .bool true]) (h : Bk W g 5 (b8 (zs 8)).toArray) :
    Calls Try.prog 11 #[.slice (some ⟨gl, 0, none⟩) 1 1] W fun e w' => Below W.heap.size W w' ∧ ∃ D B8, e = .returned (.tuple #[.pointer (some D), .int .i64 0]) ∧ W.heap.size = B8 ∧ Hid (R w' B8 w'.heap.size (.pointer (some D)) oM) :=
  (mc.new _ 1 1 oM W (Lib.hid (at_oneZ hl h (by unfold Wd.W; decide) (by omega))) (by omega)).mono fun e w' ⟨hb, x, hx, h1⟩ => by
    obtain rfl := good_chk good_o hx
    rcases h1 with ⟨h2, _⟩ | ⟨_, p, M, rfl, hp, hr⟩
    · exact absurd rfl h2
    · obtain rfl : M = oM := List.perm_singleton.1 hp
      obtain ⟨D, rfl⟩ := (mc.shape hr).1
      exact ⟨hb, D, _, rfl, rfl, Lib.hid hr⟩
set_option maxRecDepth 100000 in
set_option maxHeartbeats 16000000 in
theorem walk_ (mc : MemC R) (w : World) :
    Calls Try.prog 3 #[] w fun e w' => e = .returned (.bool true) ∧ Below w.heap.size w w' := by
  have L1 := Lib.hid (lives_c mc w)
  have H1 := Lib.hid (of_c mc 16 (by omega) (by omega))
  go_enter Try.func3, Try.ntmps3
  go_wp2_with fail
  go_at_call 9
  refine L1.out.mono ?_
  rintro e w1 ⟨rfl, hb1⟩
  have HB1 := Lib.hid hb1
  clear hb1 L1
  go_wp2_with fail
  go_at_call 10
  refine (H1.out w1).mono ?_
  rintro e w2 ⟨hb2, B, p, rfl, hr, hB⟩
  have hsh := (mc.shape hr.out).1
  obtain ⟨D, rfl⟩ := hsh
  have HB2 := Lib.hid (bel_trans HB1.out hb2)
  have HBB := Lib.hid (Nat.le_trans HB1.out.size hB)
  clear hb2 hB H1
  have hmk3 : ∀ W, (Instr.makeSlice 29 (.int .i64 3) (.int .i64 3)).run Try.prog W = .ok (.slice (some ⟨W.heap.size, 0, none⟩) 3 3) (W.alloc (.cells (b8 (zs 3)).toArray 5)) := fun W => make_8 3 (by omega) W
  have hmk5 : ∀ W, (Instr.makeSlice 29 (.int .i64 5) (.int .i64 5)).run Try.prog W = .ok (.slice (some ⟨W.heap.size, 0, none⟩) 5 5) (W.alloc (.cells (b8 (zs 5)).toArray 5)) := fun W => make_8 5 (by omega) W
  have HF : Hid (∀ (W : World) (g1 g2 gl : Nat), Bk W g1 5 (b8 (zs 5)).toArray → Bk W g2 5 (b8 (zs 5)).toArray → Bk W gl 31 #[.int .u64 1, .slice (some ⟨g1, 0, none⟩) 5 5, .bool false, .int .u64 5, .slice (some ⟨g2, 0, none⟩) 5 5, .bool false] → Below w.heap.size w W →
      Calls Try.prog 11 #[.slice (some ⟨gl, 0, none⟩) 2 2] W fun e w' => e = .returned (.tuple #[.pointer none, .int .i64 2]) ∧ Below w.heap.size w w' ∧ Below W.heap.size W w') :=
    Lib.hid fun W g1 g2 gl h1 h2 hl hb => (new_bad mc W _ 2 2 _ 2 (at_two hl h1 h2 (by unfold Wd.W; decide) (by unfold Wd.W; decide) (by omega) (by omega)) (by omega) chk_f (by decide)).mono fun e w' h => ⟨h.1, bel_trans hb h.2, h.2⟩
  go_wp2_with fail
  go_at_call 11
  refine (new_bad mc _ _ 1 1 _ 2 (at_one (r := ⟨1, [], false⟩) (Bk.new' rfl) (rd_nil _) (by omega) (by omega) ⟨by unfold Wd.W; decide, (fun x hx => by cases hx)⟩) (by omega) chk_e (by decide)).mono ?_
  rintro e w3 ⟨rfl, hb⟩
  have hb3 : Below w2.heap.size w2 w3 := bel_trans (bel_alloc _) hb
  have HR := mc.below hr hb3
  have HB3 := Lib.hid (bel_trans HB2.out hb3)
  have hz3 := hb3.size
  clear hb hb3 hr
  go_wp2_with fail
  go_region_law (first | (go_simp; go_at_call 11; first | (refine (HF.out _ w3.heap.size (w3.heap.size + 1) (w3.heap.size + 1 + 1) (((Bk.new' rfl).alloc _).alloc _).drew ((Bk.new' (by simp)).alloc _).drew (Bk.new' (by simp)).drew ((((HB3.out.alloc HB3.out.size _).alloc (by simp; have := HB3.out.size; omega) _).alloc (by simp; have := HB3.out.size; omega) _).drew)).mono ?_; rintro e w4 ⟨rfl, hb, hb4⟩; have HB4 := Lib.hid hb; have HB34 := Lib.hid ((((bel_alloc _).alloc (by simp) _).alloc (by simp; omega) _).drew.trans (hb4.mono (by simp; omega))); clear hb hb4) | (refine (HF.out _ (w3.heap.size + 1) w3.heap.size (w3.heap.size + 1 + 1) ((Bk.new' (by simp)).alloc _).drew (((Bk.new' rfl).alloc _).alloc _).drew (Bk.new' (by simp)).drew ((((HB3.out.alloc HB3.out.size _).alloc (by simp; have := HB3.out.size; omega) _).alloc (by simp; have := HB3.out.size; omega) _).drew)).mono ?_; rintro e w4 ⟨rfl, hb, hb4⟩; have HB4 := Lib.hid hb; have HB34 := Lib.hid ((((bel_alloc _).alloc (by simp) _).alloc (by simp; omega) _).drew.trans (hb4.mono (by simp; omega))); clear hb hb4)))
  all_goals
    replace HR := mc.below HR HB34.out
    have hz4 := HB34.out.size
    clear HF HB3 HB34 hmk5
    go_wp2_with fail
    go_at_call 11
    refine (new_bad mc _ _ 1 1 _ 2 (at_oneZ (Bk.new' (by simp)) ((Bk.new' rfl).alloc _) (by unfold Wd.W; decide) (by omega)) (by omega) chk_g (by decide)).mono ?_
    rintro e w5 ⟨rfl, hb⟩
    have hb5 : Below w4.heap.size w4 w5 := ((bel_alloc _).alloc (by simp) _).trans (hb.mono (by simp; omega))
    replace HR := mc.below HR hb5
    replace HB4 := Lib.hid (bel_trans HB4.out hb5)
    have hz5 := hb5.size
    clear hb hb5 hmk3
    have hmkR := make_R9
    go_wp2_with fail
    go_at_call 11
    refine (new_bad mc _ _ 9 9 _ 3 (at_nine (Bk.new' rfl)) (by omega) chk_h (by decide)).mono ?_
    rintro e w6 ⟨rfl, hb⟩
    have hb6 : Below w5.heap.size w5 w6 := bel_trans (bel_alloc _) hb
    replace HR := mc.below HR hb6
    replace HB4 := Lib.hid (bel_trans HB4.out hb6)
    have hz6 := hb6.size
    clear hb hb6 hmkR
    have hmkL : ∀ W, (Instr.makeSlice 29 (.int .i64 1048577) (.int .i64 1048577)).run Try.prog W = .ok (.slice (some ⟨W.heap.size, 0, none⟩) 1048577 1048577) (W.alloc (.cells (b8 (zs 1048577)).toArray 5)) := fun W => make_8 1048577 (by omega) W
    go_wp2_with fail
    go_at_call 11
    refine (new_bad mc _ _ 1 1 _ 3 (at_oneZ (Bk.new' (by simp)) ((Bk.new' rfl).alloc _) (by unfold Wd.W; decide) (by omega)) (by omega) chk_i (by decide)).mono ?_
    rintro e w7 ⟨rfl, hb⟩
    have hb7 : Below w6.heap.size w6 w7 := ((bel_alloc _).alloc (by simp) _).trans (hb.mono (by simp; omega))
    replace HR := mc.below HR hb7
    replace HB4 := Lib.hid (bel_trans HB4.out hb7)
    have hz7 := hb7.size
    clear hb hb7 hmkL
    have hmk8 : ∀ W, (Instr.makeSlice 29 (.int .i64 8) (.int .i64 8)).run Try.prog W = .ok (.slice (some ⟨W.heap.size, 0, none⟩) 8 8) (W.alloc (.cells (b8 (zs 8)).toArray 5)) := fun W => make_8 8 (by omega) W
    go_wp2_with fail
    go_at_call 11
    refine (new_o mc _ _ _ (Bk.new' (by simp)) ((Bk.new' rfl).alloc _)).mono ?_
    rintro e w8 ⟨hb, D8, B8, rfl, hB8, hr8⟩
    have hb8 : Below w7.heap.size w7 w8 := ((bel_alloc _).alloc (by simp) _).trans (hb.mono (by simp; omega))
    have hB8' : w7.heap.size ≤ B8 := by rw [← hB8]; simp; omega
    replace HR := mc.below HR hb8
    replace HB4 := Lib.hid (bel_trans HB4.out hb8)
    have hz8 := hb8.size
    have hw2 := HB2.out.size
    have K1 := Lib.hid (mc.store 18446744073709551608 7 hr8 (by unfold Wd.W; decide) (by unfold Wd.W; decide))
    clear hb hb8 hmk8 hB8 hr8
    go_wp2_with fail
    go_at_call 12
    refine K1.out.mono ?_
    rintro e w9 ⟨hk9, M9, x9, rfl, hs9, _⟩
    obtain rfl := st_o hs9
    replace HR := Lib.hid (mc.keep HR.out hk9 (.inl (by omega)))
    replace HB4 := Lib.hid (HB4.out.trans ((hk9.wide (show w.heap.size ≤ B8 by omega) (Nat.le_refl _)).below (by omega)))
    have hz9 := hk9.size
    have K2 := Lib.hid (mc.store 200 1 HR (by unfold Wd.W; decide) (by unfold Wd.W; decide))
    clear K1 hk9 hs9 hB8'
    go_wp2_with fail
    go_at_call 12
    refine K2.out.mono ?_
    rintro e w10 ⟨hk, M', x', rfl, hs, hr⟩
    obtain ⟨rfl, rfl⟩ := st_200 hs
    replace HR := Lib.hid hr
    replace HB4 := Lib.hid (HB4.out.trans ((hk.wide HBB.out (Nat.le_refl _)).below (by omega)))
    have hz10 := hk.size
    clear hk hs hr K2
    have K3 := Lib.hid (mc.load 201 HR (by unfold Wd.W; decide))
    go_wp2_with fail
    go_at_call 13
    refine K3.out.mono ?_
    rintro e w11 ⟨hb, v11, x11, rfl, hl⟩
    obtain rfl := ld_201 hl
    replace HR := mc.below HR hb
    replace HB4 := Lib.hid (bel_trans HB4.out hb)
    have hz11 := hb.size
    clear hb hl K3
    have K4 := Lib.hid (mc.load 202 HR (by unfold Wd.W; decide))
    go_wp2_with fail
    go_at_call 13
    refine K4.out.mono ?_
    rintro e w12 ⟨hb, v12, x12, rfl, hl⟩
    obtain rfl := ld_202 hl
    replace HR := mc.below HR hb
    replace HB4 := Lib.hid (bel_trans HB4.out hb)
    have hz12 := hb.size
    clear hb hl K4
    have K5 := Lib.hid (mc.store 101 578437695752307201 HR (by unfold Wd.W; decide) (by unfold Wd.W; decide))
    go_wp2_with fail
    go_at_call 12
    refine K5.out.mono ?_
    rintro e w13 ⟨hk, M', x', rfl, hs, hr⟩
    obtain rfl := st_101 hs
    have HG := Lib.hid (mc.shape hr).2.1
    replace HR := Lib.hid hr
    replace HB4 := Lib.hid (HB4.out.trans ((hk.wide HBB.out (Nat.le_refl _)).below (by omega)))
    have hz13 := hk.size
    clear hk hs hr K5
    have K6 := Lib.hid (mc.bytes 101 3 HR (by unfold Wd.W; decide) (by decide))
    go_wp2_with fail
    go_at_call 14
    refine K6.out.mono ?_
    rintro e w14 ⟨hb, s14, x14, rfl, hl⟩
    obtain ⟨rfl, rfl⟩ := by_101 HG.out hl
    replace HR := mc.below HR hb
    replace HB4 := Lib.hid (bel_trans HB4.out hb)
    have hz14 := hb.size
    clear hb hl K6
    have K7 := Lib.hid (mc.bytes 101 (-1) HR (by unfold Wd.W; decide) (by decide))
    go_wp2_with fail
    go_at_call 14
    refine K7.out.mono ?_
    rintro e w15 ⟨hb, s15, x15, rfl, hl⟩
    obtain rfl := by_neg hl
    replace HR := mc.below HR hb
    replace HB4 := Lib.hid (bel_trans HB4.out hb)
    have hz15 := hb.size
    clear hb hl K7
    have K8 := Lib.hid (mc.bytes 116 0 HR (by unfold Wd.W; decide) (by decide))
    go_wp2_with fail
    go_at_call 14
    refine K8.out.mono ?_
    rintro e w16 ⟨hb, s16, x16, rfl, hl⟩
    obtain rfl := by_116 hl
    replace HR := mc.below HR hb
    replace HB4 := Lib.hid (bel_trans HB4.out hb)
    have hz16 := hb.size
    clear hb hl K8
    have K9 := Lib.hid (mc.clone HR)
    go_wp2_with fail
    go_at_call 15
    refine K9.out.mono ?_
    rintro e w17 ⟨hb, p17, rfl, hc⟩
    obtain ⟨D17, rfl⟩ := (mc.shape hc).1
    replace HR := mc.below HR hb
    replace HB4 := Lib.hid (bel_trans HB4.out hb)
    have hz17 := hb.size
    have K10 := Lib.hid (mc.store 100 0 (Lib.hid hc) (by unfold Wd.W; decide) (by unfold Wd.W; decide))
    clear hb hc K9
    go_wp2_with fail
    go_at_call 12
    refine K10.out.mono ?_
    rintro e w18 ⟨hk, M', x', rfl, hs, hr⟩
    replace HR := Lib.hid (mc.keep HR.out hk (.inl (by omega)))
    replace HB4 := Lib.hid (HB4.out.trans ((hk.wide (show w.heap.size ≤ w16.heap.size by omega) (Nat.le_refl _)).below (by omega)))
    have hz18 := hk.size
    clear hk hs hr K10
    have K11 := Lib.hid (mc.load 101 HR (by unfold Wd.W; decide))
    go_wp2_with fail
    go_at_call 13
    refine K11.out.mono ?_
    rintro e w19 ⟨hb, v19, x19, rfl, hl⟩
    obtain rfl := ld_101 HG.out hl
    replace HR := mc.below HR hb
    replace HB4 := Lib.hid (bel_trans HB4.out hb)
    have hz19 := hb.size
    clear hb hl K11
    have K12 := Lib.hid (mc.regions HR)
    go_wp2_with fail
    go_at_call 16
    refine K12.out.mono ?_
    rintro e w20 ⟨hb, v20, os, rfl, hO, hM⟩
    replace HB4 := Lib.hid (bel_trans HB4.out hb)
    obtain ⟨Ar, nr, cr, rfl, hrd, _, _⟩ := hO.out.own.rdR
    obtain ⟨o1, o2, rfl⟩ : ∃ o1 o2, os = [o1, o2] := by
      unfold m1 at hM
      rcases os with _ | ⟨o1, _ | ⟨o2, _ | ⟨o3, os⟩⟩⟩
      · simp at hM
      · simp at hM
      · exact ⟨o1, o2, rfl⟩
      · simp at hM
    obtain rfl : nr = 2 := by rw [← hrd.len]; rfl
    obtain ⟨gl, rfl⟩ : ∃ gl, Ar = some ⟨gl, 0, none⟩ := by
      rcases hO.out.own.shape with ⟨_, e2⟩ | ⟨g, c', e1, _⟩
      · cases e2
      · simp only [Value.slice.injEq] at e1; exact ⟨g, e1.1⟩
    have hM1 : o1.r.base = 100 ∧ o2.r.base = 200 := by
      unfold m1 at hM
      simp only [List.map_cons, List.map_nil, List.cons.injEq] at hM
      rw [hM.1, hM.2.1]; exact ⟨rfl, rfl⟩
    have c1 : w20.cell? ⟨gl, 0, none⟩ = some (.int .u64 100) := by
      rw [hO.out.own.cell (g := gl) rfl (j := 0) (d := 0) rfl (by omega)]
      show some (Value.int .u64 o1.r.base) = _
      rw [hM1.1]
    have c2 : w20.cell? ⟨gl, 3, none⟩ = some (.int .u64 200) := by
      rw [hO.out.own.cell (g := gl) rfl (j := 1) (d := 0) rfl (by omega)]
      show some (Value.int .u64 o2.r.base) = _
      rw [hM1.2]
    have hs3 : (strOf [1, 2, 3]).toList = [1, 2, 3] := by rw [ByteArray.toList_eq]; rfl
    clear hb hO hM hrd K12 hM1
    go_wp2_with fail
    go_ret
    exact ⟨rfl, HB4.out⟩
end memoryNames
end Go.Proofs.Ytkgbpcfpppceiaa
