/- The landed package decode: worlds in which some blocks have turned; a byte read. | The landed package decode: skip, rex, what a rex tells; numbers. | The landed package decode: what stands last: registers, places, made wide. | The landed package decode: what RM tells. -/
import Derived.Test.YtblmagcekfbgdaaGreatDoorR3
import Derived.RegionTactic
import Derived.BigQuiet
import Derived.Deep.QuietTactic
import Derived.Laws.BitsAllLaws
import Derived.Deep.RegionWith
import Derived.StillTail
import Derived.StillTailTactics
namespace Go.Proofs.YtblmagcekfbgdaaGreatDoor
open Go Go.RowKit
namespace Is
open Nt
set_option linter.unusedVariables false
set_option linter.unusedSimpArgs false
/-- of what was there nothing has turned but those blocks -/
structure Mu (S : List Nat) (w w' : World) : Prop where
  os : w'.os = w.os
  tape : w'.tape = w.tape
  output : w'.output = w.output
  size : w.heap.size ≤ w'.heap.size
  block : ∀ k, k < w.heap.size → k ∉ S → w'.heap[k]? = w.heap[k]?
theorem Mu.refl (S : List Nat) (w : World) : Mu S w w := ⟨rfl, rfl, rfl, Nat.le_refl _, fun _ _ _ => rfl⟩
theorem Mu.trans {S T : List Nat} {a b c : World} (h : Mu S a b) (k : Mu T b c) (hT : ∀ j, j ∈ T → j < a.heap.size → j ∈ S) : Mu S a c :=
  ⟨k.os.trans h.os, k.tape.trans h.tape, k.output.trans h.output, Nat.le_trans h.size k.size, fun j hj hn => (k.block j (Nat.lt_of_lt_of_le hj h.size) (fun hm => hn (hT j hm hj))).trans (h.block j hj hn)⟩
theorem Mu.alloc {S : List Nat} {a b : World} (h : Mu S a b) (o : Obj) : Mu S a (b.alloc o) :=
  h.trans (T := []) ⟨rfl, rfl, rfl, by simp, fun k hk _ => Below.heap_alloc _ _ _ hk⟩ (fun j hj => by cases hj)
theorem Mu.set_ {S : List Nat} {a b : World} (h : Mu S a b) (p : Addr) (hp : p.block < a.heap.size → p.block ∈ S) (u : Value) : Mu S a (b.setCell p u) :=
  h.trans (T := [p.block]) ⟨rfl, rfl, rfl, by simp [World.setCell], fun k hk hn => Below.heap_setCell _ _ _ _ (fun e => hn (by simp [e]))⟩ (fun j hj hl => by
    simp only [List.mem_cons, List.not_mem_nil, or_false] at hj
    subst hj
    exact hp hl)
theorem Mu.drew {S : List Nat} {a b : World} (h : Mu S a b) : Mu S a b.drew := ⟨h.os, h.tape, h.output, h.size, h.block⟩
theorem Mu.drewN {S : List Nat} {a b : World} (h : Mu S a b) (n : Nat) : Mu S a (b.drewN n) := ⟨h.os, h.tape, h.output, h.size, h.block⟩
theorem Mu.bk {S : List Nat} {a b : World} {g : Nat} {t : TypeId} {cs : Array Value} (h : Mu S a b) (hb : Bk a g t cs) (hn : g ∉ S) : Bk b g t cs := (h.block g hb.lt hn).trans hb
theorem Mu.below {S : List Nat} {a b : World} {B : Nat} (h : Mu S a b) (hB : B ≤ a.heap.size) (hS : ∀ j, j ∈ S → B ≤ j) : Below B a b :=
  ⟨h.os, h.tape, h.output, h.size, fun k hk => h.block k (Nat.lt_of_lt_of_le hk hB) (fun hm => by have := hS k hm; omega)⟩
theorem Mu.of_below {a b : World} (h : Below a.heap.size a b) : Mu [] a b := ⟨h.os, h.tape, h.output, h.size, fun k hk _ => h.block k hk⟩
theorem Mu.wide {S T : List Nat} {a b : World} (h : Mu S a b) (hS : ∀ j, j ∈ S → j ∈ T) : Mu T a b := ⟨h.os, h.tape, h.output, h.size, fun k hk hn => h.block k hk (fun hm => hn (hS k hm))⟩
/-- a cursor -/
abbrev Cu (w : World) (C : Nat) (code : ByteArray) (k : Nat) : Prop := Bk w C 40 #[.string code, .int .i64 (k : Int)]
theorem bA_lt {s : ByteArray} {p : Nat} (h : p < s.size) : bA s p = ((s.data.toList[p]'(by rw [size_data]; exact h)).toNat : Int) := bA_get (List.getElem?_eq_getElem _)
theorem bA_ge {s : ByteArray} {p : Nat} (h : s.size ≤ p) : bA s p = 0 := by
  unfold bA
  rw [List.getElem?_eq_none (by rw [size_data]; exact h)]
  rfl
theorem bA_at {s : ByteArray} {p : Nat} (h : p < s.size) : ((s[p]'h).toNat : Int) = bA s p := by
  rw [bA_lt h]
  simp only [Array.getElem_toList]
  rfl
set_option maxRecDepth 100000 in
set_option maxHeartbeats 2000000 in
theorem byte_c (C g o k : Nat) (code : ByteArray) (t : TypeId) (cs : Array Value) (w : World) (hC : Cu w C code k) (hg : Bk w g t cs) (ho : o < cs.size) (hne : C ≠ g) (hk : k ≤ 1000000) :
    Calls Tryz.prog 21 #[.pointer (some ⟨C, 0, none⟩), .pointer (some ⟨g, o, none⟩)] w fun e w' =>
      e = .returned (.pointer (some ⟨C, 0, none⟩)) ∧ Cu w' C code (k + 1) ∧ Bk w' g t (cs.setIfInBounds o (.int .u8 (bA code k))) ∧ Mu [C, g] w w' := by
  obtain ⟨x0, hx0⟩ : ∃ x, cs[o]? = some x := ⟨_, Array.getElem?_eq_getElem ho⟩
  have hc0 := (hg.cell o).trans hx0
  have hf0 := hg.frozen o
  have HC := Lib.hid hC
  have HG := Lib.hid hg
  have HO := Lib.hid ho
  have HNE := Lib.hid hne
  clear hC hg hx0 ho hne
  go_enter Tryz.func21, Tryz.ntmps21
  go_wp2_with fail
  generalize hW : World.setCell _ _ _ = W1
  have HC1 : Hid (Cu W1 C code k) := Lib.hid (by rw [← hW]; exact HC.out.far (by exact HNE.out) _)
  have HG1 : Hid (Bk W1 g t (cs.setIfInBounds o (.int .u8 0))) := Lib.hid (by rw [← hW]; exact HG.out.set_ o _)
  have HM1 : Hid (Mu [C, g] w W1) := Lib.hid (by rw [← hW]; exact (Mu.refl _ w).set_ _ (fun _ => by simp) _)
  clear hW hc0 hf0 HC HG
  rcases Nat.lt_or_ge k code.size with hlt | hge
  · have e1 : (k : Int) < (code.size : Int) := by omega
    have e0 : (0 : Int) ≤ (k : Int) := by omega
    have c0 : W1.cell? ⟨C, 0, none⟩ = some (.string code) := HC1.out.cell 0
    have c1 : W1.cell? ⟨C, 1, none⟩ = some (.int .i64 (k : Int)) := HC1.out.cell 1
    have f1 : W1.frozen? ⟨C, 1, none⟩ = false := HC1.out.frozen 1
    have hgx : W1.cell? ⟨g, o, none⟩ = some (.int .u8 0) := (HG1.out.cell o).trans (by simp [HO.out])
    have hgf : W1.frozen? ⟨g, o, none⟩ = false := HG1.out.frozen o
    have HV := Lib.hid (bA_at hlt)
    go_quiet (fail)
    go_wp2_with fail
    go_region
    simp only [HV.out]
    generalize hW : World.setCell _ _ _ = W2
    have HC2 : Hid (Cu W2 C code k) := Lib.hid (by rw [← hW]; exact Bk.far (HC1.out.drewN _) (by exact HNE.out) _)
    have HG2 : Hid (Bk W2 g t (cs.setIfInBounds o (.int .u8 (bA code k)))) := Lib.hid (by
      rw [← hW]
      have h := Bk.set_ (HG1.out.drewN (nq + 1)) o (.int .u8 (bA code k))
      simpa using h)
    have HM2 : Hid (Mu [C, g] w W2) := Lib.hid (by rw [← hW]; exact (HM1.out.drewN _).set_ _ (fun _ => by simp) _)
    clear hW c0 c1 f1 hgx hgf
    have c1 : W2.cell? ⟨C, 1, none⟩ = some (.int .i64 (k : Int)) := HC2.out.cell 1
    have f1 : W2.frozen? ⟨C, 1, none⟩ = false := HC2.out.frozen 1
    go_wp2_with fail
    go_ret
    exact ⟨rfl, HC2.out.set_ 1 _, HG2.out.far (by exact fun e => HNE.out e.symm) _, HM2.out.set_ _ (fun _ => by simp) _⟩
  · have e1 : (code.size : Int) ≤ (k : Int) := by omega
    have c0 : W1.cell? ⟨C, 0, none⟩ = some (.string code) := HC1.out.cell 0
    have c1 : W1.cell? ⟨C, 1, none⟩ = some (.int .i64 (k : Int)) := HC1.out.cell 1
    have f1 : W1.frozen? ⟨C, 1, none⟩ = false := HC1.out.frozen 1
    go_quiet (fail)
    go_wp2_with fail
    go_ret
    rw [bA_ge hge]
    exact ⟨rfl, Bk.set_ (HC1.out.drewN _) 1 _, Bk.far (HG1.out.drewN _) (by exact fun e => HNE.out e.symm) _, (HM1.out.drewN _).set_ _ (fun _ => by simp) _⟩
end Is
end Go.Proofs.YtblmagcekfbgdaaGreatDoor
namespace Go.Proofs.YtblmagcekfbgdaaGreatDoor
open Go Go.RowKit
namespace Is
open Nt
set_option linter.unusedVariables false
set_option linter.unusedSimpArgs false
set_option maxRecDepth 100000 in
set_option maxHeartbeats 2000000 in
theorem skip_c (C k n : Nat) (code : ByteArray) (w : World) (hC : Cu w C code k) (hk : k ≤ 1000000) (hn : n ≤ 1000) :
    Calls Tryz.prog 43 #[.pointer (some ⟨C, 0, none⟩), .int .i64 (n : Int)] w fun e w' =>
      e = .returned (.pointer (some ⟨C, 0, none⟩)) ∧ Cu w' C code (k + n) ∧ Mu [C] w w' := by
  have HC := Lib.hid hC
  have c1 : w.cell? ⟨C, 1, none⟩ = some (.int .i64 (k : Int)) := hC.cell 1
  have f1 : w.frozen? ⟨C, 1, none⟩ = false := hC.frozen 1
  clear hC
  go_enter Tryz.func43, Tryz.ntmps43
  go_wp2_with fail
  go_ret
  refine ⟨rfl, ?_, (Mu.refl _ w).set_ _ (fun _ => by simp) _⟩
  have h := HC.out.set_ 1 (.int .i64 ((k : Int) + (n : Int)))
  exact h
set_option maxRecDepth 100000 in
set_option maxHeartbeats 2000000 in
theorem rexm_c (C g k : Nat) (code : ByteArray) (rx m l : Value) (w : World) (hC : Cu w C code k) (hg : Bk w g 76 #[rx, m, l]) (hne : C ≠ g) (hk : k ≤ 1000000) :
    Calls Tryz.prog 42 #[.pointer (some ⟨C, 0, none⟩), .pointer (some ⟨g, 0, none⟩)] w fun e w' =>
      e = .returned (.pointer (some ⟨C, 0, none⟩)) ∧ Cu w' C code (k + 1) ∧ Bk w' g 76 #[.int .u8 (bA code k), m, l] ∧ Mu [C, g] w w' := by
  have HB := Lib.hid (byte_c C g 0 k code 76 #[rx, m, l] w hC hg (by simp) hne hk)
  clear hC hg hne
  go_enter Tryz.func42, Tryz.ntmps42
  go_wp2_with fail
  go_at_call 21
  refine HB.out.mono ?_
  rintro e w' ⟨rfl, h1, h2, h3⟩
  have H1 := Lib.hid h1
  have H2 := Lib.hid h2
  have H3 := Lib.hid h3
  clear h1 h2 h3
  go_wp2_with fail
  go_ret
  exact ⟨rfl, H1.out, H2.out, H3.out⟩
theorem u8a {a b : Int} (h1 : 0 ≤ a) (h2 : a ≤ 255) (h3 : 0 ≤ b) (h4 : b ≤ 255) : bits .and .u8 a b = ((a.toNat &&& b.toNat : Nat) : Int) := u8_and a b h1 (by omega) h3 (by omega)
theorem and1 {a : Int} (h1 : 0 ≤ a) (h2 : a ≤ 255) : bits .and .u8 a 1 = a % 2 := by rw [u8a h1 h2 (by decide) (by decide), show (1 : Int).toNat = 1 from rfl, nat_mask1]; omega
theorem and7 {a : Int} (h1 : 0 ≤ a) (h2 : a ≤ 255) : bits .and .u8 a 7 = a % 8 := by rw [u8a h1 h2 (by decide) (by decide), show (7 : Int).toNat = 7 from rfl, nat_mask3]; omega
theorem and15 {a : Int} (h1 : 0 ≤ a) (h2 : a ≤ 255) : bits .and .u8 a 15 = a % 16 := by rw [u8a h1 h2 (by decide) (by decide), show (15 : Int).toNat = 15 from rfl, nat_mask4]; omega
theorem and8 {a : Int} (h1 : 0 ≤ a) (h2 : a ≤ 255) : bits .and .u8 a 8 = a / 8 % 2 * 8 := by
  have h := nat_bit 3 a.toNat
  rw [u8a h1 h2 (by decide) (by decide), show (8 : Int).toNat = 2 ^ 3 from rfl, h]; omega
theorem and_hi : ∀ n : Nat, n < 256 → (n &&& 248 = n / 8 * 8) ∧ (n &&& 240 = n / 16 * 16) := by decide +kernel
theorem and248 {a : Int} (h1 : 0 ≤ a) (h2 : a ≤ 255) : bits .and .u8 a 248 = a / 8 * 8 := by
  rw [u8a h1 h2 (by decide) (by decide), show (248 : Int).toNat = 248 from rfl, (and_hi a.toNat (by omega)).1]; omega
theorem and240 {a : Int} (h1 : 0 ≤ a) (h2 : a ≤ 255) : bits .and .u8 a 240 = a / 16 * 16 := by
  rw [u8a h1 h2 (by decide) (by decide), show (240 : Int).toNat = 240 from rfl, (and_hi a.toNat (by omega)).2]; omega
theorem or_8 {a c : Int} (h1 : 0 ≤ a) (h2 : a ≤ 7) (hc : c = 0 ∨ c = 8) : bits .or .i64 a c = a + c := by
  rcases (show a = 0 ∨ a = 1 ∨ a = 2 ∨ a = 3 ∨ a = 4 ∨ a = 5 ∨ a = 6 ∨ a = 7 by omega) with rfl | rfl | rfl | rfl | rfl | rfl | rfl | rfl <;> rcases hc with rfl | rfl <;> decide
theorem rxM_c (r : Int) : rxM r = 0 ∨ rxM r = 8 := by unfold rxM; omega
theorem rxX_c (r : Int) : rxX r = 0 ∨ rxX r = 8 := by unfold rxX; omega
theorem rxL_c (r : Int) : rxL r = 0 ∨ rxL r = 8 := by unfold rxL; omega
theorem w64i {z : Int} (h : -9223372036854775808 ≤ z) (h' : z ≤ 9223372036854775807) : wrap64 z = z := by unfold wrap64; omega
set_option maxRecDepth 100000 in
set_option maxHeartbeats 2000000 in
theorem mid_c (r : Int) (h0 : 0 ≤ r) (h1 : r ≤ 255) (w : World) : Calls Tryz.prog 80 #[.int .u8 r] w fun e w' => e = .returned (.int .i64 (rxM r)) ∧ w' = w := by
  go_enter Tryz.func80, Tryz.ntmps80
  go_wp2_with fail
  go_ret
  refine ⟨?_, rfl⟩
  show Ending.returned (Value.int IntKind.i64 (wrap64 (wrap64 (bits BinOp.and IntKind.u8 (r / 4) 1) * 8))) = _
  rw [and1 (by omega) (by omega), w64i (z := r / 4 % 2) (by omega) (by omega), w64i (by omega) (by omega)]
  rfl
set_option maxRecDepth 100000 in
set_option maxHeartbeats 2000000 in
theorem idx_c (r : Int) (h0 : 0 ≤ r) (h1 : r ≤ 255) (w : World) : Calls Tryz.prog 123 #[.int .u8 r] w fun e w' => e = .returned (.int .i64 (rxX r)) ∧ w' = w := by
  go_enter Tryz.func123, Tryz.ntmps123
  go_wp2_with fail
  go_ret
  refine ⟨?_, rfl⟩
  show Ending.returned (Value.int IntKind.i64 (wrap64 (wrap64 (bits BinOp.and IntKind.u8 (r / 2) 1) * 8))) = _
  rw [and1 (by omega) (by omega), w64i (z := r / 2 % 2) (by omega) (by omega), w64i (by omega) (by omega)]
  rfl
set_option maxRecDepth 100000 in
set_option maxHeartbeats 2000000 in
theorem lst_c (r : Int) (h0 : 0 ≤ r) (h1 : r ≤ 255) (w : World) : Calls Tryz.prog 38 #[.int .u8 r] w fun e w' => e = .returned (.int .i64 (rxL r)) ∧ w' = w := by
  go_enter Tryz.func38, Tryz.ntmps38
  go_wp2_with fail
  go_ret
  refine ⟨?_, rfl⟩
  show Ending.returned (Value.int IntKind.i64 (wrap64 (wrap64 (bits BinOp.and IntKind.u8 r 1) * 8))) = _
  rw [and1 (by omega) (by omega), w64i (z := r % 2) (by omega) (by omega), w64i (by omega) (by omega)]
  rfl
set_option maxRecDepth 100000 in
set_option maxHeartbeats 2000000 in
theorem sod_c (b : Int) (h0 : 0 ≤ b) (h1 : b ≤ 255) (w : World) : Calls Tryz.prog 96 #[.int .u8 (b / 64)] w fun e w' => e = .returned (.int .i64 (dspN b : Int)) ∧ w' = w := by
  by_cases c : b / 64 = 2
  · have e : (dspN b : Int) = 4 := by unfold dspN; rw [if_pos c]; rfl
    rw [c, e]
    go_enter Tryz.func96, Tryz.ntmps96
    go_wp2_with fail
    go_ret
    exact ⟨rfl, rfl⟩
  · have e : (dspN b : Int) = b / 64 := by unfold dspN; rw [if_neg c]; omega
    rw [e]
    have c1 : 0 ≤ b / 64 := by omega
    have c2 : b / 64 ≤ 3 := by omega
    have c3 : (b / 64 == 2) = false := by rw [beq_eq_false_iff_ne]; exact c
    clear e
    generalize b / 64 = m at *
    clear h0 h1
    go_enter Tryz.func96, Tryz.ntmps96
    go_wp2_with fail
    go_ret
    exact ⟨rfl, rfl⟩
theorem ofInt_wrap (c : Int) : BitVec.ofInt 64 (wrap64 c) = BitVec.ofInt 64 c := by
  apply BitVec.eq_of_toNat_eq
  rw [BitVec.toNat_ofInt, BitVec.toNat_ofInt]
  congr 1
  unfold wrap64
  omega
theorem or_i64 (m n i : Nat) (hm : m < 2 ^ i) (hn : n % 2 ^ i = 0) (hn2 : n < 18446744073709551616) (hm2 : m < 18446744073709551616) : bits .or .i64 (m : Int) (wrap64 (n : Int)) = wrap64 ((m : Int) + (n : Int)) := by
  show IntKind.i64.wrap ((BitVec.ofInt 64 (m : Int) ||| BitVec.ofInt 64 (wrap64 (n : Int))).toNat : Int) = _
  rw [ofInt_wrap, BitVec.toNat_or, ofInt_u64 m hm2, ofInt_u64 n hn2, Nat.or_comm, nat_join i n m hn hm]
  show IntKind.i64.wrap _ = _
  have e : ∀ z, IntKind.i64.wrap z = wrap64 z := fun z => by unfold wrap64; simp [IntKind.wrap, IntKind.bits, IntKind.signed]; split <;> omega
  rw [e]
  congr 1
  push_cast
  omega
theorem num_shift {B : Nat → Int} (h : BB B) (k n : Nat) (hn : n = 0 ∨ n = 1 ∨ n = 4 ∨ n = 8) : wrap64 (wrap64 (lowB B k n) * 2 ^ (64 - 8 * n)) / 2 ^ (64 - 8 * n) = numB B k n := by
  have hl := low_b h k n
  unfold numB sgnB
  generalize lowB B k n = z at *
  rcases hn with rfl | rfl | rfl | rfl
  · have e : (256 : Int) ^ 0 = 1 := rfl
    rw [e] at hl ⊢
    obtain rfl : z = 0 := by omega
    rw [w64i (z := 0) (by decide) (by decide), Int.zero_mul, w64i (z := 0) (by decide) (by decide), if_pos (by decide), Int.zero_ediv]
  · have e1 : (2 : Int) ^ (64 - 8 * 1) = 72057594037927936 := by decide
    rw [p1] at hl ⊢
    rw [e1]
    unfold wrap64
    split <;> omega
  · have e1 : (2 : Int) ^ (64 - 8 * 4) = 4294967296 := by decide
    rw [p4] at hl ⊢
    rw [e1]
    unfold wrap64
    split <;> omega
  · have e1 : (2 : Int) ^ (64 - 8 * 8) = 1 := by decide
    rw [p8] at hl ⊢
    rw [e1]
    unfold wrap64
    split <;> omega
theorem pow256 (j : Nat) : (2 : Nat) ^ (8 * j) = 256 ^ j := by rw [Nat.pow_mul]
set_option maxRecDepth 100000 in
theorem pow256i (j : Nat) : (2 : Int) ^ (8 * j) = 256 ^ j := by
  induction j with
  | zero => rfl
  | succ j ih => rw [Nat.mul_succ, Int.pow_add, ih, Int.pow_succ]; rfl
set_option maxRecDepth 100000 in
theorem step_low {B : Nat → Int} (h : BB B) (k j : Nat) (hj : j ≤ 7) : bits .or .i64 (wrap64 (lowB B k j)) (wrap64 (B (k + j) * 2 ^ (8 * j))) = wrap64 (lowB B k (j + 1)) := by
  have hl := low_b h k j
  have hb := h (k + j)
  have h7 : (256 : Nat) ^ j ≤ 256 ^ 7 := Nat.pow_le_pow_right (by decide) hj
  have h7' : (256 : Nat) ^ 7 = 72057594037927936 := by decide
  have hc : ((256 ^ j : Nat) : Int) = (256 : Int) ^ j := Int.natCast_pow 256 j
  obtain ⟨m, hm⟩ := Int.eq_ofNat_of_zero_le hl.1
  obtain ⟨b, hbb⟩ := Int.eq_ofNat_of_zero_le hb.1
  have hm1 : m < 256 ^ j := by rw [← hc, hm] at hl; omega
  have hb1 : b ≤ 255 := by omega
  have hbp : b * 256 ^ j ≤ 255 * 256 ^ j := Nat.mul_le_mul_right _ hb1
  have e1 : wrap64 (lowB B k j) = (m : Int) := by rw [hm]; exact w64i (by omega) (by omega)
  have e2 : B (k + j) * 2 ^ (8 * j) = ((b * 256 ^ j : Nat) : Int) := by rw [pow256i, hbb, ← hc, ← Int.natCast_mul]
  have e3 : lowB B k (j + 1) = (m : Int) + ((b * 256 ^ j : Nat) : Int) := by
    show lowB B k j + B (k + j) * 256 ^ j = _
    rw [hm, hbb, ← hc, ← Int.natCast_mul]
  rw [e1, e2, e3]
  exact or_i64 m (b * 256 ^ j) (8 * j) (by rw [pow256]; exact hm1) (by rw [pow256]; exact Nat.mul_mod_left _ _) (by omega) (by omega)
set_option maxRecDepth 100000 in
set_option maxHeartbeats 4000000 in
theorem number_c (C g o k n : Nat) (code : ByteArray) (t : TypeId) (cs : Array Value) (w : World) (hC : Cu w C code k) (hg : Bk w g t cs) (ho : o < cs.size) (hne : C ≠ g) (hk : k ≤ 900000) (hn : n = 0 ∨ n = 1 ∨ n = 4 ∨ n = 8) :
    Calls Tryz.prog 46 #[.pointer (some ⟨C, 0, none⟩), .pointer (some ⟨g, o, none⟩), .int .i64 (n : Int)] w fun e w' =>
      e = .returned (.pointer (some ⟨C, 0, none⟩)) ∧ Cu w' C code (k + n) ∧ Bk w' g t (cs.setIfInBounds o (.int .i64 (numB (bA code) k n))) ∧ Mu [C, g] w w' := by
  obtain ⟨x0, hx0⟩ : ∃ x, cs[o]? = some x := ⟨_, Array.getElem?_eq_getElem ho⟩
  have hc0 : (w.alloc (.cells #[.int .u8 0] 5)).cell? ⟨g, o, none⟩ = some x0 := ((hg.alloc _).cell o).trans hx0
  have hf0 : (w.alloc (.cells #[.int .u8 0] 5)).frozen? ⟨g, o, none⟩ = false := (hg.alloc _).frozen o
  have HC := Lib.hid hC
  have HG := Lib.hid hg
  have HO := Lib.hid ho
  have HNE := Lib.hid hne
  have HN := Lib.hid hn
  have hn8 : (n : Int) ≤ 8 := by omega
  clear hC hg hx0 ho hne hn
  go_enter Tryz.func46, Tryz.ntmps46
  go_wp2_with fail
  generalize hW : World.setCell _ _ _ = W1
  have HC1 : Hid (Cu W1 C code k) := Lib.hid (by rw [← hW]; exact Bk.far (HC.out.alloc _) (by exact HNE.out) _)
  have HG1 : Hid (Bk W1 g t (cs.setIfInBounds o (.int .i64 0))) := Lib.hid (by rw [← hW]; exact (HG.out.alloc _).set_ o _)
  have HL1 : Hid (Bk W1 w.heap.size 5 #[.int .u8 0]) := Lib.hid (by rw [← hW]; exact Bk.far (Bk.new w _ _) (by have := HG.out.lt; show w.heap.size ≠ g; omega) _)
  have HM1 : Hid (Mu [C, g] w W1) := Lib.hid (by rw [← hW]; exact ((Mu.refl _ w).alloc _).set_ _ (fun _ => by simp) _)
  clear hW hc0 hf0
  go_loopw [8, 13] (fun v i W => ∃ (j : Nat) (u : Value), j ≤ n ∧ i = .int .i64 (j : Int) ∧ Hid (Cu W C code (k + j)) ∧ Hid (Bk W g t (cs.setIfInBounds o (.int .i64 (wrap64 (lowB (bA code) k j))))) ∧ Hid (Bk W w.heap.size 5 #[u]) ∧ Hid (Mu [C, g] w W)) (fun _ i _ => n - (intOf i).toNat)
  case atStart => exact ⟨0, _, by omega, rfl, HC1, by rw [show wrap64 (lowB (bA code) k 0) = 0 from by unfold lowB; exact w64i (by decide) (by decide)]; exact HG1, HL1, HM1⟩
  case round =>
    obtain ⟨j, u, hj, rfl, H1, H2, H3, H4⟩ := hrel
    rcases Nat.lt_or_ge j n with hjn | hjn
    · have e1 : (j : Int) < (n : Int) := by omega
      have e0 : (0 : Int) ≤ (j : Int) := by omega
      have e8 : (j : Int) ≤ 7 := by omega
      have HB := Lib.hid (byte_c C w.heap.size 0 (k + j) code 5 #[u] wr H1.out H3.out (by simp) (by have := H1.out; have := HC.out.lt; omega) (by omega))
      go_wp2_with fail
      go_at_call 21
      refine HB.out.mono ?_
      rintro e w2 ⟨rfl, h1, h2, h3⟩
      have hbb := bA_bb code (k + j)
      have b0 := hbb.1
      have b1 := hbb.2
      have HCw := Lib.hid h1
      have HLw : Hid (Bk w2 w.heap.size 5 #[.int .u8 (bA code (k + j))]) := Lib.hid h2
      have HMw := Lib.hid h3
      have HGw := Lib.hid (h3.bk H2.out (by have := HNE.out; have := HG.out.lt; simp; omega))
      clear h1 h2 h3 hbb HB
      have hgx : w2.cell? ⟨g, o, none⟩ = some (.int .i64 (wrap64 (lowB (bA code) k j))) := (HGw.out.cell o).trans (by simp [HO.out])
      have hgf : w2.frozen? ⟨g, o, none⟩ = false := HGw.out.frozen o
      have hl : w2.cell? ⟨w.heap.size, 0, none⟩ = some (.int .u8 (bA code (k + j))) := HLw.out.cell 0
      have HST := Lib.hid (step_low (bA_bb code) k j (by omega))
      generalize bA code (k + j) = b at *
      generalize wrap64 (lowB (bA code) k j) = lw at *
      go_wp2_with fail
      go_region
      rw [HST.out]
      generalize hW : World.drew (World.setCell _ _ _) = W3
      have HC3 : Hid (Cu W3 C code (k + (j + 1))) := Lib.hid (by rw [← hW]; exact (HCw.out.far (by exact HNE.out) _).drew)
      have HG3 : Hid (Bk W3 g t (cs.setIfInBounds o (.int .i64 (wrap64 (lowB (bA code) k (j + 1)))))) := Lib.hid (by
        rw [← hW]
        have h := (HGw.out.set_ o (.int .i64 (wrap64 (lowB (bA code) k (j + 1))))).drew
        simpa using h)
      have HL3 : Hid (Bk W3 w.heap.size 5 #[.int .u8 b]) := Lib.hid (by rw [← hW]; exact (HLw.out.far (by have := HG.out.lt; show w.heap.size ≠ g; omega) _).drew)
      have HM3 : Hid (Mu [C, g] w W3) := Lib.hid (by
        rw [← hW]
        exact ((H4.out.trans HMw.out (fun x hx hl => by simp at hx ⊢; omega)).set_ _ (fun _ => by simp) _).drew)
      clear hW hgx hgf hl
      go_wp2_with fail
      go_roundw
      case rel => exact ⟨j + 1, _, by omega, by (try simp (disch := omega) only [IntWalk.wrap64_in]); go_num, HC3, HG3, HL3, HM3⟩
      case measure => ((try simp (disch := omega) only [IntWalk.wrap64_in] at *); simp [intOf] <;> omega)
    · obtain rfl : j = n := by omega
      have hgx : wr.cell? ⟨g, o, none⟩ = some (.int .i64 (wrap64 (lowB (bA code) k j))) := (H2.out.cell o).trans (by simp [HO.out])
      have hgf : wr.frozen? ⟨g, o, none⟩ = false := H2.out.frozen o
      go_wp2_with fail
      rw [num_shift (bA_bb code) k j HN.out]
      go_ret
      refine ⟨rfl, H1.out.far (by exact HNE.out) _, ?_, H4.out.set_ _ (fun _ => by simp) _⟩
      have h := H2.out.set_ o (.int .i64 (numB (bA code) k j))
      simpa using h
end Is
end Go.Proofs.YtblmagcekfbgdaaGreatDoor
namespace Go.Proofs.YtblmagcekfbgdaaGreatDoor
open Go Go.RowKit
namespace Is
open Nt
set_option linter.unusedVariables false
set_option linter.unusedSimpArgs false
set_option maxRecDepth 100000 in
set_option maxHeartbeats 2000000 in
theorem regw_c (x r : Int) (x0 : 0 ≤ x) (x1 : x ≤ 7) (h0 : 0 ≤ r) (h1 : r ≤ 255) (w : World) : Calls Tryz.prog 124 #[.int .i64 x, .int .u8 r] w fun e w' => e = .returned (.iface 103 (.int .i64 (x + rxL r))) ∧ w' = w := by
  have HL := Lib.hid (lst_c r h0 h1 w)
  have HV := Lib.hid (or_8 x0 x1 (rxL_c r))
  generalize rxL r = z at *
  go_enter Tryz.func124, Tryz.ntmps124
  go_wp2_with fail
  go_at_call 38
  refine HL.out.mono ?_
  rintro e w' ⟨rfl, rfl⟩
  go_wp2_with fail
  go_ret
  refine ⟨?_, rfl⟩
  rw [← HV.out]
  rfl
set_option maxRecDepth 100000 in
set_option maxHeartbeats 4000000 in
theorem plw_c (b x sc di r : Int) (b0 : 0 ≤ b) (b1 : b ≤ 7) (x0 : 0 ≤ x) (x1 : x ≤ 7) (h0 : 0 ≤ r) (h1 : r ≤ 255) (w : World) : Calls Tryz.prog 125 #[.agg #[.int .i64 b, .int .i64 x, .int .i64 sc, .int .i64 di], .int .u8 r] w fun e w' =>
    e = .returned (.iface 106 (.agg #[.int .i64 (b + rxL r), .int .i64 (wdX x r), .int .i64 sc, .int .i64 di])) ∧ Mu [] w w' := by
  have HL := Lib.hid (fun W => lst_c r h0 h1 W)
  have HI := Lib.hid (fun W => idx_c r h0 h1 W)
  have HV := Lib.hid (or_8 b0 b1 (rxL_c r))
  have HU := Lib.hid (or_8 x0 x1 (rxX_c r))
  have HW : Hid (wdX x r = if x + rxX r = 4 then -1 else x + rxX r) := Lib.hid rfl
  generalize wdX x r = wx at *
  generalize rxL r = z at *
  generalize rxX r = y at *
  go_enter Tryz.func125, Tryz.ntmps125
  go_wp2_with fail
  generalize hW : w.alloc _ = W1
  have HM1 : Hid (Mu [] w W1) := Lib.hid (by rw [← hW]; exact (Mu.refl _ w).alloc _)
  have HP1 : Hid (Bk W1 w.heap.size 106 #[.int .i64 b, .int .i64 x, .int .i64 sc, .int .i64 di]) := Lib.hid (by rw [← hW]; exact Bk.new _ _ _)
  clear hW
  have c0 : W1.drew.cell? ⟨w.heap.size, 0, none⟩ = some (.int .i64 b) := HP1.out.cell 0
  have f0 : W1.drew.frozen? ⟨w.heap.size, 0, none⟩ = false := HP1.out.frozen 0
  go_region_with (go_at_call 38; refine (HL.out _).mono ?_; rintro e w' ⟨rfl, rfl⟩)
  all_goals
    rw [HV.out]
    generalize hW : World.drew (World.setCell _ _ _) = W2
    have HM2 : Hid (Mu [] w W2) := Lib.hid (by rw [← hW]; exact (HM1.out.set_ _ (fun h => by exact absurd h (Nat.lt_irrefl _)) _).drew)
    have HP2 : Hid (Bk W2 w.heap.size 106 #[.int .i64 (b + z), .int .i64 x, .int .i64 sc, .int .i64 di]) := Lib.hid (by rw [← hW]; exact (HP1.out.set_ 0 _).drew)
    clear hW c0 f0
    go_wp2_with fail
    have c1 : W2.drew.cell? ⟨w.heap.size, 1, none⟩ = some (.int .i64 x) := HP2.out.cell 1
    have f1 : W2.drew.frozen? ⟨w.heap.size, 1, none⟩ = false := HP2.out.frozen 1
    go_region_with (go_at_call 123; refine (HI.out _).mono ?_; rintro e w' ⟨rfl, rfl⟩)
    all_goals
      rw [HU.out]
      generalize hW : World.drew (World.setCell _ _ _) = W3
      have HM3 : Hid (Mu [] w W3) := Lib.hid (by rw [← hW]; exact (HM2.out.set_ _ (fun h => by exact absurd h (Nat.lt_irrefl _)) _).drew)
      have HP3 : Hid (Bk W3 w.heap.size 106 #[.int .i64 (b + z), .int .i64 (x + y), .int .i64 sc, .int .i64 di]) := Lib.hid (by rw [← hW]; exact (HP2.out.set_ 1 _).drew)
      clear hW c1 f1
      have d0 : W3.cell? ⟨w.heap.size, 0, none⟩ = some (.int .i64 (b + z)) := HP3.out.cell 0
      have d1 : W3.cell? ⟨w.heap.size, 1, none⟩ = some (.int .i64 (x + y)) := HP3.out.cell 1
      have d2 : W3.cell? ⟨w.heap.size, 2, none⟩ = some (.int .i64 sc) := HP3.out.cell 2
      have d3 : W3.cell? ⟨w.heap.size, 3, none⟩ = some (.int .i64 di) := HP3.out.cell 3
      have g1 : W3.frozen? ⟨w.heap.size, 1, none⟩ = false := HP3.out.frozen 1
      by_cases c : x + y = 4
      · have cb : (x + y == 4) = true := by rw [c]; rfl
        rw [if_pos c] at HW
        obtain rfl := HW.out
        go_wp2_with fail
        go_ret
        exact ⟨rfl, HM3.out.set_ _ (fun h => by exact absurd h (Nat.lt_irrefl _)) _⟩
      · have cb : (x + y == 4) = false := by rw [beq_eq_false_iff_ne]; exact c
        rw [if_neg c] at HW
        obtain rfl := HW.out
        go_wp2_with fail
        go_ret
        exact ⟨rfl, HM3.out⟩
set_option maxRecDepth 100000 in
set_option maxHeartbeats 4000000 in
theorem scale_c (C g k : Nat) (lo di : Value) (z : Int) (code : ByteArray) (w : World) (hlo : lo = .int .i64 z) (z0 : 0 ≤ z) (z1 : z ≤ 7) (hC : Cu w C code k) (hg : Bk w g 106 #[lo, .int .i64 4, .int .i64 1, di]) (hne : C ≠ g) (hk : k ≤ 900000) :
    Calls Tryz.prog 95 #[.pointer (some ⟨C, 0, none⟩), .pointer (some ⟨g, 0, none⟩)] w fun e w' =>
      e = .returned (.pointer (some ⟨C, 0, none⟩)) ∧ Cu w' C code (k + (if z = 4 then 1 else 0)) ∧
        Bk w' g 106 #[.int .i64 (if z = 4 then bA code k % 8 else z), .int .i64 (if z = 4 then bA code k / 8 % 8 else 4), .int .i64 (if z = 4 then 2 ^ (bA code k / 64).toNat else 1), di] ∧ Mu [C, g] w w' := by
  subst hlo
  have HC := Lib.hid hC
  have HG := Lib.hid hg
  have HNE := Lib.hid hne
  have c0 : w.cell? ⟨g, 0, none⟩ = some (.int .i64 z) := hg.cell 0
  clear hC hg hne
  by_cases c : z = 4
  · subst c
    simp only [if_true]
    go_enter Tryz.func95, Tryz.ntmps95
    go_wp2_with fail
    have HBy := Lib.hid (byte_c C w.heap.size 0 k code 5 #[.int .u8 0] (w.alloc (.cells #[.int .u8 0] 5)) (HC.out.alloc _) (Bk.new w _ _) (by simp) (by have := HC.out.lt; omega) (by omega))
    go_at_call 21
    refine HBy.out.mono ?_
    rintro e w2 ⟨rfl, h1, h2, h3⟩
    have hbb := bA_bb code k
    have b0 := hbb.1
    have b1 := hbb.2
    have HC2 := Lib.hid h1
    have HL2 : Hid (Bk w2 w.heap.size 5 #[.int .u8 (bA code k)]) := Lib.hid h2
    have HG2 := Lib.hid (h3.bk (HG.out.alloc _) (by have := HNE.out; have := HG.out.lt; simp; omega))
    have HM2 : Hid (Mu [C, g] w w2) := Lib.hid (((Mu.refl [C, g] w).alloc _).trans h3 (fun x hx hl => by simp at hx ⊢; omega))
    have HA := Lib.hid (and7 b0 b1)
    have HA2 := Lib.hid (and7 (a := bA code k / 8) (by omega) (by omega))
    have HP := Lib.hid (sc_pow (z := bA code k / 64) (by omega))
    clear h1 h2 h3 hbb HBy c0
    have l0 : w2.cell? ⟨w.heap.size, 0, none⟩ = some (.int .u8 (bA code k)) := HL2.out.cell 0
    have c0 : w2.cell? ⟨g, 0, none⟩ = some (.int .i64 4) := HG2.out.cell 0
    have c1 : w2.cell? ⟨g, 1, none⟩ = some (.int .i64 4) := HG2.out.cell 1
    have c2 : w2.cell? ⟨g, 2, none⟩ = some (.int .i64 1) := HG2.out.cell 2
    have f0 : w2.frozen? ⟨g, 0, none⟩ = false := HG2.out.frozen 0
    have f1 : w2.frozen? ⟨g, 1, none⟩ = false := HG2.out.frozen 1
    have f2 : w2.frozen? ⟨g, 2, none⟩ = false := HG2.out.frozen 2
    generalize hbq : bA code k = b at *
    have HBQ := Lib.hid hbq
    clear hbq HA HA2
    go_wp2_with fail
    go_ret
    rw [w64i (by have := HP.out.1; omega) (by have := HP.out.2; omega), HBQ.out]
    exact ⟨rfl, ((HC2.out.far (by exact HNE.out) _).far (by exact HNE.out) _).far (by exact HNE.out) _, ((HG2.out.set_ 0 _).set_ 1 _).set_ 2 _, ((HM2.out.set_ _ (fun _ => by simp) _).set_ _ (fun _ => by simp) _).set_ _ (fun _ => by simp) _⟩
  · have cb : (z != 4) = true := by rw [bne, beq_eq_false_iff_ne.2 c]; rfl
    have cc : ¬ (z = 4) := c
    simp only [if_neg c]
    go_enter Tryz.func95, Tryz.ntmps95
    go_wp2_with fail
    go_ret
    exact ⟨rfl, HC.out, HG.out, Mu.refl _ w⟩
end Is
end Go.Proofs.YtblmagcekfbgdaaGreatDoor
namespace Go.Proofs.YtblmagcekfbgdaaGreatDoor
open Go Go.RowKit
namespace Is
open Nt
set_option linter.unusedVariables false
set_option linter.unusedSimpArgs false
/-- what stands last, as it is first laid -/
def opV0 (B : Nat → Int) (k : Nat) : Value := if 192 ≤ B k then .iface 103 (.int .i64 (B k % 8)) else .iface 106 (.agg #[.int .i64 (plBase B k), .int .i64 (plIdx B k), .int .i64 (plSc B k), .int .i64 (plDi B k)])
/-- .. made wide -/
def opV (B : Nat → Int) (k : Nat) (r : Int) : Value := if 192 ≤ B k then .iface 103 (.int .i64 (lstR (B k) r)) else .iface 106 (.agg #[.int .i64 (plBase B k + rxL r), .int .i64 (wdX (plIdx B k) r), .int .i64 (plSc B k), .int .i64 (plDi B k)])
set_option maxRecDepth 100000 in
set_option maxHeartbeats 4000000 in
theorem operand_c (C g k : Nat) (rx m l : Value) (code : ByteArray) (w : World) (hC : Cu w C code (k + 1)) (hg : Bk w g 76 #[rx, m, l]) (hne : C ≠ g) (hk : k ≤ 800000) :
    Calls Tryz.prog 81 #[.pointer (some ⟨C, 0, none⟩), .int .u8 (bA code k), .pointer (some ⟨g, 2, none⟩)] w fun e w' =>
      e = .returned (.pointer (some ⟨C, 0, none⟩)) ∧ Cu w' C code (opEnd (bA code) k) ∧ Bk w' g 76 #[rx, m, opV0 (bA code) k] ∧ Mu [C, g] w w' := by
  have HC := Lib.hid hC
  have HG := Lib.hid hg
  have HNE := Lib.hid hne
  have hbb := bA_bb code k
  have b0 := hbb.1
  have b1 := hbb.2
  clear hC hg hne hbb
  by_cases c : 192 ≤ bA code k
  · have HE : Hid (opEnd (bA code) k = k + 1) := Lib.hid (by unfold opEnd; rw [if_pos c])
    have HV : Hid (opV0 (bA code) k = .iface 103 (.int .i64 (bA code k % 8))) := Lib.hid (by unfold opV0; rw [if_pos c])
    have c3 : bA code k / 64 = 3 := by omega
    have c0 : w.cell? ⟨g, 2, none⟩ = some l := HG.out.cell 2
    have f0 : w.frozen? ⟨g, 2, none⟩ = false := HG.out.frozen 2
    rw [HE.out, HV.out]
    generalize bA code k = b at *
    go_enter Tryz.func81, Tryz.ntmps81
    go_wp2_with fail
    go_ret
    exact ⟨rfl, HC.out.far (by exact HNE.out) _, HG.out.set_ 2 _, (Mu.refl _ w).set_ _ (fun _ => by simp) _⟩
  · have c3 : ¬ (bA code k / 64 = 3) := by omega
    have cb : (bA code k / 64 == 3) = false := by rw [beq_eq_false_iff_ne]; exact c3
    have HE : Hid (opEnd (bA code) k = k + 1 + (if bA code k % 8 = 4 then 1 else 0) + dspN (bA code k)) := Lib.hid (by unfold opEnd plEnd sibN; rw [if_neg c])
    have HV : Hid (opV0 (bA code) k = .iface 106 (.agg #[.int .i64 (if bA code k % 8 = 4 then bA code (k + 1) % 8 else bA code k % 8), .int .i64 (if bA code k % 8 = 4 then bA code (k + 1) / 8 % 8 else 4), .int .i64 (if bA code k % 8 = 4 then 2 ^ (bA code (k + 1) / 64).toNat else 1), .int .i64 (numB (bA code) (k + 1 + (if bA code k % 8 = 4 then 1 else 0)) (dspN (bA code k)))])) := Lib.hid (by unfold opV0; rw [if_neg c]; rfl)
    have HS := Lib.hid (fun W => sod_c (bA code k) b0 b1 W)
    have HD : Hid (dspN (bA code k) = 0 ∨ dspN (bA code k) = 1 ∨ dspN (bA code k) = 4 ∨ dspN (bA code k) = 8) := Lib.hid (by unfold dspN; split <;> omega)
    rw [HE.out, HV.out]
    have HSC := Lib.hid (scale_c C w.heap.size (k + 1) (.int .i64 (bA code k % 8)) (.int .i64 0) (bA code k % 8) code (w.alloc (.cells #[.int .i64 (bA code k % 8), .int .i64 4, .int .i64 1, .int .i64 0] 106)) rfl (by omega) (by omega) (HC.out.alloc _) (Bk.new w _ _) (by have := HC.out.lt; omega) (by omega))
    generalize (if bA code k % 8 = 4 then bA code (k + 1) % 8 else bA code k % 8) = pb at *
    generalize (if bA code k % 8 = 4 then bA code (k + 1) / 8 % 8 else 4) = px at *
    generalize (if bA code k % 8 = 4 then (2 : Int) ^ (bA code (k + 1) / 64).toNat else 1) = ps at *
    have hsb : (if bA code k % 8 = 4 then 1 else 0) ≤ 1 := by split <;> omega
    generalize (if bA code k % 8 = 4 then 1 else 0) = sn at *
    generalize dspN (bA code k) = dn at *
    generalize bA code k = b at *
    clear HE HV
    go_enter Tryz.func81, Tryz.ntmps81
    go_wp2_with fail
    go_at_call 95
    refine HSC.out.mono ?_
    rintro e w2 ⟨rfl, h1, h2, h3⟩
    have HC2 := Lib.hid h1
    have HP2 := Lib.hid h2
    have HG2 := Lib.hid (h3.bk (HG.out.alloc _) (by have := HNE.out; have := HG.out.lt; simp; omega))
    have HM2 : Hid (Mu [C, g] w w2) := Lib.hid (((Mu.refl [C, g] w).alloc _).trans h3 (fun x hx hl => by simp at hx ⊢; omega))
    clear h1 h2 h3 HSC
    go_wp2_with fail
    go_at_call 96
    refine (HS.out _).mono ?_
    rintro e w2' ⟨rfl, rfl⟩
    have HNU := Lib.hid (number_c C w.heap.size 3 (k + 1 + sn) dn code 106 #[.int .i64 pb, .int .i64 px, .int .i64 ps, .int .i64 0] w2' HC2.out HP2.out (by simp) (by have := HC.out.lt; omega) (by omega) HD.out)
    go_wp2_with fail
    go_at_call 46
    refine HNU.out.mono ?_
    rintro e w3 ⟨rfl, h1, h2, h3⟩
    have HC3 := Lib.hid h1
    have HP3 : Hid (Bk w3 w.heap.size 106 #[.int .i64 pb, .int .i64 px, .int .i64 ps, .int .i64 (numB (bA code) (k + 1 + sn) dn)]) := Lib.hid h2
    have HG3 := Lib.hid (h3.bk HG2.out (by have := HNE.out; have := HG.out.lt; simp; omega))
    have HM3 : Hid (Mu [C, g] w w3) := Lib.hid (HM2.out.trans h3 (fun x hx hl => by simp at hx ⊢; omega))
    clear h1 h2 h3 HNU
    have d0 : w3.cell? ⟨w.heap.size, 0, none⟩ = some (.int .i64 pb) := HP3.out.cell 0
    have d1 : w3.cell? ⟨w.heap.size, 1, none⟩ = some (.int .i64 px) := HP3.out.cell 1
    have d2 : w3.cell? ⟨w.heap.size, 2, none⟩ = some (.int .i64 ps) := HP3.out.cell 2
    have d3 : w3.cell? ⟨w.heap.size, 3, none⟩ = some (.int .i64 (numB (bA code) (k + 1 + sn) dn)) := HP3.out.cell 3
    have c0 : w3.cell? ⟨g, 2, none⟩ = some l := HG3.out.cell 2
    have f0 : w3.frozen? ⟨g, 2, none⟩ = false := HG3.out.frozen 2
    go_wp2_with fail
    go_ret
    exact ⟨rfl, HC3.out.far (by exact HNE.out) _, HG3.out.set_ 2 _, HM3.out.set_ _ (fun _ => by simp) _⟩
end Is
end Go.Proofs.YtblmagcekfbgdaaGreatDoor
