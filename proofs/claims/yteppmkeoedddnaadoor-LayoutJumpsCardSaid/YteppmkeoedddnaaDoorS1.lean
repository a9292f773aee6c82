/- The landed package decode: worlds in which some blocks have turned; a byte read. | The landed package decode: skip, rex, what a rex tells; numbers. | The landed package decode: what stands last: registers, places, made wide. | The landed package decode: what RM tells. -/
import Derived.Test.YteppmkeoedddnaaDoorR3
import Derived.RegionTactic
import Derived.BigQuiet
import Derived.Deep.QuietTactic
import Derived.Laws.BitsAllLaws
import Derived.Deep.RegionWith
import Derived.StillTail
import Derived.StillTailTactics
namespace Go.Proofs.YteppmkeoedddnaaDoor
open Go Go.RowKit
namespace Is
open Nt
set_option linter.unusedVariables false
set_option linter.unusedSimpArgs false
/-- of what was there nothing has turned but those blocks -/
structure Mu (S : List Nat) (w w' : World) : Prop where
  os : w'.os = w.os
  tape : w'.tape = w.tape
  output : w'.output = w.output
  size : w.heap.size ≤ w'.heap.size
  block : ∀ k, k < w.heap.size → k ∉ S → w'.heap[k]? = w.heap[k]?
theorem Mu.refl (S : List Nat) (w : World) : Mu S w w := ⟨rfl, rfl, rfl, Nat.le_refl _, fun _ _ _ => rfl⟩
theorem Mu.trans {S T : List Nat} {a b c : World} (h : Mu S a b) (k : Mu T b c) (hT : ∀ j, j ∈ T → j < a.heap.size → j ∈ S) : Mu S a c :=
  ⟨k.os.trans h.os, k.tape.trans h.tape, k.output.trans h.output, Nat.le_trans h.size k.size, fun j hj hn => (k.block j (Nat.lt_of_lt_of_le hj h.size) (fun hm => hn (hT j hm hj))).trans (h.block j hj hn)⟩
theorem Mu.alloc {S : List Nat} {a b : World} (h : Mu S a b) (o : Obj) : Mu S a (b.alloc o) :=
  h.trans (T := []) ⟨rfl, rfl, rfl, by simp, fun k hk _ => Below.heap_alloc _ _ _ hk⟩ (fun j hj => by cases hj)
theorem Mu.set_ {S : List Nat} {a b : World} (h : Mu S a b) (p : Addr) (hp : p.block < a.heap.size → p.block ∈ S) (u : Value) : Mu S a (b.setCell p u) :=
  h.trans (T := [p.block]) ⟨rfl, rfl, rfl, by simp [World.setCell], fun k hk hn => Below.heap_setCell _ _ _ _ (fun e => hn (by simp [e]))⟩ (fun j hj hl => by
    simp only [List.mem_cons, List.not_mem_nil, or_false] at hj
    subst hj
    exact hp hl)
theorem Mu.drew {S : List Nat} {a b : World} (h : Mu S a b) : Mu S a b.drew := ⟨h.os, h.tape, h.output, h.size, h.block⟩
theorem Mu.drewN {S : List Nat} {a b : World} (h : Mu S a b) (n : Nat) : Mu S a (b.drewN n) := ⟨h.os, h.tape, h.output, h.size, h.block⟩
theorem Mu.bk {S : List Nat} {a b : World} {g : Nat} {t : TypeId} {cs : Array Value} (h : Mu S a b) (hb : Bk a g t cs) (hn : g ∉ S) : Bk b g t cs := (h.block g hb.lt hn).trans hb
theorem Mu.below {S : List Nat} {a b : World} {B : Nat} (h : Mu S a b) (hB : B ≤ a.heap.size) (hS : ∀ j, j ∈ S → B ≤ j) : Below B a b :=
  ⟨h.os, h.tape, h.output, h.size, fun k hk => h.block k (Nat.lt_of_lt_of_le hk hB) (fun hm => by have := hS k hm; omega)⟩
theorem Mu.of_below {a b : World} (h : Below a.heap.size a b) : Mu [] a b := ⟨h.os, h.tape, h.output, h.size, fun k hk _ => h.block k hk⟩
theorem Mu.wide {S T : List Nat} {a b : World} (h : Mu S a b) (hS : ∀ j, j ∈ S → j ∈ T) : Mu T a b := ⟨h.os, h.tape, h.output, h.size, fun k hk hn => h.block k hk (fun hm => hn (hS k hm))⟩
theorem bA_lt {s : ByteArray} {p : Nat} (h : p < s.size) : bA s p = ((s.data.toList[p]'(by rw [size_data]; exact h)).toNat : Int) := bA_get (List.getElem?_eq_getElem _)
theorem bA_ge {s : ByteArray} {p : Nat} (h : s.size ≤ p) : bA s p = 0 := by
  unfold bA
  rw [List.getElem?_eq_none (by rw [size_data]; exact h)]
  rfl
theorem bA_at {s : ByteArray} {p : Nat} (h : p < s.size) : ((s[p]'h).toNat : Int) = bA s p := by
  rw [bA_lt h]
  simp only [Array.getElem_toList]
  rfl
end Is
end Go.Proofs.YteppmkeoedddnaaDoor
namespace Go.Proofs.YteppmkeoedddnaaDoor
open Go Go.RowKit
namespace Is
open Nt
set_option linter.unusedVariables false
set_option linter.unusedSimpArgs false
theorem u8a {a b : Int} (h1 : 0 ≤ a) (h2 : a ≤ 255) (h3 : 0 ≤ b) (h4 : b ≤ 255) : bits .and .u8 a b = ((a.toNat &&& b.toNat : Nat) : Int) := u8_and a b h1 (by omega) h3 (by omega)
theorem and1 {a : Int} (h1 : 0 ≤ a) (h2 : a ≤ 255) : bits .and .u8 a 1 = a % 2 := by rw [u8a h1 h2 (by decide) (by decide), show (1 : Int).toNat = 1 from rfl, nat_mask1]; omega
theorem and7 {a : Int} (h1 : 0 ≤ a) (h2 : a ≤ 255) : bits .and .u8 a 7 = a % 8 := by rw [u8a h1 h2 (by decide) (by decide), show (7 : Int).toNat = 7 from rfl, nat_mask3]; omega
theorem and15 {a : Int} (h1 : 0 ≤ a) (h2 : a ≤ 255) : bits .and .u8 a 15 = a % 16 := by rw [u8a h1 h2 (by decide) (by decide), show (15 : Int).toNat = 15 from rfl, nat_mask4]; omega
theorem and8 {a : Int} (h1 : 0 ≤ a) (h2 : a ≤ 255) : bits .and .u8 a 8 = a / 8 % 2 * 8 := by
  have h := nat_bit 3 a.toNat
  rw [u8a h1 h2 (by decide) (by decide), show (8 : Int).toNat = 2 ^ 3 from rfl, h]; omega
theorem and_hi : ∀ n : Nat, n < 256 → (n &&& 248 = n / 8 * 8) ∧ (n &&& 240 = n / 16 * 16) := by decide +kernel
theorem and248 {a : Int} (h1 : 0 ≤ a) (h2 : a ≤ 255) : bits .and .u8 a 248 = a / 8 * 8 := by
  rw [u8a h1 h2 (by decide) (by decide), show (248 : Int).toNat = 248 from rfl, (and_hi a.toNat (by omega)).1]; omega
theorem and240 {a : Int} (h1 : 0 ≤ a) (h2 : a ≤ 255) : bits .and .u8 a 240 = a / 16 * 16 := by
  rw [u8a h1 h2 (by decide) (by decide), show (240 : Int).toNat = 240 from rfl, (and_hi a.toNat (by omega)).2]; omega
theorem or_8 {a c : Int} (h1 : 0 ≤ a) (h2 : a ≤ 7) (hc : c = 0 ∨ c = 8) : bits .or .i64 a c = a + c := by
  rcases (show a = 0 ∨ a = 1 ∨ a = 2 ∨ a = 3 ∨ a = 4 ∨ a = 5 ∨ a = 6 ∨ a = 7 by omega) with rfl | rfl | rfl | rfl | rfl | rfl | rfl | rfl <;> rcases hc with rfl | rfl <;> decide
theorem rxM_c (r : Int) : rxM r = 0 ∨ rxM r = 8 := by unfold rxM; omega
theorem rxX_c (r : Int) : rxX r = 0 ∨ rxX r = 8 := by unfold rxX; omega
theorem rxL_c (r : Int) : rxL r = 0 ∨ rxL r = 8 := by unfold rxL; omega
theorem w64i {z : Int} (h : -9223372036854775808 ≤ z) (h' : z ≤ 9223372036854775807) : wrap64 z = z := by unfold wrap64; omega
theorem ofInt_wrap (c : Int) : BitVec.ofInt 64 (wrap64 c) = BitVec.ofInt 64 c := by
  apply BitVec.eq_of_toNat_eq
  rw [BitVec.toNat_ofInt, BitVec.toNat_ofInt]
  congr 1
  unfold wrap64
  omega
theorem or_i64 (m n i : Nat) (hm : m < 2 ^ i) (hn : n % 2 ^ i = 0) (hn2 : n < 18446744073709551616) (hm2 : m < 18446744073709551616) : bits .or .i64 (m : Int) (wrap64 (n : Int)) = wrap64 ((m : Int) + (n : Int)) := by
  show IntKind.i64.wrap ((BitVec.ofInt 64 (m : Int) ||| BitVec.ofInt 64 (wrap64 (n : Int))).toNat : Int) = _
  rw [ofInt_wrap, BitVec.toNat_or, ofInt_u64 m hm2, ofInt_u64 n hn2, Nat.or_comm, nat_join i n m hn hm]
  show IntKind.i64.wrap _ = _
  have e : ∀ z, IntKind.i64.wrap z = wrap64 z := fun z => by unfold wrap64; simp [IntKind.wrap, IntKind.bits, IntKind.signed]; split <;> omega
  rw [e]
  congr 1
  push_cast
  omega
theorem num_shift {B : Nat → Int} (h : BB B) (k n : Nat) (hn : n = 0 ∨ n = 1 ∨ n = 4 ∨ n = 8) : wrap64 (wrap64 (lowB B k n) * 2 ^ (64 - 8 * n)) / 2 ^ (64 - 8 * n) = numB B k n := by
  have hl := low_b h k n
  unfold numB sgnB
  generalize lowB B k n = z at *
  rcases hn with rfl | rfl | rfl | rfl
  · have e : (256 : Int) ^ 0 = 1 := rfl
    rw [e] at hl ⊢
    obtain rfl : z = 0 := by omega
    rw [w64i (z := 0) (by decide) (by decide), Int.zero_mul, w64i (z := 0) (by decide) (by decide), if_pos (by decide), Int.zero_ediv]
  · have e1 : (2 : Int) ^ (64 - 8 * 1) = 72057594037927936 := by decide
    rw [p1] at hl ⊢
    rw [e1]
    unfold wrap64
    split <;> omega
  · have e1 : (2 : Int) ^ (64 - 8 * 4) = 4294967296 := by decide
    rw [p4] at hl ⊢
    rw [e1]
    unfold wrap64
    split <;> omega
  · have e1 : (2 : Int) ^ (64 - 8 * 8) = 1 := by decide
    rw [p8] at hl ⊢
    rw [e1]
    unfold wrap64
    split <;> omega
theorem pow256 (j : Nat) : (2 : Nat) ^ (8 * j) = 256 ^ j := by rw [Nat.pow_mul]
set_option maxRecDepth 100000 in
theorem pow256i (j : Nat) : (2 : Int) ^ (8 * j) = 256 ^ j := by
  induction j with
  | zero => rfl
  | succ j ih => rw [Nat.mul_succ, Int.pow_add, ih, Int.pow_succ]; rfl
set_option maxRecDepth 100000 in
theorem step_low {B : Nat → Int} (h : BB B) (k j : Nat) (hj : j ≤ 7) : bits .or .i64 (wrap64 (lowB B k j)) (wrap64 (B (k + j) * 2 ^ (8 * j))) = wrap64 (lowB B k (j + 1)) := by
  have hl := low_b h k j
  have hb := h (k + j)
  have h7 : (256 : Nat) ^ j ≤ 256 ^ 7 := Nat.pow_le_pow_right (by decide) hj
  have h7' : (256 : Nat) ^ 7 = 72057594037927936 := by decide
  have hc : ((256 ^ j : Nat) : Int) = (256 : Int) ^ j := Int.natCast_pow 256 j
  obtain ⟨m, hm⟩ := Int.eq_ofNat_of_zero_le hl.1
  obtain ⟨b, hbb⟩ := Int.eq_ofNat_of_zero_le hb.1
  have hm1 : m < 256 ^ j := by rw [← hc, hm] at hl; omega
  have hb1 : b ≤ 255 := by omega
  have hbp : b * 256 ^ j ≤ 255 * 256 ^ j := Nat.mul_le_mul_right _ hb1
  have e1 : wrap64 (lowB B k j) = (m : Int) := by rw [hm]; exact w64i (by omega) (by omega)
  have e2 : B (k + j) * 2 ^ (8 * j) = ((b * 256 ^ j : Nat) : Int) := by rw [pow256i, hbb, ← hc, ← Int.natCast_mul]
  have e3 : lowB B k (j + 1) = (m : Int) + ((b * 256 ^ j : Nat) : Int) := by
    show lowB B k j + B (k + j) * 256 ^ j = _
    rw [hm, hbb, ← hc, ← Int.natCast_mul]
  rw [e1, e2, e3]
  exact or_i64 m (b * 256 ^ j) (8 * j) (by rw [pow256]; exact hm1) (by rw [pow256]; exact Nat.mul_mod_left _ _) (by omega) (by omega)
end Is
end Go.Proofs.YteppmkeoedddnaaDoor
namespace Go.Proofs.YteppmkeoedddnaaDoor
open Go Go.RowKit
namespace Is
open Nt
set_option linter.unusedVariables false
set_option linter.unusedSimpArgs false
end Is
end Go.Proofs.YteppmkeoedddnaaDoor
namespace Go.Proofs.YteppmkeoedddnaaDoor
open Go Go.RowKit
namespace Is
open Nt
set_option linter.unusedVariables false
set_option linter.unusedSimpArgs false
end Is
end Go.Proofs.YteppmkeoedddnaaDoor
