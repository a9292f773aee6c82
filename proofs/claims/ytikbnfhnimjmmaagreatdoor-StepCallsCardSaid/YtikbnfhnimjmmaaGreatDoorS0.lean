/- What step asks of the landed package memory: less than all of it. -/
import Derived.Test.YtikbnfhnimjmmaaGreatDoorA11
namespace Go.Proofs.YtikbnfhnimjmmaaGreatDoor
open Go Go.RowKit
namespace Mm
open Wd Nt
set_option linter.unusedVariables false
structure MemD (R : World → Nat → Nat → Value → List Reg → Prop) : Prop where
  keep : ∀ {w w' : World} {B E B' E' : Nat} {p : Value} {M : List Reg}, R w B E p M → Kp B' E' w w' → (E ≤ B' ∨ E' ≤ B) → R w' B E p M
  shape : ∀ {w : World} {B E : Nat} {p : Value} {M : List Reg}, R w B E p M → (∃ D, p = .pointer (some D)) ∧ Good M ∧ Rising M ∧ Oks M ∧ B ≤ E ∧ E ≤ w.heap.size
  new : ∀ (A : Option Addr) (n c : Nat) (rs : List Reg) (w : World), Hid (AtR w A n rs) → n ≤ 9223372036854775807 → Calls Tryz.prog 27 #[.slice A n c] w (NewO R rs w)
  load : ∀ {w : World} {B E : Nat} {P : Value} {M : List Reg} (p : Int), Hid (R w B E P M) → W p → Calls Tryz.prog 115 #[P, .int .u64 p] w (LoadP M p w)
  store : ∀ {w : World} {B E : Nat} {P : Value} {M : List Reg} (p v : Int), Hid (R w B E P M) → W p → W v → Calls Tryz.prog 116 #[P, .int .u64 p, .int .u64 v] w (StoreP R B E P M p v w)
  bytes : ∀ {w : World} {B E : Nat} {P : Value} {M : List Reg} (p n : Int), Hid (R w B E P M) → W p → (Lit.int .i64 n).wf = true → Calls Tryz.prog 114 #[P, .int .u64 p, .int .i64 n] w (BytesP M p n w)
  bytesN : ∀ (w : World) (p n : Int), W p → (Lit.int .i64 n).wf = true → Calls Tryz.prog 114 #[.pointer none, .int .u64 p, .int .i64 n] w fun e w' => e = .returned (.tuple #[.string ⟨#[]⟩, .int .i64 1]) ∧ Below w.heap.size w w'
  regions : ∀ {w : World} {B E : Nat} {P : Value} {M : List Reg}, Hid (R w B E P M) → Calls Tryz.prog 31 #[P] w (RegsP M w)
theorem MemD.below {R : World → Nat → Nat → Value → List Reg → Prop} (mc : MemD R) {w w' : World} {B E : Nat} {p : Value} {M : List Reg} (h : Hid (R w B E p M)) (hb : Below w.heap.size w w') : Hid (R w' B E p M) :=
  Lib.hid (mc.keep (B' := E) (E' := E) h.out (Kp.of hb) (.inl (Nat.le_refl _)))
end Mm
end Go.Proofs.YtikbnfhnimjmmaaGreatDoor
