/- A source gone through by its runes, wherever what goes through it lies. -/
import Derived.Test.YtaocplcmmpbjjaaDoorSH
namespace Go.Proofs.YtaocplcmmpbjjaaDoor
open Go Go.RowKit
namespace Sn
open Nt
set_option linter.unusedVariables false
set_option linter.unusedSimpArgs false
theorem next_at {P : Program} (W : World) (I : Nat) (s : ByteArray) (pos : Nat) (ty : TypeId) (hI : W.heap[I]? = some (.stringIter s pos)) (h : pos < s.size) :
    (Instr.next (.pointer (some ⟨I, 0, none⟩)) true ty).run P W = .ok (.tuple #[.bool true, .int .i64 pos, .int .i32 (Utf8.decode s pos).1]) (W.putObj I (.stringIter s (pos + (Utf8.decode s pos).2))) := by
  simp only [Instr.next, getObj, setObj, Sem.run_bind, Sem.run, hI, Result.andThen, h, if_true]
  simp [goInt, Sem.run, World.putObj]
theorem next_done {P : Program} (W : World) (I : Nat) (s : ByteArray) (pos : Nat) (ty : TypeId) (hI : W.heap[I]? = some (.stringIter s pos)) (h : ¬ pos < s.size) :
    (Instr.next (.pointer (some ⟨I, 0, none⟩)) true ty).run P W = .ok (.tuple #[.bool false]) W := by
  simp [Instr.next, getObj, Sem.run, hI, h]
/-- the runes of a source from a place on -/
def rnsF (s : ByteArray) : Nat → Nat → List Rn
  | 0, _ => []
  | f + 1, p => if p < s.size then ⟨(Utf8.decode s p).1, (Utf8.decode s p).2, okR s p⟩ :: rnsF s f (p + (Utf8.decode s p).2) else []
theorem rnsF_end (s : ByteArray) (f p : Nat) (h : ¬ p < s.size) : rnsF s f p = [] := by
  cases f with
  | zero => rfl
  | succ f => simp [rnsF, h]
theorem rnsF_step (s : ByteArray) (f p : Nat) (h : p < s.size) : rnsF s (f + 1) p = ⟨(Utf8.decode s p).1, (Utf8.decode s p).2, okR s p⟩ :: rnsF s f (p + (Utf8.decode s p).2) := by
  show (if p < s.size then _ else _) = _
  rw [if_pos h]
/-- a letter, if it is a right rune of a source, of more than one byte -/
theorem letR_high (s : ByteArray) (p : Nat) (h : 128 ≤ (Utf8.decode s p).1) : letR (Utf8.decode s p).1 = true := by
  have hv : ((Utf8.decode s p).1 < 55296 ∨ (57344 ≤ (Utf8.decode s p).1 ∧ (Utf8.decode s p).1 ≤ 1114111)) := by
    have hb : ∀ k, (s.get! (p + k)).toNat < 256 := fun k => (s.get! (p + k)).toNat_lt
    have h0 := hb 0; have h1 := hb 1; have h2 := hb 2; have h3 := hb 3
    simp only [Utf8.decode, Utf8.valid, Utf8.runeError, Bool.and_eq_true, Bool.or_eq_true, decide_eq_true_eq, ge_iff_le]
    repeat' split
    all_goals (simp_all only [Utf8.valid, Bool.and_eq_true, Bool.or_eq_true, decide_eq_true_eq]; omega)
  unfold letR
  rw [if_neg (by omega), Bool.or_eq_true, Bool.and_eq_true, decide_eq_true_eq, decide_eq_true_eq, decide_eq_true_eq]
  exact hv
end Sn
end Go.Proofs.YtaocplcmmpbjjaaDoor
