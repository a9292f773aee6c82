/- Slices of words that read as limbs; the smallest functions of package nat. -/
import Derived.Test.YtdklchejnpaenaaDoorNatM
import Derived.Test.YtdklchejnpaenaaDoorStillIn
import Derived.Below
import Derived.Laws.OwnMore
import Derived.Deep.AppendLies
import Derived.Deep.Draws
import Derived.WalkKit
import Derived.ProofKit
import Derived.LoopTactic
import Derived.Lib.Hide
namespace Go.Proofs.YtdklchejnpaenaaDoor
open Go.RowKit
namespace Nt
open Wd
set_option linter.unusedVariables false

theorem block_add (a : Addr) (n : Nat) : (a.add n).block = a.block := by unfold Addr.add; split <;> rfl
theorem add_add (a : Addr) (i j : Nat) : (a.add i).add j = a.add (i + j) := by
  unfold Addr.add
  by_cases hi : i = 0 <;> by_cases hj : j = 0 <;> simp [hi, hj, Nat.add_assoc]
/-- the slice value '.slice A n c' reads as the limbs xs, below block B -/
structure Rd (w : World) (B : Nat) (A : Option Addr) (n : Nat) (xs : List Int) : Prop where
  len : xs.length = n
  ws : Ws xs
  rd : 0 < n → ∃ ad, A = some ad ∧ ad.block < B ∧ ∀ j, j < n → w.cell? (ad.add j) = some (.int .u64 (at_ xs j))
section
variable {w w' : World} {B B' n : Nat} {A : Option Addr} {xs : List Int}
theorem Rd.nil : Rd w B A 0 [] := ⟨rfl, Ws.nil, fun h => absurd h (by omega)⟩
theorem Rd.at_ {k : Nat} (h : Rd w B A n xs) (hk : k < n) : ∃ ad, A = some ad ∧ ad.block < B ∧ w.cell? (ad.add k) = some (.int .u64 (at_ xs k)) := by
  obtain ⟨ad, e, hb, hc⟩ := h.rd (by omega)
  exact ⟨ad, e, hb, hc k hk⟩
theorem Rd.keep (h : Rd w B A n xs) (hk : ∀ p : Addr, p.block < B → w'.cell? p = w.cell? p) : Rd w' B A n xs :=
  ⟨h.len, h.ws, fun hn => by
    obtain ⟨ad, e, hb, hc⟩ := h.rd hn
    exact ⟨ad, e, hb, fun j hj => (hk _ (by rw [block_add]; exact hb)).trans (hc j hj)⟩⟩
theorem Rd.more (h : Rd w B A n xs) (hB : B ≤ B') : Rd w B' A n xs :=
  ⟨h.len, h.ws, fun hn => by
    obtain ⟨ad, e, hb, hc⟩ := h.rd hn
    exact ⟨ad, e, by omega, hc⟩⟩
theorem Rd.below (h : Rd w B A n xs) (hb : Below B w w') : Rd w' B A n xs := h.keep fun _ hp => hb.cell hp
theorem Rd.drew (h : Rd w B A n xs) : Rd w.drew B A n xs := ⟨h.len, h.ws, h.rd⟩
theorem Rd.drewN (h : Rd w B A n xs) (k : Nat) : Rd (w.drewN k) B A n xs := ⟨h.len, h.ws, h.rd⟩
theorem Rd.take {k : Nat} (h : Rd w B A n xs) (hk : k ≤ n) : Rd w B A k (xs.take k) :=
  ⟨by rw [List.length_take, h.len]; omega, h.ws.take k, fun hn => by
    obtain ⟨ad, e, hb, hc⟩ := h.rd (by omega)
    refine ⟨ad, e, hb, fun j hj => ?_⟩
    rw [hc j (by omega)]
    unfold Nt.at_
    rw [List.getElem?_take, if_pos hj]⟩
theorem Rd.trim (h : Rd w B A n xs) : Rd w B A (trim xs).length (trim xs) := by
  have := h.take (k := (Nt.trim xs).length) (by rw [← h.len]; exact trim_le xs)
  rwa [← trim_take] at this
end

/-! ### limb -/
theorem limb_c (A : Option Addr) (n c k B : Nat) (xs : List Int) (w : World) (h : Rd w B A n xs) (hk : k ≤ 4611686018427387904) :
    Calls Tryd.prog 51 #[.slice A n c, .int .i64 (k : Int)] w fun e w' => e = .returned (.int .u64 (at_ xs k)) ∧ w' = w := by
  by_cases hlt : k < n
  · obtain ⟨ad, rfl, hb, hc⟩ := h.at_ hlt
    generalize at_ xs k = z at *
    clear h
    go_enter Tryd.func51, Tryd.ntmps51
    go_wp2_with fail
    go_ret
    exact ⟨rfl, rfl⟩
  · rw [at_ge (by rw [h.len]; omega)]
    clear h
    go_enter Tryd.func51, Tryd.ntmps51
    go_wp2_with fail
    go_ret
    exact ⟨rfl, rfl⟩
end Nt
end Go.Proofs.YtdklchejnpaenaaDoor
