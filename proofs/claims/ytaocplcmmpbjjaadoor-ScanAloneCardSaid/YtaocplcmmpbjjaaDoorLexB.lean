/- Plain: a long region's order checked pair by pair. -/
import Derived.Still
import Derived.Orders
namespace Go.Proofs.YtaocplcmmpbjjaaDoor
open Go
namespace LexB
def aftB (md : Region.Mode) : Nat → List Oper → Bool
  | _, [] => true
  | k, o :: r => o.after.toList.all (fun e => !Region.binds md e || Nat.blt e.on k) && aftB md (k + 1) r
def prB (md : Region.Mode) (ops : Array Oper) : Nat → List Oper → Bool
  | _, [] => true
  | k, o :: r => r.all (fun oj => oj.after.toList.any (fun e => Region.binds md e && e.on == k) || o.apart ops oj) && prB md ops (k + 1) r
theorem lexF_of (md : Region.Mode) (l : List Oper) : ∀ (r : List Oper) (k : Nat) (listed : Array Bool), (∀ j, r[j]? = l[k + j]?) → k + r.length = l.length → listed.size = l.length →
    (∀ j, j < l.length → listed.getD j true = decide (j < k) ∧ listed.getD j false = decide (j < k)) → aftB md k r = true → prB md l.toArray k r = true → Region.lexFrom md l.toArray r.length k listed = true
  | [], k, listed, hr, hn, hsz, hL, _, _ => by
    show (Region.ready md l.toArray listed).isEmpty = true
    rw [List.isEmpty_iff, List.eq_nil_iff_forall_not_mem]
    intro j hj
    obtain ⟨h1, o, ho, _⟩ := mem_ready.1 hj
    have hlt : j < l.length := by
      have := (Array.getElem?_eq_some_iff.1 ho).1
      simpa using this
    have hn' : k = l.length := hn
    rw [(hL j hlt).1, decide_eq_true (by omega)] at h1
    cases h1
  | o :: r, k, listed, hr, hn, hsz, hL, h1, h2 => by
    have hn' : k + (r.length + 1) = l.length := hn
    unfold aftB at h1
    unfold prB at h2
    rw [Bool.and_eq_true] at h1 h2
    have h0 : l.toArray[k]? = some o := by
      have := hr 0
      simp only [List.getElem?_cons_zero, Nat.add_zero] at this
      simpa using this.symm
    show (_ && _ && _) = true
    rw [Bool.and_eq_true, Bool.and_eq_true]
    refine ⟨⟨?_, ?_⟩, ?_⟩
    · rw [List.contains_iff_mem, mem_ready]
      refine ⟨by rw [(hL k (by omega)).1, decide_eq_false (by omega)], o, h0, fun e he hb => ?_⟩
      have := List.all_eq_true.1 h1.1 e (by simpa using he)
      rw [hb, Bool.not_true, Bool.false_or, Nat.blt_eq] at this
      rw [(hL e.on (by omega)).2, decide_eq_true this]
    · unfold Region.free
      rw [h0]
      show (List.all _ _) = true
      rw [List.all_eq_true]
      intro j hj
      have hj' : j < l.length := by simpa using hj
      rw [(hL j hj').1]
      by_cases hjk : j ≤ k
      · by_cases hje : j = k
        · subst hje; simp
        · rw [decide_eq_true (show j < k by omega)]; simp
      · have hx : r[j - k - 1]? = l[j]? := by
          have := hr (j - k)
          rw [show j - k = (j - k - 1) + 1 by omega, List.getElem?_cons_succ, show k + (j - k - 1 + 1) = j by omega] at this
          exact this
        obtain ⟨oj, hoj⟩ : ∃ oj, l[j]? = some oj := ⟨_, List.getElem?_eq_getElem hj'⟩
        have hmem : oj ∈ r := List.mem_of_getElem? (hx.trans hoj)
        have := List.all_eq_true.1 h2.1 oj hmem
        have hoj' : l.toArray[j]? = some oj := by simpa using hoj
        rw [hoj']
        show (_ || _ || (_ || _)) = true
        rw [← Array.any_toList, this, Bool.or_true]
    · refine lexF_of md l r (k + 1) _ (fun j => ?_) (by omega) (by simpa using hsz) (fun j hj => ?_) h1.2 h2.2
      · have := hr (j + 1)
        rw [List.getElem?_cons_succ, show k + (j + 1) = k + 1 + j by omega] at this
        exact this
      · by_cases hjk : j = k
        · subst hjk
          have hlt : j < listed.size := by omega
          rw [decide_eq_true (show j < j + 1 by omega)]
          simp [hlt]
        · rw [getD_set_ne true (fun e => hjk e.symm), getD_set_ne false (fun e => hjk e.symm), (hL j hj).1, (hL j hj).2]
          have : decide (j < k) = decide (j < k + 1) := decide_eq_decide.2 (by omega)
          exact ⟨this, this⟩
theorem lexB_of (md : Region.Mode) (l : List Oper) (hs : Region.noSelect l.toArray = true) (h1 : aftB md 0 l = true) (h2 : prB md l.toArray 0 l = true) : Region.lexB md l.toArray = true := by
  unfold Region.lexB
  rw [hs, Bool.true_and]
  have := lexF_of md l l 0 (Array.replicate l.length false) (fun j => by rw [Nat.zero_add]) (by omega) (by simp) (fun j hj => by
    rw [decide_eq_false (by omega)]
    simp [hj]) h1 h2
  simpa using this
end LexB
end Go.Proofs.YtaocplcmmpbjjaaDoor
