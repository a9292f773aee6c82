/- Plain: what is secret with fewer secret buffers, with none, with buffers in another order, with an operation ahead. -/
import Derived.Test.YtbdhibgljaelbaaDoorS2
namespace Go.Proofs.YtbdhibgljaelbaaDoor
open Go Go.RowKit
namespace Lb
open Wd Nt Gr
set_option linter.unusedVariables false
set_option linter.unusedSimpArgs false
/-- a buffer but for whether it is secret -/
def er (b : Bf) : Bf := ⟨b.sz, b.kd, false⟩
theorem bfAt_er (bufs : List Bf) (i : Int) : bfAt (bufs.map er) i = er (bfAt bufs i) := by
  unfold bfAt
  rw [List.getElem?_map]
  cases bufs[i.toNat]? <;> rfl
theorem plOk_er (m : Bool) (bufs : List Bf) (o : Op) : plOk m (bufs.map er) o = plOk m bufs o := by
  unfold plOk
  rw [bfAt_er, List.length_map]
  rfl
theorem opOk_er (rg : Int) (bufs : List Bf) (o : Op) : opOk rg (bufs.map er) o = opOk rg bufs o := by
  unfold opOk
  rw [plOk_er]
theorem flt_er (rg : Int) (bufs : List Bf) (s : Ah) (o : Op) : fltO rg (bufs.map er) s o = fltO rg bufs s o := by
  unfold fltO
  rw [opOk_er]
theorem chkG_er (rg : Int) (bufs : List Bf) : ∀ (ops : List Op) (s : Ah) (n : Nat), chkG rg (bufs.map er) ops s n = chkG rg bufs ops s n
  | [], _, _ => rfl
  | o :: ops, s, n => by
    unfold chkG
    rw [flt_er, chkG_er rg bufs ops]
theorem any_er {f : Bf → Bool} (hf : ∀ b, f (er b) = f b) (bufs : List Bf) : (bufs.map er).any f = bufs.any f := by
  rw [List.any_map]
  congr 1
  funext b
  exact hf b
theorem chk_er (p : Pg) : chkP ⟨p.rg, p.bf.map er, p.op⟩ = chkP p := by
  have h : refP ⟨p.rg, p.bf.map er, p.op⟩ = refP p := by
    unfold refP
    dsimp only
    rw [List.length_map, any_er (fun _ => rfl), any_er (fun _ => rfl)]
  unfold chkP
  rw [h]
  dsimp only
  rw [chkG_er]
/-- whether buffers are secret is not looked at -/
theorem chk_sec {rg : Int} {bufs bufs' : List Bf} {ops : List Op} (h : bufs.map er = bufs'.map er) : chkP ⟨rg, bufs, ops⟩ = chkP ⟨rg, bufs', ops⟩ := by
  rw [← chk_er ⟨rg, bufs, ops⟩, ← chk_er ⟨rg, bufs', ops⟩]
  dsimp only
  rw [h]
/-- fewer secret buffers: no register more -/
theorem sec_less {bufs bufs' : List Bf} {ops : List Op} {a b : Nat} (ha : IsSec bufs ops a) (hb : IsSec bufs' ops b) (h : ∀ i : Int, (bfAt bufs' i).sec = true → (bfAt bufs i).sec = true) {q : Int} (hq : hasN b q = true) : hasN a q = true := by
  refine hb.least (S := fun q => hasN a q = true) (fun o ho hc => ?_) hq
  refine ha.closed o ho ?_
  rcases hc with hc | hc
  · exact .inl ⟨hc.1, h _ hc.2⟩
  · exact .inr hc
/-- no secret buffer: no secret register -/
theorem sec_none {bufs : List Bf} {ops : List Op} {c : Nat} (hc : IsSec bufs ops c) (h : ∀ i : Int, (bfAt bufs i).sec = false) (q : Int) : hasN c q = false := by
  rw [Bool.eq_false_iff]
  intro hq
  refine hc.least (S := fun _ => False) (fun o ho hcc => ?_) hq
  rcases hcc with hcc | hcc | hcc | hcc
  · rw [h] at hcc; cases hcc.2
  · exact hcc.2.elim
  · exact hcc.2.elim
  · exact hcc.2.elim
theorem allows_none {bufs : List Bf} {s : Nat} (h : ∀ q : Int, hasN s q = false) (o : Op) : allowsN bufs s o = true := by
  unfold allowsN
  rw [h, h, h]
  simp
theorem has_bit {s i : Nat} : hasN s (i : Int) = s.testBit i := by
  unfold hasN
  rw [decide_eq_true (by omega), Bool.true_and, Int.toNat_natCast]
/-- sets that are closed by each other's are the same, bit by bit -/
theorem sec_same {bufs bufs' : List Bf} {ops ops' : List Op} {a b : Nat} (ha : IsSec bufs ops a) (hb : IsSec bufs' ops' b) (h1 : Closed bufs' ops' (fun q => hasN a q = true)) (h2 : Closed bufs ops (fun q => hasN b q = true)) (q : Int) : hasN a q = hasN b q := by
  rw [Bool.eq_iff_iff]
  exact ⟨fun h => ha.least h2 h, fun h => hb.least h1 h⟩
/-! ### operations that look at buffers by other numbers -/
def reNo (n : Int) (o : Op) : Op := if o.k = 14 ∨ o.k = 15 then { o with bf := n - 1 - o.bf } else o
theorem reNo_k (n : Int) (o : Op) : (reNo n o).k = o.k := by unfold reNo; split <;> rfl
theorem reNo_d (n : Int) (o : Op) : (reNo n o).d = o.d := by unfold reNo; split <;> rfl
theorem reNo_e (n : Int) (o : Op) : (reNo n o).e = o.e := by unfold reNo; split <;> rfl
theorem reNo_a (n : Int) (o : Op) : (reNo n o).a = o.a := by unfold reNo; split <;> rfl
theorem reNo_b (n : Int) (o : Op) : (reNo n o).b = o.b := by unfold reNo; split <;> rfl
theorem reNo_c (n : Int) (o : Op) : (reNo n o).c = o.c := by unfold reNo; split <;> rfl
theorem reNo_im (n : Int) (o : Op) : (reNo n o).im = o.im := by unfold reNo; split <;> rfl
theorem reNo_bf {n : Int} {o : Op} (h : o.k = 14 ∨ o.k = 15) : (reNo n o).bf = n - 1 - o.bf := by unfold reNo; rw [if_pos h]
theorem reNo_bf' {n : Int} {o : Op} (h : ¬ (o.k = 14 ∨ o.k = 15)) : (reNo n o).bf = o.bf := by unfold reNo; rw [if_neg h]
theorem bfAt_rev {bufs : List Bf} {i : Int} (h0 : 0 ≤ i) (h1 : i < bufs.length) : bfAt bufs.reverse ((bufs.length : Int) - 1 - i) = bfAt bufs i := by
  unfold bfAt
  congr 1
  rw [List.getElem?_reverse (by omega)]
  congr 1
  omega
theorem plOk_rev (bufs : List Bf) (o : Op) : plOk (mm o.k) bufs.reverse (reNo (bufs.length : Int) o) = plOk (mm o.k) bufs o := by
  unfold plOk
  by_cases hm : o.k = 14 ∨ o.k = 15
  · have hmm : mm o.k = true := by unfold mm; simp; exact hm
    rw [hmm, if_pos rfl, if_pos rfl, reNo_bf hm, reNo_k, reNo_a, reNo_im, List.length_reverse]
    by_cases h0 : 0 ≤ o.bf
    · by_cases h1 : o.bf < bufs.length
      · rw [bfAt_rev h0 h1, decide_eq_true (by omega : 0 ≤ (bufs.length : Int) - 1 - o.bf), decide_eq_true (by omega : (bufs.length : Int) - 1 - o.bf < bufs.length), decide_eq_true h0, decide_eq_true h1]
      · rw [decide_eq_false (by omega : ¬ 0 ≤ (bufs.length : Int) - 1 - o.bf), decide_eq_false h1, Bool.false_and, Bool.and_false]
        rfl
    · rw [decide_eq_false (by omega : ¬ (bufs.length : Int) - 1 - o.bf < bufs.length), decide_eq_false h0, Bool.and_false, Bool.false_and]
      rfl
  · have hmm : mm o.k = false := by unfold mm; simp; omega
    rw [hmm, if_neg (by decide), if_neg (by decide), reNo_bf' hm]
theorem opOk_rev (rg : Int) (bufs : List Bf) (o : Op) : opOk rg bufs.reverse (reNo (bufs.length : Int) o) = opOk rg bufs o := by
  unfold opOk
  rw [reNo_k, plOk_rev, reNo_im]
  unfold rgOk
  rw [reNo_d, reNo_e, reNo_a, reNo_b, reNo_c]
theorem flt_rev (rg : Int) (bufs : List Bf) (s : Ah) (o : Op) : fltO rg bufs.reverse s (reNo (bufs.length : Int) o) = fltO rg bufs s o := by
  unfold fltO misP
  rw [opOk_rev, reNo_k, reNo_d, reNo_e, reNo_a, reNo_b, reNo_c]
theorem adv_rev (n : Int) (s : Ah) (o : Op) : adv s (reNo n o) = adv s o := by
  unfold adv
  rw [reNo_k, reNo_d, reNo_e]
theorem chkG_rev (rg : Int) (bufs : List Bf) : ∀ (ops : List Op) (s : Ah) (n : Nat), chkG rg bufs.reverse (ops.map (reNo (bufs.length : Int))) s n = chkG rg bufs ops s n
  | [], _, _ => rfl
  | o :: ops, s, n => by
    rw [List.map_cons]
    unfold chkG
    rw [flt_rev, adv_rev, chkG_rev rg bufs ops]
/-- buffers in the other order -/
theorem chk_rev (rg : Int) (bufs : List Bf) (ops : List Op) : chkP ⟨rg, bufs.reverse, ops.map (reNo (bufs.length : Int))⟩ = chkP ⟨rg, bufs, ops⟩ := by
  have h : refP ⟨rg, bufs.reverse, ops.map (reNo (bufs.length : Int))⟩ = refP ⟨rg, bufs, ops⟩ := by
    unfold refP
    dsimp only
    rw [List.length_reverse, List.length_map, List.any_reverse, List.any_reverse]
  unfold chkP
  rw [h]
  dsimp only
  rw [chkG_rev]
end Lb
end Go.Proofs.YtbdhibgljaelbaaDoor
