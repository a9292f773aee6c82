/- Each, as an iterator; the law's own all. -/
import Derived.Test.YtaocplcmmpbjjaaDoorSP
namespace Go.Proofs.YtaocplcmmpbjjaaDoor
open Go Go.RowKit Go.Maps Go.Shelf
namespace Sn
open Nt
set_option linter.unusedVariables false
set_option linter.unusedSimpArgs false
attribute [local go_sem] Oper.semAt_some
/-- where an Each's reading lies: it is new -/
def okE (R : Nat) (W X : World) : Prop := W.heap.size ≤ R ∧ R < X.heap.size
set_option maxRecDepth 100000 in
set_option maxHeartbeats 1000000 in
theorem each_seq (n : Nat) (hn : 5 ≤ n) (n₀ C : Nat) (s : ByteArray) (hs : s.size ≤ 65536) (w : World) (hC : w.cell? ⟨C, 0, none⟩ = some (.string s)) (hT : Lib.Utf8Tabs 0 1 w)
    (hlo : 0 < n₀ ∧ 1 < n₀ ∧ n₀ ≤ w.heap.size) :
    SeqR n Tryd.prog 27 #[] #[.pointer (some ⟨C, 0, none⟩)] (encT s) n₀ okE (tl s s.size 0 0 4).1 (fun _ _ => True) w := fun l J Jx W hW hJ hY h0 => by
  have hCl : C < w.heap.size := World.block_lt_of_cell? w _ hC
  have c0 : W.cell? ⟨C, 0, none⟩ = some (.string s) := (World.cell?_of_block (a := ⟨C, 0, none⟩) (hW.block C hCl)).trans hC
  have l0 : 0 < w.heap.size := World.block_lt_of_cell? w _ (hT.1 0 (by omega))
  have l1 : 1 < w.heap.size := World.block_lt_of_cell? w _ (hT.2 0 (by omega)).1
  have HT := Lib.hid (tabs_eq hT (hW.block _ l0) (hW.block _ l1))
  have HLO := Lib.hid (show 0 < n₀ ∧ 1 < n₀ ∧ n₀ ≤ W.heap.size from ⟨hlo.1, hlo.2.1, Nat.le_trans hlo.2.2 hW.size⟩)
  have HWL := Lib.hid (show 0 < W.heap.size ∧ 1 < W.heap.size by have := hW.size; omega)
  have e1 : ((s.size : Int) ≤ 65536) = True := eq_true (by omega)
  have HS := Lib.hid hs
  have HJ := Lib.hid hJ
  have HY := Lib.hid hY
  have H0 := Lib.hid h0
  have HN := Lib.hid hn
  have hn1 : 1 ≤ n := by omega
  have HB := Lib.hid (begin_l s W)
  have heg : ∀ args w, (callFunc 29 args).run Tryd.prog w = .ok (.enter 29 args) w := enters_of Tryd.func29 (by kernel_rfl) rfl
  clear hJ hY h0 hT hC hCl hW l0 l1 hlo hs hn
  show CallsIn Fence.wide n Tryd.prog 27 #[.func (.yield l) #[] #[], .pointer (some ⟨C, 0, none⟩)] W _
  refine callsIn_of_wp Tryd.func27 rfl trivial ?_ rfl
  simp only [Tryd.ntmps27, List.size_toArray, List.length_cons, List.length_nil, Nat.reduceAdd, Nat.reduceSub, Array.replicate_succ, Array.replicate_zero, List.push_toArray, List.append_toArray, List.nil_append, List.cons_append]
  gi_wp2
  refine ⟨trivial, ?_⟩
  gi_at_call 20
  refine (callsIn_wide.2 HB.out).mono ?_
  rintro e w1 ⟨R, M, rfl, hwM, hMR, hr, hm, hb⟩
  clear HB
  obtain ⟨d0, d1, d2, d3, d4, d5, d6⟩ := hr.cells
  unfold telF at d1
  have HRL := Lib.hid (Bk.lt hr)
  have HT1 := Lib.hid (tabs_eq HT.out (hb.block _ HWL.out.1) (hb.block _ HWL.out.2))
  have HTE := Lib.hid (tell_in (n - 1) (by have := HN.out; omega) l n₀ W.heap.size R M s (by have := HS.out; omega) w1 hb.size (J R) (Jx R) (HJ.out R)
    (fun pre x X hj hp => yield_wide (HY.out R pre x X hj hp)) hr hm HT1.out ⟨by omega, by have := HWL.out; omega, by have := HWL.out; omega⟩ ⟨HLO.out.1, HLO.out.2.1, by have := HLO.out.2.2; have := hb.size; omega⟩ (H0.out R w1 ⟨by omega, HRL.out⟩ hb))
  clear hr hm hb hwM hMR HY HJ H0 HT HT1 HS HLO
  gi_wp2
  refine ⟨trivial, ?_⟩
  gi_at_call 29
  refine HTE.out.mono ?_
  rintro e w2 ⟨⟨v, rfl⟩, hh⟩
  have HH := Lib.hid hh
  clear hh HTE d0 d1 d2 d3 d4 d5 d6
  gi_wp2
  refine bodyPost_end (results_none rfl _ _ _) rfl ⟨⟨_, rfl⟩, R, ?_⟩
  rcases HH.out with ⟨hj, _⟩ | h
  · exact .inl ⟨hj, trivial⟩
  · exact .inr h
theorem each_l (s : ByteArray) (w : World) : Calls Tryd.prog 19 #[.string s] w fun e w' => e = .returned (.func (.func 27) #[] #[.pointer (some ⟨w.heap.size, 0, none⟩)]) ∧ w' = w.alloc (.cells #[.string s] 9) := by
  go_enter Tryd.func19, Tryd.ntmps19
  go_wp2_with fail
  go_ret
  exact ⟨rfl, rfl⟩
/-- a row of words that is appended to, beside a reading at R -/
theorem Boxed.appendedR {W w1 : World} {R B : Nat} {t e : TypeId} {size : Nat} {v v' : Value} {k m : Nat} {xs ys : List Value} {tmp : Obj}
    (hv : Boxed W B t v) (hte : t ≠ e) (hrow : W.ownsRow (R + 1) e size v k xs) (hRl : R < W.heap.size)
    (hown' : w1.ownsRow (R + 1) e size v' m ys) (hgrow : (W.alloc tmp).grownBy w1 v.ownBlock) :
    Boxed w1 B t v ∧ Boxed (w1.setCell ⟨B, 0, none⟩ v') B t v' ∧ (w1.setCell ⟨B, 0, none⟩ v').ownsRow (R + 1) e size v' m ys ∧ KeepsOthers W (w1.setCell ⟨B, 0, none⟩ v') ∧ (∀ k, k ≤ R → k ≠ B → (w1.setCell ⟨B, 0, none⟩ v').heap[k]? = W.heap[k]?) ∧ (w1.setCell ⟨B, 0, none⟩ v').os = W.os ∧ (w1.setCell ⟨B, 0, none⟩ v').tape = W.tape ∧ (w1.setCell ⟨B, 0, none⟩ v').output = W.output := by
  have hv1 : Boxed w1 B t v := (hv.alloc tmp).kept hgrow (hv.not_row hte hrow)
  refine ⟨hv1, hv1.set v', hown'.kept (grownBy_setCell' w1 B v') (.inr (hv1.not_row hte hown').symm), ?_, ?_, hgrow.os, hgrow.tape, hgrow.output⟩
  · refine ((KeepsOthers.alloc W tmp).trans (KeepsOthers.of_grownBy hgrow fun j o ej hj => ?_)).trans (KeepsOthers.setCell _ _ _)
    rcases (hrow.alloc tmp).2 with ⟨rfl, _⟩ | ⟨g, cap, cur, rfl, _, hgb, _⟩
    · simp [Value.ownBlock] at ej
    · obtain rfl : g = j := by simpa [Value.ownBlock] using ej
      rw [hgb] at hj; cases hj; rfl
  · intro k hk hne
    rw [show (w1.setCell ⟨B, 0, none⟩ v').heap[k]? = w1.heap[k]? from Below.heap_setCell _ _ _ k hne, hgrow.block k (by simp; omega) (fun e => by have := (hrow.lt k e.symm).1; omega), Below.heap_alloc W tmp k (by omega)]
theorem tl_len1 (s : ByteArray) : (tl s s.size 0 0 4).1.length ≤ s.size + 1 := tl_len s s.size 0 0 4
/-- what the law's all has collected -/
def AllI (B : Nat) (w5 : World) (s : ByteArray) (R : Nat) (pre : List Tok) (W : World) : Prop :=
  (∃ v, Boxed W B 23 v ∧ W.ownsRow (R + 1) 33 3 v pre.length (tokRow s pre) ∧ (v = .slice none 0 0 ↔ pre = [])) ∧ w5.grownBy W (some B) ∧ R < W.heap.size ∧ w5.heap.size ≤ R
theorem allI_ab (B : Nat) (w5 : World) (hB : B < w5.heap.size) (s : ByteArray) : ∀ R t X Y row, AllI B w5 s R t X → X.grownBy Y row → AbR R w5.heap.size X row → AllI B w5 s R t Y := by
  rintro R t X Y row ⟨⟨v, hv, hr, hn⟩, hgr, hlt, hl⟩ hg hrow
  refine ⟨⟨v, hv.kept hg (fun e' => ?_), hr.kept hg ?_, hn⟩, ?_, Nat.lt_of_lt_of_le hlt hg.size, hl⟩
  · rcases hrow B e'.symm with h | ⟨_, o, ho, hc⟩
    · omega
    · rw [show X.heap[B]? = _ from hv] at ho; cases ho; cases hc
  · rcases hr.2 with ⟨rfl, _⟩ | ⟨g, cap, cur, rfl, hbg, hgb, _⟩
    · exact .inl rfl
    · refine .inr fun e' => ?_
      rcases hrow g (by simpa [Value.ownBlock] using e'.symm) with h | ⟨_, o, ho, hc⟩
      · omega
      · rw [hgb] at ho; cases ho; cases hc
  · refine ⟨hg.os.trans hgr.os, hg.tape.trans hgr.tape, hg.output.trans hgr.output, Nat.le_trans hgr.size hg.size, fun k hk hne => (hg.block k (Nat.lt_of_lt_of_le hk hgr.size) (fun e => ?_)).trans (hgr.block k hk hne)⟩
    rcases hrow k e.symm with h | ⟨h, _⟩
    · omega
    · omega
end Sn
end Go.Proofs.YtaocplcmmpbjjaaDoor
