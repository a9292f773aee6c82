/- Rows of instructions of one's own; the landed package decode's guesses. | The landed package decode: All. -/
import Derived.Test.YtblmagcekfbgdaaGreatDoorS11
namespace Go.Proofs.YtblmagcekfbgdaaGreatDoor
open Go Go.RowKit
namespace Is
open Nt
set_option linter.unusedVariables false
set_option linter.unusedSimpArgs false
def insRow (xs : List Ins) : List Value := xs.flatMap fun i => i.vs.toList
theorem insRow_app (xs ys : List Ins) : insRow (xs ++ ys) = insRow xs ++ insRow ys := List.flatMap_append
theorem insRow_one (x : Ins) : insRow [x] = x.vs.toList := by unfold insRow; simp
theorem vs_len (x : Ins) : x.vs.toList.length = 9 := rfl
theorem insRow_len (xs : List Ins) : (insRow xs).length = xs.length * 9 := by
  induction xs with
  | nil => rfl
  | cons x xs ih =>
    show (x.vs.toList ++ insRow xs).length = _
    rw [List.length_append, ih, vs_len, List.length_cons]
    omega
theorem insRow_get {xs : List Ins} {j d : Nat} {x : Ins} (h : xs[j]? = some x) (hd : d < 9) : (insRow xs)[j * 9 + d]? = x.vs.toList[d]? := by
  induction xs generalizing j with
  | nil => cases h
  | cons p xs ih =>
    show (p.vs.toList ++ insRow xs)[j * 9 + d]? = _
    cases j with
    | zero =>
      simp at h
      subst h
      rw [List.getElem?_append_left (by rw [vs_len]; omega), Nat.zero_mul, Nat.zero_add]
    | succ j =>
      rw [List.getElem?_append_right (by rw [vs_len]; omega), vs_len, show (j + 1) * 9 + d - 9 = j * 9 + d by omega]
      exact ih h
/-- instructions of one's own -/
abbrev Rxs (B : Nat) (v : Value) (xs : List Ins) (w : World) : Prop := w.ownsRow B 26 9 v xs.length (insRow xs)
theorem rx_mu {S : List Nat} {w w' : World} {B : Nat} {v : Value} {xs : List Ins} (h : Rxs B v xs w) (m : Mu S w w') (hS : ∀ j, j ∈ S → j < B) : Rxs B v xs w' := by
  refine ⟨h.1, ?_⟩
  rcases h.2 with h1 | ⟨g, c, cur, h1, h2, h3, h4⟩
  · exact .inl h1
  · exact .inr ⟨g, c, cur, h1, h2, (m.block g (Array.getElem?_eq_some_iff.1 h3).1 (fun hm => by have := hS g hm; omega)).trans h3, h4⟩
theorem rx_form {w : World} {B : Nat} {v : Value} {xs : List Ins} (h : Rxs B v xs w) : ∃ A c, v = .slice A xs.length c := by
  rcases h.2 with ⟨e, h0⟩ | ⟨g, cap, cur, e, _⟩
  · exact ⟨none, 0, by rw [e, h0]⟩
  · exact ⟨_, _, e⟩
theorem rx_rd {w : World} {B n c : Nat} {A : Option Addr} {xs : List Ins} (h : Rxs B (.slice A n c) xs w) (hw : ∀ i ∈ xs, i.wf) : n = xs.length ∧ RdX w w.heap.size A n xs ∧ n ≤ c := by
  have hh := h
  rcases h.2 with ⟨e, h0⟩ | ⟨g, cap, cur, e, h2, h3, h4⟩
  · cases e
    obtain rfl : xs = [] := List.eq_nil_of_length_eq_zero h0
    exact ⟨rfl, ⟨rfl, hw, fun h => absurd h (by omega)⟩, Nat.le_refl _⟩
  · cases e
    have hlt : g < w.heap.size := (Array.getElem?_eq_some_iff.1 h3).1
    refine ⟨rfl, ⟨rfl, hw, fun _ => ⟨_, rfl, hlt, fun j i hj => ?_⟩⟩, h4.1⟩
    have hjl : j < xs.length := (List.getElem?_eq_some_iff.1 hj).1
    have key : ∀ d, d < 9 → w.cell? ⟨g, j * 9 + d, none⟩ = i.vs.toList[d]? := fun d hd => by
      rw [World.ownsRow.cellAt hh (j * 9 + d) (by omega), insRow_get hj hd]
    have e : (⟨g, 0, none⟩ : Addr).add (j * 9) = ⟨g, j * 9, none⟩ := by
      unfold Addr.add; split
      · rename_i e; rw [e]
      · simp
    rw [e]
    exact ⟨key 0 (by omega), key 1 (by omega), key 2 (by omega), key 3 (by omega), key 4 (by omega), key 5 (by omega), key 6 (by omega), key 7 (by omega), key 8 (by omega)⟩
set_option maxRecDepth 100000 in
theorem info_inst : (Tryz.prog.info? 26).map (fun i => (i.zero, i.size, i.bytes)) = some (some (.agg #[.int .i64 0, .int .i64 0, .int .i64 0, .int .i64 0, .int .i64 0, .int .i64 0, .int .i64 0, .int .i64 0, .int .i64 0]), 9, 72) := by kernel_rfl
theorem vs_new9 (W : World) (x : Ins) (j : Nat) (u : Value) (hu : x.vs.toList[j]? = some u) : (W.alloc (.cells x.vs 26)).cell? ((⟨W.heap.size, 0, none⟩ : Addr).add j) = some u := by
  have e : (⟨W.heap.size, 0, none⟩ : Addr).add j = ⟨W.heap.size, j, none⟩ := by
    unfold Addr.add; split
    · rename_i e; rw [e]
    · simp
  rw [e, (Bk.new W 26 x.vs).cell j, ← Array.getElem?_toList]
  exact hu
theorem vs_one9 (x : Ins) : ∀ u ∈ x.vs.toList, u.oneCell' = true := by
  intro u hu
  unfold Ins.vs at hu
  simp at hu
  rcases hu with rfl | rfl | rfl | rfl | rfl | rfl | rfl | rfl | rfl <;> rfl
theorem grown_mu {w w' : World} {v : Option Nat} (h : w.grownBy w' v) (S : List Nat) (hv : ∀ g, v = some g → g ∈ S) : Mu S w w' :=
  ⟨h.os, h.tape, h.output, h.size, fun k hk hn => h.block k hk (fun e => hn (hv k e.symm))⟩
/-- a row is told -/
def TellX (xs : List Ins) (w : World) (e : Ending) (w' : World) : Prop := ∃ A c, e = .returned (.slice A xs.length c) ∧ RdX w' w'.heap.size A xs.length xs ∧ xs.length ≤ c ∧ Below w.heap.size w w'
/-- where the guesses stand -/
def GsAt (s : ByteArray) (is : List Ins) (k : Nat) : Prop := ∃ f, 1 ≤ f ∧ s.size < k + f ∧ gsL s (s.size + 1) 0 = (gsL s f k).map (is ++ ·)
theorem GsAt.start (s : ByteArray) : GsAt s [] 0 := ⟨s.size + 1, by omega, by omega, by cases gsL s (s.size + 1) 0 <;> rfl⟩
theorem gsL_succ (s : ByteArray) (f k : Nat) : gsL s (f + 1) k = if s.size ≤ k then some [] else if (gI (bA s) k).op = 0 then none else (gsL s f (gE (bA s) k)).map (gI (bA s) k :: ·) := rfl
theorem GsAt.stop {s : ByteArray} {is : List Ins} {k : Nat} (h : GsAt s is k) (hk : k < s.size) (ho : (gI (bA s) k).op = 0) : gsD s = [] := by
  obtain ⟨f, h1, h2, h3⟩ := h
  cases f with
  | zero => omega
  | succ f =>
    rw [gsL_succ s f k, if_neg (by omega), if_pos ho] at h3
    unfold gsD
    rw [h3]
    rfl
theorem GsAt.next {s : ByteArray} {is : List Ins} {k : Nat} (h : GsAt s is k) (hk : k < s.size) (ho : (gI (bA s) k).op ≠ 0) : GsAt s (is ++ [gI (bA s) k]) (gE (bA s) k) := by
  obtain ⟨f, h1, h2, h3⟩ := h
  have hg := (gE_b (bA_bb s) k).1
  cases f with
  | zero => omega
  | succ f =>
    refine ⟨f, by omega, by omega, ?_⟩
    rw [h3, gsL_succ s f k, if_neg (by omega), if_neg ho, Option.map_map]
    congr 1
    funext x
    simp
theorem GsAt.done {s : ByteArray} {is : List Ins} {k : Nat} (h : GsAt s is k) (hk : s.size ≤ k) : gsD s = is := by
  obtain ⟨f, h1, h2, h3⟩ := h
  cases f with
  | zero => omega
  | succ f =>
    unfold gsD
    rw [h3, gsL_succ s f k, if_pos hk]
    simp
set_option maxRecDepth 100000 in
set_option maxHeartbeats 4000000 in
theorem dguess_l (code : ByteArray) (w : World) (hs : code.size ≤ 400) :
    Calls Tryz.prog 17 #[.string code] w fun e w' => TellX (gsD code) w e w' ∧ (gsD code).length ≤ code.size := by
  have HS := Lib.hid hs
  have hs4 : (code.size : Int) ≤ 400 := by omega
  obtain ⟨inf, hi, hz, q1, q2⟩ := info_parts info_inst
  go_enter Tryz.func17, Tryz.ntmps17
  go_wp2_with fail
  generalize hW : w.alloc _ = W0
  have HC0 : Hid (Cu W0 w.heap.size code 0) := Lib.hid (by rw [← hW]; exact Bk.new _ _ _)
  have HM0 : Hid (Mu [] w W0) := Lib.hid (by rw [← hW]; exact (Mu.refl _ w).alloc _)
  clear hW
  go_loopw [3, 5] (fun v u W => ∃ (is : List Ins) (k : Nat), Hid (GsAt code is k) ∧ Hid (is.length ≤ k ∧ is.length ≤ code.size) ∧ Hid (k ≤ 500) ∧ Hid (∀ i ∈ is, i.wf) ∧ Hid (Cu W w.heap.size code k) ∧ Hid (Rxs (w.heap.size + 1) v is W) ∧ Hid (Mu [] w W)) (fun v _ _ => match v with | .slice _ n _ => code.size + 1 - n | _ => 0)
  case atStart => exact ⟨[], 0, Lib.hid (GsAt.start code), Lib.hid ⟨by simp, by simp⟩, Lib.hid (by omega), Lib.hid (fun i hi => by cases hi), HC0, Lib.hid (World.ownsRow_nil _ _ _ _), HM0⟩
  case round =>
    obtain ⟨is, k, HG, HK, HK5, HW, HC, HX, HM⟩ := hrel
    obtain ⟨A, c, rfl⟩ := rx_form HX.out
    have c1 : wr.cell? ⟨w.heap.size, 1, none⟩ = some (.int .i64 (k : Int)) := HC.out.cell 1
    rcases Nat.lt_or_ge k code.size with hlt | hge
    · have e1 : (k : Int) < (code.size : Int) := by omega
      have HGN := Lib.hid (fun ho => HG.out.next hlt ho)
      have HGS := Lib.hid (fun ho => HG.out.stop hlt ho)
      have HWF := Lib.hid (gI_wf (bA_bb code) k)
      have HEB := Lib.hid (gE_b (bA_bb code) k)
      have HI := Lib.hid (dinst_l w.heap.size k code wr HC.out (by have := HK5.out; omega))
      have HLT := Lib.hid hlt
      have HKZ : Hid ((k : Int) = (k : Int)) := Lib.hid rfl
      have hil : is.length < code.size := by have := HK.out; omega
      clear hlt HKZ
      generalize hgi : gI (bA code) k = gi at *
      generalize gE (bA code) k = ge at *
      clear hgi
      have HV : Hid (∃ cs, cs = gi.vs) := Lib.hid ⟨_, rfl⟩
      have HGI : Hid (gi.vs = gi.vs) := Lib.hid rfl
      by_cases ho : gi.op = 0
      · have HD := Lib.hid (HGS.out ho)
        obtain ⟨i0, i1, i2, i3, i4, i5, i6, i7, i8⟩ := gi
        dsimp only at ho
        subst ho
        unfold Ins.vs at HI
        dsimp only at HI
        go_wp2_with fail
        go_at_call 12
        refine HI.out.mono ?_
        rintro e w2 ⟨rfl, h1, h2⟩
        have HM2 : Hid (Mu [] w w2) := Lib.hid (HM.out.trans h2 (fun x hx hl => by simp at hx; omega))
        clear h1 h2
        go_wp2_with fail
        go_ret
        rw [HD.out]
        exact ⟨⟨none, 0, rfl, ⟨rfl, (fun i hi => by cases hi), fun h => absurd h (by simp)⟩, Nat.le_refl _, (HM2.out.alloc _).below (Nat.le_refl _) (fun j hj => by cases hj)⟩, by simp⟩
      · have HGM := Lib.hid (HGN.out ho)
        have hob : (gi.op == 0) = false := by rw [beq_eq_false_iff_ne]; exact ho
        have HRow : Hid (insRow (is ++ [gi]) = insRow is ++ gi.vs.toList) := Lib.hid (by rw [insRow_app, insRow_one])
        have HV9 := Lib.hid (fun W j u hu => vs_new9 W gi j u hu)
        have HO9 := Lib.hid (vs_one9 gi)
        have HLL : Hid ((is ++ [gi]).length = is.length + 1) := Lib.hid (by simp)
        have HWA : Hid (∀ i ∈ is ++ [gi], i.wf) := Lib.hid (fun i hi => by
          rcases List.mem_append.1 hi with h | h
          · exact HW.out i h
          · simp at h; rw [h]; exact HWF.out)
        generalize is ++ [gi] = is2 at *
        obtain ⟨i0, i1, i2, i3, i4, i5, i6, i7, i8⟩ := gi
        unfold Ins.vs at HI HV9 HO9 HRow
        dsimp only at HI HV9 HO9 HRow hob ho
        go_wp2_with fail
        go_at_call 12
        refine HI.out.mono ?_
        rintro e w2 ⟨rfl, h1, h2⟩
        have HC2 := Lib.hid h1
        have HX2 := Lib.hid (rx_mu HX.out h2 (fun j hj => by simp at hj; omega))
        have HM2 : Hid (Mu [] w w2) := Lib.hid (HM.out.trans h2 (fun x hx hl => by simp at hx; omega))
        have hsz2 : w.heap.size + 1 ≤ w2.heap.size := by have := h1.lt; omega
        clear h1 h2 c1
        have hlen : is.length + 1 ≤ 500 := by have := HK.out; have := HK5.out; have := HLT.out; have := HS.out; omega
        go_wp2_with (at_builtin; go_loud (refine wpList_append_own_at _ rfl _ _ 30 rfl (w.heap.size + 1) 26 inf _ 9 72 Tryz.underlying30 hi hz q1 q2 rfl (by decide) _ is.length _ rfl ((HX2.out.alloc _).alloc _) ⟨w2.heap.size + 1, 0, none⟩ 1 1 (#[.int .i64 i0, .int .i64 i1, .int .i64 i2, .int .i64 i3, .int .i64 i4, .int .i64 i5, .int .i64 i6, .int .i64 i7, .int .i64 i8] : Array Value).toList rfl rfl (by intro j u hu; have h := HV9.out (w2.alloc (.cells #[.int .i64 i0, .int .i64 i1, .int .i64 i2, .int .i64 i3, .int .i64 i4, .int .i64 i5, .int .i64 i6, .int .i64 i7, .int .i64 i8] 26)) j u hu; rw [World.size_alloc] at h; exact h) HO9.out (by simp only [maxLen]; omega) (by omega) (by simp; omega) ?_); intro v' w3 hown hgrow hnil hblk; clear hnil hblk; have hgr : ((w2.alloc (.cells #[.int .i64 i0, .int .i64 i1, .int .i64 i2, .int .i64 i3, .int .i64 i4, .int .i64 i5, .int .i64 i6, .int .i64 i7, .int .i64 i8] 26)).alloc (.cells #[.int .i64 i0, .int .i64 i1, .int .i64 i2, .int .i64 i3, .int .i64 i4, .int .i64 i5, .int .i64 i6, .int .i64 i7, .int .i64 i8] 26)).grownBy w3 (Value.slice A is.length c).ownBlock := hgrow; have hlt := World.ownsRow.lt HX2.out; have HC3 : Hid (Cu w3 w.heap.size code ge) := Lib.hid ((hgr.block _ (by have := HC2.out.lt; simp; omega) (fun e => by have := (hlt _ e.symm).1; omega)).trans ((HC2.out.alloc _).alloc _)); have HM3 : Hid (Mu [] w w3) := Lib.hid (((HM2.out.alloc _).alloc _).trans (grown_mu hgr (Value.slice A is.length c).ownBlock.toList (fun g e => by rw [e]; simp)) (fun x hx hl => by simp at hx; have := (hlt x hx).1; omega)); have HX3 : Hid (Rxs (w.heap.size + 1) v' is2 w3) := Lib.hid (by unfold Rxs; rw [HLL.out, HRow.out]; exact hown); clear hown hgrow hgr hlt)
        obtain ⟨A3, c3, rfl⟩ := rx_form HX3.out
        refine ⟨⟨is2, ge, HGM, Lib.hid (by have := HK.out; have := HLL.out; have := HEB.out; omega), Lib.hid (by have := HEB.out; have := HS.out; omega), HWA, HC3, HX3, HM3⟩, ?_⟩
        show code.size + 1 - is2.length < code.size + 1 - is.length
        have := HLL.out
        omega
    · have e1 : (code.size : Int) ≤ (k : Int) := by omega
      have HD := Lib.hid (HG.out.done hge)
      go_wp2_with fail
      go_ret
      rw [HD.out]
      obtain ⟨_, h2, h3⟩ := rx_rd HX.out HW.out
      exact ⟨⟨A, c, rfl, h2, h3, HM.out.below (Nat.le_refl _) (fun j hj => by cases hj)⟩, HK.out.2⟩
end Is
end Go.Proofs.YtblmagcekfbgdaaGreatDoor
namespace Go.Proofs.YtblmagcekfbgdaaGreatDoor
open Go Go.RowKit
namespace Is
open Nt
set_option linter.unusedVariables false
set_option linter.unusedSimpArgs false
/-- so far these have come, and here it stands -/
def DAt (s : ByteArray) (is : List Ins) (k : Nat) : Prop := ∃ f, s.size < k + f ∧ k ≤ s.size ∧ allD s = (is ++ (runL s f k).1, (runL s f k).2)
theorem DAt.start (s : ByteArray) : DAt s [] 0 := ⟨s.size + 1, by omega, by omega, rfl⟩
theorem DAt.stop {s : ByteArray} {is : List Ins} {k : Nat} (h : DAt s is k) (hd : decO s k = none) : allD s = (is, k) := by
  obtain ⟨f, h1, h2, h3⟩ := h
  cases f with
  | zero => omega
  | succ f =>
    rw [runL_none hd] at h3
    rw [h3]
    simp
theorem DAt.next {s : ByteArray} {is : List Ins} {k : Nat} {i : Ins} (h : DAt s is k) (hd : decO s k = some i) : DAt s (is ++ [i]) (k + (encL i).length) ∧ 1 ≤ (encL i).length ∧ (encL i).length ≤ 11 ∧ i.wf ∧ okI i = true ∧ k < s.size := by
  obtain ⟨f, h1, h2, h3⟩ := h
  have h4 := (decO_iff h2).1 hd
  have h5 := encl_ok i h4.1
  have h6 := h4.2.2.1
  cases f with
  | zero => omega
  | succ f =>
    refine ⟨⟨f, by omega, h6, ?_⟩, h5.2.1, h5.2.2, h4.2.1, h4.1, by omega⟩
    rw [h3, runL_some hd]
    simp
theorem decO_cases (s : ByteArray) (k : Nat) : decO s k = none ∨ ∃ i, decO s k = some i := by
  cases h : decO s k with
  | none => exact .inl rfl
  | some i => exact .inr ⟨i, rfl⟩
/-- what is told of all -/
def TellA (s : ByteArray) (w : World) (e : Ending) (w' : World) : Prop :=
  ∃ A c, e = .returned (.tuple #[.slice A (allD s).1.length c, .int .i64 ((allD s).2 : Int), .int .i64 (if (allD s).2 = s.size then 0 else 4)]) ∧ RdX w' w'.heap.size A (allD s).1.length (allD s).1 ∧ (allD s).1.length ≤ c ∧ Below w.heap.size w w'
/-- .. where an error stands -/
def TellU (s : ByteArray) (w : World) (e : Ending) (w' : World) : Prop :=
  ∃ A c, e = .returned (.tuple #[.slice A (allD s).1.length c, .int .i64 ((allD s).2 : Int), .int .i64 4]) ∧ RdX w' w'.heap.size A (allD s).1.length (allD s).1 ∧ (allD s).1.length ≤ c ∧ Below w.heap.size w w'
theorem rx_below {w w' : World} {B : Nat} {v : Value} {xs : List Ins} (h : Rxs B v xs w) (hb : Below w.heap.size w w') : Rxs B v xs w' := rx_mu h (Mu.of_below hb) (fun j hj => by cases hj)
set_option maxRecDepth 100000 in
set_option maxHeartbeats 4000000 in
theorem dup_l (code : ByteArray) (w : World) (hT : TabE w) (hs : code.size ≤ 400) (hno : (allD code).2 < code.size) :
    Calls Tryz.prog 19 #[.string code] w (TellU code w) := by
  have HS := Lib.hid hs
  have HT := Lib.hid hT
  have HNO := Lib.hid hno
  have hs4 : (code.size : Int) ≤ 400 := by omega
  obtain ⟨inf, hi, hz, q1, q2⟩ := info_parts info_inst
  clear hT hno
  go_enter Tryz.func19, Tryz.ntmps19
  go_wp2_with fail
  go_loopw [5, 6] (fun v u W => ∃ (is : List Ins) (k : Nat), u = .int .i64 (k : Int) ∧ Hid (DAt code is k) ∧ Hid (is.length ≤ k) ∧ Hid (k ≤ code.size) ∧ Hid (∀ i ∈ is, i.wf) ∧ Hid (Rxs w.heap.size v is W) ∧ Hid (Mu [] w W)) (fun _ u _ => code.size + 1 - (intOf u).toNat)
  case atStart => exact ⟨[], 0, rfl, Lib.hid (DAt.start code), Lib.hid (by simp), Lib.hid (by omega), Lib.hid (fun i hi => by cases hi), Lib.hid (World.ownsRow_nil _ _ _ _), Lib.hid (Mu.refl _ _)⟩
  case round =>
    obtain ⟨is, k, rfl, HD, HK, HKS, HW, HX, HM⟩ := hrel
    obtain ⟨A, c, rfl⟩ := rx_form HX.out
    have HI := Lib.hid (dInst_l code (k : Int) wr (HT.out.keep (HM.out.below (Nat.le_refl _) (fun j hj => by cases hj))) (i64e (by omega) (by have := HKS.out; omega)) (by omega))
    have hk4 : (k : Int) ≤ 400 := by have := HKS.out; omega
    have hk0 : (0 : Int) ≤ (k : Int) := by omega
    rcases decO_cases code k with hd | ⟨i, hd⟩
    · have HE := Lib.hid (HD.out.stop hd)
      have hkl : k < code.size := by have h1 := HNO.out; rw [HE.out] at h1; exact h1
      rw [rD_none hkl hd] at HI
      have HKL := Lib.hid hkl
      clear hd hkl
      unfold tD zI Ins.vs at HI
      dsimp only at HI
      go_wp2_with fail
      go_at_call 5
      refine HI.out.mono ?_
      rintro e w2 ⟨rfl, hb⟩
      have HX2 := Lib.hid ((rx_below HX.out hb).alloc (.cells #[.int .i64 0, .int .i64 0, .int .i64 0, .int .i64 0, .int .i64 0, .int .i64 0, .int .i64 0, .int .i64 0, .int .i64 0] 26))
      have HM2 : Hid (Mu [] w (w2.alloc (.cells #[.int .i64 0, .int .i64 0, .int .i64 0, .int .i64 0, .int .i64 0, .int .i64 0, .int .i64 0, .int .i64 0, .int .i64 0] 26))) := Lib.hid ((HM.out.trans (Mu.of_below hb) (fun x hx hl => by cases hx)).alloc _)
      clear hb
      go_wp2_with fail
      go_ret3
      obtain ⟨_, h2, h3⟩ := rx_rd HX2.out HW.out
      unfold TellU
      rw [HE.out]
      exact ⟨A, c, rfl, h2, h3, HM2.out.below (Nat.le_refl _) (fun j hj => by cases hj)⟩
    · obtain ⟨hnx, l1, l11, hwf, hok, hkl⟩ := HD.out.next hd
      rw [rD_some hkl hd] at HI
      have HNX := Lib.hid hnx
      have HWF := Lib.hid hwf
      have HRow : Hid (insRow (is ++ [i]) = insRow is ++ i.vs.toList) := Lib.hid (by rw [insRow_app, insRow_one])
      have HV9 := Lib.hid (fun W j u hu => vs_new9 W i j u hu)
      have HO9 := Lib.hid (vs_one9 i)
      have HLL : Hid ((is ++ [i]).length = is.length + 1) := Lib.hid (by simp)
      have HWA : Hid (∀ x ∈ is ++ [i], x.wf) := Lib.hid (fun x hx => by
        rcases List.mem_append.1 hx with h | h
        · exact HW.out x h
        · simp at h; rw [h]; exact HWF.out)
      have HKN : Hid (k + (encL i).length ≤ code.size) := Lib.hid (by obtain ⟨f, _, h, _⟩ := hnx; exact h)
      have hln : (k : Int) + ((encL i).length : Int) ≤ 400 := by have := HKN.out; omega
      have HL1 := Lib.hid l1
      have hl11 : ((encL i).length : Int) ≤ 11 := by omega
      have hlen : is.length + 1 ≤ 500 := by have := HK.out; have := HKS.out; omega
      clear hd hnx l1 l11 hwf hok hkl HD
      unfold tD at HI
      dsimp only at HI
      generalize is ++ [i] = is2 at *
      generalize (encL i).length = ln at *
      obtain ⟨i0, i1, i2, i3, i4, i5, i6, i7, i8⟩ := i
      unfold Ins.vs at HI HV9 HO9 HRow
      dsimp only at HI HV9 HO9 HRow
      go_wp2_with fail
      go_at_call 5
      refine HI.out.mono ?_
      rintro e w2 ⟨rfl, hb⟩
      have HX2 := Lib.hid (rx_below HX.out hb)
      have HM2 : Hid (Mu [] w w2) := Lib.hid (HM.out.trans (Mu.of_below hb) (fun x hx hl => by cases hx))
      have hsz2 : w.heap.size ≤ w2.heap.size := HM2.out.size
      clear hb
      go_wp2_with (at_builtin; go_loud (refine wpList_append_own_at _ rfl _ _ 30 rfl w.heap.size 26 inf _ 9 72 Tryz.underlying30 hi hz q1 q2 rfl (by decide) _ is.length _ rfl ((HX2.out.alloc _).alloc _) ⟨w2.heap.size + 1, 0, none⟩ 1 1 (#[.int .i64 i0, .int .i64 i1, .int .i64 i2, .int .i64 i3, .int .i64 i4, .int .i64 i5, .int .i64 i6, .int .i64 i7, .int .i64 i8] : Array Value).toList rfl rfl (by intro j u hu; have h := HV9.out (w2.alloc (.cells #[.int .i64 i0, .int .i64 i1, .int .i64 i2, .int .i64 i3, .int .i64 i4, .int .i64 i5, .int .i64 i6, .int .i64 i7, .int .i64 i8] 26)) j u hu; rw [World.size_alloc] at h; exact h) HO9.out (by simp only [maxLen]; omega) (by omega) (by simp; omega) ?_); intro v' w3 hown hgrow hnil hblk; clear hnil hblk; have hgr : ((w2.alloc (.cells #[.int .i64 i0, .int .i64 i1, .int .i64 i2, .int .i64 i3, .int .i64 i4, .int .i64 i5, .int .i64 i6, .int .i64 i7, .int .i64 i8] 26)).alloc (.cells #[.int .i64 i0, .int .i64 i1, .int .i64 i2, .int .i64 i3, .int .i64 i4, .int .i64 i5, .int .i64 i6, .int .i64 i7, .int .i64 i8] 26)).grownBy w3 (Value.slice A is.length c).ownBlock := hgrow; have hlt := World.ownsRow.lt HX2.out; have HM3 : Hid (Mu [] w w3) := Lib.hid (((HM2.out.alloc _).alloc _).trans (grown_mu hgr (Value.slice A is.length c).ownBlock.toList (fun g e => by rw [e]; simp)) (fun x hx hl => by simp at hx; have := (hlt x hx).1; omega)); have HX3 : Hid (Rxs w.heap.size v' is2 w3) := Lib.hid (by unfold Rxs; rw [HLL.out, HRow.out]; exact hown); clear hown hgrow hgr hlt)
      refine ⟨⟨is2, k + ln, by push_cast; rfl, HNX, Lib.hid (by have := HK.out; have := HLL.out; have := HL1.out; omega), HKN, HWA, HX3, HM3⟩, ?_⟩
      show code.size + 1 - (intOf (Value.int IntKind.i64 ((k : Int) + (ln : Int)))).toNat < code.size + 1 - (intOf (Value.int IntKind.i64 (k : Int))).toNat
      have := HL1.out
      have := HKN.out
      simp [intOf]
      omega
theorem gok_str {s : ByteArray} (h : allOk (gsD s) = true) : ((strU (catU (gsD s))).toList == s.toList) = gok s := by
  unfold gok
  rw [h, Bool.true_and, strU_list, toL8]
  rw [Bool.eq_iff_iff, beq_iff_eq, decide_eq_true_eq]
set_option maxRecDepth 100000 in
set_option maxHeartbeats 4000000 in
theorem dAll_l (code : ByteArray) (w : World) (hT : TabE w) (hs : code.size ≤ 400) : Calls Tryz.prog 7 #[.string code] w (TellA code w) := by
  have HG := Lib.hid (dguess_l code w hs)
  have HA := Lib.hid (fun A n c W hT h hn hc => all_l A n c (gsD code) W hT h hn hc)
  have HT := Lib.hid hT
  have HY := Lib.hid (fun h => gok_yes (s := code) h)
  have HN := Lib.hid (fun (W : World) hT h => dup_l code W hT hs (gok_no (s := code) h))
  have HS := Lib.hid hs
  have HSTR := Lib.hid (fun h => gok_str (s := code) h)
  have HSS : Hid (allS (gsD code) = if allOk (gsD code) then strU (catU (gsD code)) else ⟨#[]⟩) := Lib.hid rfl
  have HSE : Hid (allE (gsD code) = if allOk (gsD code) then 0 else 2) := Lib.hid rfl
  have HNF : Hid (allOk (gsD code) = false → gok code = false) := Lib.hid (fun h => by unfold gok; rw [h]; rfl)
  clear hT hs
  generalize allS (gsD code) = az at *
  generalize allE (gsD code) = ae at *
  generalize strU (catU (gsD code)) = sz at *
  generalize gsD code = gs at *
  generalize allOk gs = ok at *
  go_enter Tryz.func7, Tryz.ntmps7
  go_wp2_with fail
  go_at_call 17
  refine HG.out.mono ?_
  rintro e w1 ⟨⟨A, c, rfl, hr, hc, hb⟩, hl⟩
  have HR1 := Lib.hid hr
  have HB1 := Lib.hid hb
  have HCC := Lib.hid hc
  have HL4 : Hid (gs.length ≤ 400) := Lib.hid (by have := HS.out; omega)
  clear hr hc hb hl HG
  go_wp2_with fail
  go_at_call 18
  refine (HA.out A gs.length c w1 (HT.out.keep HB1.out) HR1.out HL4.out HCC.out).mono ?_
  rintro e w2 ⟨rfl, hb⟩
  have HR2 : Hid (RdX w2 w2.heap.size A gs.length gs) := Lib.hid (by
    obtain ⟨h1, h2, h3⟩ := HR1.out.below hb
    exact ⟨h1, h2, fun h0 => by obtain ⟨ad, e, h4, h5⟩ := h3 h0; exact ⟨ad, e, Nat.lt_of_lt_of_le h4 hb.size, h5⟩⟩)
  have HB2 : Hid (Below w.heap.size w w2) := Lib.hid (HB1.out.trans (hb.mono HB1.out.size))
  clear hb
  cases ok with
  | false =>
    rw [if_neg (by decide)] at HSS HSE
    obtain rfl := HSS.out
    obtain rfl := HSE.out
    have HF := Lib.hid (HNF.out rfl)
    go_wp2_with fail
    go_at_call 19
    refine (HN.out w2 (HT.out.keep HB2.out) HF.out).mono ?_
    rintro e w3 ⟨A3, c3, rfl, h1, h2, h3⟩
    have H1 := Lib.hid h1
    have H2 := Lib.hid h2
    have H3 := Lib.hid h3
    clear h1 h2 h3
    go_wp2_with fail
    go_ret3
    unfold TellA
    rw [if_neg (by have := gok_no HF.out; omega)]
    exact ⟨A3, c3, rfl, H1.out, H2.out, HB2.out.trans (H3.out.mono HB2.out.size)⟩
  | true =>
    rw [if_pos rfl] at HSS HSE
    obtain rfl := HSS.out
    obtain rfl := HSE.out
    have hq := HSTR.out rfl
    cases hg : gok code with
    | true =>
      rw [hg] at hq
      have HE := Lib.hid (HY.out hg)
      go_wp2_with fail
      go_ret3
      unfold TellA
      rw [HE.out, if_pos rfl]
      exact ⟨A, c, rfl, HR2.out, HCC.out, HB2.out⟩
    | false =>
      rw [hg] at hq
      have HF := Lib.hid hg
      clear hg
      go_wp2_with fail
      go_at_call 19
      refine (HN.out w2 (HT.out.keep HB2.out) HF.out).mono ?_
      rintro e w3 ⟨A3, c3, rfl, h1, h2, h3⟩
      have H1 := Lib.hid h1
      have H2 := Lib.hid h2
      have H3 := Lib.hid h3
      clear h1 h2 h3
      go_wp2_with fail
      go_ret3
      unfold TellA
      rw [if_neg (by have := gok_no HF.out; omega)]
      exact ⟨A3, c3, rfl, H1.out, H2.out, HB2.out.trans (H3.out.mono HB2.out.size)⟩
end Is
end Go.Proofs.YtblmagcekfbgdaaGreatDoor
