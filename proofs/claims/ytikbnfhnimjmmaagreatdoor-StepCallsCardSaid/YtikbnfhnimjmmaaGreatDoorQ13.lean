/- The landed package's Store. -/
import Derived.Test.YtikbnfhnimjmmaaGreatDoorQ11
import Derived.Laws.IdiomCopy
namespace Go.Proofs.YtikbnfhnimjmmaaGreatDoor
open Go Go.RowKit Go.Shelf Go.Sort
namespace Mm
open Wd Nt
set_option linter.unusedVariables false
theorem wpList_cpy {P : Program} {w : World} {ops : Array Oper} {rest : List Oper} {o : Oper} {a : Act} {Q : Exit → Act → World → Prop} (hgd : o.guard = none) (s x : Operand) (t : TypeId)
    (ho : o.op = .call { callee := .builtin .copy, args := #[s, x], argTypes := #[t, t] }) (v sx : Value) (hs : a.eval s = v) (hx : a.eval x = sx) (v' : Value) (w' : World)
    (hrun : (Builtin.copy_ #[t, t] o.type #[v, sx]).run P w = .ok v' w') (h : wpList P ops Q rest (a.put o.dst v') w') : wpList P ops Q (o :: rest) a w :=
  wpList_plain hgd fun _ hK => by
    unfold Oper.wp execOp
    simp only [ho, resolve, invoke, builtin, Sem.run_bind, Sem.run_pure, Result.andThen_ok, List.map_toArray, List.map_cons, List.map_nil, hs, hx, hrun]
    exact hK _ _ h
def setL (xs : List Value) : Nat → List Value → List Value
  | _, [] => xs
  | s, v :: r => setL (xs.set s v) (s + 1) r
theorem own_cells {B g n c : Nat} {e : TypeId} : ∀ (vs : List Value) (s : Nat) (w : World) (xs : List Value), w.ownsRow B e 1 (.slice (some ⟨g, 0, none⟩) n c) n xs →
    (w.setCells g s vs).ownsRow B e 1 (.slice (some ⟨g, 0, none⟩) n c) n (setL xs s vs) ∧ w.grownBy (w.setCells g s vs) (some g)
  | [], s, w, xs, h => ⟨h, grown_of_below (Below.refl _ _) _⟩
  | v :: r, s, w, xs, h => by
    obtain ⟨h1, h2⟩ := h.stored s v
    obtain ⟨h3, h4⟩ := own_cells r (s + 1) _ _ h1
    exact ⟨h3, grown_trans h2 h4⟩
def wordCells (v : Int) : List Value := [.int .u8 (byteOf v 0), .int .u8 (byteOf v 1), .int .u8 (byteOf v 2), .int .u8 (byteOf v 3), .int .u8 (byteOf v 4), .int .u8 (byteOf v 5), .int .u8 (byteOf v 6), .int .u8 (byteOf v 7)]
theorem setL_word (bs : List Int) (d : Nat) (v : Int) : setL (b8 bs) d (wordCells v) = b8 (putN bs d v 8) := by
  unfold wordCells
  simp only [setL, b8_set, putN, Nat.add_zero, Nat.add_assoc, Nat.reduceAdd]
theorem rising_put {M : List Reg} {i : Nat} {r s : Reg} (h : Rising M) (hi : M[i]? = some r) (hb : s.base = r.base) : Rising (M.set i s) := by
  unfold Rising at *
  rw [pairwise_get] at h ⊢
  intro a b x y hx hy hab
  have key : ∀ (j : Nat) (z : Reg), (M.set i s)[j]? = some z → ∃ u, M[j]? = some u ∧ z.base = u.base := by
    intro j z hj
    rcases set_get hi hj with ⟨rfl, rfl⟩ | ⟨_, h⟩
    · exact ⟨r, hi, hb⟩
    · exact ⟨z, h, rfl⟩
  obtain ⟨u, g1, g2⟩ := key a x hx
  obtain ⟨u', g3, g4⟩ := key b y hy
  rw [g2, g4]; exact h a b u u' g1 g3 hab
/-- a word laid into a region's bytes -/
theorem LndM.put {w : World} {B E D i d n c : Nat} {v : Value} {os : List OReg} {o : OReg} {M : List Reg} {p x : Int} (hO : OwnI w B E v os) (hD : Bk w D 118 #[.pointer (some ⟨D, 0, none⟩), v]) (hB : B ≤ D) (hE : D < E) (hM : os.map (·.r) = M)
    (ho : os[i]? = some o) (hd : p - o.r.base = (d : Int)) (hs : StoreO M p x (M.set i (o.r.put p x)) 0) (hG : Good M) (hR : Rising M) :
    Kp B E w (w.setCells o.g d (wordCells x)) ∧ LndM (w.setCells o.g d (wordCells x)) B E (.pointer (some ⟨D, 0, none⟩)) (M.set i (o.r.put p x)) := by
  have hm := List.mem_of_getElem? ho
  have hrow := hO.own.each o hm
  obtain ⟨h1, h2⟩ := own_cells (wordCells x) d w _ hrow
  rw [setL_word] at h1
  have hlt := hO.own.lt hm
  have hT := hO.turn ho (bs := putN o.r.bytes d x 8) (putN_len _ _ _ _) (putN_bs (hO.own.oks o hm).bytes _ _ _) h1 h2
  have hne : D ≠ o.g := bk_ne (g := o.g) hD hrow rfl (by decide)
  refine ⟨Kp.grown h2 hlt.1 (hO.each o hm), ⟨⟨D, v, _, rfl, (h2.block D hD.lt (fun e => hne (by cases e; rfl))).trans hD, hB, hE, hT, ?_⟩, hs.good hG, rising_put (r := o.r) hR (by rw [← hM, List.getElem?_map, ho]; rfl) rfl⟩⟩
  rw [List.map_set, hM]
  unfold Reg.put
  rw [hd, Int.toNat_natCast]
set_option maxRecDepth 100000 in
set_option maxHeartbeats 2000000 in
theorem store_c {w : World} {B E : Nat} {P : Value} {M : List Reg} (p x : Int) (h : Hid (LndM w B E P M)) (hp : W p) (hx : W x) :
    Calls Tryz.prog 116 #[P, .int .u64 p, .int .u64 x] w (StoreP LndM B E P M p x w) := by
  obtain ⟨D, v, os, rfl, hD, hBD, hDE, hO, hM⟩ := h.out.ex
  have hG : Good (os.map (·.r)) ∧ Rising (os.map (·.r)) := by rw [hM]; exact ⟨h.out.good, h.out.rise⟩
  have HM := Lib.hid hM
  have HG := Lib.hid h.out.good
  have HRI := Lib.hid h.out.rise
  have HMD := Lib.hid (made_c (hD.cell 0))
  have H1 := Lib.hid (from_c p hp (Lib.hid hO) (Lib.hid hD) (Lib.hid hG))
  have HS := Lib.hid (fun W => split_c x hx W)
  have HO := Lib.hid hO
  have HDB := Lib.hid hD
  have HBD := Lib.hid (And.intro hBD hDE)
  clear hD hO hG hM hp hx hBD hDE
  go_enter Tryz.func116, Tryz.ntmps116
  go_wp2_with fail
  go_at_call 81
  refine HMD.out.mono ?_
  rintro e w1 ⟨rfl, rfl⟩
  go_wp2_with fail
  go_at_call 186
  refine H1.out.mono ?_
  rintro e w2 ⟨hb2, ⟨hno, rfl⟩ | ⟨i, o, d, ho, hd, hdl, rfl⟩⟩
  · have HNO := Lib.hid hno
    have HB := Lib.hid hb2
    clear hno hb2 H1 HMD
    go_wp2_with fail
    go_ret
    exact ⟨Kp.of HB.out, M, 11, rfl, .inr ⟨fun i r hh => absurd hh (none_hits HM.out HNO.out i r), rfl, rfl⟩, h.out.below HB.out⟩
  · have HB := Lib.hid hb2
    have hm := List.mem_of_getElem? ho
    have hrm := sl_room (HO.out.own.each o hm)
    have hsh := HG.out.short i o.r (by rw [← HM.out, List.getElem?_map, ho]; rfl)
    have hsh' : o.r.bytes.length ≤ 1048576 := by unfold Reg.len at hsh; omega
    have HOI := Lib.hid ho
    have HD := Lib.hid hd
    have HDL := Lib.hid hdl
    obtain ⟨m, hm1⟩ : ∃ m, m = o.r.bytes.length - d := ⟨_, rfl⟩
    obtain ⟨c, hc1⟩ : ∃ c, c = o.c - d := ⟨_, rfl⟩
    rw [← hm1, ← hc1]
    have hmc : m ≤ c := by omega
    have hcm : c ≤ 9223372036854775807 := by omega
    have HM1 := Lib.hid hm1
    rcases Nat.lt_or_ge m 8 with hlt | hge
    · have HNH : Hid (∀ i r, ¬ Hits M p 8 i r) := Lib.hid (few_hits HG.out HM.out HOI.out HD.out HDL.out (by omega))
      have hlti : (m : Int) < 8 := by omega
      clear hb2 hm hrm hsh hsh' ho hd hdl hm1 hc1 H1 HMD
      go_wp2_with fail
      go_ret
      exact ⟨Kp.of HB.out, M, 11, rfl, .inr ⟨fun i r hh => absurd hh (HNH.out i r), rfl, rfl⟩, h.out.below HB.out⟩
    · have hgei : (8 : Int) ≤ (m : Int) := by omega
      have HH : Hid (Hits M p 8 i o.r) := Lib.hid (some_hits HM.out HOI.out HD.out HDL.out (by omega))
      cases hw : o.r.write with
      | false =>
        have HNW : Hid (∀ j s, Hits M p 8 j s → s.write = false) := Lib.hid (fun j s hs => by
          obtain ⟨_, rfl⟩ := HH.out.uniq HG.out hs; exact hw)
        clear hb2 hm hrm hsh hsh' ho hd hdl hm1 hc1 H1 HMD hw
        go_wp2_with fail
        go_ret
        exact ⟨Kp.of HB.out, M, 11, rfl, .inr ⟨HNW.out, rfl, rfl⟩, h.out.below HB.out⟩
      | true =>
        have HST : Hid (StoreO M p x (M.set i (o.r.put p x)) 0) := Lib.hid (.inl ⟨i, o.r, HH.out, hw, rfl, rfl⟩)
        clear hb2 hm hrm hsh hsh' ho hd hdl hc1 H1 HMD hw hm1
        go_wp2_with fail
        go_at_call 188
        refine (HS.out _).mono ?_
        rintro e w3 ⟨rfl, hb3⟩
        unfold wordAgg
        have HB3 : Hid (Below w1.heap.size w1 (w3.alloc (.cells (wordCells x).toArray 243))) := Lib.hid (by
          have h1 := bel_trans HB.out hb3
          exact h1.alloc h1.size _)
        have HO4 := Lib.hid (HO.out.below HB3.out)
        have HD4 := Lib.hid (HDB.out.below HB3.out HDB.out.lt)
        have hP := HO4.out.own.each o (List.mem_of_getElem? HOI.out)
        have hcp := run_copy_cells (P := Tryz.prog) (w3.alloc (.cells (wordCells x).toArray 243)) 104 104 3 5 o.g d m c ⟨w3.heap.size, 0, none⟩ 8 8 (wordCells x) Tryz.underlying104 (by kernel_rfl) (by show 8 = min 8 m; omega)
          (fun j v hv => by rw [add_at, Nat.zero_add, World.cell?_alloc_at _ _ _ _ (by simp)]; simpa using hv)
          (fun j hj => by
            have hj8 : j < 8 := hj
            have h1 := HM1.out
            have h2 := HDL.out
            unfold OReg.sl at hP
            rw [hP.cellAt (d + j) (by omega), b8_get (by omega)]; rfl)
          (fun j hj => by unfold OReg.sl at hP; exact hP.frozenAt (d + j))
          (fun v hv => by unfold wordCells at hv; simp only [List.mem_cons, List.not_mem_nil, or_false] at hv; rcases hv with rfl | rfl | rfl | rfl | rfl | rfl | rfl | rfl <;> rfl)
        have HF := Lib.hid (LndM.put (n := 0) (c := 0) HO4.out HD4.out HBD.out.1 HBD.out.2 HM.out HOI.out HD.out HST.out HG.out HRI.out)
        have HKB : Hid (Kp B E w1 (w3.alloc (.cells (wordCells x).toArray 243))) := Lib.hid (Kp.of HB3.out)
        clear hP hb3
        unfold wordCells at hcp
        go_wp2_with (at_builtin; refine wpList_cpy rfl _ _ 104 rfl _ _ rfl rfl _ _ hcp ?_)
        go_ret
        exact ⟨HKB.out.trans HF.out.1, _, 0, rfl, HST.out, HF.out.2⟩
end Mm
end Go.Proofs.YtikbnfhnimjmmaaGreatDoor
