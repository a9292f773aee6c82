/- The examples of chapter 2, as every law asks them first. -/
import Derived.Test.YtdklchejnpaenaaDoorNatR3
import Derived.Test.YtdklchejnpaenaaDoorNatMul
import Derived.Test.YtdklchejnpaenaaDoorNatK
namespace Go.Proofs.YtdklchejnpaenaaDoor
open Go Go.RowKit
namespace Nt
open Wd Sti
set_option linter.unusedVariables false

theorem Is.of_list {l : List Int} {n : Int} (h : ∀ x ∈ l, W x) (ht : trim l = l) (hv : V l = n) : Is l n := ⟨h, ht, hv⟩
theorem below_alloc {w : World} (o : Obj) : Below w.heap.size w (w.alloc o) := (Below.refl _ w).alloc (Nat.le_refl _) o
theorem below_trans {a b c : World} (h : Below a.heap.size a b) (k : Below b.heap.size b c) : Below a.heap.size a c := h.trans (k.mono h.size)
theorem isFF : Is [255] 255 := ⟨fun x hx => by simp at hx; subst hx; unfold Wd.W; omega, by decide, by decide⟩
theorem textFF {zs : List Int} (h : Is zs 255) : hexes (V zs) (digs zs) = [102, 102] := by
  rw [h.uniq isFF]; decide +kernel
theorem isSq : Is [1, 18446744073709551614] (18446744073709551615 * 18446744073709551615) := ⟨fun x hx => by simp at hx; rcases hx with rfl | rfl <;> (unfold Wd.W; omega), by decide, by decide⟩
theorem hexV_trimLeft (l : List UInt8) : hexV (Lib.trimLeftB l 48) = hexV l := by
  unfold Lib.trimLeftB
  induction l with
  | nil => rfl
  | cons b l ih =>
    rw [List.dropWhile_cons]
    split
    · rename_i h
      have : b = 48 := by simpa using h
      subst this
      rw [ih]
      have h0 : dv_ (48 : UInt8).toNat = 0 := by decide
      simp only [hexV, h0]
      omega
    · rfl
/-- a text that is not empty, of digits alone, not too long -/
theorem read_ok (l : List UInt8) (w : World) (hx : isHex l) (hne : l ≠ []) (hl : l.length ≤ 8192) :
    Calls Tryd.prog 15 #[.string ⟨l.toArray⟩] w fun e w' => ∃ v, e = .returned (.tuple #[v, .int .i64 0]) ∧ Ans w w' v (hexV l) ((l.length + 15) / 16) := by
  have h := read_n ⟨l.toArray⟩ w (by show l.toArray.size ≤ _; rw [List.size_toArray]; omega) hne
  refine h.mono ?_
  intro e w' hp
  have hle : (Lib.trimLeftB l 48).length ≤ l.length := (List.dropWhile_sublist _).length_le
  obtain ⟨v, he, A, n, c, zs, h1, h2, h3, h4, h5, h6⟩ := hp.2.2 hx (Nat.le_trans hle hl)
  have h5' : c ≤ ((Lib.trimLeftB l 48).length + 15) / 16 := h5
  refine ⟨v, he, A, n, c, zs, h1, ?_, h3, h4, by omega, h6⟩
  rw [← hexV_trimLeft]; exact h2
set_option maxRecDepth 100000 in
set_option maxHeartbeats 2000000 in
theorem lives_c (w : World) : Calls Tryd.prog 10 #[] w fun e w' => e = .returned (.bool true) ∧ Below w.heap.size w w' := by
  have HR := fun w => Lib.hid (read_ok [48, 48, 70, 102] w (by unfold isHex; decide) (by decide) (by decide))
  rw [show hexV [48, 48, 70, 102] = 255 by decide] at HR
  go_enter Tryd.func10, Tryd.ntmps10
  go_wp2_with fail
  refine (HR _).out.mono ?_
  rintro e w1 ⟨v, rfl, A1, n1, c1, zs1, rfl, hI1, hR1, hc1, hm1, hb1⟩
  have hm1' : c1 ≤ 1 := hm1
  clear hm1
  have hA : Rd w1 w1.heap.size (some ⟨w.heap.size, 0, none⟩) 1 [18446744073709551615] := by
    have h0 : Bk (w.alloc (.cells (us [18446744073709551615]) 28)) w.heap.size 28 (us [18446744073709551615]) := Bk.new _ _ _
    exact ((h0.rd0 h0.lt (fun x hx => by simp at hx; subst hx; unfold Wd.W; omega) rfl).below hb1).more hb1.size
  have hB1 := below_trans (below_alloc _) hb1
  have HB1 := Lib.hid hB1
  have HM := Lib.hid (mul_n _ _ 1 1 1 1 _ _ w1 hA hA ⟨by omega, by omega⟩ (by omega) ⟨by omega, by omega⟩ (by omega))
  have HR1 := Lib.hid hR1
  have HI1 := Lib.hid hI1
  clear hA hB1 hb1 hR1 hI1 HR
  go_wp2_with fail
  go_at_call 19
  refine HM.out.mono ?_
  rintro e w2 ⟨v, rfl, A2, n2, c2, zs2, rfl, hI2, hR2, hc2, hm2, hb2⟩
  have hm2' : c2 ≤ 2 := hm2
  clear hm2 HM
  have hz2 : zs2 = [1, 18446744073709551614] := hI2.uniq (by
    have := isSq
    have e : V [18446744073709551615] * V [18446744073709551615] = 18446744073709551615 * 18446744073709551615 := by decide
    rw [e]; exact this)
  subst hz2
  have h3 : Bk (w2.alloc (.cells (us [1, 18446744073709551614]) 28)) w2.heap.size 28 (us [1, 18446744073709551614]) := Bk.new _ _ _
  have hb3 := below_trans hb2 (below_alloc (.cells (us [1, 18446744073709551614]) 28))
  have HS := Lib.hid (same_c A2 (some ⟨w2.heap.size, 0, none⟩) n2 c2 2 2 _ _ _ _ (w2.alloc (.cells (us [1, 18446744073709551614]) 28)) (hR2.below (below_alloc _)) (h3.rd0 h3.lt hI2.ws rfl) (by omega) (by omega))
  rw [decide_eq_true rfl] at HS
  have HB2 := Lib.hid (below_trans HB1.out hb3)
  have HR2 := Lib.hid ((HR1.out.below hb3).more hb3.size)
  clear h3 hb3 hb2 hR2 hI2 HB1 HR1
  go_wp2_with fail
  go_at_call 20
  refine HS.out.mono ?_
  rintro e w3 ⟨rfl, q, rfl⟩
  have HT := Lib.hid (text_n A1 n1 c1 zs1 _ (HR2.out.drewN q) ⟨hc1, by omega⟩ (by omega))
  rw [textFF HI1.out] at HT
  have HB3 := Lib.hid (below_drewN HB2.out q)
  clear HB2 HR2 HS
  go_wp2_with fail
  go_at_call 17
  refine HT.out.mono ?_
  rintro e w4 ⟨rfl, hb4⟩
  have HB4 := Lib.hid (below_trans HB3.out hb4)
  clear HB3 hb4 HT
  go_wp2_with fail
  go_ret
  exact ⟨rfl, HB4.out⟩
end Nt
end Go.Proofs.YtdklchejnpaenaaDoor
