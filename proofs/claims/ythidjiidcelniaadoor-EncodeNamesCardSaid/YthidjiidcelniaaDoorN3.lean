/- The document's own All. -/
import Derived.Test.YthidjiidcelniaaDoorN2
namespace Go.Proofs.YthidjiidcelniaaDoor
open Go Go.RowKit
namespace Is
open Nt
set_option linter.unusedVariables false
set_option linter.unusedSimpArgs false
theorem cat_snoc (xs : List Ins) (i : Ins) : catU (xs ++ [i]) = catU xs ++ encL i := by
  induction xs with
  | nil => simp [catU]
  | cons x xs ih => simp [catU, ih, List.append_assoc]
theorem cat_len (xs : List Ins) (h : allOk xs = true) : (catU xs).length ≤ 11 * xs.length := by
  induction xs with
  | nil => simp [catU]
  | cons x xs ih =>
    unfold allOk at h
    simp only [List.all_cons, Bool.and_eq_true] at h
    have h1 := ih h.2
    have h2 := (encl_ok x h.1).2.2
    simp only [catU, List.length_append, List.length_cons]
    omega
theorem allOk_snoc (xs : List Ins) (i : Ins) : allOk (xs ++ [i]) = (allOk xs && okI i) := by unfold allOk; simp
theorem take_snoc {xs : List Ins} {j : Nat} {i : Ins} (h : xs[j]? = some i) : xs.take (j + 1) = xs.take j ++ [i] := by
  rw [List.take_add_one, h]; rfl
theorem all_out {xs : List Ins} {j : Nat} {i : Ins} (h : xs[j]? = some i) (hk : okI i = false) : allOk xs = false := by
  unfold allOk
  rw [List.all_eq_false]
  exact ⟨i, List.mem_of_getElem? h, by rw [hk]; decide⟩
theorem ByteArray.app_strU (xs ys : List Int) : strU xs ++ strU ys = strU (xs ++ ys) := strU_app xs ys
set_option maxRecDepth 100000 in
set_option maxHeartbeats 4000000 in
theorem rall_c (A : Option Addr) (n c : Nat) (is : List Ins) (w : World) (h : RdX w w.heap.size A n is) (hn : n ≤ 40) (hc : n ≤ c) : Calls Tryd.prog 14 #[.slice A n c] w fun e w' => e = .returned (.tuple #[.string (allS is), .int .i64 (allE is)]) ∧ Below w.heap.size w w' := by
  have HR := Lib.hid h
  have HN := Lib.hid hn
  clear h hn
  go_enter Tryd.func14, Tryd.ntmps14
  go_wp2_with fail
  go_loopw [4, 5] (fun v i W => ∃ (j : Nat) (o : ByteArray), j ≤ n ∧ i = .int .i64 (j : Int) ∧ v = .string o ∧ Hid (o = strU (catU (is.take j))) ∧ Hid (allOk (is.take j) = true) ∧ Hid (Below w.heap.size w W)) (fun _ i _ => n - (intOf i).toNat)
  case atStart => exact ⟨0, _, by omega, rfl, rfl, Lib.hid rfl, Lib.hid rfl, Lib.hid (Below.refl _ _)⟩
  case round =>
    obtain ⟨j, o, hj, rfl, rfl, HO, HK, HW⟩ := hrel
    rcases Nat.lt_or_ge j n with hjn | hjn
    · have e1 : (j : Int) < (n : Int) := by omega
      have hn40 : (n : Int) ≤ 40 := by have := HN.out; omega
      have hj40 : (j : Int) < 41 := by omega
      have e0 : (0 : Int) ≤ (j : Int) := by omega
      obtain ⟨ad, rfl, hB, hrd⟩ := HR.out.rd (by omega)
      have hil : j < is.length := by rw [HR.out.len]; exact hjn
      obtain ⟨i, hi⟩ : ∃ i, is[j]? = some i := ⟨_, List.getElem?_eq_getElem hil⟩
      have hbb : (ad.add (j * 9)).block < w.heap.size := by rw [Nt.block_add]; exact hB
      obtain ⟨g0, g1, g2, g3, g4, g5, g6, g7, g8⟩ := hrd j i hi
      have k0 := (HW.out.cell hbb).trans g0
      have k1 := (HW.out.cell (p := ⟨(ad.add (j * 9)).block, (ad.add (j * 9)).off + 1, none⟩) hbb).trans g1
      have k2 := (HW.out.cell (p := ⟨(ad.add (j * 9)).block, (ad.add (j * 9)).off + 2, none⟩) hbb).trans g2
      have k3 := (HW.out.cell (p := ⟨(ad.add (j * 9)).block, (ad.add (j * 9)).off + 3, none⟩) hbb).trans g3
      have k4 := (HW.out.cell (p := ⟨(ad.add (j * 9)).block, (ad.add (j * 9)).off + 4, none⟩) hbb).trans g4
      have k5 := (HW.out.cell (p := ⟨(ad.add (j * 9)).block, (ad.add (j * 9)).off + 5, none⟩) hbb).trans g5
      have k6 := (HW.out.cell (p := ⟨(ad.add (j * 9)).block, (ad.add (j * 9)).off + 6, none⟩) hbb).trans g6
      have k7 := (HW.out.cell (p := ⟨(ad.add (j * 9)).block, (ad.add (j * 9)).off + 7, none⟩) hbb).trans g7
      have k8 := (HW.out.cell (p := ⟨(ad.add (j * 9)).block, (ad.add (j * 9)).off + 8, none⟩) hbb).trans g8
      have HI := Lib.hid (fun W => rinst_c i W)
      have HSN := Lib.hid (take_snoc hi)
      have HJN := Lib.hid hjn
      have HIS := Lib.hid hi
      clear g0 g1 g2 g3 g4 g5 g6 g7 g8 hrd hil hB hjn hi
      rcases chk_01 i with ⟨hk, he⟩ | ⟨hk, he⟩
      · have hadd : o.size + (encS i).size ≤ 9223372036854775807 := by
          have h1 := cat_len _ HK.out
          have h2 := (encl_ok i hk).2.2
          have h3 := List.length_take_le j is
          rw [HO.out, size_strU, encS_len hk]
          have := HN.out
          have := HJN.out
          have h4 : (is.take j).length ≤ j := h3
          omega
        have hadd2 : (o ++ encS i).size = o.size + (encS i).size := ByteArray.size_append
        have HO2 : Hid (o ++ encS i = strU (catU (is.take (j + 1)))) := Lib.hid (by
          rw [HSN.out, cat_snoc, HO.out, ← strU_app]
          congr 1
          unfold encS; rw [hk]; rfl)
        have HK2 : Hid (allOk (is.take (j + 1)) = true) := Lib.hid (by rw [HSN.out, allOk_snoc, HK.out, hk]; rfl)
        rw [he] at HI
        clear hk he
        generalize encS i = s at *
        obtain ⟨op, d, s', t, b, x, sc, di, im⟩ := i
        unfold Ins.vs at *
        dsimp only at *
        go_wp2_with fail
        go_at_call 13
        refine (HI.out _).mono ?_
        rintro e w1 ⟨rfl, hb1⟩
        have HW1 : Hid (Below w.heap.size w w1) := Lib.hid (HW.out.trans (hb1.mono HW.out.size))
        clear hb1 k0 k1 k2 k3 k4 k5 k6 k7 k8
        go_wp2_with fail
        go_roundw
        case rel => exact ⟨j + 1, _, by have := HJN.out; omega, by (try simp (disch := omega) only [IntWalk.wrap64_in]); go_num, rfl, HO2, HK2, HW1⟩
        case measure => (have := HJN.out; (try simp (disch := omega) only [IntWalk.wrap64_in] at *); simp [intOf] <;> omega)
      · have hz : encS i = ⟨#[]⟩ := by unfold encS; rw [hk]; rfl
        have HF := Lib.hid (all_out HIS.out hk)
        rw [he, hz] at HI
        clear hk he hz
        obtain ⟨op, d, s', t, b, x, sc, di, im⟩ := i
        unfold Ins.vs at *
        dsimp only at *
        go_wp2_with fail
        go_at_call 13
        refine (HI.out _).mono ?_
        rintro e w1 ⟨rfl, hb1⟩
        have HW1 : Hid (Below w.heap.size w w1) := Lib.hid (HW.out.trans (hb1.mono HW.out.size))
        clear hb1 k0 k1 k2 k3 k4 k5 k6 k7 k8
        go_wp2_with fail
        go_ret2
        exact ⟨by unfold allS allE; rw [HF.out]; rfl, HW1.out⟩
    · obtain rfl : j = n := by omega
      go_wp2_with fail
      go_ret2
      have ht : is.take j = is := List.take_of_length_le (by rw [HR.out.len]; exact Nat.le_refl _)
      have h1 := HK.out
      have h2 := HO.out
      rw [ht] at h1 h2
      exact ⟨by unfold allS allE; rw [h1, h2]; rfl, HW.out⟩
end Is
end Go.Proofs.YthidjiidcelniaaDoor
