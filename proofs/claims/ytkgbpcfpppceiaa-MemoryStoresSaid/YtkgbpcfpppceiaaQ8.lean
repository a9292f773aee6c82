/- The landed package's copies: the regions by their first addresses, their bytes one's own. -/
import Derived.Test.YtkgbpcfpppceiaaQ7
namespace Go.Proofs.Ytkgbpcfpppceiaa
open Go Go.RowKit Go.Shelf Go.Sort
namespace Mm
open Wd Nt
set_option linter.unusedVariables false
/-- bytes of one's own, the same -/
def CloP (x : Cel) (w : World) (e : Ending) (w' : World) : Prop := ∃ g c', e = .returned (.slice (some ⟨g, 0, none⟩) x.n c') ∧ w'.ownsRow w.heap.size 5 1 (.slice (some ⟨g, 0, none⟩) x.n c') x.n (b8 x.r.bytes) ∧ Below w.heap.size w w'
theorem clone_c {w : World} {B : Nat} {x : Cel} (h : CelOk w B x) (h0 : 0 < x.n) (hn : x.n ≤ 1048576) : Calls Try.prog 41 #[.slice x.A x.n x.c] w (CloP x w) := by
  obtain ⟨ad, hA, hb, hc⟩ := h.rd.rd h0
  have hsp : ad = ⟨ad.block, ad.off, none⟩ := by
    have h1 := hc 0 h0
    have e : ad.add 0 = ad := by unfold Addr.add; simp
    rw [e] at h1
    exact spot_none h1
  obtain ⟨i, hi, hz, h1, h2⟩ := info_parts info_u8
  have hcon := AnyE.slices_Clone Try.clone8 i (.int .u8 0) 1 1 hi hz h1 h2 rfl (by omega) Try.sizeOf5 ad.block ad.off x.n x.c (b8 x.r.bytes) w (by rw [b8_len, h.rd.len, Nat.mul_one]) (by simp only [maxLen]; omega) (by omega)
    (fun j u hu => by
      have hj : j < x.r.bytes.length := by rw [← b8_len]; exact (List.getElem?_eq_some_iff.1 hu).1
      rw [b8_get hj] at hu
      rw [← hu]
      have h3 := hc j (by rw [← h.rd.len]; exact hj)
      rw [hsp, add_at] at h3
      exact h3)
    (fun u hu => by obtain ⟨z, _, rfl⟩ := List.mem_map.1 hu; simp [Value.oneCell'])
  rw [← hsp, ← hA] at hcon
  refine Calls.mono hcon ?_
  rintro e w' ⟨v', rfl, hown, hne, hbl⟩
  rcases hown.2 with ⟨e0, _⟩ | ⟨g, c', cur, rfl, hg⟩
  · exact absurd e0 hne
  · exact ⟨g, c', rfl, hown, hbl⟩
/-- a row of one's own, the first regions' bytes one's own, the others' where they were -/
structure Mix (w : World) (B : Nat) (v : Value) (os : List OReg) (ys : List Cel) : Prop where
  row : w.ownsRow B 31 3 v (os.length + ys.length) (rowOf os ++ celRow ys)
  each : ∀ o ∈ os, w.ownsRow B 5 1 o.sl o.r.bytes.length (b8 o.r.bytes)
  apart : (os.map (·.g)).Nodup
  oks : ∀ o ∈ os, o.r.ok
theorem mix_set {os : List OReg} {x : Cel} {rest : List Cel} {g c : Nat} (hl : x.n = x.r.bytes.length) : (rowOf os ++ celRow (x :: rest)).set (os.length * 3 + 1) (.slice (some ⟨g, 0, none⟩) x.n c) = rowOf (os ++ [⟨x.r, g, c⟩]) ++ celRow rest := by
  rw [rowOf_append, rowOf_one, List.append_assoc, ← rowOf_len, set_app]
  show rowOf os ++ (x.vs ++ celRow rest).set 1 _ = rowOf os ++ (OReg.cells ⟨x.r, g, c⟩ ++ celRow rest)
  unfold OReg.cells OReg.sl
  rw [hl]
  rfl
theorem mix_get {os : List OReg} {x : Cel} {rest : List Cel} {d : Nat} (hd : d < 3) : (rowOf os ++ celRow (x :: rest))[os.length * 3 + d]? = x.vs[d]? := by
  rw [List.getElem?_append_right (by rw [rowOf_len]; omega), rowOf_len, show os.length * 3 + d - os.length * 3 = 0 * 3 + d by omega]
  exact celRow_get rfl hd
theorem Mix.step {wr w2 : World} {B G n c0 g c' : Nat} {os : List OReg} {x : Cel} {rest : List Cel} (h : Mix wr B (.slice (some ⟨G, 0, none⟩) n c0) os (x :: rest)) (hB : B ≤ wr.heap.size)
    (hb : Below wr.heap.size wr w2) (ho : w2.ownsRow wr.heap.size 5 1 (.slice (some ⟨g, 0, none⟩) x.n c') x.n (b8 x.r.bytes)) (hok : x.r.ok) (hl : x.n = x.r.bytes.length) (hn : os.length + (x :: rest).length = n) :
    Mix (w2.setCell ⟨G, os.length * 3 + 1, none⟩ (.slice (some ⟨g, 0, none⟩) x.n c')) B (.slice (some ⟨G, 0, none⟩) n c0) (os ++ [⟨x.r, g, c'⟩]) rest ∧ w2.grownBy (w2.setCell ⟨G, os.length * 3 + 1, none⟩ (.slice (some ⟨g, 0, none⟩) x.n c')) (some G) := by
  have hrow1 := h.row
  rw [hn] at hrow1
  have hrow2 := hrow1.kept (grown_of_below hb none) (.inr (by simp [Value.ownBlock]))
  obtain ⟨hst, hgr⟩ := hrow2.stored (os.length * 3 + 1) (.slice (some ⟨g, 0, none⟩) x.n c')
  rw [mix_set hl] at hst
  have hG : G < wr.heap.size := (h.row.lt G rfl).2
  have hsl : (⟨x.r, g, c'⟩ : OReg).sl = .slice (some ⟨g, 0, none⟩) x.n c' := by unfold OReg.sl; rw [hl]
  have hg : wr.heap.size ≤ g := (ho.lt g rfl).1
  refine ⟨⟨?_, fun o hO => ?_, ?_, fun o hO => ?_⟩, hgr⟩
  · have e : (os ++ [(⟨x.r, g, c'⟩ : OReg)]).length + rest.length = os.length + (x :: rest).length := by simp; omega
    rw [e, hn]; exact hst
  · rcases List.mem_append.1 hO with hO | hO
    · have h1 := (h.each o hO).kept (grown_of_below hb none) (.inr (by simp [OReg.sl, Value.ownBlock]))
      exact h1.kept hgr (.inr (fun e => own_type h1 hrow2 (by decide) (k := o.g) rfl (by show some G = some o.g; exact e.symm)))
    · obtain rfl : o = ⟨x.r, g, c'⟩ := by simpa using hO
      rw [hsl]
      show World.ownsRow _ B _ 1 _ x.r.bytes.length (b8 x.r.bytes)
      rw [← hl]
      exact (ownsRow_base ho hB).kept hgr (.inr (by simp [Value.ownBlock]; omega))
  · rw [List.map_append, List.nodup_append]
    refine ⟨h.apart, by simp, fun a ha b hb' => ?_⟩
    obtain ⟨p, hp, rfl⟩ := List.mem_map.1 ha
    obtain rfl : b = g := by simpa using hb'
    have h1 := ((h.each p hp).lt p.g rfl).2
    omega
  · rcases List.mem_append.1 hO with hO | hO
    · exact h.oks o hO
    · obtain rfl : o = ⟨x.r, g, c'⟩ := by simpa using hO
      exact hok
theorem Mix.done {w : World} {B : Nat} {v : Value} {os : List OReg} (h : Mix w B v os []) : OwnR w B v os := ⟨by have h1 := h.row; simpa [celRow] using h1, h.each, h.apart, h.oks⟩
set_option maxRecDepth 100000 in
set_option maxHeartbeats 4000000 in
theorem copies_c (A : Option Addr) (n c : Nat) (rs : List Reg) (w : World) (h : Hid (AtR w A n rs)) (hG : Good rs) :
    Calls Try.prog 27 #[.slice A n c] w (OwnP rs w) := by
  have HLEN := Lib.hid h.out.len
  have HG := Lib.hid hG
  have hn8 : n ≤ 8 := by rw [← HLEN.out]; exact hG.few
  obtain ⟨xs, hxs⟩ := h.out.cels
  have HX := Lib.hid hxs
  have H1 := Lib.hid (byAddr_c A n c rs xs w HX (by omega))
  clear hxs hG h
  go_enter Try.func27, Try.ntmps27
  go_wp2_with fail
  go_at_call 39
  refine H1.out.mono ?_
  rintro e w1 ⟨v, ys, rfl, hp, hs, ho, hb⟩
  have hyl : ys.length = n := by rw [hp.length_eq, HX.out.len]
  have HYL := Lib.hid hyl
  have HP := Lib.hid hp
  have HS := Lib.hid hs
  have HB := Lib.hid hb
  have HOK : Hid (∀ y ∈ ys, CelOk w w.heap.size y ∧ 0 < y.n ∧ y.n ≤ 1048576 ∧ y.n = y.r.bytes.length) := Lib.hid (fun y hy => by
    have hx := HP.out.mem_iff.1 hy
    have hok := HX.out.ok y hx
    have hm : y.r ∈ rs := by rw [← HX.out.regs]; exact List.mem_map.2 ⟨y, hx, rfl⟩
    obtain ⟨i, hi⟩ := getElem?_of_mem hm
    have h1 := HG.out.pos i _ hi
    have h2 := HG.out.short i _ hi
    have h3 := HX.out.len_of hx
    exact ⟨hok, by omega, by omega, hok.rd.len.symm⟩)
  obtain ⟨A0, c0, rfl⟩ : ∃ A0 c0, v = .slice A0 n c0 := by
    rcases ho.2 with ⟨e1, hz⟩ | ⟨g, c0, cur, e1, _⟩
    · exact ⟨none, 0, by rw [e1]; congr 1; omega⟩
    · exact ⟨_, c0, by rw [e1, hyl]⟩
  have HM : Hid (Mix w1 w.heap.size (.slice A0 n c0) [] ys) := Lib.hid ⟨by simpa [rowOf] using ho, (fun o h => by cases h), List.nodup_nil, (fun o h => by cases h)⟩
  clear hyl hp hs hb ho H1
  go_wp2_with fail
  go_loopw [8] (fun i W => ∃ (k : Nat) (os : List OReg), k ≤ n ∧ i = .int .i64 (k : Int) ∧ Hid (os.length = k ∧ os.map (·.r) = (ys.take k).map (·.r)) ∧ Hid (Mix W w.heap.size (.slice A0 n c0) os (ys.drop k)) ∧ Hid (Below w.heap.size w W)) (fun i _ => n - (intOf i).toNat)
  case atStart => exact ⟨0, [], Nat.zero_le _, rfl, Lib.hid ⟨rfl, by simp⟩, HM, HB⟩
  case round =>
    obtain ⟨k, os, hk, rfl, HO, HMk, HW⟩ := hrel
    rcases Nat.lt_or_ge k n with hkn | hkn
    · obtain ⟨x, hx⟩ : ∃ x, ys[k]? = some x := ⟨_, List.getElem?_eq_getElem (by rw [HYL.out]; exact hkn)⟩
      have hdrop : ys.drop k = x :: ys.drop (k + 1) := by
        obtain ⟨h1, h2⟩ := List.getElem?_eq_some_iff.1 hx
        rw [List.drop_eq_getElem_cons h1, h2]
      have hM := HMk.out
      rw [hdrop] at hM
      obtain ⟨G, rfl⟩ : ∃ G, A0 = some ⟨G, 0, none⟩ := by
        rcases hM.row.2 with ⟨_, h2⟩ | ⟨g, c1, cur, e1, _⟩
        · simp at h2
        · injection e1 with e1; exact ⟨g, e1⟩
      obtain ⟨hok, hx0, hx1, hx2⟩ := HOK.out x (List.mem_of_getElem? hx)
      have hlen : os.length + (x :: ys.drop (k + 1)).length = n := by
        rw [← hdrop, HO.out.1, List.length_drop, HYL.out]; omega
      have hrow := hM.row
      rw [hlen] at hrow
      have hcell : ∀ d, d < 3 → wr.cell? ⟨G, k * 3 + d, none⟩ = x.vs[d]? := fun d hd => by
        rw [hrow.cellAt (k * 3 + d) (by omega)]
        have h1 := mix_get (os := os) (x := x) (rest := ys.drop (k + 1)) hd
        rw [HO.out.1] at h1
        exact h1
      have c1 : wr.cell? ⟨G, k * 3 + 1, none⟩ = some (.slice x.A x.n x.c) := hcell 1 (by omega)
      have H2 := Lib.hid (clone_c (hok.below HW.out) hx0 hx1)
      have hkni : (k : Int) < (n : Int) := by omega
      have hk0 : (0 : Int) ≤ (k : Int) := by omega
      have HXk := Lib.hid hx
      have HMM := Lib.hid hM
      have HROW := Lib.hid hrow
      have HLN := Lib.hid hlen
      have HXL := Lib.hid hx2
      have HXOK := Lib.hid hok.ok
      have hGl : G < wr.heap.size := (hrow.lt G rfl).2
      clear hx hdrop hM hok hx0 hx1 hx2 hlen hrow hcell HMk
      go_wp2_with fail
      go_at_call 41
      refine H2.out.mono ?_
      rintro e w2 ⟨g, c', rfl, hown, hb2⟩
      have c2 : w2.cell? ⟨G, k * 3 + 1, none⟩ = some (.slice x.A x.n x.c) := (hb2.cell (p := ⟨G, k * 3 + 1, none⟩) hGl).trans c1
      have f2 : w2.frozen? ⟨G, k * 3 + 1, none⟩ = false := (HROW.out.kept (grown_of_below hb2 none) (.inr (by simp [Value.ownBlock]))).frozenAt _
      have hst := HMM.out.step HW.out.size hb2 hown HXOK.out HXL.out HLN.out
      rw [HO.out.1] at hst
      have HST := Lib.hid hst
      have HB2 := Lib.hid (HW.out.trans (hb2.mono HW.out.size))
      clear hst hown hb2 H2 c1
      go_wp2_with fail
      go_roundw
      case rel =>
        refine ⟨k + 1, os ++ [⟨x.r, g, c'⟩], by omega, by go_num, Lib.hid ⟨by rw [List.length_append, HO.out.1]; rfl, ?_⟩, Lib.hid HST.out.1, Lib.hid (HB2.out.grown HST.out.2 HB2.out.size (fun j e => by cases e; exact (HROW.out.lt G rfl).1))⟩
        rw [List.map_append, HO.out.2, take_one HXk.out, List.map_append]
        rfl
      case measure => (simp [intOf] <;> omega)
    · obtain rfl : k = n := by omega
      have hd : ys.drop k = [] := List.drop_of_length_le (by rw [HYL.out]; exact Nat.le_refl _)
      have hM := HMk.out
      rw [hd] at hM
      have HD := Lib.hid hM.done
      have HE : Hid (os.map (·.r) = ys.map (·.r)) := Lib.hid (by have := HO.out.2; rwa [List.take_of_length_le (by rw [HYL.out]; exact Nat.le_refl _)] at this)
      clear hM hd HMk
      go_wp2_with fail
      go_ret
      refine ⟨_, os, rfl, HD, Lib.hid ⟨?_, ?_⟩, HW.out⟩
      · rw [HE.out, ← HX.out.regs]; exact HP.out.map _
      · rw [HE.out]; exact HS.out
end Mm
end Go.Proofs.Ytkgbpcfpppceiaa
