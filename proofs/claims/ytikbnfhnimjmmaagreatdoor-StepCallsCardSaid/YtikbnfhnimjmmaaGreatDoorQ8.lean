/- The landed package's copies: the regions by their first addresses, their bytes one's own. | The landed package's memory as it lies; New, Regions, Clone; none. -/
import Derived.Test.YtikbnfhnimjmmaaGreatDoorQ5
import Derived.LaidEqlPtr
namespace Go.Proofs.YtikbnfhnimjmmaaGreatDoor
open Go Go.RowKit Go.Shelf Go.Sort
namespace Mm
open Wd Nt
set_option linter.unusedVariables false
/-- bytes of one's own, the same -/
def CloP (x : Cel) (w : World) (e : Ending) (w' : World) : Prop := ∃ g c', e = .returned (.slice (some ⟨g, 0, none⟩) x.n c') ∧ w'.ownsRow w.heap.size 5 1 (.slice (some ⟨g, 0, none⟩) x.n c') x.n (b8 x.r.bytes) ∧ Below w.heap.size w w'
theorem clone_c {w : World} {B : Nat} {x : Cel} (h : CelOk w B x) (h0 : 0 < x.n) (hn : x.n ≤ 1048576) : Calls Tryz.prog 128 #[.slice x.A x.n x.c] w (CloP x w) := by
  obtain ⟨ad, hA, hb, hc⟩ := h.rd.rd h0
  have hsp : ad = ⟨ad.block, ad.off, none⟩ := by
    have h1 := hc 0 h0
    have e : ad.add 0 = ad := by unfold Addr.add; simp
    rw [e] at h1
    exact spot_none h1
  obtain ⟨i, hi, hz, h1, h2⟩ := info_parts info_u8
  have hcon := AnyE.slices_Clone Tryz.clone8 i (.int .u8 0) 1 1 hi hz h1 h2 rfl (by omega) Tryz.sizeOf5 ad.block ad.off x.n x.c (b8 x.r.bytes) w (by rw [b8_len, h.rd.len, Nat.mul_one]) (by simp only [maxLen]; omega) (by omega)
    (fun j u hu => by
      have hj : j < x.r.bytes.length := by rw [← b8_len]; exact (List.getElem?_eq_some_iff.1 hu).1
      rw [b8_get hj] at hu
      rw [← hu]
      have h3 := hc j (by rw [← h.rd.len]; exact hj)
      rw [hsp, add_at] at h3
      exact h3)
    (fun u hu => by obtain ⟨z, _, rfl⟩ := List.mem_map.1 hu; simp [Value.oneCell'])
  rw [← hsp, ← hA] at hcon
  refine Calls.mono hcon ?_
  rintro e w' ⟨v', rfl, hown, hne, hbl⟩
  rcases hown.2 with ⟨e0, _⟩ | ⟨g, c', cur, rfl, hg⟩
  · exact absurd e0 hne
  · exact ⟨g, c', rfl, hown, hbl⟩
/-- a row of one's own, the first regions' bytes one's own, the others' where they were -/
structure Mix (w : World) (B : Nat) (v : Value) (os : List OReg) (ys : List Cel) : Prop where
  row : w.ownsRow B 106 3 v (os.length + ys.length) (rowOf os ++ celRow ys)
  each : ∀ o ∈ os, w.ownsRow B 5 1 o.sl o.r.bytes.length (b8 o.r.bytes)
  apart : (os.map (·.g)).Nodup
  oks : ∀ o ∈ os, o.r.ok
theorem mix_set {os : List OReg} {x : Cel} {rest : List Cel} {g c : Nat} (hl : x.n = x.r.bytes.length) : (rowOf os ++ celRow (x :: rest)).set (os.length * 3 + 1) (.slice (some ⟨g, 0, none⟩) x.n c) = rowOf (os ++ [⟨x.r, g, c⟩]) ++ celRow rest := by
  rw [rowOf_append, rowOf_one, List.append_assoc, ← rowOf_len, set_app]
  show rowOf os ++ (x.vs ++ celRow rest).set 1 _ = rowOf os ++ (OReg.cells ⟨x.r, g, c⟩ ++ celRow rest)
  unfold OReg.cells OReg.sl
  rw [hl]
  rfl
theorem mix_get {os : List OReg} {x : Cel} {rest : List Cel} {d : Nat} (hd : d < 3) : (rowOf os ++ celRow (x :: rest))[os.length * 3 + d]? = x.vs[d]? := by
  rw [List.getElem?_append_right (by rw [rowOf_len]; omega), rowOf_len, show os.length * 3 + d - os.length * 3 = 0 * 3 + d by omega]
  exact celRow_get rfl hd
theorem Mix.step {wr w2 : World} {B G n c0 g c' : Nat} {os : List OReg} {x : Cel} {rest : List Cel} (h : Mix wr B (.slice (some ⟨G, 0, none⟩) n c0) os (x :: rest)) (hB : B ≤ wr.heap.size)
    (hb : Below wr.heap.size wr w2) (ho : w2.ownsRow wr.heap.size 5 1 (.slice (some ⟨g, 0, none⟩) x.n c') x.n (b8 x.r.bytes)) (hok : x.r.ok) (hl : x.n = x.r.bytes.length) (hn : os.length + (x :: rest).length = n) :
    Mix (w2.setCell ⟨G, os.length * 3 + 1, none⟩ (.slice (some ⟨g, 0, none⟩) x.n c')) B (.slice (some ⟨G, 0, none⟩) n c0) (os ++ [⟨x.r, g, c'⟩]) rest ∧ w2.grownBy (w2.setCell ⟨G, os.length * 3 + 1, none⟩ (.slice (some ⟨g, 0, none⟩) x.n c')) (some G) := by
  have hrow1 := h.row
  rw [hn] at hrow1
  have hrow2 := hrow1.kept (grown_of_below hb none) (.inr (by simp [Value.ownBlock]))
  obtain ⟨hst, hgr⟩ := hrow2.stored (os.length * 3 + 1) (.slice (some ⟨g, 0, none⟩) x.n c')
  rw [mix_set hl] at hst
  have hG : G < wr.heap.size := (h.row.lt G rfl).2
  have hsl : (⟨x.r, g, c'⟩ : OReg).sl = .slice (some ⟨g, 0, none⟩) x.n c' := by unfold OReg.sl; rw [hl]
  have hg : wr.heap.size ≤ g := (ho.lt g rfl).1
  refine ⟨⟨?_, fun o hO => ?_, ?_, fun o hO => ?_⟩, hgr⟩
  · have e : (os ++ [(⟨x.r, g, c'⟩ : OReg)]).length + rest.length = os.length + (x :: rest).length := by simp; omega
    rw [e, hn]; exact hst
  · rcases List.mem_append.1 hO with hO | hO
    · have h1 := (h.each o hO).kept (grown_of_below hb none) (.inr (by simp [OReg.sl, Value.ownBlock]))
      exact h1.kept hgr (.inr (fun e => own_type h1 hrow2 (by decide) (k := o.g) rfl (by show some G = some o.g; exact e.symm)))
    · obtain rfl : o = ⟨x.r, g, c'⟩ := by simpa using hO
      rw [hsl]
      show World.ownsRow _ B _ 1 _ x.r.bytes.length (b8 x.r.bytes)
      rw [← hl]
      exact (ownsRow_base ho hB).kept hgr (.inr (by simp [Value.ownBlock]; omega))
  · rw [List.map_append, List.nodup_append]
    refine ⟨h.apart, by simp, fun a ha b hb' => ?_⟩
    obtain ⟨p, hp, rfl⟩ := List.mem_map.1 ha
    obtain rfl : b = g := by simpa using hb'
    have h1 := ((h.each p hp).lt p.g rfl).2
    omega
  · rcases List.mem_append.1 hO with hO | hO
    · exact h.oks o hO
    · obtain rfl : o = ⟨x.r, g, c'⟩ := by simpa using hO
      exact hok
theorem Mix.done {w : World} {B : Nat} {v : Value} {os : List OReg} (h : Mix w B v os []) : OwnR w B v os := ⟨by have h1 := h.row; simpa [celRow] using h1, h.each, h.apart, h.oks⟩
set_option maxRecDepth 100000 in
set_option maxHeartbeats 4000000 in
theorem copies_c (A : Option Addr) (n c : Nat) (rs : List Reg) (w : World) (h : Hid (AtR w A n rs)) (hG : Good rs) :
    Calls Tryz.prog 70 #[.slice A n c] w (OwnP rs w) := by
  have HLEN := Lib.hid h.out.len
  have HG := Lib.hid hG
  have hn8 : n ≤ 8 := by rw [← HLEN.out]; exact hG.few
  obtain ⟨xs, hxs⟩ := h.out.cels
  have HX := Lib.hid hxs
  have H1 := Lib.hid (byAddr_c A n c rs xs w HX (by omega))
  clear hxs hG h
  go_enter Tryz.func70, Tryz.ntmps70
  go_wp2_with fail
  go_at_call 127
  refine H1.out.mono ?_
  rintro e w1 ⟨v, ys, rfl, hp, hs, ho, hb⟩
  have hyl : ys.length = n := by rw [hp.length_eq, HX.out.len]
  have HYL := Lib.hid hyl
  have HP := Lib.hid hp
  have HS := Lib.hid hs
  have HB := Lib.hid hb
  have HOK : Hid (∀ y ∈ ys, CelOk w w.heap.size y ∧ 0 < y.n ∧ y.n ≤ 1048576 ∧ y.n = y.r.bytes.length) := Lib.hid (fun y hy => by
    have hx := HP.out.mem_iff.1 hy
    have hok := HX.out.ok y hx
    have hm : y.r ∈ rs := by rw [← HX.out.regs]; exact List.mem_map.2 ⟨y, hx, rfl⟩
    obtain ⟨i, hi⟩ := getElem?_of_mem hm
    have h1 := HG.out.pos i _ hi
    have h2 := HG.out.short i _ hi
    have h3 := HX.out.len_of hx
    exact ⟨hok, by omega, by omega, hok.rd.len.symm⟩)
  obtain ⟨A0, c0, rfl⟩ : ∃ A0 c0, v = .slice A0 n c0 := by
    rcases ho.2 with ⟨e1, hz⟩ | ⟨g, c0, cur, e1, _⟩
    · exact ⟨none, 0, by rw [e1]; congr 1; omega⟩
    · exact ⟨_, c0, by rw [e1, hyl]⟩
  have HM : Hid (Mix w1 w.heap.size (.slice A0 n c0) [] ys) := Lib.hid ⟨by simpa [rowOf] using ho, (fun o h => by cases h), List.nodup_nil, (fun o h => by cases h)⟩
  clear hyl hp hs hb ho H1
  go_wp2_with fail
  go_loopw [8] (fun i W => ∃ (k : Nat) (os : List OReg), k ≤ n ∧ i = .int .i64 (k : Int) ∧ Hid (os.length = k ∧ os.map (·.r) = (ys.take k).map (·.r)) ∧ Hid (Mix W w.heap.size (.slice A0 n c0) os (ys.drop k)) ∧ Hid (Below w.heap.size w W)) (fun i _ => n - (intOf i).toNat)
  case atStart => exact ⟨0, [], Nat.zero_le _, rfl, Lib.hid ⟨rfl, by simp⟩, HM, HB⟩
  case round =>
    obtain ⟨k, os, hk, rfl, HO, HMk, HW⟩ := hrel
    rcases Nat.lt_or_ge k n with hkn | hkn
    · obtain ⟨x, hx⟩ : ∃ x, ys[k]? = some x := ⟨_, List.getElem?_eq_getElem (by rw [HYL.out]; exact hkn)⟩
      have hdrop : ys.drop k = x :: ys.drop (k + 1) := by
        obtain ⟨h1, h2⟩ := List.getElem?_eq_some_iff.1 hx
        rw [List.drop_eq_getElem_cons h1, h2]
      have hM := HMk.out
      rw [hdrop] at hM
      obtain ⟨G, rfl⟩ : ∃ G, A0 = some ⟨G, 0, none⟩ := by
        rcases hM.row.2 with ⟨_, h2⟩ | ⟨g, c1, cur, e1, _⟩
        · simp at h2
        · injection e1 with e1; exact ⟨g, e1⟩
      obtain ⟨hok, hx0, hx1, hx2⟩ := HOK.out x (List.mem_of_getElem? hx)
      have hlen : os.length + (x :: ys.drop (k + 1)).length = n := by
        rw [← hdrop, HO.out.1, List.length_drop, HYL.out]; omega
      have hrow := hM.row
      rw [hlen] at hrow
      have hcell : ∀ d, d < 3 → wr.cell? ⟨G, k * 3 + d, none⟩ = x.vs[d]? := fun d hd => by
        rw [hrow.cellAt (k * 3 + d) (by omega)]
        have h1 := mix_get (os := os) (x := x) (rest := ys.drop (k + 1)) hd
        rw [HO.out.1] at h1
        exact h1
      have c1 : wr.cell? ⟨G, k * 3 + 1, none⟩ = some (.slice x.A x.n x.c) := hcell 1 (by omega)
      have H2 := Lib.hid (clone_c (hok.below HW.out) hx0 hx1)
      have hkni : (k : Int) < (n : Int) := by omega
      have hk0 : (0 : Int) ≤ (k : Int) := by omega
      have HXk := Lib.hid hx
      have HMM := Lib.hid hM
      have HROW := Lib.hid hrow
      have HLN := Lib.hid hlen
      have HXL := Lib.hid hx2
      have HXOK := Lib.hid hok.ok
      have hGl : G < wr.heap.size := (hrow.lt G rfl).2
      clear hx hdrop hM hok hx0 hx1 hx2 hlen hrow hcell HMk
      go_wp2_with fail
      go_at_call 128
      refine H2.out.mono ?_
      rintro e w2 ⟨g, c', rfl, hown, hb2⟩
      have c2 : w2.cell? ⟨G, k * 3 + 1, none⟩ = some (.slice x.A x.n x.c) := (hb2.cell (p := ⟨G, k * 3 + 1, none⟩) hGl).trans c1
      have f2 : w2.frozen? ⟨G, k * 3 + 1, none⟩ = false := (HROW.out.kept (grown_of_below hb2 none) (.inr (by simp [Value.ownBlock]))).frozenAt _
      have hst := HMM.out.step HW.out.size hb2 hown HXOK.out HXL.out HLN.out
      rw [HO.out.1] at hst
      have HST := Lib.hid hst
      have HB2 := Lib.hid (HW.out.trans (hb2.mono HW.out.size))
      clear hst hown hb2 H2 c1
      go_wp2_with fail
      go_roundw
      case rel =>
        refine ⟨k + 1, os ++ [⟨x.r, g, c'⟩], by omega, by go_num, Lib.hid ⟨by rw [List.length_append, HO.out.1]; rfl, ?_⟩, Lib.hid HST.out.1, Lib.hid (HB2.out.grown HST.out.2 HB2.out.size (fun j e => by cases e; exact (HROW.out.lt G rfl).1))⟩
        rw [List.map_append, HO.out.2, take_one HXk.out, List.map_append]
        rfl
      case measure => (simp [intOf] <;> omega)
    · obtain rfl : k = n := by omega
      have hd : ys.drop k = [] := List.drop_of_length_le (by rw [HYL.out]; exact Nat.le_refl _)
      have hM := HMk.out
      rw [hd] at hM
      have HD := Lib.hid hM.done
      have HE : Hid (os.map (·.r) = ys.map (·.r)) := Lib.hid (by have := HO.out.2; rwa [List.take_of_length_le (by rw [HYL.out]; exact Nat.le_refl _)] at this)
      clear hM hd HMk
      go_wp2_with fail
      go_ret
      refine ⟨_, os, rfl, HD, Lib.hid ⟨?_, ?_⟩, HW.out⟩
      · rw [HE.out, ← HX.out.regs]; exact HP.out.map _
      · rw [HE.out]; exact HS.out
end Mm
end Go.Proofs.YtikbnfhnimjmmaaGreatDoor
namespace Go.Proofs.YtikbnfhnimjmmaaGreatDoor
open Go Go.RowKit Go.Shelf Go.Sort
namespace Mm
open Wd Nt
set_option linter.unusedVariables false
structure LndM (w : World) (B E : Nat) (p : Value) (M : List Reg) : Prop where
  ex : ∃ D v os, p = .pointer (some ⟨D, 0, none⟩) ∧ Bk w D 118 #[.pointer (some ⟨D, 0, none⟩), v] ∧ B ≤ D ∧ D < E ∧ OwnI w B E v os ∧ os.map (·.r) = M
  good : Good M
  rise : Rising M
theorem LndM.keep {w w' : World} {B E B' E' : Nat} {p : Value} {M : List Reg} (h : LndM w B E p M) (hk : Kp B' E' w w') (ho : E ≤ B' ∨ E' ≤ B) : LndM w' B E p M := by
  obtain ⟨D, v, os, h1, h2, h3, h4, h5, h6⟩ := h.ex
  exact ⟨⟨D, v, os, h1, hk.bk h2 (by omega), h3, h4, h5.keep hk ho, h6⟩, h.good, h.rise⟩
theorem LndM.below {w w' : World} {B E : Nat} {p : Value} {M : List Reg} (h : LndM w B E p M) (hb : Below w.heap.size w w') : LndM w' B E p M :=
  h.keep (B' := E) (E' := E) (Kp.of hb) (.inl (Nat.le_refl _))
theorem LndM.shape {w : World} {B E : Nat} {p : Value} {M : List Reg} (h : LndM w B E p M) : (∃ D, p = .pointer (some D)) ∧ Good M ∧ Rising M ∧ Oks M ∧ B ≤ E ∧ E ≤ w.heap.size := by
  obtain ⟨D, v, os, h1, h2, h3, h4, h5, h6⟩ := h.ex
  refine ⟨⟨_, h1⟩, h.good, h.rise, fun r hr => ?_, by omega, h5.top⟩
  rw [← h6] at hr
  obtain ⟨o, ho, rfl⟩ := List.mem_map.1 hr
  exact h5.own.oks o ho
/-- its cells, as a call reads them -/
theorem LndM.open_ {w : World} {B E : Nat} {p : Value} {M : List Reg} (h : LndM w B E p M) : ∃ D A n c, p = .pointer (some ⟨D, 0, none⟩) ∧ w.cell? ⟨D, 0, none⟩ = some (.pointer (some ⟨D, 0, none⟩)) ∧ w.cell? ⟨D, 1, none⟩ = some (.slice A n c) ∧ AtR w A n M ∧ n ≤ 8 ∧ D < w.heap.size := by
  obtain ⟨D, v, os, h1, h2, h3, h4, h5, h6⟩ := h.ex
  obtain ⟨A, n, c, rfl, hR, _, _⟩ := h5.own.rdR
  rw [h6] at hR
  exact ⟨D, A, n, c, h1, h2.cell 0, h2.cell 1, hR, by rw [← hR.len]; exact h.good.few, h2.lt⟩

theorem info_mem : (Tryz.prog.info? 118).isSome = true := by kernel_rfl
set_option maxRecDepth 100000 in
theorem made_c {w : World} {D : Nat} (h : w.cell? ⟨D, 0, none⟩ = some (.pointer (some ⟨D, 0, none⟩))) : Calls Tryz.prog 81 #[.pointer (some ⟨D, 0, none⟩)] w fun e w' => e = .returned (.bool true) ∧ w' = w := by
  obtain ⟨j, hj⟩ := Option.isSome_iff_exists.1 info_mem
  have heq := fun (W : World) => run_eql_ptr_same (P := Tryz.prog) W ⟨D, 0, none⟩ Tryz.underlying43 hj
  clear hj
  go_enter Tryz.func81, Tryz.ntmps81
  go_wp2_with fail
  go_ret
  exact ⟨rfl, rfl⟩
set_option maxRecDepth 100000 in
theorem madeN_c (w : World) : Calls Tryz.prog 81 #[.pointer none] w fun e w' => e = .returned (.bool false) ∧ w' = w := by
  go_enter Tryz.func81, Tryz.ntmps81
  go_wp2_with fail
  go_ret
  exact ⟨rfl, rfl⟩

/-! ### none -/
set_option maxRecDepth 100000 in
theorem loadN_c (w : World) (p : Int) : Calls Tryz.prog 115 #[.pointer none, .int .u64 p] w fun e w' => e = .returned (.tuple #[.int .u64 0, .int .i64 1]) ∧ Below w.heap.size w w' := by
  go_enter Tryz.func115, Tryz.ntmps115
  go_wp2_with (go_at_call 81; refine (madeN_c _).mono ?_; rintro e w' ⟨rfl, rfl⟩)
  go_ret2
  exact ⟨rfl, Below.refl _ _⟩
set_option maxRecDepth 100000 in
theorem storeN_c (w : World) (p v : Int) : Calls Tryz.prog 116 #[.pointer none, .int .u64 p, .int .u64 v] w fun e w' => e = .returned (.int .i64 1) ∧ Below w.heap.size w w' := by
  go_enter Tryz.func116, Tryz.ntmps116
  go_wp2_with (go_at_call 81; refine (madeN_c _).mono ?_; rintro e w' ⟨rfl, rfl⟩)
  go_ret
  exact ⟨rfl, Below.refl _ _⟩
set_option maxRecDepth 100000 in
theorem bytesN_c (w : World) (p n : Int) : Calls Tryz.prog 114 #[.pointer none, .int .u64 p, .int .i64 n] w fun e w' => e = .returned (.tuple #[.string ⟨#[]⟩, .int .i64 1]) ∧ Below w.heap.size w w' := by
  go_enter Tryz.func114, Tryz.ntmps114
  go_wp2_with (go_at_call 81; refine (madeN_c _).mono ?_; rintro e w' ⟨rfl, rfl⟩)
  go_ret2
  exact ⟨rfl, Below.refl _ _⟩
set_option maxRecDepth 100000 in
theorem regionsN_c (w : World) : Calls Tryz.prog 31 #[.pointer none] w fun e w' => (∃ A c, e = .returned (.slice A 0 c)) ∧ Below w.heap.size w w' := by
  go_enter Tryz.func31, Tryz.ntmps31
  go_wp2_with (go_at_call 81; refine (madeN_c _).mono ?_; rintro e w' ⟨rfl, rfl⟩)
  go_ret
  exact ⟨⟨_, _, rfl⟩, Below.refl _ _⟩
/-! ### New -/
set_option maxRecDepth 100000 in
set_option maxHeartbeats 1000000 in
theorem new_c (A : Option Addr) (n c : Nat) (rs : List Reg) (w : World) (h : Hid (AtR w A n rs)) (hc : n ≤ 9223372036854775807) :
    Calls Tryz.prog 27 #[.slice A n c] w (NewO LndM rs w) := by
  have H1 := Lib.hid (check_c A n c rs w h hc)
  go_enter Tryz.func27, Tryz.ntmps27
  go_wp2_with fail
  go_at_call 69
  refine H1.out.mono ?_
  rintro e w1 ⟨hb1, x, rfl, hx⟩
  have HX := Lib.hid hx
  have HB1 := Lib.hid hb1
  by_cases h0 : x = 0
  · subst h0
    have HG := Lib.hid hx.good
    have H2 := Lib.hid (copies_c A n c rs w1 (AtR.step h hb1) HG.out)
    clear H1 hb1 hx
    go_wp2_with fail
    go_at_call 70
    refine H2.out.mono ?_
    rintro e w2 ⟨v, os, rfl, ho, hp, hb2⟩
    have HB2 := Lib.hid (bel_trans HB1.out hb2)
    have HP := Lib.hid hp.out
    have HO := Lib.hid ho.out
    obtain ⟨A0, n0, c0, rfl⟩ : ∃ A0 n0 c0, v = .slice A0 n0 c0 := by
      obtain ⟨A0, n0, c0, e, _⟩ := ho.out.rdR; exact ⟨A0, n0, c0, e⟩
    have HR : Hid (∀ W, W = w2.alloc (.cells #[.pointer (some ⟨w2.heap.size, 0, none⟩), .slice A0 n0 c0] 118) → Below w.heap.size w W ∧ LndM W w.heap.size W.heap.size (.pointer (some ⟨w2.heap.size, 0, none⟩)) (os.map (·.r))) := Lib.hid (by
      rintro W rfl
      have hsz : (w2.alloc (.cells #[.pointer (some ⟨w2.heap.size, 0, none⟩), .slice A0 n0 c0] 118)).heap.size = w2.heap.size + 1 := by simp
      have h1 := ((HO.out.below (bel_alloc (.cells #[.pointer (some ⟨w2.heap.size, 0, none⟩), .slice A0 n0 c0] 118))).base HB1.out.size)
      exact ⟨HB2.out.alloc HB2.out.size _, ⟨⟨w2.heap.size, _, os, rfl, Bk.new _ _ _, HB2.out.size, by omega, h1.toI, rfl⟩, HG.out.perm HP.out.1.symm, HP.out.2⟩⟩)
    clear H2 ho hp hb2
    go_wp2_with fail
    go_ret2
    obtain ⟨h3, h4⟩ := HR.out _ rfl
    exact ⟨h3, 0, HX.out, .inr ⟨rfl, _, _, rfl, HP.out.1, h4⟩⟩
  · have hx0 : (x != 0) = true := by simpa using h0
    have HX0 := Lib.hid h0
    clear hx h0 H1 hb1
    go_wp2_with fail
    go_ret2
    exact new_e HB1.out HX.out HX0.out
theorem goodR {A : Option Addr} {n : Nat} {w : World} {M : List Reg} (h : AtR w A n M) (hn : n ≤ 8) : n ≤ 9223372036854775807 := by omega

/-! ### Regions, Clone -/
set_option maxRecDepth 100000 in
set_option maxHeartbeats 1000000 in
theorem regions_c {w : World} {B E : Nat} {P : Value} {M : List Reg} (h : Hid (LndM w B E P M)) : Calls Tryz.prog 31 #[P] w (RegsP M w) := by
  obtain ⟨D, A, n, c, rfl, c0, c1, hR, hn, hD⟩ := h.out.open_
  have H1 := Lib.hid (copies_c A n c M w (Lib.hid hR) h.out.good)
  have HM := Lib.hid (made_c c0)
  clear hR
  go_enter Tryz.func31, Tryz.ntmps31
  go_wp2_with fail
  go_at_call 81
  refine HM.out.mono ?_
  rintro e w1 ⟨rfl, rfl⟩
  go_wp2_with fail
  go_at_call 70
  refine H1.out.mono ?_
  rintro e w2 ⟨v, os, rfl, ho, hp, hb2⟩
  have HB := Lib.hid hb2
  have HE := Lib.hid (rising_uniq h.out.good hp.out.1 (List.Perm.refl _) hp.out.2 h.out.rise)
  clear H1 HM hb2 hp
  go_wp2_with fail
  go_ret
  exact ⟨HB.out, v, os, rfl, Lib.hid ho.out.toI, HE.out⟩
end Mm
end Go.Proofs.YtikbnfhnimjmmaaGreatDoor
