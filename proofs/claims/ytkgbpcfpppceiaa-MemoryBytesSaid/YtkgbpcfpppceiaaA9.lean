/- Bytes as text; the document's own Bytes; Same of regions. -/
import Derived.Test.YtkgbpcfpppceiaaA8
import Derived.Laws.IdiomStrings
namespace Go.Proofs.Ytkgbpcfpppceiaa
open Go Go.RowKit
namespace Mm
open Wd Nt
set_option linter.unusedVariables false
def toU (bs : List Int) : List UInt8 := bs.map fun x => UInt8.ofNat x.toNat
/-- bytes as a text -/
def strOf (bs : List Int) : ByteArray := ⟨(toU bs).toArray⟩
theorem toU_len (bs : List Int) : (toU bs).length = bs.length := List.length_map ..
theorem toU_get {bs : List Int} (h : Bs bs) {k : Nat} (hk : k < (toU bs).length) : (((toU bs)[k]).toNat : Int) = bt bs k := by
  have hk' : k < bs.length := by rw [← toU_len]; exact hk
  have hb := h.bt k
  have e : (toU bs)[k] = UInt8.ofNat (bt bs k).toNat := by
    have e0 : (toU bs)[k] = UInt8.ofNat (bs[k]'hk').toNat := by simp [toU]
    rw [e0]
    unfold bt
    rw [List.getElem?_eq_getElem hk']; rfl
  rw [e, UInt8.toNat_ofNat']
  omega
theorem strOf_inj {cs bs : List Int} (ha : Bs cs) (hb : Bs bs) (h : strOf cs = strOf bs) : cs = bs := by
  have h1 : toU cs = toU bs := by
    have := congrArg ByteArray.data h
    simpa [strOf] using this
  apply List.ext_getElem
  · rw [← toU_len cs, h1, toU_len]
  · intro k h2 h3
    have g1 := toU_get ha (k := k) (by rw [toU_len]; exact h2)
    have g2 := toU_get hb (k := k) (by rw [toU_len]; exact h3)
    have e : (toU cs)[k]'(by rw [toU_len]; exact h2) = (toU bs)[k]'(by rw [toU_len]; exact h3) := by
      simp only [h1]
    rw [e, g2] at g1
    unfold bt at g1
    rw [List.getElem?_eq_getElem h2, List.getElem?_eq_getElem h3] at g1
    exact g1.symm
theorem run_str {w : World} {B n : Nat} {ad : Addr} {bs : List Int} (c : Nat) (h : Rd8 w B (some ad) n bs) :
    (convert 29 9 (.slice (some ad) n c)).run Try.prog w = .ok (.string (strOf bs)) w := by
  have h1 := run_convert_bytes_back (P := Try.prog) w 29 9 5 ad c (toU bs) Try.underlying29 Try.underlying5 Try.underlying9 (fun j hj => by
    have hj' : j < n := by rw [← h.len, ← toU_len]; exact hj
    obtain ⟨ad', he, _, hc⟩ := h.rd (by omega)
    cases he
    rw [hc j hj', toU_get h.ok hj])
  rw [toU_len, h.len] at h1
  exact h1
theorem Rd8.cut {w : World} {B n : Nat} {g o : Nat} {bs : List Int} (h : Rd8 w B (some ⟨g, o, none⟩) n bs) (d m : Nat) (hd : d + m ≤ n) : Rd8 w B (some ⟨g, o + d, none⟩) m ((bs.drop d).take m) := by
  have hb : Bs ((bs.drop d).take m) := fun x hx => h.ok x (List.mem_of_mem_drop (List.mem_of_mem_take hx))
  refine ⟨by rw [List.length_take, List.length_drop, h.len]; omega, hb, fun h0 => ?_⟩
  obtain ⟨ad, e, h1, h2⟩ := h.rd (by omega)
  cases e
  refine ⟨_, rfl, h1, fun j hj => ?_⟩
  have h3 := h2 (d + j) (by omega)
  have e1 : (⟨g, o + d, none⟩ : Addr).add j = (⟨g, o, none⟩ : Addr).add (d + j) := by
    unfold Addr.add
    by_cases hj0 : j = 0
    · subst hj0
      by_cases hd0 : d = 0
      · subst hd0; rfl
      · simp [hd0]
    · have : d + j ≠ 0 := by omega
      simp [hj0]; omega
  rw [e1, h3]
  unfold bt
  rw [List.getElem?_take, if_pos hj, List.getElem?_drop]
/-- what is told of bytes -/
def BytesP (M : List Reg) (p n : Int) (w : World) (e : Ending) (w' : World) : Prop := Below w.heap.size w w' ∧ ∃ s x, e = .returned (.tuple #[.string (strOf s), .int .i64 x]) ∧ BytesO M p n s x
set_option maxRecDepth 100000 in
set_option maxHeartbeats 4000000 in
theorem rbytes_c {w : World} {B E : Nat} {P : Value} {M : List Reg} (h : Hid (RefM w B E P M)) (p n : Int) (hp : W p) (hn : (Lit.int .i64 n).wf = true) :
    Calls Try.prog 25 #[P, .int .u64 p, .int .i64 n] w (BytesP M p n w) := by
  have hk' : -9223372036854775808 ≤ n ∧ n ≤ 9223372036854775807 := by
    simp [Lit.wf, IntKind.min, IntKind.max, IntKind.signed, IntKind.bits] at hn; omega
  obtain ⟨D, v, os, rfl, hD, hB, hE, hO, hM⟩ := h.out.ex
  rcases Int.lt_or_le n 0 with hneg | hpos
  · have HN := Lib.hid hneg
    clear h hD hB hE hO hM hn hk' hp
    go_enter Try.func25, Try.ntmps25
    try simp only [List.append]
    go_wp2_with fail
    go_ret2
    exact ⟨Below.refl _ _, [], 2, rfl, .inl ⟨HN.out, rfl, rfl⟩⟩
  · have H1 := Lib.hid (place_c h.out p n hp hpos hk'.2)
    obtain ⟨A, m, c, rfl, hR, hmc, hcm⟩ := hO.own.rdR
    rw [hM] at hR
    have HR := Lib.hid hR
    have HO := Lib.hid hO
    have HM := Lib.hid hM
    have HG := Lib.hid h.out.good
    have HLM := Lib.hid hR.len
    have cD : w.cell? ⟨D, 0, none⟩ = some (.slice A m c) := hD.cell 0
    have hm8 : m ≤ 8 := by rw [← hR.len]; exact h.out.good.few
    have HPOS := Lib.hid hpos
    clear h hD hB hE hO hM hR hp hn hk'
    go_enter Try.func25, Try.ntmps25
    try simp only [List.append]
    go_wp2_with fail
    go_at_call 40
    refine H1.out.mono ?_
    rintro e w1 ⟨⟨q, rfl⟩, ⟨i, r, hh, rfl⟩ | ⟨hno, rfl⟩⟩
    · have HH := Lib.hid hh
      obtain ⟨hr, h1, h2, h3⟩ := hh
      have hil : i < m := by rw [← HLM.out]; exact (List.getElem?_eq_some_iff.1 hr).1
      have hii : (i : Int) < (m : Int) := by omega
      have hi0 : (0 : Int) ≤ (i : Int) := by omega
      have hrs := HG.out.short i r hr
      obtain ⟨d, hd⟩ : ∃ d : Nat, p - r.base = (d : Int) := ⟨(p - r.base).toNat, by omega⟩
      obtain ⟨k, hk⟩ : ∃ k : Nat, n = (k : Int) := ⟨n.toNat, by omega⟩
      have HD := Lib.hid hd
      subst hk
      rw [hd]
      have hrr := hr
      rw [← HM.out, List.getElem?_map] at hrr
      obtain ⟨o, ho, hor⟩ := Option.map_eq_some_iff.1 hrr
      subst hor
      obtain ⟨gl, rfl⟩ : ∃ gl, A = some ⟨gl, 0, none⟩ := by
        rcases HO.out.own.shape with ⟨e1, e2⟩ | ⟨g, c', e1, _⟩
        · rw [e2] at ho; cases ho
        · simp only [Value.slice.injEq] at e1; exact ⟨g, e1.1⟩
      have hmo := List.mem_of_getElem? ho
      have hro := sl_room (HO.out.own.each o hmo)
      obtain ⟨n1, hn1⟩ : ∃ n1, n1 = o.r.bytes.length := ⟨_, rfl⟩
      have hlr : o.r.len = n1 := by unfold Reg.len; rw [hn1]
      rw [hlr] at h2 h3 hrs
      rw [← hn1] at hro
      have hdn : d + k ≤ n1 := by omega
      have hdlt : d < n1 := by omega
      have hdn' : n1 ≤ 1048576 := by omega
      obtain ⟨hro1, hro2⟩ := hro
      have cw0 := HO.out.own.cell (g := gl) rfl ho (d := 1) (by omega)
      have cw : w.cell? ⟨gl, i * 3 + 1, none⟩ = some (.slice (some ⟨o.g, 0, none⟩) n1 o.c) := by rw [cw0, hn1]; rfl
      have hrd := (HO.out.own.rd8 hmo)
      rw [← hn1] at hrd
      have hcut := hrd.cut d k (by omega)
      have hst := run_str (w := w.drewN q) (o.c - d) (hcut.keep (w' := w.drewN q) (fun p _ => rfl))
      rw [Nat.zero_add] at hst
      have HS : Hid (BytesO M p (k : Int) ((o.r.bytes.drop d).take k) 0) := Lib.hid (.inr (.inl ⟨by omega, i, o.r, HH.out, by rw [HD.out]; rfl, rfl⟩))
      generalize (o.r.bytes.drop d).take k = bs at *
      have hdi : (d : Int) + (k : Int) ≤ (n1 : Int) := by omega
      have hdi2 : (d : Int) + (k : Int) ≤ (o.c : Int) := by omega
      have hdc : (d : Int) < (o.c : Int) := by omega
      clear H1 hr h1 h2 h3 hrs hd hil hrr ho hlr hn1 cw0 hrd hcut hmo HO HR
      go_wp2_with fail
      go_ret2
      exact ⟨below_drewN (Below.refl _ _) _, bs, 0, rfl, HS.out⟩
    · have HNO := Lib.hid hno
      clear hno H1
      go_wp2_with fail
      go_ret2
      exact ⟨below_drewN (Below.refl _ _) _, [], 11, rfl, .inr (.inr ⟨HPOS.out, HNO.out, rfl, rfl⟩)⟩
end Mm
end Go.Proofs.Ytkgbpcfpppceiaa
