/- OwnRegions of the statements' kit, whole. -/
import Derived.Test.YtmiphnocgepdgaaGreatDoorA14
namespace Go.Proofs.YtmiphnocgepdgaaGreatDoor
open Go Go.RowKit
namespace Mm
open Wd Nt
set_option linter.unusedVariables false
def OwnRegP (rs : List Reg) (w : World) (e : Ending) (w' : World) : Prop := Below w.heap.size w w' ∧ ∃ g c, e = .returned (.slice (some ⟨g, 0, none⟩) rs.length c) ∧ Hid (AtR w' (some ⟨g, 0, none⟩) rs.length rs)
set_option maxRecDepth 100000 in
set_option maxHeartbeats 4000000 in
theorem kregs_c (A : Option Addr) (n c : Nat) (rs : List Reg) (w : World) (h : Hid (AtR w A n rs)) (hL : Lite rs) :
    Calls Tryz.prog 29 #[.slice A n c] w (OwnRegP rs w) := by
  obtain ⟨n', hn'⟩ : ∃ n', n' = rs.length := ⟨_, rfl⟩
  have H1 := Lib.hid (kownR_c A n c rs w h (by have := hL.1; have := h.out.len; omega))
  have HL := Lib.hid hL
  have HN := Lib.hid hn'
  have hn10 : n' ≤ 10 := by rw [hn']; exact hL.1
  clear hL hn'
  go_enter Tryz.func29, Tryz.ntmps29
  go_wp2_with fail
  go_at_call 56
  refine H1.out.mono ?_
  rintro e w1 ⟨hb1, g, c', xs, rfl, hS⟩
  rw [← HN.out] at hS ⊢
  have HB1 := Lib.hid hb1
  clear H1 hb1
  go_wp2_with fail
  go_loopw [4] (fun i W => ∃ (k : Nat) (xs : List ShR), k ≤ n' ∧ i = .int .i64 (k : Int) ∧ Hid (ShO W w.heap.size g n' c' rs xs) ∧ Hid (Below w.heap.size w W)) (fun i _ => n' - (intOf i).toNat)
  case atStart => exact ⟨0, xs, Nat.zero_le _, rfl, hS, HB1⟩
  case round =>
    obtain ⟨k, xs, hk, rfl, hS, HW⟩ := hrel
    rcases Nat.lt_or_ge k n' with hkn | hkn
    · have hkni : (k : Int) < (n' : Int) := by omega
      have hk0 : (0 : Int) ≤ (k : Int) := by omega
      have hxl : xs.length = n' := by rw [HN.out, ← hS.out.regs, List.length_map]
      obtain ⟨x, hx⟩ : ∃ x, xs[k]? = some x := ⟨_, List.getElem?_eq_getElem (by omega)⟩
      obtain ⟨h8, hne, hxc, hxm⟩ := hS.out.each x (List.mem_of_getElem? hx)
      have hx3 : x.n ≤ 300 := by
        have hr : rs[k]? = some x.r := by rw [← hS.out.regs, List.getElem?_map, hx]; rfl
        have h1 := HL.out.2 k x.r hr
        have h2 := h8.len
        unfold Reg.len at h1
        omega
      have c1 : wr.cell? ⟨g, k * 3 + 1, none⟩ = some (.slice x.A x.n x.c) := by
        rw [hS.out.row.cellAt _ (by omega), sh_get hx (by omega)]; rfl
      have H2 := fun W hW => Lib.hid (kown8_c x.A x.n x.c x.r.bytes W hW (by omega))
      have H8 := Lib.hid h8
      have HX := Lib.hid hx
      have hgl := (hS.out.row.lt g rfl).2
      clear h8 hne hx hxl
      go_wp2_with fail
      go_at_call 57
      refine (H2 wr H8).out.mono ?_
      rintro e w2 ⟨hb2, g2, c2, rfl, hg2, h82, hm1, hm2⟩
      have hS2 := hS.out.below hb2
      have hgw := (hS.out.row.lt g rfl).1
      have hs2 := hb2.size
      have hws := HW.out.size
      have f1 : w2.frozen? ⟨g, k * 3 + 1, none⟩ = false := hS2.row.frozenAt _
      have d1 : w2.cell? ⟨g, k * 3 + 1, none⟩ = some (.slice x.A x.n x.c) := by rw [hb2.cell (by exact hgl)]; exact c1
      have hS3 := Lib.hid (hS2.put (g2 := g2) (c2 := c2) HX.out h82 (by omega) ⟨hm1, hm2⟩)
      have HW3 := Lib.hid ((HW.out.trans (hb2.mono hws)).setCell (p := ⟨g, k * 3 + 1, none⟩) (show w.heap.size ≤ g by exact hgw) (.slice (some ⟨g2, 0, none⟩) x.r.bytes.length c2))
      clear hS hb2 h82 hS2 hgw H2 H8 HX hm1 hm2 c1
      go_wp2_with fail
      go_roundw
      case rel => exact ⟨k + 1, _, by omega, by go_num, hS3, HW3⟩
      case measure => (simp [intOf] <;> omega)
    · obtain rfl : k = n' := by omega
      have HA : Hid (AtR wr (some ⟨g, 0, none⟩) rs.length rs) := Lib.hid (by have := hS.out.atR; rw [HN.out] at this; exact this)
      clear hS
      go_wp2_with fail
      go_ret
      exact ⟨HW.out, g, c', by rw [HN.out]; rfl, HA⟩
end Mm
end Go.Proofs.YtmiphnocgepdgaaGreatDoor
