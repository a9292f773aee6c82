/- The statements' own helper: OwnProg. -/
import Derived.Test.YtbdhibgljaelbaaDoorF2
import Derived.Deep.RegionLaw
import Derived.Deep.Cut
import Derived.Deep.CutRange
namespace Go.Proofs.YtbdhibgljaelbaaDoor
open Go Go.RowKit Go.Sort Go.Shelf
namespace Lb
open Wd Nt Gr
set_option linter.unusedVariables false
set_option linter.unusedSimpArgs false
/-- a program in memory of its own -/
def OwnP (p : Pg) (w : World) (e : Ending) (w' : World) : Prop := Below w.heap.size w w' ∧ ∃ gA c gX d, e = .returned (pgV p (some ⟨gA, 0, none⟩) c (some ⟨gX, 0, none⟩) d) ∧ Rws 29 w.heap.size (.slice (some ⟨gA, 0, none⟩) p.bf.length c) p.bf w' ∧ Rws 33 w.heap.size (.slice (some ⟨gX, 0, none⟩) p.op.length d) p.op w'
/-- what the region comes to -/
structure OpE (w W : World) (p : Pg) : Prop where
  ex : ∃ gA c gX d, Bk W w.heap.size 26 #[.int .i64 p.rg, .slice (some ⟨gA, 0, none⟩) p.bf.length c, .slice (some ⟨gX, 0, none⟩) p.op.length d] ∧ Rws 29 w.heap.size (.slice (some ⟨gA, 0, none⟩) p.bf.length c) p.bf W ∧ Rws 33 w.heap.size (.slice (some ⟨gX, 0, none⟩) p.op.length d) p.op W
  z : Bk W (w.heap.size + 1) 26 #[.int .i64 0, .slice none 0 0, .slice none 0 0]
  b : Below w.heap.size w W
set_option maxRecDepth 100000 in
set_option maxHeartbeats 4000000 in
theorem ownProg_l (p : Pg) (A X : Option Addr) (c d : Nat) (w : World) (hR : Rdr w w.heap.size A p.bf.length p.bf) (hX : Rdr w w.heap.size X p.op.length p.op) (hb : p.bf.length ≤ 100000) (ho : p.op.length ≤ 100000) :
    Calls Tryd.prog 27 #[pgV p A c X d] w (OwnP p w) := by
  unfold OwnP pgV
  have HOB := Lib.hid (fun (W : World) (h : Below w.heap.size w W) => ownB_c A p.bf.length c p.bf W ((hR.below h).more h.size) hb)
  have HOO := Lib.hid (fun (W : World) (h : Below w.heap.size w W) => ownO_c X p.op.length d p.op W ((hX.below h).more h.size) ho)
  unfold OwnA at HOB HOO
  have HB0 := Lib.hid (bel_al' (bel_al (w := w) (.cells #[.int .i64 p.rg, .slice A p.bf.length c, .slice X p.op.length d] 26)) (.cells #[.int .i64 0, .slice none 0 0, .slice none 0 0] 26))
  have HK0 : Hid (Bk ((w.alloc (.cells #[.int .i64 p.rg, .slice A p.bf.length c, .slice X p.op.length d] 26)).alloc (.cells #[.int .i64 0, .slice none 0 0, .slice none 0 0] 26)) w.heap.size 26 #[.int .i64 p.rg, .slice A p.bf.length c, .slice X p.op.length d]) := Lib.hid ((Bk.new w _ _).alloc _)
  have HZ0 : Hid (Bk ((w.alloc (.cells #[.int .i64 p.rg, .slice A p.bf.length c, .slice X p.op.length d] 26)).alloc (.cells #[.int .i64 0, .slice none 0 0, .slice none 0 0] 26)) (w.heap.size + 1) 26 #[.int .i64 0, .slice none 0 0, .slice none 0 0]) := Lib.hid (Bk.new' (by simp))
  clear hR hX hb ho
  obtain ⟨W0, hW0⟩ : ∃ W0, W0 = ((w.alloc (.cells #[.int .i64 p.rg, .slice A p.bf.length c, .slice X p.op.length d] 26)).alloc (.cells #[.int .i64 0, .slice none 0 0, .slice none 0 0] 26)) := ⟨_, rfl⟩
  have HW0 := Lib.hid hW0
  rw [← hW0] at HB0 HK0 HZ0
  clear hW0
  go_enter Tryd.func27, Tryd.ntmps27
  go_upto_region 1 with fail
  rw [← HW0.out]
  go_cut [] from 3 to 10 (fun W => Hid (OpE w W p))
  case first =>
    have S0 : Hid (W0.drew.cell? ⟨w.heap.size, 0, none⟩ = some (.int .i64 p.rg) ∧ W0.drew.cell? ⟨w.heap.size, 1, none⟩ = some (.slice A p.bf.length c) ∧ W0.drew.cell? ⟨w.heap.size, 2, none⟩ = some (.slice X p.op.length d) ∧ Below w.heap.size w W0.drew) := Lib.hid ⟨HK0.out.cell 0, HK0.out.cell 1, HK0.out.cell 2, HB0.out.drew⟩
    have a1 := HK0.out.cell 1
    have a2 := HK0.out.cell 2
    have f1 := HK0.out.frozen 1
    have f2 := HK0.out.frozen 2
    go_region_law (first | ((try go_simp); go_at_call 52; refine (HOB.out _ (by first | exact HB0.out.drew | exact hbO2)).mono ?_; rintro e wB ⟨hbB, gB, cB, rfl, hrB⟩; have hbB2 : Below w.heap.size w wB := (by first | exact bel_tr HB0.out.drew hbB | exact bel_tr hbO2 hbB); have hKB : Bk wB w.heap.size 26 #[.int .i64 p.rg, .slice A p.bf.length c, .slice X p.op.length d] := (by first | exact (Bk.drew HK0.out).below hbB (Bk.lt (Bk.drew HK0.out)) | exact hKO.below hbB hKO.lt); have hZB : Bk wB (w.heap.size + 1) 26 #[.int .i64 0, .slice none 0 0, .slice none 0 0] := (by first | exact (Bk.drew HZ0.out).below hbB (Bk.lt (Bk.drew HZ0.out)) | exact hZO.below hbB hZO.lt); have c1B := hKB.cell 1; have c2B := hKB.cell 2; have f1B := hKB.frozen 1; have f2B := hKB.frozen 2) | ((try go_simp); go_at_call 11; refine (HOO.out _ (by first | exact HB0.out.drew | exact hbB2)).mono ?_; rintro e wO ⟨hbO, gO, cO, rfl, hrO⟩; have hbO2 : Below w.heap.size w wO := (by first | exact bel_tr HB0.out.drew hbO | exact bel_tr hbB2 hbO); have hKO : Bk wO w.heap.size 26 #[.int .i64 p.rg, .slice A p.bf.length c, .slice X p.op.length d] := (by first | exact (Bk.drew HK0.out).below hbO (Bk.lt (Bk.drew HK0.out)) | exact hKB.below hbO hKB.lt); have hZO : Bk wO (w.heap.size + 1) 26 #[.int .i64 0, .slice none 0 0, .slice none 0 0] := (by first | exact (Bk.drew HZ0.out).below hbO (Bk.lt (Bk.drew HZ0.out)) | exact hZB.below hbO hZB.lt); have c1O := hKO.cell 1; have c2O := hKO.cell 2; have f1O := hKO.frozen 1; have f2O := hKO.frozen 2) | fail)
    all_goals (
      go_wp2_with fail
      go_meet
      case rel =>
        have hrB2 := own_mono (own_below hrB hbO) (B' := w.heap.size) (by exact HB0.out.size)
        have hrO2 := own_mono hrO (B' := w.heap.size) (by exact hbB2.size)
        refine Lib.hid ⟨⟨gB, cB, gO, cO, (hKO.set_ 1 _).set_ 2 _, ?_, ?_⟩, (hZO.far (p := ⟨w.heap.size, 1, none⟩) (show w.heap.size + 1 ≠ w.heap.size by omega) _).far (p := ⟨w.heap.size, 2, none⟩) (show w.heap.size + 1 ≠ w.heap.size by omega) _, (hbO2.setCell (p := ⟨w.heap.size, 1, none⟩) (Nat.le_refl _) _).setCell (p := ⟨w.heap.size, 2, none⟩) (Nat.le_refl _) _⟩
        · exact own_far (own_far hrB2 hKO (show (29 : TypeId) ≠ 26 by decide)) (hKO.set_ 1 _) (show (29 : TypeId) ≠ 26 by decide)
        · exact own_far (own_far hrO2 hKO (show (33 : TypeId) ≠ 26 by decide)) (hKO.set_ 1 _) (show (33 : TypeId) ≠ 26 by decide))
  case rest =>
    have HE := hcut
    obtain ⟨⟨gA, cA, gX, cX, hk, hA, hX⟩, hz, hb⟩ := HE.out
    obtain ⟨k0, k1, k2⟩ := c3 hk
    obtain ⟨z0, z1, z2⟩ := c3 hz
    have f0 := hz.frozen 0
    have f1 := hz.frozen 1
    have f2 := hz.frozen 2
    have HA := Lib.hid hA
    have HX := Lib.hid hX
    have HB := Lib.hid hb
    have HZ := Lib.hid hz
    clear hA hX hb hz hk HE hcut HOB HOO HB0 HK0 HZ0 HW0
    go_wp2_with fail
    refine bodyPost_ret (results_cell_row rfl _ _ (w.heap.size + 1) 26 #[.int .i64 p.rg, .slice (some ⟨gA, 0, none⟩) p.bf.length cA, .slice (some ⟨gX, 0, none⟩) p.op.length cX] (0, 0) _ rfl (((HZ.out.set_ 0 _).set_ 1 _).set_ 2 _) Tryd.underlying26 rfl (by kernel_rfl)) rfl ⟨?_, gA, cA, gX, cX, rfl, ?_, ?_⟩
    · exact ((HB.out.setCell (p := ⟨w.heap.size + 1, 0, none⟩) (Nat.le_succ _) _).setCell (p := ⟨w.heap.size + 1, 1, none⟩) (Nat.le_succ _) _).setCell (p := ⟨w.heap.size + 1, 2, none⟩) (Nat.le_succ _) _
    · exact own_far (own_far (own_far HA.out HZ.out (show (29 : TypeId) ≠ 26 by decide)) (HZ.out.set_ 0 _) (show (29 : TypeId) ≠ 26 by decide)) ((HZ.out.set_ 0 _).set_ 1 _) (show (29 : TypeId) ≠ 26 by decide)
    · exact own_far (own_far (own_far HX.out HZ.out (show (33 : TypeId) ≠ 26 by decide)) (HZ.out.set_ 0 _) (show (33 : TypeId) ≠ 26 by decide)) ((HZ.out.set_ 0 _).set_ 1 _) (show (33 : TypeId) ≠ 26 by decide)
end Lb
end Go.Proofs.YtbdhibgljaelbaaDoor
