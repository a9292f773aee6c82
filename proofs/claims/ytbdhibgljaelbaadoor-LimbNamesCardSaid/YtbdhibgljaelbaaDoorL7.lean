/- The landed package limb: an operation's fault. -/
import Derived.Test.YtbdhibgljaelbaaDoorL6
import Derived.Deep.RegionHeld3
import Derived.Deep.RegionLaw
namespace Go.Proofs.YtbdhibgljaelbaaDoor
open Go Go.RowKit Go.Sort Go.Shelf
namespace Lb
open Wd Nt Gr
set_option linter.unusedVariables false
set_option linter.unusedSimpArgs false
instance : Sh Int := ⟨fun z => [.int .i64 z], 1, fun _ => rfl, fun o v hv => by
  simp only [List.mem_cons, List.not_mem_nil, or_false] at hv
  subst hv; rfl, by decide⟩
theorem int_at {w : World} {B n : Nat} {A : Option Addr} {xs : List Int} (h : Rdr w B A n xs) {j : Nat} {x : Int} (hj : xs[j]? = some x) :
    ∃ b o, A = some ⟨b, o, none⟩ ∧ b < B ∧ w.cell? ⟨b, o + j, none⟩ = some (.int .i64 x) := by
  obtain ⟨b, o, e, hb, hc⟩ := h.at_ hj
  have h0 := hc 0 _ rfl
  rw [show Sh.k Int = 1 from rfl, Nat.mul_one, Nat.add_zero] at h0
  exact ⟨b, o, e, hb, h0⟩
set_option maxHeartbeats 1000000 in
theorem indexI_l (A : Option Addr) (n c : Nat) (xs : List Int) (z : Int) (w : World) (hR : Rdr w w.heap.size A n xs) (hn : n ≤ 1000000) :
    Calls Tryd.prog 108 #[.slice A n c, .int .i64 z] w fun e w' => (∃ r : Int, e = .returned (.int .i64 r) ∧ decide (0 ≤ r) = xs.contains z) ∧ w' = w := by
  have HL := Lib.hid hR.len
  have HR := Lib.hid hR
  obtain ⟨res, hres⟩ : ∃ res, xs.contains z = res := ⟨_, rfl⟩
  have HRES := Lib.hid hres
  rw [hres]
  clear hR hres
  go_enter Tryd.func108, Tryd.ntmps108
  go_wp2_with fail
  go_loopw [8] (fun i W => ∃ k : Nat, k ≤ n ∧ i = .int .i64 (k : Int) ∧ Hid ((xs.take k).contains z = false) ∧ Hid (W = w)) (fun i _ => n - (intOf i).toNat)
  case atStart => exact ⟨0, Nat.zero_le _, rfl, Lib.hid (by simp), Lib.hid rfl⟩
  case round =>
    obtain ⟨k, hk, rfl, HA, HW⟩ := hrel
    obtain rfl := HW.out
    rcases Nat.lt_or_ge k n with hlt | hge
    · have hki : (k : Int) < (n : Int) := by omega
      have hkl : k < xs.length := by rw [HL.out]; exact hlt
      obtain ⟨x, hx⟩ : ∃ x, xs[k]? = some x := ⟨_, List.getElem?_eq_getElem hkl⟩
      obtain ⟨b, o, rfl, hblt, s0⟩ := int_at HR.out hx
      have HTK : Hid (xs.take (k + 1) = xs.take k ++ [x]) := Lib.hid (by rw [List.take_add_one, hx]; rfl)
      have HMEM := Lib.hid (List.mem_of_getElem? hx)
      clear hx
      by_cases hv : z = x
      · subst hv
        have HT : Hid (res = true) := Lib.hid (by rw [← HRES.out, List.contains_iff_mem]; exact HMEM.out)
        go_wp2_with fail
        go_ret
        exact ⟨⟨_, rfl, by rw [HT.out]; simp⟩, rfl⟩
      · have HA2 : Hid ((xs.take (k + 1)).contains z = false) := Lib.hid (by
          rw [HTK.out]
          have h := HA.out
          rw [Bool.eq_false_iff] at h ⊢
          intro h2
          rw [List.contains_iff_mem, List.mem_append, List.mem_singleton] at h2
          rcases h2 with h2 | h2
          · exact h (List.contains_iff_mem.2 h2)
          · exact hv h2)
        have hne : (z == x) = false := by rw [beq_eq_false_iff_ne]; exact hv
        clear hv
        go_wp2_with fail
        go_roundw
        case rel => exact ⟨k + 1, by omega, by go_num, HA2, by first | exact Lib.hid rfl | exact Lib.hid trivial⟩
        case measure => (simp [intOf] <;> omega)
    · obtain rfl : k = n := by omega
      have HT : Hid (res = false) := Lib.hid (by have h := HA.out; rw [← HRES.out]; rw [List.take_of_length_le (by rw [HL.out]; exact Nat.le_refl _)] at h; exact h)
      go_wp2_with fail
      go_ret
      exact ⟨⟨_, rfl, by rw [HT.out]; simp⟩, rfl⟩
theorem containsI_l (A : Option Addr) (n c : Nat) (xs : List Int) (z : Int) (w : World) (hR : Rdr w w.heap.size A n xs) (hn : n ≤ 1000000) :
    Calls Tryd.prog 96 #[.slice A n c, .int .i64 z] w fun e w' => e = .returned (.bool (xs.contains z)) ∧ w' = w := by
  have HC := Lib.hid (indexI_l A n c xs z w hR hn)
  generalize xs.contains z = res at *
  clear hR
  go_enter Tryd.func96, Tryd.ntmps96
  go_wp2_with fail
  refine HC.out.mono ?_
  rintro e w' ⟨⟨r, rfl, hr⟩, rfl⟩
  have HR := Lib.hid hr
  clear hr
  go_wp2_with fail
  go_ret
  exact ⟨by rw [← HR.out]; rfl, rfl⟩
/-- what stands ahead, in block g -/
structure AhW (w : World) (B g : Nat) (s : Ah) : Prop where
  ex : ∃ v, Bk w g 79 (ahA s.md v) ∧ w.ownsRow B 3 1 v s.lp.length (row s.lp)
  hg : B ≤ g
  rg : ∀ d ∈ s.lp, 0 ≤ d ∧ d < 64
theorem AhW.below {w w' : World} {B g : Nat} {s : Ah} (h : AhW w B g s) (hb : Below w.heap.size w w') : AhW w' B g s := by
  obtain ⟨v, h1, h2⟩ := h.ex
  exact ⟨⟨v, h1.below hb h1.lt, h2.kept (row := none) ⟨hb.os, hb.tape, hb.output, hb.size, fun k hk _ => hb.block k hk⟩ (by cases hv : v.ownBlock <;> simp)⟩, h.hg, h.rg⟩
theorem AhW.open_ {w : World} {B g : Nat} {s : Ah} (h : AhW w B g s) : ∃ A c, Bk w g 79 (ahA s.md (.slice A s.lp.length c)) ∧ Rdr w w.heap.size A s.lp.length s.lp ∧ g < w.heap.size ∧ s.lp.length ≤ c ∧ w.ownsRow B 3 1 (.slice A s.lp.length c) s.lp.length (row s.lp) := by
  obtain ⟨v, h1, h2⟩ := h.ex
  obtain ⟨A, c, rfl, hc⟩ := rws_form (xs := s.lp) h2
  exact ⟨A, c, h1, (rws_rd (xs := s.lp) h2).2.1, h1.lt, hc, h2⟩
set_option maxRecDepth 100000 in
set_option maxHeartbeats 4000000 in
theorem mis_l (B g : Nat) (s : Ah) (o : Op) (hd : Rg o.d) (he : Rg o.e) (w : World) (hA : AhW w B g s) (hn : s.lp.length ≤ 8) :
    Calls Tryd.prog 74 #[.pointer (some ⟨g, 0, none⟩), .agg (Op.vs o).toArray] w fun e w' => e = .returned (.bool (misP s o)) ∧ Below w.heap.size w w' := by
  obtain ⟨A, c, hB, hR, hlt, hc, _⟩ := hA.open_
  have HE : Hid (misP s o = if o.k = 17 then s.lp.isEmpty else if o.k = 16 then hasR s.md o.d else s.lp.contains o.d || s.lp.contains o.e) := Lib.hid rfl
  have HHAS := Lib.hid (fun W (hb : Below w.heap.size w W) => has_m g s.md (.slice A s.lp.length c) o.d hd W (hB.below hb hB.lt))
  have HCD := Lib.hid (fun W (hb : Below w.heap.size w W) => containsI_l A s.lp.length c s.lp o.d W ((hR.below hb).more hb.size) (by omega))
  have HCE := Lib.hid (fun W (hb : Below w.heap.size w W) => containsI_l A s.lp.length c s.lp o.e W ((hR.below hb).more hb.size) (by omega))
  have HEM : Hid (s.lp.isEmpty = decide (((s.lp.length : Nat) : Int) = 0)) := Lib.hid (by cases s.lp <;> simp; omega)
  have HB := Lib.hid hB
  clear hR hA hc
  generalize misP s o = res at *
  generalize s.lp.isEmpty = em at *
  generalize s.lp.contains o.d = vd at *
  generalize s.lp.contains o.e = ve at *
  generalize hasR s.md o.d = vh at *
  generalize s.md = md at *
  generalize s.lp.length = n at *
  obtain ⟨ok, od, oe, oa, ob, oc, obf, oim⟩ := o
  unfold Op.vs at *
  dsimp only at *
  simp only [List.toArray] at *
  have HB0 := Lib.hid (bel_al (w := w) (.cells #[.int .i64 ok, .int .i64 od, .int .i64 oe, .int .i64 oa, .int .i64 ob, .int .i64 oc, .int .i64 obf, .int .u64 oim] 33))
  have HI0 := Lib.hid (Bk.new w 33 #[.int .i64 ok, .int .i64 od, .int .i64 oe, .int .i64 oa, .int .i64 ob, .int .i64 oc, .int .i64 obf, .int .u64 oim])
  have HA1 := Lib.hid (hB.alloc (.cells #[.int .i64 ok, .int .i64 od, .int .i64 oe, .int .i64 oa, .int .i64 ob, .int .i64 oc, .int .i64 obf, .int .u64 oim] 33))
  clear hB
  obtain ⟨W0, hW0⟩ : ∃ W0, W0 = w.alloc (.cells #[.int .i64 ok, .int .i64 od, .int .i64 oe, .int .i64 oa, .int .i64 ob, .int .i64 oc, .int .i64 obf, .int .u64 oim] 33) := ⟨_, rfl⟩
  rw [← hW0] at HB0 HI0 HA1
  have HW0 := Lib.hid hW0
  clear hW0
  have g64 := (HB.out.cell 64).trans (ahA_last _ _)
  by_cases h17 : ok = 17
  · subst h17
    rw [if_pos rfl] at HE
    go_enter Tryd.func74, Tryd.ntmps74
    go_wp2_with fail
    rw [← HW0.out]
    go_ret
    exact ⟨by rw [HE.out, HEM.out]; first | rfl | simp, HB0.out⟩
  · have n17 : (ok == 17) = false := by rw [beq_eq_false_iff_ne]; exact h17
    rw [if_neg h17] at HE
    by_cases h16 : ok = 16
    · subst h16
      rw [if_pos rfl] at HE
      go_enter Tryd.func74, Tryd.ntmps74
      go_wp2_with fail
      rw [← HW0.out]
      obtain ⟨a0, a1, a2, a3, a4, a5, a6, a7⟩ := c8 HI0.out
      have HK := Lib.hid (fun q => HHAS.out (W0.drewN q) (below_drewN HB0.out q))
      clear g64
      go_quiet ((go_at_call 75; exact Calls.quiet_of_same (HK.out _)))
      go_wp2_with fail
      go_ret
      exact ⟨by rw [HE.out]; rfl, below_drewN HB0.out _⟩
    · have n16 : (ok == 16) = false := by rw [beq_eq_false_iff_ne]; exact h16
      rw [if_neg h16] at HE
      clear h16 h17
      cases vd with
      | true =>
        go_enter Tryd.func74, Tryd.ntmps74
        go_wp2_with fail
        rw [← HW0.out]
        have HK := Lib.hid (fun q => HCD.out (W0.drewN q) (below_drewN HB0.out q))
        have g64 := (HA1.out.cell 64).trans (ahA_last _ _)
        obtain ⟨a0, a1, a2, a3, a4, a5, a6, a7⟩ := c8 HI0.out
        go_quiet ((go_at_call 96; exact Calls.quiet_of_same (HK.out _)))
        go_wp2_with fail
        go_ret
        exact ⟨by rw [HE.out]; rfl, below_drewN HB0.out _⟩
      | false =>
        go_enter Tryd.func74, Tryd.ntmps74
        go_wp2_with fail
        rw [← HW0.out]
        have HK := Lib.hid (fun q => HCD.out (W0.drewN q) (below_drewN HB0.out q))
        have HK2 := Lib.hid (fun q => HCE.out (W0.drewN q) (below_drewN HB0.out q))
        have g64 := (HA1.out.cell 64).trans (ahA_last _ _)
        obtain ⟨a0, a1, a2, a3, a4, a5, a6, a7⟩ := c8 HI0.out
        go_quiet ((go_at_call 96; first | (with_reducible exact Calls.quiet_of_same (HK.out _)) | (with_reducible exact Calls.quiet_of_same (HK2.out _))))
        go_wp2_with fail
        go_ret
        exact ⟨by rw [HE.out]; rfl, below_drewN HB0.out _⟩
end Lb
end Go.Proofs.YtbdhibgljaelbaaDoor
