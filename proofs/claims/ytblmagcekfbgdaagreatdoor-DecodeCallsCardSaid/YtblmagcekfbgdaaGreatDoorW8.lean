/- The document's own reading of bytes: All. -/
import Derived.Test.YtblmagcekfbgdaaGreatDoorW4
import Derived.Test.YtblmagcekfbgdaaGreatDoorT2
namespace Go.Proofs.YtblmagcekfbgdaaGreatDoor
open Go Go.RowKit
namespace Is
open Nt
set_option linter.unusedVariables false
set_option linter.unusedSimpArgs false
set_option maxRecDepth 100000 in
set_option maxHeartbeats 4000000 in
theorem rAll_c (code : ByteArray) (w : World) (hs : code.size ≤ 400) :
    Calls Tryz.prog 8 #[.string code] w (TellA code w) := by
  have HS := Lib.hid hs
  have hs4 : (code.size : Int) ≤ 400 := by omega
  obtain ⟨inf, hi, hz, q1, q2⟩ := info_parts info_inst
  go_enter Tryz.func8, Tryz.ntmps8
  go_wp2_with fail
  go_loopw [5, 6] (fun v u W => ∃ (is : List Ins) (k : Nat), u = .int .i64 (k : Int) ∧ Hid (DAt code is k) ∧ Hid (is.length ≤ k) ∧ Hid (k ≤ code.size) ∧ Hid (∀ i ∈ is, i.wf) ∧ Hid (Rxs w.heap.size v is W) ∧ Hid (Mu [] w W)) (fun _ u _ => code.size + 1 - (intOf u).toNat)
  case atStart => exact ⟨[], 0, rfl, Lib.hid (DAt.start code), Lib.hid (by simp), Lib.hid (by omega), Lib.hid (fun i hi => by cases hi), Lib.hid (World.ownsRow_nil _ _ _ _), Lib.hid (Mu.refl _ _)⟩
  case round =>
    obtain ⟨is, k, rfl, HD, HK, HKS, HW, HX, HM⟩ := hrel
    obtain ⟨A, c, rfl⟩ := rx_form HX.out
    have HI := Lib.hid (rInst_c code (k : Int) wr (i64e (by omega) (by have := HKS.out; omega)) (by omega))
    have hk4 : (k : Int) ≤ 400 := by have := HKS.out; omega
    have hk0 : (0 : Int) ≤ (k : Int) := by omega
    rcases Nat.lt_or_ge k code.size with hkl | hge
    case inr =>
      have hks : k = code.size := by have := HKS.out; omega
      have hki : ¬ (k : Int) < (code.size : Int) := by omega
      have hd : decO code k = none := by
        rcases decO_cases code k with hd | ⟨i, hd⟩
        · exact hd
        · have := (HD.out.next hd).2.2.2.2.2
          omega
      have HE := Lib.hid (HD.out.stop hd)
      have HKE := Lib.hid hks
      clear HI hd hks hge
      go_wp2_with fail
      go_ret3
      obtain ⟨_, h2, h3⟩ := rx_rd HX.out HW.out
      unfold TellA
      rw [HE.out, if_pos HKE.out]
      exact ⟨A, c, rfl, h2, h3, HM.out.below (Nat.le_refl _) (fun j hj => by cases hj)⟩
    have hki : (k : Int) < (code.size : Int) := by omega
    rcases decO_cases code k with hd | ⟨i, hd⟩
    · have HE := Lib.hid (HD.out.stop hd)
      rw [rD_none hkl hd] at HI
      have HKL := Lib.hid hkl
      clear hd hkl
      unfold tD zI Ins.vs at HI
      dsimp only at HI
      go_wp2_with fail
      go_at_call 6
      refine HI.out.mono ?_
      rintro e w2 ⟨rfl, hb⟩
      have HX2 := Lib.hid ((rx_below HX.out hb).alloc (.cells #[.int .i64 0, .int .i64 0, .int .i64 0, .int .i64 0, .int .i64 0, .int .i64 0, .int .i64 0, .int .i64 0, .int .i64 0] 26))
      have HM2 : Hid (Mu [] w (w2.alloc (.cells #[.int .i64 0, .int .i64 0, .int .i64 0, .int .i64 0, .int .i64 0, .int .i64 0, .int .i64 0, .int .i64 0, .int .i64 0] 26))) := Lib.hid ((HM.out.trans (Mu.of_below hb) (fun x hx hl => by cases hx)).alloc _)
      clear hb
      go_wp2_with fail
      go_ret3
      obtain ⟨_, h2, h3⟩ := rx_rd HX2.out HW.out
      unfold TellA
      rw [HE.out, if_neg (by have := HKL.out; omega)]
      exact ⟨A, c, rfl, h2, h3, HM2.out.below (Nat.le_refl _) (fun j hj => by cases hj)⟩
    · obtain ⟨hnx, l1, l11, hwf, hok, hkl⟩ := HD.out.next hd
      rw [rD_some hkl hd] at HI
      have HNX := Lib.hid hnx
      have HWF := Lib.hid hwf
      have HRow : Hid (insRow (is ++ [i]) = insRow is ++ i.vs.toList) := Lib.hid (by rw [insRow_app, insRow_one])
      have HV9 := Lib.hid (fun W j u hu => vs_new9 W i j u hu)
      have HO9 := Lib.hid (vs_one9 i)
      have HLL : Hid ((is ++ [i]).length = is.length + 1) := Lib.hid (by simp)
      have HWA : Hid (∀ x ∈ is ++ [i], x.wf) := Lib.hid (fun x hx => by
        rcases List.mem_append.1 hx with h | h
        · exact HW.out x h
        · simp at h; rw [h]; exact HWF.out)
      have HKN : Hid (k + (encL i).length ≤ code.size) := Lib.hid (by obtain ⟨f, _, h, _⟩ := hnx; exact h)
      have hln : (k : Int) + ((encL i).length : Int) ≤ 400 := by have := HKN.out; omega
      have HL1 := Lib.hid l1
      have hl11 : ((encL i).length : Int) ≤ 11 := by omega
      have hlen : is.length + 1 ≤ 500 := by have := HK.out; have := HKS.out; omega
      clear hd hnx l1 l11 hwf hok hkl HD
      unfold tD at HI
      dsimp only at HI
      generalize is ++ [i] = is2 at *
      generalize (encL i).length = ln at *
      obtain ⟨i0, i1, i2, i3, i4, i5, i6, i7, i8⟩ := i
      unfold Ins.vs at HI HV9 HO9 HRow
      dsimp only at HI HV9 HO9 HRow
      go_wp2_with fail
      go_at_call 6
      refine HI.out.mono ?_
      rintro e w2 ⟨rfl, hb⟩
      have HX2 := Lib.hid (rx_below HX.out hb)
      have HM2 : Hid (Mu [] w w2) := Lib.hid (HM.out.trans (Mu.of_below hb) (fun x hx hl => by cases hx))
      have hsz2 : w.heap.size ≤ w2.heap.size := HM2.out.size
      clear hb
      go_wp2_with (at_builtin; go_loud (refine wpList_append_own_at _ rfl _ _ 30 rfl w.heap.size 26 inf _ 9 72 Tryz.underlying30 hi hz q1 q2 rfl (by decide) _ is.length _ rfl ((HX2.out.alloc _).alloc _) ⟨w2.heap.size + 1, 0, none⟩ 1 1 (#[.int .i64 i0, .int .i64 i1, .int .i64 i2, .int .i64 i3, .int .i64 i4, .int .i64 i5, .int .i64 i6, .int .i64 i7, .int .i64 i8] : Array Value).toList rfl rfl (by intro j u hu; have h := HV9.out (w2.alloc (.cells #[.int .i64 i0, .int .i64 i1, .int .i64 i2, .int .i64 i3, .int .i64 i4, .int .i64 i5, .int .i64 i6, .int .i64 i7, .int .i64 i8] 26)) j u hu; rw [World.size_alloc] at h; exact h) HO9.out (by simp only [maxLen]; omega) (by omega) (by simp; omega) ?_); intro v' w3 hown hgrow hnil hblk; clear hnil hblk; have hgr : ((w2.alloc (.cells #[.int .i64 i0, .int .i64 i1, .int .i64 i2, .int .i64 i3, .int .i64 i4, .int .i64 i5, .int .i64 i6, .int .i64 i7, .int .i64 i8] 26)).alloc (.cells #[.int .i64 i0, .int .i64 i1, .int .i64 i2, .int .i64 i3, .int .i64 i4, .int .i64 i5, .int .i64 i6, .int .i64 i7, .int .i64 i8] 26)).grownBy w3 (Value.slice A is.length c).ownBlock := hgrow; have hlt := World.ownsRow.lt HX2.out; have HM3 : Hid (Mu [] w w3) := Lib.hid (((HM2.out.alloc _).alloc _).trans (grown_mu hgr (Value.slice A is.length c).ownBlock.toList (fun g e => by rw [e]; simp)) (fun x hx hl => by simp at hx; have := (hlt x hx).1; omega)); have HX3 : Hid (Rxs w.heap.size v' is2 w3) := Lib.hid (by unfold Rxs; rw [HLL.out, HRow.out]; exact hown); clear hown hgrow hgr hlt)
      refine ⟨⟨is2, k + ln, by push_cast; rfl, HNX, Lib.hid (by have := HK.out; have := HLL.out; have := HL1.out; omega), HKN, HWA, HX3, HM3⟩, ?_⟩
      show code.size + 1 - (intOf (Value.int IntKind.i64 ((k : Int) + (ln : Int)))).toNat < code.size + 1 - (intOf (Value.int IntKind.i64 (k : Int))).toNat
      have := HL1.out
      have := HKN.out
      simp [intOf]
      omega
end Is
end Go.Proofs.YtblmagcekfbgdaaGreatDoor
