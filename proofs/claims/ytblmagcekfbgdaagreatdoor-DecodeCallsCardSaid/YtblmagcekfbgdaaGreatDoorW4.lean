/- The document's own first look (layer 7): behind a REX, places and the whole. | The document's own first look (layer 7): whatever comes first. | The document's own first look (layer 7), plainly: bytes cut ahead of a place; what is looked at is of the language; when it is an instruction. | The document's own Inst, All (layer 7). -/
import Derived.Test.YtblmagcekfbgdaaGreatDoorW1
import Derived.Test.YtblmagcekfbgdaaGreatDoorM1
import Derived.Test.YtblmagcekfbgdaaGreatDoorT2
namespace Go.Proofs.YtblmagcekfbgdaaGreatDoor
open Go Go.RowKit
namespace Is
open Nt
set_option linter.unusedVariables false
set_option linter.unusedSimpArgs false
theorem Wk.retA {C j : Nat} {s : ByteArray} {w W : World} (h : Wk C s w j W) {o : Obj} {fn : Func} {p : Tmp} {a : Act} {E : Nat} {X : Array Value} {c0 c1 c2 c3 c4 c5 c6 c7 c8 : Value} (hf : fn.results = #[.cell p 26]) (hp : a.tmps.getD p undef = .pointer (some ⟨w.heap.size, 0, none⟩)) (hd : a.defers = []) (hX : X = #[c0, c1, c2, c3, c4, c5, c6, c7, c8]) (hE : E = j) :
    bodyPost Tryz.prog fn (fun e w' => e = .returned (.agg X) ∧ Cr w' C s E ∧ Mu [C] w w') .ret a ((put9 W w.heap.size c0 c1 c2 c3 c4 c5 c6 c7 c8).alloc o) := by
  subst hX hE
  have hl := h.l
  exact ret_putA hf hp hd h.r ⟨rfl, (put9_far h.c (by omega)).alloc _, (put9_mu h.m (fun h' => by omega)).alloc _⟩
set_option maxRecDepth 100000 in
set_option maxHeartbeats 4000000 in
theorem rw_139 (C k : Nat) (r : Int) (s : ByteArray) (w : World) (hC : Cr w C s k) (hs : s.size ≤ 1000000) (hr : 0 ≤ r ∧ r ≤ 255) (hb : Hid (bA s k = 139)) (m : Int) (hm : Hid (bA s (k + 1) = m)) (m0 : 0 ≤ m) (m1 : m ≤ 255) : Calls Tryz.prog 31 #[.pointer (some ⟨C, 0, none⟩), .int .i64 r] w fun e w' =>
    e = .returned (.agg (rpI 3 (midR m r) 0 (bA s) (k + 1) r : Ins).vs) ∧ Cr w' C s (rpE (bA s) (k + 1)) ∧ Mu [C] w w' := by
  have r0 := hr.1
  have r1 := hr.2
  have HW0 := Lib.hid (Wk.new hC)
  clear hC hr
  have KP : ∀ W, Cr W C s (k + 1 + 1) → Calls Tryz.prog 47 #[.pointer (some ⟨C, 0, none⟩), .int .i64 r, .int .i64 m] W fun e w' =>
      e = .returned (.agg #[.int .i64 (plBase (bA s) (k + 1) + rxL r), .int .i64 (rpX (bA s) (k + 1) r), .int .i64 (rpS (bA s) (k + 1) r), .int .i64 (rpD (bA s) (k + 1))]) ∧ Cr w' C s (rpE (bA s) (k + 1)) ∧ Mu [C] W w' := fun W h => by
    have := rplace_c C (k + 1) r s W h hs ⟨r0, r1⟩
    rw [hm.out] at this
    exact this
  unfold rpI
  have KP := Lib.hid KP
  generalize plBase (bA s) (k + 1) + rxL r = P at *
  generalize rpX (bA s) (k + 1) r = X at *
  generalize rpS (bA s) (k + 1) r = Z at *
  generalize rpD (bA s) (k + 1) = Q at *
  generalize rpE (bA s) (k + 1) = E at *
  unfold Ins.vs
  try unfold midR
  try unfold lstR
  try unfold rxM
  try unfold rxL
  dsimp only
  go_enter Tryz.func31, Tryz.ntmps31
  go_wp2_with fail
  go_at_call 29
  refine (rbyte_c C (k) s _ HW0.out.c hs).mono ?_
  rintro e w1 ⟨rfl, h1, h3⟩
  rw [hb.out]
  have HW1 := Lib.hid (HW0.out.go h1 h3)
  clear h1 h3 HW0
  go_wp2_with fail
  go_at_call 29
  refine (rbyte_c C (k + 1) s _ HW1.out.c hs).mono ?_
  rintro e w2 ⟨rfl, h1, h3⟩
  rw [hm.out]
  have HW2 := Lib.hid (HW1.out.go h1 h3)
  clear h1 h3 HW1
  go_wp2_with fail
  go_at_call 47
  refine (KP.out _ HW2.out.c).mono ?_
  rintro e w3 ⟨rfl, h1, h3⟩
  have HW3 := Lib.hid (HW2.out.go h1 h3)
  clear h1 h3 HW2 KP
  obtain ⟨b0, b1, b2, b3, b4, b5, b6, b7, b8⟩ := c9 HW3.out.r
  have ff : ∀ i, w3.frozen? ⟨w.heap.size, i, none⟩ = false := fun i => HW3.out.r.frozen i
  have hl3 : w.heap.size < w3.heap.size := HW3.out.r.lt
  go_wp2_with fail
  first | exact HW3.out.retA rfl rfl rfl rfl rfl | exact HW3.out.ret rfl rfl rfl rfl rfl
set_option maxRecDepth 100000 in
set_option maxHeartbeats 4000000 in
theorem rw_137_pl (C k : Nat) (r : Int) (s : ByteArray) (w : World) (hC : Cr w C s k) (hs : s.size ≤ 1000000) (hr : 0 ≤ r ∧ r ≤ 255) (hb : Hid (bA s k = 137)) (m : Int) (hm : Hid (bA s (k + 1) = m)) (m0 : 0 ≤ m) (m1 : m ≤ 255) (hlt : m < 192) : Calls Tryz.prog 31 #[.pointer (some ⟨C, 0, none⟩), .int .i64 r] w fun e w' =>
    e = .returned (.agg (rpI 4 0 (midR m r) (bA s) (k + 1) r : Ins).vs) ∧ Cr w' C s (rpE (bA s) (k + 1)) ∧ Mu [C] w w' := by
  have r0 := hr.1
  have r1 := hr.2
  have HW0 := Lib.hid (Wk.new hC)
  clear hC hr
  have KP : ∀ W, Cr W C s (k + 1 + 1) → Calls Tryz.prog 47 #[.pointer (some ⟨C, 0, none⟩), .int .i64 r, .int .i64 m] W fun e w' =>
      e = .returned (.agg #[.int .i64 (plBase (bA s) (k + 1) + rxL r), .int .i64 (rpX (bA s) (k + 1) r), .int .i64 (rpS (bA s) (k + 1) r), .int .i64 (rpD (bA s) (k + 1))]) ∧ Cr w' C s (rpE (bA s) (k + 1)) ∧ Mu [C] W w' := fun W h => by
    have := rplace_c C (k + 1) r s W h hs ⟨r0, r1⟩
    rw [hm.out] at this
    exact this
  unfold rpI
  have KP := Lib.hid KP
  generalize plBase (bA s) (k + 1) + rxL r = P at *
  generalize rpX (bA s) (k + 1) r = X at *
  generalize rpS (bA s) (k + 1) r = Z at *
  generalize rpD (bA s) (k + 1) = Q at *
  generalize rpE (bA s) (k + 1) = E at *
  unfold Ins.vs
  try unfold midR
  try unfold lstR
  try unfold rxM
  try unfold rxL
  dsimp only
  go_enter Tryz.func31, Tryz.ntmps31
  go_wp2_with fail
  go_at_call 29
  refine (rbyte_c C (k) s _ HW0.out.c hs).mono ?_
  rintro e w1 ⟨rfl, h1, h3⟩
  rw [hb.out]
  have HW1 := Lib.hid (HW0.out.go h1 h3)
  clear h1 h3 HW0
  go_wp2_with fail
  go_at_call 29
  refine (rbyte_c C (k + 1) s _ HW1.out.c hs).mono ?_
  rintro e w2 ⟨rfl, h1, h3⟩
  rw [hm.out]
  have HW2 := Lib.hid (HW1.out.go h1 h3)
  clear h1 h3 HW1
  go_wp2_with fail
  go_at_call 47
  refine (KP.out _ HW2.out.c).mono ?_
  rintro e w3 ⟨rfl, h1, h3⟩
  have HW3 := Lib.hid (HW2.out.go h1 h3)
  clear h1 h3 HW2 KP
  obtain ⟨b0, b1, b2, b3, b4, b5, b6, b7, b8⟩ := c9 HW3.out.r
  have ff : ∀ i, w3.frozen? ⟨w.heap.size, i, none⟩ = false := fun i => HW3.out.r.frozen i
  have hl3 : w.heap.size < w3.heap.size := HW3.out.r.lt
  go_wp2_with fail
  first | exact HW3.out.retA rfl rfl rfl rfl rfl | exact HW3.out.ret rfl rfl rfl rfl rfl
set_option maxRecDepth 100000 in
set_option maxHeartbeats 4000000 in
theorem rw_141 (C k : Nat) (r : Int) (s : ByteArray) (w : World) (hC : Cr w C s k) (hs : s.size ≤ 1000000) (hr : 0 ≤ r ∧ r ≤ 255) (hb : Hid (bA s k = 141)) (m : Int) (hm : Hid (bA s (k + 1) = m)) (m0 : 0 ≤ m) (m1 : m ≤ 255) : Calls Tryz.prog 31 #[.pointer (some ⟨C, 0, none⟩), .int .i64 r] w fun e w' =>
    e = .returned (.agg (rpI 5 (midR m r) 0 (bA s) (k + 1) r : Ins).vs) ∧ Cr w' C s (rpE (bA s) (k + 1)) ∧ Mu [C] w w' := by
  have r0 := hr.1
  have r1 := hr.2
  have HW0 := Lib.hid (Wk.new hC)
  clear hC hr
  have KP : ∀ W, Cr W C s (k + 1 + 1) → Calls Tryz.prog 47 #[.pointer (some ⟨C, 0, none⟩), .int .i64 r, .int .i64 m] W fun e w' =>
      e = .returned (.agg #[.int .i64 (plBase (bA s) (k + 1) + rxL r), .int .i64 (rpX (bA s) (k + 1) r), .int .i64 (rpS (bA s) (k + 1) r), .int .i64 (rpD (bA s) (k + 1))]) ∧ Cr w' C s (rpE (bA s) (k + 1)) ∧ Mu [C] W w' := fun W h => by
    have := rplace_c C (k + 1) r s W h hs ⟨r0, r1⟩
    rw [hm.out] at this
    exact this
  unfold rpI
  have KP := Lib.hid KP
  generalize plBase (bA s) (k + 1) + rxL r = P at *
  generalize rpX (bA s) (k + 1) r = X at *
  generalize rpS (bA s) (k + 1) r = Z at *
  generalize rpD (bA s) (k + 1) = Q at *
  generalize rpE (bA s) (k + 1) = E at *
  unfold Ins.vs
  try unfold midR
  try unfold lstR
  try unfold rxM
  try unfold rxL
  dsimp only
  go_enter Tryz.func31, Tryz.ntmps31
  go_wp2_with fail
  go_at_call 29
  refine (rbyte_c C (k) s _ HW0.out.c hs).mono ?_
  rintro e w1 ⟨rfl, h1, h3⟩
  rw [hb.out]
  have HW1 := Lib.hid (HW0.out.go h1 h3)
  clear h1 h3 HW0
  go_wp2_with fail
  go_at_call 29
  refine (rbyte_c C (k + 1) s _ HW1.out.c hs).mono ?_
  rintro e w2 ⟨rfl, h1, h3⟩
  rw [hm.out]
  have HW2 := Lib.hid (HW1.out.go h1 h3)
  clear h1 h3 HW1
  go_wp2_with fail
  go_at_call 47
  refine (KP.out _ HW2.out.c).mono ?_
  rintro e w3 ⟨rfl, h1, h3⟩
  have HW3 := Lib.hid (HW2.out.go h1 h3)
  clear h1 h3 HW2 KP
  obtain ⟨b0, b1, b2, b3, b4, b5, b6, b7, b8⟩ := c9 HW3.out.r
  have ff : ∀ i, w3.frozen? ⟨w.heap.size, i, none⟩ = false := fun i => HW3.out.r.frozen i
  have hl3 : w.heap.size < w3.heap.size := HW3.out.r.lt
  go_wp2_with fail
  first | exact HW3.out.retA rfl rfl rfl rfl rfl | exact HW3.out.ret rfl rfl rfl rfl rfl
theorem bne {a b : Int} (h : ¬a = b) : (a == b) = false := by rw [beq_eq_false_iff_ne]; exact h
set_option maxRecDepth 100000 in
set_option maxHeartbeats 4000000 in
theorem rwide_c (C k : Nat) (r : Int) (s : ByteArray) (w : World) (hC : Cr w C s k) (hs : s.size ≤ 1000000) (hr : 0 ≤ r ∧ r ≤ 255) : Calls Tryz.prog 31 #[.pointer (some ⟨C, 0, none⟩), .int .i64 r] w fun e w' =>
    e = .returned (.agg (rwI (bA s) k r).vs) ∧ Cr w' C s (rwE (bA s) k r) ∧ Mu [C] w w' := by
  have hb := bA_bb s k
  have hm := bA_bb s (k + 1)
  have hn := bA_bb s (k + 2)
  have HB : Hid (bA s k = bA s k) := Lib.hid rfl
  have HM : Hid (bA s (k + 1) = bA s (k + 1)) := Lib.hid rfl
  have HN : Hid (bA s (k + 2) = bA s (k + 2)) := Lib.hid rfl
  unfold rwI rwE
  by_cases h0 : 184 ≤ bA s k ∧ bA s k < 192
  · rw [if_pos h0, if_pos h0]
    exact rw_184 C k r s w hC hs hr _ HB h0.1 h0.2
  · rw [if_neg h0, if_neg h0]
    by_cases h1 : bA s k = 15
    · rw [if_pos h1, if_pos h1]
      by_cases e1 : bA s (k + 1) = 66
      · rw [if_pos e1]; exact rw_15_66 C k r s w hC hs hr (Lib.hid h1) (Lib.hid e1) _ HN hn.1 hn.2
      · rw [if_neg e1]
        by_cases e2 : bA s (k + 1) = 69
        · rw [if_pos e2]; exact rw_15_69 C k r s w hC hs hr (Lib.hid h1) (Lib.hid e2) _ HN hn.1 hn.2
        · rw [if_neg e2]; exact rw_15_no C k r s w hC hs hr (Lib.hid h1) _ HM (bne e1) (bne e2) _ HN hn.1 hn.2
    · rw [if_neg h1, if_neg h1]
      by_cases h2 : bA s k = 139
      · rw [if_pos h2, if_pos h2]
        exact rw_139 C k r s w hC hs hr (Lib.hid h2) _ HM hm.1 hm.2
      · rw [if_neg h2, if_neg h2]
        by_cases h3 : bA s k = 137 ∧ bA s (k + 1) < 192
        · rw [if_pos h3, if_pos h3]
          exact rw_137_pl C k r s w hC hs hr (Lib.hid h3.1) _ HM hm.1 hm.2 h3.2
        · rw [if_neg h3, if_neg h3]
          by_cases h4 : bA s k = 141
          · rw [if_pos h4, if_pos h4]
            exact rw_141 C k r s w hC hs hr (Lib.hid h4) _ HM hm.1 hm.2
          · rw [if_neg h4, if_neg h4]
            by_cases h5 : bA s k = 129
            · rw [if_pos h5, if_pos h5]
              unfold riO
              by_cases e0 : midR (bA s (k + 1)) r = 0
              · rw [if_pos e0]; exact rw_129_0 C k r s w hC hs hr (Lib.hid h5) _ HM hm.1 hm.2 e0
              · rw [if_neg e0]
                by_cases e4 : midR (bA s (k + 1)) r = 4
                · rw [if_pos e4]; exact rw_129_4 C k r s w hC hs hr (Lib.hid h5) _ HM hm.1 hm.2 e4
                · rw [if_neg e4]
                  by_cases e5 : midR (bA s (k + 1)) r = 5
                  · rw [if_pos e5]; exact rw_129_5 C k r s w hC hs hr (Lib.hid h5) _ HM hm.1 hm.2 e5
                  · rw [if_neg e5]
                    by_cases e7 : midR (bA s (k + 1)) r = 7
                    · rw [if_pos e7]; exact rw_129_7 C k r s w hC hs hr (Lib.hid h5) _ HM hm.1 hm.2 e7
                    · rw [if_neg e7]; exact rw_129_no C k r s w hC hs hr (Lib.hid h5) _ HM hm.1 hm.2 (bne e0) (bne e4) (bne e5) (bne e7)
            · rw [if_neg h5, if_neg h5]
              by_cases h6 : bA s k = 247 ∧ midR (bA s (k + 1)) r = 3
              · rw [if_pos h6, if_pos h6]
                exact rw_247_3 C k r s w hC hs hr (Lib.hid h6.1) _ HM hm.1 hm.2 h6.2
              · rw [if_neg h6, if_neg h6]
                by_cases h7 : bA s k = 247 ∧ midR (bA s (k + 1)) r = 2
                · rw [if_pos h7, if_pos h7]
                  exact rw_247_2 C k r s w hC hs hr (Lib.hid h7.1) _ HM hm.1 hm.2 h7.2
                · rw [if_neg h7, if_neg h7]
                  by_cases h8 : bA s k = 193 ∧ midR (bA s (k + 1)) r = 4
                  · rw [if_pos h8, if_pos h8]
                    exact rw_193_4 C k r s w hC hs hr (Lib.hid h8.1) _ HM hm.1 hm.2 h8.2
                  · rw [if_neg h8, if_neg h8]
                    by_cases h9 : bA s k = 193 ∧ midR (bA s (k + 1)) r = 5
                    · rw [if_pos h9, if_pos h9]
                      exact rw_193_5 C k r s w hC hs hr (Lib.hid h9.1) _ HM hm.1 hm.2 h9.2
                    · rw [if_neg h9, if_neg h9]
                      by_cases q247 : bA s k = 247
                      · rw [q247]; exact rw_247_no C k r s w hC hs hr (Lib.hid q247) _ HM hm.1 hm.2 (bne (fun h => h6 ⟨q247, h⟩)) (bne (fun h => h7 ⟨q247, h⟩))
                      by_cases q193 : bA s k = 193
                      · rw [q193]; exact rw_193_no C k r s w hC hs hr (Lib.hid q193) _ HM hm.1 hm.2 (bne (fun h => h8 ⟨q193, h⟩)) (bne (fun h => h9 ⟨q193, h⟩))
                      by_cases q137 : bA s k = 137
                      · rw [q137]; exact rw_137_no C k r s w hC hs hr (Lib.hid q137) _ HM hm.1 hm.2 (by have := fun h => h3 ⟨q137, h⟩; omega)
                      by_cases qlo : bA s k < 184
                      · exact rw_rest_lo C k r s w hC hs hr _ HB qlo (bne h1) (bne h2) (bne q137) (bne h4) (bne h5) (bne q247) (bne q193) _ HM hm.1 hm.2
                      · exact rw_rest_hi C k r s w hC hs hr _ HB (by omega) (bne h1) (bne h2) (bne q137) (bne h4) (bne h5) (bne q247) (bne q193) _ HM hm.1 hm.2
end Is
end Go.Proofs.YtblmagcekfbgdaaGreatDoor
namespace Go.Proofs.YtblmagcekfbgdaaGreatDoor
open Go Go.RowKit
namespace Is
open Nt
set_option linter.unusedVariables false
set_option linter.unusedSimpArgs false
set_option maxRecDepth 100000 in
set_option maxHeartbeats 4000000 in
theorem ra_195 (C k : Nat) (s : ByteArray) (w : World) (hC : Cr w C s k) (hs : s.size ≤ 1000000) (hb : Hid (bA s k = 195)) : Calls Tryz.prog 15 #[.pointer (some ⟨C, 0, none⟩)] w fun e w' =>
    e = .returned (.agg (⟨33, 0, 0, 0, 0, 0, 0, 0, 0⟩ : Ins).vs) ∧ Cr w' C s (k + 1) ∧ Mu [C] w w' := by
  have HW0 := Lib.hid (Wk.new hC)
  clear hC
  unfold Ins.vs
  try unfold juI
  try unfold midR
  try unfold lstR
  try unfold rxM
  try unfold rxL
  dsimp only
  go_enter Tryz.func15, Tryz.ntmps15
  go_wp2_with fail
  go_at_call 29
  refine (rbyte_c C (k) s _ HW0.out.c hs).mono ?_
  rintro e w1 ⟨rfl, h1, h3⟩
  rw [hb.out]
  have HW1 := Lib.hid (HW0.out.go h1 h3)
  clear h1 h3 HW0
  obtain ⟨b0, b1, b2, b3, b4, b5, b6, b7, b8⟩ := c9 HW1.out.r
  have ff : ∀ i, w1.frozen? ⟨w.heap.size, i, none⟩ = false := fun i => HW1.out.r.frozen i
  go_wp2_with fail
  exact HW1.out.ret rfl rfl rfl (rfl) (by omega)
set_option maxRecDepth 100000 in
set_option maxHeartbeats 4000000 in
theorem ra_push (C k : Nat) (s : ByteArray) (w : World) (hC : Cr w C s k) (hs : s.size ≤ 1000000) (b : Int) (hb : Hid (bA s k = b)) (h1 : 80 ≤ b) (h2 : b < 88) (x195 : (b == 195) = false) : Calls Tryz.prog 15 #[.pointer (some ⟨C, 0, none⟩)] w fun e w' =>
    e = .returned (.agg (⟨28, 0, b % 8, 0, 0, 0, 0, 0, 0⟩ : Ins).vs) ∧ Cr w' C s (k + 1) ∧ Mu [C] w w' := by
  have HW0 := Lib.hid (Wk.new hC)
  clear hC
  unfold Ins.vs
  try unfold juI
  try unfold midR
  try unfold lstR
  try unfold rxM
  try unfold rxL
  dsimp only
  go_enter Tryz.func15, Tryz.ntmps15
  go_wp2_with fail
  go_at_call 29
  refine (rbyte_c C (k) s _ HW0.out.c hs).mono ?_
  rintro e w1 ⟨rfl, h1, h3⟩
  rw [hb.out]
  have HW1 := Lib.hid (HW0.out.go h1 h3)
  clear h1 h3 HW0
  obtain ⟨b0, b1, b2, b3, b4, b5, b6, b7, b8⟩ := c9 HW1.out.r
  have ff : ∀ i, w1.frozen? ⟨w.heap.size, i, none⟩ = false := fun i => HW1.out.r.frozen i
  go_wp2_with fail
  exact HW1.out.ret rfl rfl rfl (rfl) (by omega)
set_option maxRecDepth 100000 in
set_option maxHeartbeats 4000000 in
theorem ra_pop (C k : Nat) (s : ByteArray) (w : World) (hC : Cr w C s k) (hs : s.size ≤ 1000000) (b : Int) (hb : Hid (bA s k = b)) (h1 : 88 ≤ b) (h2 : b < 96) (x195 : (b == 195) = false) : Calls Tryz.prog 15 #[.pointer (some ⟨C, 0, none⟩)] w fun e w' =>
    e = .returned (.agg (⟨29, b % 8, 0, 0, 0, 0, 0, 0, 0⟩ : Ins).vs) ∧ Cr w' C s (k + 1) ∧ Mu [C] w w' := by
  have HW0 := Lib.hid (Wk.new hC)
  clear hC
  unfold Ins.vs
  try unfold juI
  try unfold midR
  try unfold lstR
  try unfold rxM
  try unfold rxL
  dsimp only
  go_enter Tryz.func15, Tryz.ntmps15
  go_wp2_with fail
  go_at_call 29
  refine (rbyte_c C (k) s _ HW0.out.c hs).mono ?_
  rintro e w1 ⟨rfl, h1, h3⟩
  rw [hb.out]
  have HW1 := Lib.hid (HW0.out.go h1 h3)
  clear h1 h3 HW0
  obtain ⟨b0, b1, b2, b3, b4, b5, b6, b7, b8⟩ := c9 HW1.out.r
  have ff : ∀ i, w1.frozen? ⟨w.heap.size, i, none⟩ = false := fun i => HW1.out.r.frozen i
  go_wp2_with fail
  exact HW1.out.ret rfl rfl rfl (rfl) (by omega)
set_option maxRecDepth 100000 in
set_option maxHeartbeats 4000000 in
theorem ra_65_lo (C k : Nat) (s : ByteArray) (w : World) (hC : Cr w C s k) (hs : s.size ≤ 1000000) (hb : Hid (bA s k = 65)) (m : Int) (hm : Hid (bA s (k + 1) = m)) (m0 : 0 ≤ m) (m1 : m ≤ 255) (hlt : m < 88) : Calls Tryz.prog 15 #[.pointer (some ⟨C, 0, none⟩)] w fun e w' =>
    e = .returned (.agg (⟨28, 0, m % 8 + 8, 0, 0, 0, 0, 0, 0⟩ : Ins).vs) ∧ Cr w' C s (k + 2) ∧ Mu [C] w w' := by
  have HW0 := Lib.hid (Wk.new hC)
  clear hC
  unfold Ins.vs
  try unfold juI
  try unfold midR
  try unfold lstR
  try unfold rxM
  try unfold rxL
  dsimp only
  go_enter Tryz.func15, Tryz.ntmps15
  go_wp2_with fail
  go_at_call 29
  refine (rbyte_c C (k) s _ HW0.out.c hs).mono ?_
  rintro e w1 ⟨rfl, h1, h3⟩
  rw [hb.out]
  have HW1 := Lib.hid (HW0.out.go h1 h3)
  clear h1 h3 HW0
  go_wp2_with fail
  go_at_call 29
  refine (rbyte_c C (k + 1) s _ HW1.out.c hs).mono ?_
  rintro e w2 ⟨rfl, h1, h3⟩
  rw [hm.out]
  have HW2 := Lib.hid (HW1.out.go h1 h3)
  clear h1 h3 HW1
  obtain ⟨b0, b1, b2, b3, b4, b5, b6, b7, b8⟩ := c9 HW2.out.r
  have ff : ∀ i, w2.frozen? ⟨w.heap.size, i, none⟩ = false := fun i => HW2.out.r.frozen i
  go_wp2_with fail
  exact HW2.out.ret rfl rfl rfl (rfl) (by omega)
set_option maxRecDepth 100000 in
set_option maxHeartbeats 4000000 in
theorem ra_65_hi (C k : Nat) (s : ByteArray) (w : World) (hC : Cr w C s k) (hs : s.size ≤ 1000000) (hb : Hid (bA s k = 65)) (m : Int) (hm : Hid (bA s (k + 1) = m)) (m0 : 0 ≤ m) (m1 : m ≤ 255) (hlt : 88 ≤ m) : Calls Tryz.prog 15 #[.pointer (some ⟨C, 0, none⟩)] w fun e w' =>
    e = .returned (.agg (⟨29, m % 8 + 8, 0, 0, 0, 0, 0, 0, 0⟩ : Ins).vs) ∧ Cr w' C s (k + 2) ∧ Mu [C] w w' := by
  have HW0 := Lib.hid (Wk.new hC)
  clear hC
  unfold Ins.vs
  try unfold juI
  try unfold midR
  try unfold lstR
  try unfold rxM
  try unfold rxL
  dsimp only
  go_enter Tryz.func15, Tryz.ntmps15
  go_wp2_with fail
  go_at_call 29
  refine (rbyte_c C (k) s _ HW0.out.c hs).mono ?_
  rintro e w1 ⟨rfl, h1, h3⟩
  rw [hb.out]
  have HW1 := Lib.hid (HW0.out.go h1 h3)
  clear h1 h3 HW0
  go_wp2_with fail
  go_at_call 29
  refine (rbyte_c C (k + 1) s _ HW1.out.c hs).mono ?_
  rintro e w2 ⟨rfl, h1, h3⟩
  rw [hm.out]
  have HW2 := Lib.hid (HW1.out.go h1 h3)
  clear h1 h3 HW1
  obtain ⟨b0, b1, b2, b3, b4, b5, b6, b7, b8⟩ := c9 HW2.out.r
  have ff : ∀ i, w2.frozen? ⟨w.heap.size, i, none⟩ = false := fun i => HW2.out.r.frozen i
  go_wp2_with fail
  exact HW2.out.ret rfl rfl rfl (rfl) (by omega)
set_option maxRecDepth 100000 in
set_option maxHeartbeats 4000000 in
theorem ra_233 (C k : Nat) (s : ByteArray) (w : World) (hC : Cr w C s k) (hs : s.size ≤ 1000000) (hb : Hid (bA s k = 233)) : Calls Tryz.prog 15 #[.pointer (some ⟨C, 0, none⟩)] w fun e w' =>
    e = .returned (.agg (juI 30 (numB (bA s) (k + 1) 4) : Ins).vs) ∧ Cr w' C s (k + 5) ∧ Mu [C] w w' := by
  have HW0 := Lib.hid (Wk.new hC)
  clear hC
  unfold Ins.vs
  try unfold juI
  try unfold midR
  try unfold lstR
  try unfold rxM
  try unfold rxL
  dsimp only
  go_enter Tryz.func15, Tryz.ntmps15
  go_wp2_with fail
  go_at_call 29
  refine (rbyte_c C (k) s _ HW0.out.c hs).mono ?_
  rintro e w1 ⟨rfl, h1, h3⟩
  rw [hb.out]
  have HW1 := Lib.hid (HW0.out.go h1 h3)
  clear h1 h3 HW0
  go_wp2_with fail
  go_at_call 30
  refine (rnumber_c C (k + 1) 4 s _ HW1.out.c hs (by omega)).mono ?_
  rintro e w2 ⟨rfl, h1, h3⟩
  have HW2 := Lib.hid (HW1.out.go h1 h3)
  clear h1 h3 HW1
  generalize hnb : numB (bA s) (k + 1) 4 = nb at *
  obtain ⟨b0, b1, b2, b3, b4, b5, b6, b7, b8⟩ := c9 HW2.out.r
  have ff : ∀ i, w2.frozen? ⟨w.heap.size, i, none⟩ = false := fun i => HW2.out.r.frozen i
  go_wp2_with fail
  exact HW2.out.ret rfl rfl rfl (by rw [hnb]) (by omega)
set_option maxRecDepth 100000 in
set_option maxHeartbeats 4000000 in
theorem ra_15_133 (C k : Nat) (s : ByteArray) (w : World) (hC : Cr w C s k) (hs : s.size ≤ 1000000) (hb : Hid (bA s k = 15)) (hm : Hid (bA s (k + 1) = 133)) : Calls Tryz.prog 15 #[.pointer (some ⟨C, 0, none⟩)] w fun e w' =>
    e = .returned (.agg (juI 31 (numB (bA s) (k + 2) 4) : Ins).vs) ∧ Cr w' C s (k + 6) ∧ Mu [C] w w' := by
  have HW0 := Lib.hid (Wk.new hC)
  clear hC
  unfold Ins.vs
  try unfold juI
  try unfold midR
  try unfold lstR
  try unfold rxM
  try unfold rxL
  dsimp only
  go_enter Tryz.func15, Tryz.ntmps15
  go_wp2_with fail
  go_at_call 29
  refine (rbyte_c C (k) s _ HW0.out.c hs).mono ?_
  rintro e w1 ⟨rfl, h1, h3⟩
  rw [hb.out]
  have HW1 := Lib.hid (HW0.out.go h1 h3)
  clear h1 h3 HW0
  go_wp2_with fail
  go_at_call 29
  refine (rbyte_c C (k + 1) s _ HW1.out.c hs).mono ?_
  rintro e w2 ⟨rfl, h1, h3⟩
  rw [hm.out]
  have HW2 := Lib.hid (HW1.out.go h1 h3)
  clear h1 h3 HW1
  go_wp2_with fail
  go_at_call 30
  refine (rnumber_c C (k + 2) 4 s _ HW2.out.c hs (by omega)).mono ?_
  rintro e w3 ⟨rfl, h1, h3⟩
  have HW3 := Lib.hid (HW2.out.go h1 h3)
  clear h1 h3 HW2
  generalize hnb : numB (bA s) (k + 2) 4 = nb at *
  obtain ⟨b0, b1, b2, b3, b4, b5, b6, b7, b8⟩ := c9 HW3.out.r
  have ff : ∀ i, w3.frozen? ⟨w.heap.size, i, none⟩ = false := fun i => HW3.out.r.frozen i
  go_wp2_with fail
  exact HW3.out.ret rfl rfl rfl (by rw [hnb]) (by omega)
set_option maxRecDepth 100000 in
set_option maxHeartbeats 4000000 in
theorem ra_15_no (C k : Nat) (s : ByteArray) (w : World) (hC : Cr w C s k) (hs : s.size ≤ 1000000) (hb : Hid (bA s k = 15)) (m : Int) (hm : Hid (bA s (k + 1) = m)) (x133 : (m == 133) = false) : Calls Tryz.prog 15 #[.pointer (some ⟨C, 0, none⟩)] w fun e w' =>
    e = .returned (.agg (juI 32 (numB (bA s) (k + 2) 4) : Ins).vs) ∧ Cr w' C s (k + 6) ∧ Mu [C] w w' := by
  have HW0 := Lib.hid (Wk.new hC)
  clear hC
  unfold Ins.vs
  try unfold juI
  try unfold midR
  try unfold lstR
  try unfold rxM
  try unfold rxL
  dsimp only
  go_enter Tryz.func15, Tryz.ntmps15
  go_wp2_with fail
  go_at_call 29
  refine (rbyte_c C (k) s _ HW0.out.c hs).mono ?_
  rintro e w1 ⟨rfl, h1, h3⟩
  rw [hb.out]
  have HW1 := Lib.hid (HW0.out.go h1 h3)
  clear h1 h3 HW0
  go_wp2_with fail
  go_at_call 29
  refine (rbyte_c C (k + 1) s _ HW1.out.c hs).mono ?_
  rintro e w2 ⟨rfl, h1, h3⟩
  rw [hm.out]
  have HW2 := Lib.hid (HW1.out.go h1 h3)
  clear h1 h3 HW1
  go_wp2_with fail
  go_at_call 30
  refine (rnumber_c C (k + 2) 4 s _ HW2.out.c hs (by omega)).mono ?_
  rintro e w3 ⟨rfl, h1, h3⟩
  have HW3 := Lib.hid (HW2.out.go h1 h3)
  clear h1 h3 HW2
  generalize hnb : numB (bA s) (k + 2) 4 = nb at *
  obtain ⟨b0, b1, b2, b3, b4, b5, b6, b7, b8⟩ := c9 HW3.out.r
  have ff : ∀ i, w3.frozen? ⟨w.heap.size, i, none⟩ = false := fun i => HW3.out.r.frozen i
  go_wp2_with fail
  exact HW3.out.ret rfl rfl rfl (by rw [hnb]) (by omega)
set_option maxRecDepth 100000 in
set_option maxHeartbeats 4000000 in
theorem ra_196 (C k : Nat) (s : ByteArray) (w : World) (hC : Cr w C s k) (hs : s.size ≤ 1000000) (hb : Hid (bA s k = 196)) (x : Int) (hx : Hid (bA s (k + 1) = x)) (x0 : 0 ≤ x) (x1 : x ≤ 255) (y : Int) (hy : Hid (bA s (k + 2) = y)) (y0 : 0 ≤ y) (y1 : y ≤ 255) (m : Int) (hm : Hid (bA s (k + 4) = m)) (m0 : 0 ≤ m) (m1 : m ≤ 255) : Calls Tryz.prog 15 #[.pointer (some ⟨C, 0, none⟩)] w fun e w' =>
    e = .returned (.agg (⟨19, m / 8 % 8 + 8 - x / 128 * 8, 15 - y / 8 % 16, m % 8 + 8 - x / 32 % 2 * 8, 0, 0, 0, 0, 0⟩ : Ins).vs) ∧ Cr w' C s (k + 5) ∧ Mu [C] w w' := by
  have HW0 := Lib.hid (Wk.new hC)
  clear hC
  unfold Ins.vs
  try unfold juI
  try unfold midR
  try unfold lstR
  try unfold rxM
  try unfold rxL
  dsimp only
  go_enter Tryz.func15, Tryz.ntmps15
  go_wp2_with fail
  go_at_call 29
  refine (rbyte_c C (k) s _ HW0.out.c hs).mono ?_
  rintro e w1 ⟨rfl, h1, h3⟩
  rw [hb.out]
  have HW1 := Lib.hid (HW0.out.go h1 h3)
  clear h1 h3 HW0
  go_wp2_with fail
  go_at_call 29
  refine (rbyte_c C (k + 1) s _ HW1.out.c hs).mono ?_
  rintro e w2 ⟨rfl, h1, h3⟩
  rw [hx.out]
  have HW2 := Lib.hid (HW1.out.go h1 h3)
  clear h1 h3 HW1
  go_wp2_with fail
  go_at_call 29
  refine (rbyte_c C (k + 2) s _ HW2.out.c hs).mono ?_
  rintro e w3 ⟨rfl, h1, h3⟩
  rw [hy.out]
  have HW3 := Lib.hid (HW2.out.go h1 h3)
  clear h1 h3 HW2
  go_wp2_with fail
  go_at_call 29
  refine (rbyte_c C (k + 3) s _ HW3.out.c hs).mono ?_
  rintro e w4 ⟨rfl, h1, h3⟩
  generalize bA s (k + 3) = zw4 at *
  have HW4 := Lib.hid (HW3.out.go h1 h3)
  clear h1 h3 HW3
  go_wp2_with fail
  go_at_call 29
  refine (rbyte_c C (k + 4) s _ HW4.out.c hs).mono ?_
  rintro e w5 ⟨rfl, h1, h3⟩
  rw [hm.out]
  have HW5 := Lib.hid (HW4.out.go h1 h3)
  clear h1 h3 HW4
  obtain ⟨b0, b1, b2, b3, b4, b5, b6, b7, b8⟩ := c9 HW5.out.r
  have ff : ∀ i, w5.frozen? ⟨w.heap.size, i, none⟩ = false := fun i => HW5.out.r.frozen i
  go_wp2_with fail
  exact HW5.out.ret rfl rfl rfl (rfl) (by omega)
set_option maxRecDepth 100000 in
set_option maxHeartbeats 4000000 in
theorem ra_102 (C k : Nat) (s : ByteArray) (w : World) (hC : Cr w C s k) (hs : s.size ≤ 1000000) (hb : Hid (bA s k = 102)) (r : Int) (hr : Hid (bA s (k + 1) = r)) (r0 : 0 ≤ r) (r1 : r ≤ 255) (m : Int) (hm : Hid (bA s (k + 5) = m)) (m0 : 0 ≤ m) (m1 : m ≤ 255) : Calls Tryz.prog 15 #[.pointer (some ⟨C, 0, none⟩)] w fun e w' =>
    e = .returned (.agg (⟨20, midR m r, lstR m r, 0, 0, 0, 0, 0, 0⟩ : Ins).vs) ∧ Cr w' C s (k + 6) ∧ Mu [C] w w' := by
  have HW0 := Lib.hid (Wk.new hC)
  clear hC
  unfold Ins.vs
  try unfold juI
  try unfold midR
  try unfold lstR
  try unfold rxM
  try unfold rxL
  dsimp only
  go_enter Tryz.func15, Tryz.ntmps15
  go_wp2_with fail
  go_at_call 29
  refine (rbyte_c C (k) s _ HW0.out.c hs).mono ?_
  rintro e w1 ⟨rfl, h1, h3⟩
  rw [hb.out]
  have HW1 := Lib.hid (HW0.out.go h1 h3)
  clear h1 h3 HW0
  go_wp2_with fail
  go_at_call 29
  refine (rbyte_c C (k + 1) s _ HW1.out.c hs).mono ?_
  rintro e w2 ⟨rfl, h1, h3⟩
  rw [hr.out]
  have HW2 := Lib.hid (HW1.out.go h1 h3)
  clear h1 h3 HW1
  go_wp2_with fail
  go_at_call 29
  refine (rbyte_c C (k + 2) s _ HW2.out.c hs).mono ?_
  rintro e w3 ⟨rfl, h1, h3⟩
  generalize bA s (k + 2) = zw3 at *
  have HW3 := Lib.hid (HW2.out.go h1 h3)
  clear h1 h3 HW2
  go_wp2_with fail
  go_at_call 29
  refine (rbyte_c C (k + 3) s _ HW3.out.c hs).mono ?_
  rintro e w4 ⟨rfl, h1, h3⟩
  generalize bA s (k + 3) = zw4 at *
  have HW4 := Lib.hid (HW3.out.go h1 h3)
  clear h1 h3 HW3
  go_wp2_with fail
  go_at_call 29
  refine (rbyte_c C (k + 4) s _ HW4.out.c hs).mono ?_
  rintro e w5 ⟨rfl, h1, h3⟩
  generalize bA s (k + 4) = zw5 at *
  have HW5 := Lib.hid (HW4.out.go h1 h3)
  clear h1 h3 HW4
  go_wp2_with fail
  go_at_call 29
  refine (rbyte_c C (k + 5) s _ HW5.out.c hs).mono ?_
  rintro e w6 ⟨rfl, h1, h3⟩
  rw [hm.out]
  have HW6 := Lib.hid (HW5.out.go h1 h3)
  clear h1 h3 HW5
  obtain ⟨b0, b1, b2, b3, b4, b5, b6, b7, b8⟩ := c9 HW6.out.r
  have ff : ∀ i, w6.frozen? ⟨w.heap.size, i, none⟩ = false := fun i => HW6.out.r.frozen i
  go_wp2_with fail
  exact HW6.out.ret rfl rfl rfl (rfl) (by omega)
set_option maxRecDepth 100000 in
set_option maxHeartbeats 4000000 in
theorem ra_243 (C k : Nat) (s : ByteArray) (w : World) (hC : Cr w C s k) (hs : s.size ≤ 1000000) (hb : Hid (bA s k = 243)) (r : Int) (hr : Hid (bA s (k + 1) = r)) (r0 : 0 ≤ r) (r1 : r ≤ 255) (m : Int) (hm : Hid (bA s (k + 5) = m)) (m0 : 0 ≤ m) (m1 : m ≤ 255) : Calls Tryz.prog 15 #[.pointer (some ⟨C, 0, none⟩)] w fun e w' =>
    e = .returned (.agg (⟨21, midR m r, lstR m r, 0, 0, 0, 0, 0, 0⟩ : Ins).vs) ∧ Cr w' C s (k + 6) ∧ Mu [C] w w' := by
  have HW0 := Lib.hid (Wk.new hC)
  clear hC
  unfold Ins.vs
  try unfold juI
  try unfold midR
  try unfold lstR
  try unfold rxM
  try unfold rxL
  dsimp only
  go_enter Tryz.func15, Tryz.ntmps15
  go_wp2_with fail
  go_at_call 29
  refine (rbyte_c C (k) s _ HW0.out.c hs).mono ?_
  rintro e w1 ⟨rfl, h1, h3⟩
  rw [hb.out]
  have HW1 := Lib.hid (HW0.out.go h1 h3)
  clear h1 h3 HW0
  go_wp2_with fail
  go_at_call 29
  refine (rbyte_c C (k + 1) s _ HW1.out.c hs).mono ?_
  rintro e w2 ⟨rfl, h1, h3⟩
  rw [hr.out]
  have HW2 := Lib.hid (HW1.out.go h1 h3)
  clear h1 h3 HW1
  go_wp2_with fail
  go_at_call 29
  refine (rbyte_c C (k + 2) s _ HW2.out.c hs).mono ?_
  rintro e w3 ⟨rfl, h1, h3⟩
  generalize bA s (k + 2) = zw3 at *
  have HW3 := Lib.hid (HW2.out.go h1 h3)
  clear h1 h3 HW2
  go_wp2_with fail
  go_at_call 29
  refine (rbyte_c C (k + 3) s _ HW3.out.c hs).mono ?_
  rintro e w4 ⟨rfl, h1, h3⟩
  generalize bA s (k + 3) = zw4 at *
  have HW4 := Lib.hid (HW3.out.go h1 h3)
  clear h1 h3 HW3
  go_wp2_with fail
  go_at_call 29
  refine (rbyte_c C (k + 4) s _ HW4.out.c hs).mono ?_
  rintro e w5 ⟨rfl, h1, h3⟩
  generalize bA s (k + 4) = zw5 at *
  have HW5 := Lib.hid (HW4.out.go h1 h3)
  clear h1 h3 HW4
  go_wp2_with fail
  go_at_call 29
  refine (rbyte_c C (k + 5) s _ HW5.out.c hs).mono ?_
  rintro e w6 ⟨rfl, h1, h3⟩
  rw [hm.out]
  have HW6 := Lib.hid (HW5.out.go h1 h3)
  clear h1 h3 HW5
  obtain ⟨b0, b1, b2, b3, b4, b5, b6, b7, b8⟩ := c9 HW6.out.r
  have ff : ∀ i, w6.frozen? ⟨w.heap.size, i, none⟩ = false := fun i => HW6.out.r.frozen i
  go_wp2_with fail
  exact HW6.out.ret rfl rfl rfl (rfl) (by omega)
set_option maxRecDepth 100000 in
set_option maxHeartbeats 4000000 in
theorem ra_wide_lo (C k : Nat) (s : ByteArray) (w : World) (hC : Cr w C s k) (hs : s.size ≤ 1000000) (b : Int) (hb : Hid (bA s k = b)) (c0 : 0 ≤ b) (c1 : b ≤ 255) (hlo : b < 80) (x195 : (b == 195) = false) (x65 : (b == 65) = false) (x233 : (b == 233) = false) (x15 : (b == 15) = false) (x196 : (b == 196) = false) (x102 : (b == 102) = false) (x243 : (b == 243) = false) : Calls Tryz.prog 15 #[.pointer (some ⟨C, 0, none⟩)] w fun e w' =>
    e = .returned (.agg (rwI (bA s) (k + 1) b : Ins).vs) ∧ Cr w' C s (rwE (bA s) (k + 1) b) ∧ Mu [C] w w' := by
  have HW0 := Lib.hid (Wk.new hC)
  clear hC
  have KW : ∀ W, Cr W C s (k + 1) → Calls Tryz.prog 31 #[.pointer (some ⟨C, 0, none⟩), .int .i64 b] W fun e w' =>
      e = .returned (.agg (rwI (bA s) (k + 1) b).vs) ∧ Cr w' C s (rwE (bA s) (k + 1) b) ∧ Mu [C] W w' := fun W h => rwide_c C (k + 1) b s W h hs ⟨c0, c1⟩
  have KW := Lib.hid KW
  generalize rwI (bA s) (k + 1) b = ii at *
  generalize rwE (bA s) (k + 1) b = E at *
  obtain ⟨i0, i1, i2, i3, i4, i5, i6, i7, i8⟩ := ii
  unfold Ins.vs at KW
  dsimp only at KW
  unfold Ins.vs
  try unfold juI
  try unfold midR
  try unfold lstR
  try unfold rxM
  try unfold rxL
  dsimp only
  go_enter Tryz.func15, Tryz.ntmps15
  go_wp2_with fail
  go_at_call 29
  refine (rbyte_c C (k) s _ HW0.out.c hs).mono ?_
  rintro e w1 ⟨rfl, h1, h3⟩
  rw [hb.out]
  have HW1 := Lib.hid (HW0.out.go h1 h3)
  clear h1 h3 HW0
  go_wp2_with fail
  go_at_call 31
  refine (KW.out _ HW1.out.c).mono ?_
  rintro e w2 ⟨rfl, h1, h3⟩
  have HW2 := Lib.hid (HW1.out.go h1 h3)
  clear h1 h3 HW1 KW
  obtain ⟨b0, b1, b2, b3, b4, b5, b6, b7, b8⟩ := c9 HW2.out.r
  have ff : ∀ i, w2.frozen? ⟨w.heap.size, i, none⟩ = false := fun i => HW2.out.r.frozen i
  go_wp2_with fail
  exact HW2.out.ret rfl rfl rfl (rfl) (by omega)
set_option maxRecDepth 100000 in
set_option maxHeartbeats 4000000 in
theorem ra_wide_hi (C k : Nat) (s : ByteArray) (w : World) (hC : Cr w C s k) (hs : s.size ≤ 1000000) (b : Int) (hb : Hid (bA s k = b)) (c0 : 0 ≤ b) (c1 : b ≤ 255) (hhi : 96 ≤ b) (x195 : (b == 195) = false) (x65 : (b == 65) = false) (x233 : (b == 233) = false) (x15 : (b == 15) = false) (x196 : (b == 196) = false) (x102 : (b == 102) = false) (x243 : (b == 243) = false) : Calls Tryz.prog 15 #[.pointer (some ⟨C, 0, none⟩)] w fun e w' =>
    e = .returned (.agg (rwI (bA s) (k + 1) b : Ins).vs) ∧ Cr w' C s (rwE (bA s) (k + 1) b) ∧ Mu [C] w w' := by
  have HW0 := Lib.hid (Wk.new hC)
  clear hC
  have KW : ∀ W, Cr W C s (k + 1) → Calls Tryz.prog 31 #[.pointer (some ⟨C, 0, none⟩), .int .i64 b] W fun e w' =>
      e = .returned (.agg (rwI (bA s) (k + 1) b).vs) ∧ Cr w' C s (rwE (bA s) (k + 1) b) ∧ Mu [C] W w' := fun W h => rwide_c C (k + 1) b s W h hs ⟨c0, c1⟩
  have KW := Lib.hid KW
  generalize rwI (bA s) (k + 1) b = ii at *
  generalize rwE (bA s) (k + 1) b = E at *
  obtain ⟨i0, i1, i2, i3, i4, i5, i6, i7, i8⟩ := ii
  unfold Ins.vs at KW
  dsimp only at KW
  unfold Ins.vs
  try unfold juI
  try unfold midR
  try unfold lstR
  try unfold rxM
  try unfold rxL
  dsimp only
  go_enter Tryz.func15, Tryz.ntmps15
  go_wp2_with fail
  go_at_call 29
  refine (rbyte_c C (k) s _ HW0.out.c hs).mono ?_
  rintro e w1 ⟨rfl, h1, h3⟩
  rw [hb.out]
  have HW1 := Lib.hid (HW0.out.go h1 h3)
  clear h1 h3 HW0
  go_wp2_with fail
  go_at_call 31
  refine (KW.out _ HW1.out.c).mono ?_
  rintro e w2 ⟨rfl, h1, h3⟩
  have HW2 := Lib.hid (HW1.out.go h1 h3)
  clear h1 h3 HW1 KW
  obtain ⟨b0, b1, b2, b3, b4, b5, b6, b7, b8⟩ := c9 HW2.out.r
  have ff : ∀ i, w2.frozen? ⟨w.heap.size, i, none⟩ = false := fun i => HW2.out.r.frozen i
  go_wp2_with fail
  exact HW2.out.ret rfl rfl rfl (rfl) (by omega)
set_option maxRecDepth 100000 in
set_option maxHeartbeats 4000000 in
theorem rany_c (C k : Nat) (s : ByteArray) (w : World) (hC : Cr w C s k) (hs : s.size ≤ 1000000) : Calls Tryz.prog 15 #[.pointer (some ⟨C, 0, none⟩)] w fun e w' =>
    e = .returned (.agg (rI (bA s) k).vs) ∧ Cr w' C s (rE (bA s) k) ∧ Mu [C] w w' := by
  have hb := bA_bb s k
  have h1 := bA_bb s (k + 1)
  have h2 := bA_bb s (k + 2)
  have h4 := bA_bb s (k + 4)
  have h5 := bA_bb s (k + 5)
  have HB : Hid (bA s k = bA s k) := Lib.hid rfl
  have HM : Hid (bA s (k + 1) = bA s (k + 1)) := Lib.hid rfl
  have HN : Hid (bA s (k + 2) = bA s (k + 2)) := Lib.hid rfl
  have HN4 : Hid (bA s (k + 4) = bA s (k + 4)) := Lib.hid rfl
  have HN5 : Hid (bA s (k + 5) = bA s (k + 5)) := Lib.hid rfl
  unfold rI rE
  by_cases q0 : bA s k = 195
  · rw [if_pos q0, if_pos q0]
    exact ra_195 C k s w hC hs (Lib.hid q0)
  · rw [if_neg q0, if_neg q0]
    by_cases q1 : 80 ≤ bA s k ∧ bA s k < 88
    · rw [if_pos q1, if_pos q1]
      exact ra_push C k s w hC hs _ HB q1.1 q1.2 (bne q0)
    · rw [if_neg q1, if_neg q1]
      by_cases q2 : 88 ≤ bA s k ∧ bA s k < 96
      · rw [if_pos q2, if_pos q2]
        exact ra_pop C k s w hC hs _ HB q2.1 q2.2 (bne q0)
      · rw [if_neg q2, if_neg q2]
        by_cases q3 : bA s k = 65
        · rw [if_pos q3, if_pos q3]
          by_cases e1 : bA s (k + 1) < 88
          · rw [if_pos e1]; exact ra_65_lo C k s w hC hs (Lib.hid q3) _ HM h1.1 h1.2 e1
          · rw [if_neg e1]; exact ra_65_hi C k s w hC hs (Lib.hid q3) _ HM h1.1 h1.2 (by omega)
        · rw [if_neg q3, if_neg q3]
          by_cases q4 : bA s k = 233
          · rw [if_pos q4, if_pos q4]
            exact ra_233 C k s w hC hs (Lib.hid q4)
          · rw [if_neg q4, if_neg q4]
            by_cases q5 : bA s k = 15
            · rw [if_pos q5, if_pos q5]
              by_cases e1 : bA s (k + 1) = 133
              · rw [if_pos e1]; exact ra_15_133 C k s w hC hs (Lib.hid q5) (Lib.hid e1)
              · rw [if_neg e1]; exact ra_15_no C k s w hC hs (Lib.hid q5) _ HM (bne e1)
            · rw [if_neg q5, if_neg q5]
              by_cases q6 : bA s k = 196
              · rw [if_pos q6, if_pos q6]
                exact ra_196 C k s w hC hs (Lib.hid q6) _ HM h1.1 h1.2 _ HN h2.1 h2.2 _ HN4 h4.1 h4.2
              · rw [if_neg q6, if_neg q6]
                by_cases q7 : bA s k = 102
                · rw [if_pos q7, if_pos q7]
                  exact ra_102 C k s w hC hs (Lib.hid q7) _ HM h1.1 h1.2 _ HN5 h5.1 h5.2
                · rw [if_neg q7, if_neg q7]
                  by_cases q8 : bA s k = 243
                  · rw [if_pos q8, if_pos q8]
                    exact ra_243 C k s w hC hs (Lib.hid q8) _ HM h1.1 h1.2 _ HN5 h5.1 h5.2
                  · rw [if_neg q8, if_neg q8]
                    by_cases qlo : bA s k < 80
                    · exact ra_wide_lo C k s w hC hs _ HB hb.1 hb.2 qlo (bne q0) (bne q3) (bne q4) (bne q5) (bne q6) (bne q7) (bne q8)
                    · exact ra_wide_hi C k s w hC hs _ HB hb.1 hb.2 (by omega) (bne q0) (bne q3) (bne q4) (bne q5) (bne q6) (bne q7) (bne q8)
end Is
end Go.Proofs.YtblmagcekfbgdaaGreatDoor
namespace Go.Proofs.YtblmagcekfbgdaaGreatDoor
open Go Go.RowKit
namespace Is
open Nt
set_option linter.unusedVariables false
set_option linter.unusedSimpArgs false
theorem ext_size (s : ByteArray) (k : Nat) : (s.extract k s.size).size = s.size - k := by
  rw [← size_data, extract_list, List.length_take, List.length_drop, size_data]
  omega
theorem bA_ext (s : ByteArray) (k j : Nat) : bA (s.extract k s.size) j = bA s (k + j) := by
  unfold bA
  rw [extract_list, List.getElem?_take, List.getElem?_drop]
  split
  · rfl
  · rename_i h
    rw [List.getElem?_eq_none (by rw [size_data]; omega)]
theorem at_ext {s : ByteArray} {k : Nat} {l : List Int} : At (bA (s.extract k s.size)) 0 l ↔ At (bA s) k l := by
  unfold At
  constructor
  · intro h j c hj
    have := h j c hj
    rw [Nat.zero_add, bA_ext] at this
    exact this
  · intro h j c hj
    rw [Nat.zero_add, bA_ext]
    exact h j c hj
theorem rrO_b (b : Int) : 0 ≤ rrO b ∧ rrO b ≤ 33 := by unfold rrO; repeat (first | (split <;> try omega) | omega)
theorem riO_b (b : Int) : 0 ≤ riO b ∧ riO b ≤ 33 := by unfold riO; repeat (first | (split <;> try omega) | omega)
theorem rdN_b (b : Int) : rdN b ≤ 8 := by unfold rdN; repeat (first | (split <;> try omega) | omega)
theorem rpI_wf {B : Nat → Int} (h : BB B) (op d s : Int) (k : Nat) (r : Int) (ho : 0 ≤ op ∧ op ≤ 33) (hd : 0 ≤ d ∧ d ≤ 15) (hs : 0 ≤ s ∧ s ≤ 15) : (rpI op d s B k r).wf := by
  have h0 := h k
  have h1 := h (k + 1)
  have hp := sc_pow (z := B (k + 1) / 64) (by omega)
  unfold rpI
  refine wf_of (i64s (by dsimp only; omega) (by dsimp only; omega)) (i64s (by dsimp only; omega) (by dsimp only; omega)) (i64s (by dsimp only; omega) (by dsimp only; omega)) i64_0 ?_ ?_ ?_ (num_i64 h _ _ (rdN_b _)) i64_0
  · dsimp only; unfold plBase rxL; split <;> exact i64s (by omega) (by omega)
  · dsimp only; unfold rpX rxX; repeat' split
    all_goals exact i64s (by omega) (by omega)
  · dsimp only; unfold rpS; repeat' split
    all_goals exact i64s (by omega) (by omega)
theorem rwI_wf {B : Nat → Int} (h : BB B) (k : Nat) (r : Int) : (rwI B k r).wf := by
  have hk := h k
  have m1 := mid_b (B (k + 1)) r
  have l1 := lst_b (B (k + 1)) r
  have m2 := mid_b (B (k + 2)) r
  have l2 := lst_b (B (k + 2)) r
  have hr := rrO_b (B k)
  have ho := riO_b (midR (B (k + 1)) r)
  have n0 : ∀ j n, n ≤ 8 → I64 (numB B j n) := fun j n hn => num_i64 h j n hn
  unfold rwI
  split
  · refine wf_of ?_ ?_ ?_ ?_ ?_ ?_ ?_ ?_ (n0 _ _ (by omega)) <;> exact i64s (by dsimp only [rxL]; omega) (by dsimp only [rxL]; omega)
  split
  · refine wf_of ?_ (i64s (by dsimp only; omega) (by dsimp only; omega)) (i64s (by dsimp only; omega) (by dsimp only; omega)) i64_0 i64_0 i64_0 i64_0 i64_0 i64_0
    dsimp only
    repeat' split
    all_goals exact i64s (by omega) (by omega)
  split
  · exact rpI_wf h _ _ _ _ _ (by omega) m1 (by omega)
  split
  · exact rpI_wf h _ _ _ _ _ (by omega) (by omega) m1
  split
  · exact rpI_wf h _ _ _ _ _ (by omega) m1 (by omega)
  split
  · exact wf_of (i64s (by dsimp only; omega) (by dsimp only; omega)) (i64s (by dsimp only; omega) (by dsimp only; omega)) i64_0 i64_0 i64_0 i64_0 i64_0 i64_0 (n0 _ _ (by omega))
  split
  · exact wf_of (i64s (by dsimp only; omega) (by dsimp only; omega)) (i64s (by dsimp only; omega) (by dsimp only; omega)) i64_0 i64_0 i64_0 i64_0 i64_0 i64_0 i64_0
  split
  · exact wf_of (i64s (by dsimp only; omega) (by dsimp only; omega)) (i64s (by dsimp only; omega) (by dsimp only; omega)) i64_0 i64_0 i64_0 i64_0 i64_0 i64_0 i64_0
  split
  · exact wf_of (i64s (by dsimp only; omega) (by dsimp only; omega)) (i64s (by dsimp only; omega) (by dsimp only; omega)) i64_0 i64_0 i64_0 i64_0 i64_0 i64_0 (n0 _ _ (by omega))
  split
  · exact wf_of (i64s (by dsimp only; omega) (by dsimp only; omega)) (i64s (by dsimp only; omega) (by dsimp only; omega)) i64_0 i64_0 i64_0 i64_0 i64_0 i64_0 (n0 _ _ (by omega))
  · exact wf_of (i64s (by dsimp only; omega) (by dsimp only; omega)) (i64s (by dsimp only; omega) (by dsimp only; omega)) (i64s (by dsimp only; omega) (by dsimp only; omega)) i64_0 i64_0 i64_0 i64_0 i64_0 i64_0
theorem rI_wf {B : Nat → Int} (h : BB B) (k : Nat) : (rI B k).wf := by
  have hk := h k
  have h1 := h (k + 1)
  have h2 := h (k + 2)
  have m5 := mid_b (B (k + 5)) (B (k + 1))
  have l5 := lst_b (B (k + 5)) (B (k + 1))
  have n0 : ∀ j n, n ≤ 8 → I64 (numB B j n) := fun j n hn => num_i64 h j n hn
  unfold rI
  split
  · refine wf_of ?_ ?_ ?_ ?_ ?_ ?_ ?_ ?_ ?_ <;> exact i64s (by decide) (by decide)
  split
  · refine wf_of ?_ ?_ ?_ ?_ ?_ ?_ ?_ ?_ ?_ <;> exact i64s (by dsimp only; omega) (by dsimp only; omega)
  split
  · refine wf_of ?_ ?_ ?_ ?_ ?_ ?_ ?_ ?_ ?_ <;> exact i64s (by dsimp only; omega) (by dsimp only; omega)
  split
  · split <;> (refine wf_of ?_ ?_ ?_ ?_ ?_ ?_ ?_ ?_ ?_ <;> exact i64s (by dsimp only; omega) (by dsimp only; omega))
  split
  · exact juI_wf (by omega) (n0 _ _ (by omega))
  split
  · split <;> exact juI_wf (by omega) (n0 _ _ (by omega))
  split
  · refine wf_of ?_ ?_ ?_ ?_ ?_ ?_ ?_ ?_ ?_ <;> exact i64s (by dsimp only; omega) (by dsimp only; omega)
  split
  · refine wf_of ?_ ?_ ?_ ?_ ?_ ?_ ?_ ?_ ?_ <;> exact i64s (by dsimp only; omega) (by dsimp only; omega)
  split
  · refine wf_of ?_ ?_ ?_ ?_ ?_ ?_ ?_ ?_ ?_ <;> exact i64s (by dsimp only; omega) (by dsimp only; omega)
  · exact rwI_wf h _ _
theorem encS_size {i : Ins} (h : okI i = true) : (encS i).size = (encL i).length := encS_len h
/-- what the document's own look asks of what it has seen -/
theorem look_cases (s : ByteArray) (k : Nat) (hk : k < s.size) :
    (rD s (k : Int) = (rI (bA (s.extract k s.size)) 0, ((encS (rI (bA (s.extract k s.size)) 0)).size : Int), 0) ∧ rE (bA (s.extract k s.size)) 0 ≤ s.size - k ∧ chk (rI (bA (s.extract k s.size)) 0) = 0 ∧ rE (bA (s.extract k s.size)) 0 = (encS (rI (bA (s.extract k s.size)) 0)).size ∧ ((s.extract k (k + rE (bA (s.extract k s.size)) 0)).toList == (encS (rI (bA (s.extract k s.size)) 0)).toList) = true) ∨
    (rD s (k : Int) = (zI, 0, 4) ∧ (s.size - k < rE (bA (s.extract k s.size)) 0 ∨ (rE (bA (s.extract k s.size)) 0 ≤ s.size - k ∧ (chk (rI (bA (s.extract k s.size)) 0) = 2 ∨ (chk (rI (bA (s.extract k s.size)) 0) = 0 ∧ (rE (bA (s.extract k s.size)) 0 ≠ (encS (rI (bA (s.extract k s.size)) 0)).size ∨ (rE (bA (s.extract k s.size)) 0 = (encS (rI (bA (s.extract k s.size)) 0)).size ∧ ((s.extract k (k + rE (bA (s.extract k s.size)) 0)).toList == (encS (rI (bA (s.extract k s.size)) 0)).toList) = false)))))))  := by
  have hwf := rI_wf (bA_bb (s.extract k s.size)) 0
  cases hd : decO s k with
  | some i =>
    left
    obtain ⟨h1, h2, h3⟩ := (decO_iff (by omega)).1 hd
    have hrd := rd_ok i h1 h2 (bA (s.extract k s.size)) 0 (at_ext.2 h3.2)
    obtain ⟨_, _, e1, e2⟩ := hrd
    rw [e1, e2, Nat.zero_add, encS_size h1]
    have h4 := h3.1
    refine ⟨rD_some hk hd, by omega, by unfold chk; rw [h1]; rfl, rfl, ?_⟩
    have e3 : encS i = strU (encL i) := by unfold encS; rw [h1]; rfl
    rw [e3]
    exact (pre_cut (encl_ok i h1).1 h4).2 h3
  | none =>
    right
    refine ⟨rD_none hk hd, ?_⟩
    generalize rI (bA (s.extract k s.size)) 0 = i at *
    generalize rE (bA (s.extract k s.size)) 0 = n at *
    rcases Nat.lt_or_ge (s.size - k) n with h1 | h1
    · exact .inl h1
    · right
      refine ⟨h1, ?_⟩
      cases hok : okI i with
      | false => left; unfold chk; rw [hok]; rfl
      | true =>
        right
        refine ⟨by unfold chk; rw [hok]; rfl, ?_⟩
        by_cases h2 : n = (encS i).size
        · right
          refine ⟨h2, ?_⟩
          cases h3 : ((s.extract k (k + n)).toList == (encS i).toList) with
          | false => rfl
          | true =>
            exfalso
            have e3 : encS i = strU (encL i) := by unfold encS; rw [hok]; rfl
            have h4 := encS_size hok
            rw [h2, h4, e3] at h3
            rw [h2, h4] at h1
            have h5 := (pre_cut (encl_ok i hok).1 (by omega)).1 h3
            have h6 := (decO_iff (by omega)).2 ⟨hok, hwf, h5⟩
            rw [hd] at h6
            cases h6
        · exact .inl h2
end Is
end Go.Proofs.YtblmagcekfbgdaaGreatDoor
namespace Go.Proofs.YtblmagcekfbgdaaGreatDoor
open Go Go.RowKit
namespace Is
open Nt
set_option linter.unusedVariables false
set_option linter.unusedSimpArgs false
theorem cr_below {C j : Nat} {s : ByteArray} {w W : World} (h : Cr w C s j) (hb : Below w.heap.size w W) : Cr W C s j := h.below hb h.lt
set_option maxRecDepth 100000 in
set_option maxHeartbeats 4000000 in
theorem rInst_c (code : ByteArray) (a : Int) (w : World) (ha : I64 a) (hs : code.size ≤ 100000) :
    Calls Tryz.prog 6 #[.string code, .int .i64 a] w fun e w' => e = .returned (tD (rD code a)) ∧ Below w.heap.size w w' := by
  have hsz : (code.size : Int) ≤ 100000 := by omega
  have a1 := ha.1
  have a2 := ha.2
  have HS := Lib.hid hs
  clear hs ha
  have hR0 := Lib.hid (Bk.new w 26 #[.int .i64 0, .int .i64 0, .int .i64 0, .int .i64 0, .int .i64 0, .int .i64 0, .int .i64 0, .int .i64 0, .int .i64 0])
  have HB0 := Lib.hid ((Below.refl w.heap.size w).alloc (Nat.le_refl _) (.cells #[.int .i64 0, .int .i64 0, .int .i64 0, .int .i64 0, .int .i64 0, .int .i64 0, .int .i64 0, .int .i64 0, .int .i64 0] 26))
  by_cases c0 : a < 0
  · rw [rD_out (.inl c0)]
    unfold tD zI Ins.vs
    dsimp only
    go_enter Tryz.func6, Tryz.ntmps6
    go_wp2_with fail
    exact ret_i3 rfl rfl rfl hR0.out rfl ⟨rfl, HB0.out⟩
  · have c0' : 0 ≤ a := by omega
    by_cases c1 : (code.size : Int) < a
    · rw [rD_out (.inr c1)]
      unfold tD zI Ins.vs
      dsimp only
      go_enter Tryz.func6, Tryz.ntmps6
      go_wp2_with fail
      exact ret_i3 rfl rfl rfl hR0.out rfl ⟨rfl, HB0.out⟩
    · have c1' : a ≤ (code.size : Int) := by omega
      by_cases c2 : a = (code.size : Int)
      · rw [rD_end c2]
        subst c2
        unfold tD zI Ins.vs
        dsimp only
        go_enter Tryz.func6, Tryz.ntmps6
        go_wp2_with fail
        exact ret_i3 rfl rfl rfl hR0.out rfl ⟨rfl, HB0.out⟩
      · obtain ⟨k, rfl⟩ := Int.eq_ofNat_of_zero_le c0'
        have hk : k < code.size := by omega
        have c3 : ((k : Int) == (code.size : Int)) = false := by rw [beq_eq_false_iff_ne]; exact c2
        have c4 : (k : Int) < (code.size : Int) := by omega
        have HV := Lib.hid (look_cases code k hk)
        have hes := ext_size code k
        have HES := Lib.hid hes
        have HI := Lib.hid (rany_c (w.heap.size + 1) 0 (code.extract k code.size) ((w.alloc (.cells #[.int .i64 0, .int .i64 0, .int .i64 0, .int .i64 0, .int .i64 0, .int .i64 0, .int .i64 0, .int .i64 0, .int .i64 0] 26)).alloc (.cells #[.string (code.extract k code.size), .int .i64 0, .bool true] 47)) (by
          have h := Bk.new' (w := w.alloc (.cells #[.int .i64 0, .int .i64 0, .int .i64 0, .int .i64 0, .int .i64 0, .int .i64 0, .int .i64 0, .int .i64 0, .int .i64 0] 26)) (t := 47) (cs := #[.string (code.extract k code.size), .int .i64 0, .bool true]) (g := w.heap.size + 1) (by simp)
          unfold Cr
          simpa using h) (by rw [hes]; have := HS.out; omega))
        have HE := Lib.hid (fun W => rinst_c (rI (bA (code.extract k code.size)) 0) W)
        have HCUT : Hid (∀ n : Nat, n ≤ code.size - k → (code.extract k (k + n)).size = n) := Lib.hid (fun n hn => by rw [ByteArray.size_extract]; omega)
        clear c0 c1 hes
        generalize rI (bA (code.extract k code.size)) 0 = gi at *
        generalize rE (bA (code.extract k code.size)) 0 = ge at *
        generalize encS gi = es at *
        generalize chk gi = ck at *
        generalize rD code (k : Int) = rd at *
        obtain ⟨i0, i1, i2, i3, i4, i5, i6, i7, i8⟩ := gi
        unfold Ins.vs at HI HE
        dsimp only at HI HE
        go_enter Tryz.func6, Tryz.ntmps6
        go_wp2_with fail
        go_at_call 15
        refine HI.out.mono ?_
        rintro e w2 ⟨rfl, h1, h2⟩
        have HC2 := Lib.hid h1
        have HR2 := Lib.hid (h2.bk (hR0.out.alloc _) (by simp))
        have HM2 : Hid (Mu [] w w2) := Lib.hid ((((Mu.refl [] w).alloc _).alloc _).trans h2 (fun x hx hl => by simp at hx ⊢; omega))
        clear h1 h2 HI hR0 HB0
        go_wp2_with fail
        go_at_call 16
        refine (HE.out _).mono ?_
        rintro e w4 ⟨rfl, hb⟩
        have HI4 : Hid (Bk w4 w2.heap.size 26 #[.int .i64 i0, .int .i64 i1, .int .i64 i2, .int .i64 i3, .int .i64 i4, .int .i64 i5, .int .i64 i6, .int .i64 i7, .int .i64 i8]) := Lib.hid ((Bk.new w2 _ _).below hb (Bk.new w2 _ _).lt)
        have HR4 := Lib.hid ((HR2.out.alloc _).below hb (HR2.out.alloc _).lt)
        have HC4 := Lib.hid (cr_below (HC2.out.alloc _) hb)
        have HM4 : Hid (Mu [] w w4) := Lib.hid ((HM2.out.alloc _).trans (Mu.of_below hb) (fun x hx hl => by cases hx))
        have hlt2 : w.heap.size < w2.heap.size := HR2.out.lt
        clear hb HR2 HC2 HM2
        obtain ⟨b0, b1, b2, b3, b4, b5, b6, b7, b8⟩ := c9 HR4.out
        have f0 : ∀ i, w4.frozen? ⟨w.heap.size, i, none⟩ = false := fun i => HR4.out.frozen i
        obtain ⟨q0, q1, q2, q3, q4, q5, q6, q7, q8⟩ := c9 HI4.out
        have n1 := HC4.out.cell 1
        have n2 := HC4.out.cell 2
        dsimp at n1 n2
        rw [HES.out] at n1 n2
        have hsk : ((code.size - k : Nat) : Int) = (code.size : Int) - (k : Int) := by omega
        rcases HV.out with ⟨rfl, hle, rfl, hge, hstr⟩ | ⟨rfl, hno⟩
        · have hmin : min ge (code.size - k) = ge := by omega
          rw [hmin] at n1
          rw [decide_eq_true hle] at n2
          have hge4 : (k : Int) + (ge : Int) ≤ (code.size : Int) := by omega
          have hge0 : (k : Int) ≤ (k : Int) + (ge : Int) := by omega
          have hgez : (0 : Int) ≤ (k : Int) + (ge : Int) := by omega
          subst hge
          go_wp2_with fail
          go_region
          go_wp2_with fail
          exact ret_i3 rfl rfl rfl (put9_bk HR4.out).drew rfl ⟨rfl, (put9_mu HM4.out (fun h => by omega)).drew.below (Nat.le_refl _) (fun j hj => by cases hj)⟩
        · rcases hno with hlt | ⟨hle, rfl | ⟨rfl, hne | ⟨hge, hstr⟩⟩⟩
          · rw [decide_eq_false (by omega)] at n2
            go_wp2_with fail
            exact ret_i3 rfl rfl rfl (put9_bk HR4.out) rfl ⟨rfl, (put9_mu HM4.out (fun h => by omega)).below (Nat.le_refl _) (fun j hj => by cases hj)⟩
          · rw [decide_eq_true hle] at n2
            go_wp2_with fail
            exact ret_i3 rfl rfl rfl (put9_bk HR4.out) rfl ⟨rfl, (put9_mu HM4.out (fun h => by omega)).below (Nat.le_refl _) (fun j hj => by cases hj)⟩
          · rw [decide_eq_true hle] at n2
            have hmin : min ge (code.size - k) = ge := by omega
            rw [hmin] at n1
            have hne2 : ((ge : Int) == (es.size : Int)) = false := by rw [beq_eq_false_iff_ne]; omega
            have hne3 : ¬ (ge : Int) = (es.size : Int) := by omega
            go_wp2_with fail
            exact ret_i3 rfl rfl rfl (put9_bk HR4.out) rfl ⟨rfl, (put9_mu HM4.out (fun h => by omega)).below (Nat.le_refl _) (fun j hj => by cases hj)⟩
          · rw [decide_eq_true hle] at n2
            have hmin : min ge (code.size - k) = ge := by omega
            rw [hmin] at n1
            have hge4 : (k : Int) + (ge : Int) ≤ (code.size : Int) := by omega
            have hge0 : (k : Int) ≤ (k : Int) + (ge : Int) := by omega
            have hgez : (0 : Int) ≤ (k : Int) + (ge : Int) := by omega
            subst hge
            go_wp2_with fail
            exact ret_i3 rfl rfl rfl (put9_bk HR4.out) rfl ⟨rfl, (put9_mu HM4.out (fun h => by omega)).below (Nat.le_refl _) (fun j hj => by cases hj)⟩
end Is
end Go.Proofs.YtblmagcekfbgdaaGreatDoor
