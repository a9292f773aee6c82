/- EncodeRegisters' walk over what is asked of the landed package. -/
import Derived.Test.YthidjiidcelniaaDoorN2
import Derived.Deep.RegionHeld3
import Derived.BigQuiet
import Derived.Deep.QuietTactic
namespace Go.Proofs.YthidjiidcelniaaDoor
open Go Go.RowKit
namespace encodeRegisters
open Is Nt
set_option linter.unusedVariables false
theorem bel3 {a b c : World} (h : Below a.heap.size a b) (k : Below b.heap.size b c) : Below a.heap.size a c := h.trans (k.mono h.size)
def dsI (op d s : Int) : Ins := ⟨op, d, s, 0, 0, 0, 0, 0, 0⟩
theorem ds_ops {op : Int} (h : formOf op = .ds) : (op = 1 ∨ (6 ≤ op ∧ op ≤ 14)) ∨ op = 20 ∨ op = 21 ∨ op = 26 ∨ op = 27 := by
  rcases op_cases op with e | e | e | e | e | e | e | e | e | e | e | e | e | e | e | e | e | e | e | e | e | e | e | e | e | e | e | e | e | e | e | e | e | e
  all_goals first | omega | (exfalso; rw [e] at h; exact absurd h (by decide)) | skip
  exfalso
  have e2 : formOf op = .no := by
    unfold formOf
    rw [if_neg (by omega), if_neg (by omega), if_neg (by omega), if_neg (by omega), if_neg (by omega), if_neg (by omega), if_neg (by omega), if_neg (by omega), if_neg (by omega), if_neg (by omega), if_neg (by omega)]
  rw [e2] at h
  cases h
theorem hi_low (r : Int) (h : R16 r) : hiR (r % 8) = 0 := by
  obtain ⟨h1, h2⟩ := h
  unfold hiR; rw [if_neg (by omega)]; omega
theorem rm_low (m l : Int) : rmI (m % 8) (l % 8) = rmI m l := by unfold rmI; rw [Int.emod_emod_of_dvd _ (by decide), Int.emod_emod_of_dvd _ (by decide)]
theorem rex_low (m l : Int) (hm : R16 m) (hl : R16 l) : rexI (m % 8) 0 (l % 8) = 72 := by
  unfold rexI; rw [hi_low m hm, hi_low l hl]; rfl
theorem hi16 {r : Int} (h : R16 r) : (hiR r = 0 ∧ r < 8) ∨ (hiR r = 1 ∧ 8 ≤ r) := by
  obtain ⟨h1, h2⟩ := h
  unfold hiR; rw [if_neg (by omega)]; omega
theorem reg_lists {op d s : Int} (h : formOf op = .ds) (hk : okI (dsI op d s) = true) : okI (dsI op (d % 8) (s % 8)) = true ∧ ∃ (pre post : List Int) (e : Int), encL (dsI op d s) = pre ++ (72 + e) :: post ∧ encL (dsI op (d % 8) (s % 8)) = pre ++ 72 :: post ∧
    (e = 0 ∨ e = 1 ∨ e = 4 ∨ e = 5) ∧ (e = 0 ↔ d < 8 ∧ s < 8) ∧ 2 ≤ post.length ∧ pre.length + post.length ≤ 5 ∧ B8s pre ∧ B8s post := by
  have hO : OkP (dsI op d s) .ds := by have h2 := okI_iff hk; rw [show (dsI op d s).op = op from rfl, h] at h2; exact h2
  obtain ⟨hd, hs, _, _, _⟩ := hO
  have hd' : R16 d := hd
  have hs' : R16 s := hs
  have hb := (encl_ok (dsI op d s) hk).1
  have hok : okI (dsI op (d % 8) (s % 8)) = true := by
    unfold okI at hk ⊢
    rw [show (dsI op d s).op = op from rfl, h] at hk
    rw [show (dsI op (d % 8) (s % 8)).op = op from rfl, h]
    simp only [okF, dsI, Bool.and_eq_true] at hk ⊢
    refine ⟨⟨⟨⟨?_, ?_⟩, hk.1.1.2⟩, hk.1.2⟩, hk.2⟩
    · unfold regB; simp; omega
    · unfold regB; simp; omega
  refine ⟨hok, ?_⟩
  have e1 := hi16 hd'
  have e2 := hi16 hs'
  have x1 := rex_low s d hs' hd'
  have x2 := rex_low d s hd' hs'
  rcases ds_ops h with h1 | rfl | rfl | rfl | rfl
  · have L : ∀ d s, encL (dsI op d s) = [rexI s 0 d, codeI op, rmI s d] := fun d s => by
      unfold encL dsI
      dsimp only
      repeat rw [if_neg (by omega)]
    rw [L] at hb
    refine ⟨[], [codeI op, rmI s d], 4 * hiR s + hiR d, ?_, ?_, by omega, by omega, by simp, by simp, B8s.nil, ?_⟩
    · rw [L]; unfold rexI; rw [show hiR 0 = 0 from rfl]; simp; omega
    · rw [L, x1, rm_low]; rfl
    · exact fun y hy => hb y (by simp at hy ⊢; exact .inr hy)
  · have hb2 : B8s [102, rexI d 0 s, 15, 56, 246, rmI d s] := hb
    refine ⟨[102], [15, 56, 246, rmI d s], 4 * hiR d + hiR s, ?_, ?_, by omega, by omega, by simp, by simp, ?_, ?_⟩
    · show [102, rexI d 0 s, 15, 56, 246, rmI d s] = _; unfold rexI; rw [show hiR 0 = 0 from rfl]; simp; omega
    · show [102, rexI (d % 8) 0 (s % 8), 15, 56, 246, rmI (d % 8) (s % 8)] = _; rw [x2, rm_low]; rfl
    · exact fun y hy => hb2 y (by simp at hy ⊢; exact .inl hy)
    · exact fun y hy => hb2 y (by simp at hy ⊢; exact .inr (.inr hy))
  · have hb2 : B8s [243, rexI d 0 s, 15, 56, 246, rmI d s] := hb
    refine ⟨[243], [15, 56, 246, rmI d s], 4 * hiR d + hiR s, ?_, ?_, by omega, by omega, by simp, by simp, ?_, ?_⟩
    · show [243, rexI d 0 s, 15, 56, 246, rmI d s] = _; unfold rexI; rw [show hiR 0 = 0 from rfl]; simp; omega
    · show [243, rexI (d % 8) 0 (s % 8), 15, 56, 246, rmI (d % 8) (s % 8)] = _; rw [x2, rm_low]; rfl
    · exact fun y hy => hb2 y (by simp at hy ⊢; exact .inl hy)
    · exact fun y hy => hb2 y (by simp at hy ⊢; exact .inr (.inr hy))
  · have hb2 : B8s [rexI d 0 s, 15, 66, rmI d s] := hb
    refine ⟨[], [15, 66, rmI d s], 4 * hiR d + hiR s, ?_, ?_, by omega, by omega, by simp, by simp, B8s.nil, ?_⟩
    · show [rexI d 0 s, 15, 66, rmI d s] = _; unfold rexI; rw [show hiR 0 = 0 from rfl]; simp; omega
    · show [rexI (d % 8) 0 (s % 8), 15, 66, rmI (d % 8) (s % 8)] = _; rw [x2, rm_low]; rfl
    · exact fun y hy => hb2 y (by simp at hy ⊢; exact .inr hy)
  · have hb2 : B8s [rexI d 0 s, 15, 69, rmI d s] := hb
    refine ⟨[], [15, 69, rmI d s], 4 * hiR d + hiR s, ?_, ?_, by omega, by omega, by simp, by simp, B8s.nil, ?_⟩
    · show [rexI d 0 s, 15, 69, rmI d s] = _; unfold rexI; rw [show hiR 0 = 0 from rfl]; simp; omega
    · show [rexI (d % 8) 0 (s % 8), 15, 69, rmI (d % 8) (s % 8)] = _; rw [x2, rm_low]; rfl
    · exact fun y hy => hb2 y (by simp at hy ⊢; exact .inr hy)
/-- what a law on registers asks of two texts -/
structure RegT (X Y : ByteArray) (n p : Nat) (e : Int) : Prop where
  sx : X.size = n
  sy : Y.size = n
  pn : p < n
  n3 : 3 ≤ n
  n6 : n ≤ 6
  ee : e = 0 ∨ e = 1 ∨ e = 4 ∨ e = 5
  at_ : ∀ j : Nat, j < n → ∃ u v : UInt8, X.data[j]? = some u ∧ Y.data[j]? = some v ∧ (j ≠ p → u = v) ∧ (j = p → (u.toNat : Int) = 72 + e ∧ (v.toNat : Int) = 72)
theorem reg_facts {op d s : Int} (h : formOf op = .ds) (hk : okI (dsI op d s) = true) : okI (dsI op (d % 8) (s % 8)) = true ∧ ∃ n p e, RegT (encS (dsI op d s)) (encS (dsI op (d % 8) (s % 8))) n p e ∧ (e = 0 ↔ d < 8 ∧ s < 8) := by
  obtain ⟨hok, pre, post, e, l1, l2, he, hiff, hp2, hp5, b1, b2⟩ := reg_lists h hk
  have s1 : encS (dsI op d s) = strU (pre ++ (72 + e) :: post) := by unfold encS; rw [hk, if_pos rfl, l1]
  have s2 : encS (dsI op (d % 8) (s % 8)) = strU (pre ++ 72 :: post) := by unfold encS; rw [hok, if_pos rfl, l2]
  refine ⟨hok, pre.length + (post.length + 1), pre.length, e, ⟨?_, ?_, by omega, by omega, by omega, he, fun j hj => ?_⟩, hiff⟩
  · rw [s1, size_strU]; simp
  · rw [s2, size_strU]; simp
  · have g : ∀ xs : List Int, (strU xs).data[j]? = (xs[j]?).map fun x => UInt8.ofNat x.toNat := fun xs => by
      unfold strU toU8
      show ((List.map (fun x => UInt8.ofNat x.toNat) xs).toArray)[j]? = _
      rw [List.getElem?_toArray, List.getElem?_map]
    rw [s1, s2, g, g]
    rcases Nat.lt_trichotomy j pre.length with hlt | rfl | hgt
    · rw [List.getElem?_append_left hlt, List.getElem?_append_left hlt, List.getElem?_eq_getElem hlt]
      exact ⟨_, _, rfl, rfl, fun _ => rfl, fun e => by omega⟩
    · rw [List.getElem?_append_right (Nat.le_refl _), List.getElem?_append_right (Nat.le_refl _), Nat.sub_self]
      refine ⟨_, _, rfl, rfl, fun h => absurd rfl h, fun _ => ⟨?_, ?_⟩⟩
      · rw [UInt8.toNat_ofNat']; omega
      · rfl
    · rw [List.getElem?_append_right (by omega), List.getElem?_append_right (by omega)]
      obtain ⟨m, hm⟩ : ∃ m, j - pre.length = m + 1 := ⟨j - pre.length - 1, by omega⟩
      rw [hm, List.getElem?_cons_succ, List.getElem?_cons_succ, List.getElem?_eq_getElem (show m < post.length by omega)]
      exact ⟨_, _, rfl, rfl, fun _ => rfl, fun e => by omega⟩
set_option maxRecDepth 100000 in
set_option maxHeartbeats 8000000 in
theorem walk_ {G : World → Prop} (ec : EncC G) (w : World) (HG : Hid (G w)) (d s op : Int) (hwd : I64 d) (hws : I64 s) (hwo : I64 op) : Calls Tryd.prog 7 #[.int .i64 d, .int .i64 s, .int .i64 op] w fun e w' => e = .returned (.bool true) ∧ Below w.heap.size w w' := by
  have hz : I64 0 := by unfold I64; decide
  have HL := Lib.hid (fun W hg => elives_c ec W (Lib.hid hg))
  have HF := Lib.hid (fun W => form_c op W)
  have HC := Lib.hid (fun W => check_r (dsI op d s) W)
  have HB0 := Lib.hid (Below.refl w.heap.size w)
  have HI := Lib.hid (fun W hg => ec.inst (dsI op d s) W hg ⟨hwo, hwd, hws, hz, hz, hz, hz, hz, hz⟩)
  cases hf : formOf op with
  | ds =>
    rw [hf] at HF
    unfold Fm.str at HF
    dsimp only at HF
    have hq : ((⟨#[68, 83]⟩ : ByteArray).toList == (⟨#[68, 83]⟩ : ByteArray).toList) = true := beq_self_eq_true _
    rcases chk_01 (dsI op d s) with ⟨hk, he⟩ | ⟨hk, he⟩
    · have hO : OkP (dsI op d s) .ds := by have h2 := okI_iff hk; rw [show (dsI op d s).op = op from rfl, hf] at h2; exact h2
      obtain ⟨hd, hs, _, _, _⟩ := hO
      have hd' : 0 ≤ d ∧ d ≤ 15 := hd
      have hs' : 0 ≤ s ∧ s ≤ 15 := hs
      obtain ⟨hok, n, p, e, hT, hiff⟩ := reg_facts hf hk
      have he2 : chk (dsI op (d % 8) (s % 8)) = 0 := by unfold chk; rw [hok]; rfl
      have HJ := Lib.hid (fun W hg => ec.inst (dsI op (d % 8) (s % 8)) W hg ⟨hwo, (show I64 (d % 8) from ⟨by omega, by omega⟩), (show I64 (s % 8) from ⟨by omega, by omega⟩), hz, hz, hz, hz, hz, hz⟩)
      rw [he] at HC HI
      rw [he2] at HJ
      have HT := Lib.hid hT
      have HIF := Lib.hid hiff
      have d1 := hd'.1
      have d2 := hd'.2
      have s1 := hs'.1
      have s2 := hs'.2
      clear hd hs hk he hok he2 hT hiff hf hwd hws hwo hz hd' hs'
      generalize encS (dsI op d s) = X at *
      generalize encS (dsI op (d % 8) (s % 8)) = Y at *
      unfold dsI Ins.vs at *
      dsimp only at *
      go_enter Tryd.func7, Tryd.ntmps7
      go_wp2_with fail
      go_at_call 8
      refine (HL.out _ (ec.tb HG (by assumption))).mono ?_
      rintro e w1 ⟨rfl, hb⟩
      have HB1 := Lib.hid (HB0.out.trans (hb.mono HB0.out.size))
      clear hb HL HB0
      have HB2 := Lib.hid (HB1.out.alloc HB1.out.size (.cells #[.int .i64 op, .int .i64 d, .int .i64 s, .int .i64 0, .int .i64 0, .int .i64 0, .int .i64 0, .int .i64 0, .int .i64 0] 29))
      have HI2 := Lib.hid (Bk.new w1 29 #[.int .i64 op, .int .i64 d, .int .i64 s, .int .i64 0, .int .i64 0, .int .i64 0, .int .i64 0, .int .i64 0, .int .i64 0])
      obtain ⟨a0, a1, a2, a3, a4, a5, a6, a7, a8⟩ := c9 HI2.out
      go_wp2_with fail
      go_at_call 18
      refine (HF.out _).mono ?_
      rintro e w2 ⟨rfl, hww⟩
      subst hww
      go_wp2_with fail
      go_at_call 16
      refine (HC.out _).mono ?_
      rintro e w3 ⟨rfl, hb⟩
      have HI3 := Lib.hid (HI2.out.below hb HI2.out.lt)
      have HB3 := Lib.hid (bel3 HB2.out hb)
      clear a0 a1 a2 a3 a4 a5 a6 a7 a8 hb HB2 HI2
      have HB4 := Lib.hid (HB3.out.alloc HB3.out.size (.cells #[.int .i64 op, .int .i64 (d % 8), .int .i64 (s % 8), .int .i64 0, .int .i64 0, .int .i64 0, .int .i64 0, .int .i64 0, .int .i64 0] 29))
      have HI4 := Lib.hid (HI3.out.alloc (.cells #[.int .i64 op, .int .i64 (d % 8), .int .i64 (s % 8), .int .i64 0, .int .i64 0, .int .i64 0, .int .i64 0, .int .i64 0, .int .i64 0] 29))
      have HJ4 := Lib.hid (Bk.new w3 29 #[.int .i64 op, .int .i64 (d % 8), .int .i64 (s % 8), .int .i64 0, .int .i64 0, .int .i64 0, .int .i64 0, .int .i64 0, .int .i64 0])
      obtain ⟨a0, a1, a2, a3, a4, a5, a6, a7, a8⟩ := c9 HI4.out
      go_wp2_with fail
      go_at_call 9
      refine (HI.out _ (ec.tb HG (by assumption))).mono ?_
      rintro e5 w5 ⟨rfl, hb⟩
      have HJ5 := Lib.hid (HJ4.out.below hb HJ4.out.lt)
      have HB5 := Lib.hid (bel3 HB4.out hb)
      clear a0 a1 a2 a3 a4 a5 a6 a7 a8 hb HB4 HI4 HJ4 HB3 HI3
      obtain ⟨a0, a1, a2, a3, a4, a5, a6, a7, a8⟩ := c9 HJ5.out
      go_wp2_with fail
      go_at_call 9
      refine (HJ.out _ (ec.tb HG (by assumption))).mono ?_
      rintro e6 w6 ⟨rfl, hb⟩
      have HB6 := Lib.hid (bel3 HB5.out hb)
      clear a0 a1 a2 a3 a4 a5 a6 a7 a8 hb HB5 HJ5
      have sx : (X.size : Int) = (n : Int) := by rw [HT.out.sx]
      have sy : (Y.size : Int) = (n : Int) := by rw [HT.out.sy]
      have n3 : (3 : Int) ≤ (n : Int) := by have := HT.out.n3; omega
      have n6 : (n : Int) ≤ 6 := by have := HT.out.n6; omega
      go_wp2_with fail
      go_loopw [13, 14] (fun un i W => ∃ (j : Nat) (q : Int), j ≤ n ∧ i = .int .i64 (j : Int) ∧ un = .int .i64 q ∧ Hid (q = if e ≠ 0 ∧ p < j then 1 else 0) ∧ Hid (Below w.heap.size w W)) (fun _ i _ => n - (intOf i).toNat)
      case atStart => exact ⟨0, 0, by omega, rfl, rfl, Lib.hid (by rw [if_neg (by omega)]), HB6⟩
      case round =>
        obtain ⟨j, q, hj, rfl, rfl, hq13, HW⟩ := hrel
        rcases Nat.lt_or_ge j n with hjn | hjn
        · have e1 : (j : Int) < (n : Int) := by omega
          have e0 : (0 : Int) ≤ (j : Int) := by omega
          have j6 : (j : Int) ≤ 5 := by omega
          have wj : wrap64 ((j : Int) + 1) = (j : Int) + 1 := IntWalk.wrap64_in _ (by omega)
          have HJN := Lib.hid hjn
          have hx : j < X.size := by rw [HT.out.sx]; exact hjn
          have hy : j < Y.size := by rw [HT.out.sy]; exact hjn
          obtain ⟨u, v, hu, hv, h1, h2⟩ := HT.out.at_ j hjn
          have gx : ((X[j]'hx).toNat : Int) = (u.toNat : Int) := by
            have h3 : X.data[j]'hx = u := (Array.getElem?_eq_some_iff.1 hu).2
            rw [← h3]; rfl
          have gy : ((Y[j]'hy).toNat : Int) = (v.toNat : Int) := by
            have h3 : Y.data[j]'hy = v := (Array.getElem?_eq_some_iff.1 hv).2
            rw [← h3]; rfl
          clear hu hv hjn hj
          by_cases hjp : j = p
          · obtain ⟨g1, g2⟩ := h2 hjp
            rw [g1] at gx
            rw [g2] at gy
            clear h1 h2 g1 g2
            rw [if_neg (by omega)] at hq13
            obtain rfl := hq13.out
            have HJP := Lib.hid hjp
            clear hjp
            rcases HT.out.ee with he | he | he | he
            · have HE := Lib.hid he
              rw [he] at gx
              clear he
              go_wp2_with fail
              go_quiet (fail)
              have HB7 := Lib.hid (below_drewN HW.out nq)
              go_wp2_with fail
              go_roundw
              case rel => exact ⟨j + 1, 0, by have := HJN.out; omega, by (try simp (disch := omega) only [IntWalk.wrap64_in]); go_num, rfl, Lib.hid (by rw [if_neg (fun h => h.1 HE.out)]), HB7⟩
              case measure => (have := HJN.out; (try simp (disch := omega) only [IntWalk.wrap64_in] at *); simp [intOf] <;> omega)
            · have HE := Lib.hid he
              rw [he] at gx
              clear he
              rw [show (72 : Int) + 1 = 73 from rfl] at gx
              have E1 : bits BinOp.andNot IntKind.u8 73 72 = 1 := by decide +kernel
              have E2 : bits BinOp.andNot IntKind.u8 1 7 = 0 := by decide +kernel
              have E3 : bits BinOp.andNot IntKind.u8 72 73 = 0 := by decide +kernel
              go_wp2_with fail
              go_quiet (fail)
              have HB7a := Lib.hid (below_drewN HW.out nq)
              generalize hW7 : wr.drewN nq = W7 at *
              clear hW7
              go_wp2_with fail
              go_quiet (fail)
              have HB7 := Lib.hid (below_drewN HB7a.out nq)
              go_wp2_with fail
              go_roundw
              case rel => exact ⟨j + 1, 1, by have := HJN.out; omega, by (try simp (disch := omega) only [IntWalk.wrap64_in]); go_num, rfl, Lib.hid (by rw [if_pos ⟨by rw [HE.out]; decide, by have := HJP.out; omega⟩]), HB7⟩
              case measure => (have := HJN.out; (try simp (disch := omega) only [IntWalk.wrap64_in] at *); simp [intOf] <;> omega)
            · have HE := Lib.hid he
              rw [he] at gx
              clear he
              rw [show (72 : Int) + 4 = 76 from rfl] at gx
              have E1 : bits BinOp.andNot IntKind.u8 76 72 = 4 := by decide +kernel
              have E2 : bits BinOp.andNot IntKind.u8 4 7 = 0 := by decide +kernel
              have E3 : bits BinOp.andNot IntKind.u8 72 76 = 0 := by decide +kernel
              go_wp2_with fail
              go_quiet (fail)
              have HB7a := Lib.hid (below_drewN HW.out nq)
              generalize hW7 : wr.drewN nq = W7 at *
              clear hW7
              go_wp2_with fail
              go_quiet (fail)
              have HB7 := Lib.hid (below_drewN HB7a.out nq)
              go_wp2_with fail
              go_roundw
              case rel => exact ⟨j + 1, 1, by have := HJN.out; omega, by (try simp (disch := omega) only [IntWalk.wrap64_in]); go_num, rfl, Lib.hid (by rw [if_pos ⟨by rw [HE.out]; decide, by have := HJP.out; omega⟩]), HB7⟩
              case measure => (have := HJN.out; (try simp (disch := omega) only [IntWalk.wrap64_in] at *); simp [intOf] <;> omega)
            · have HE := Lib.hid he
              rw [he] at gx
              clear he
              rw [show (72 : Int) + 5 = 77 from rfl] at gx
              have E1 : bits BinOp.andNot IntKind.u8 77 72 = 5 := by decide +kernel
              have E2 : bits BinOp.andNot IntKind.u8 5 7 = 0 := by decide +kernel
              have E3 : bits BinOp.andNot IntKind.u8 72 77 = 0 := by decide +kernel
              go_wp2_with fail
              go_quiet (fail)
              have HB7a := Lib.hid (below_drewN HW.out nq)
              generalize hW7 : wr.drewN nq = W7 at *
              clear hW7
              go_wp2_with fail
              go_quiet (fail)
              have HB7 := Lib.hid (below_drewN HB7a.out nq)
              go_wp2_with fail
              go_roundw
              case rel => exact ⟨j + 1, 1, by have := HJN.out; omega, by (try simp (disch := omega) only [IntWalk.wrap64_in]); go_num, rfl, Lib.hid (by rw [if_pos ⟨by rw [HE.out]; decide, by have := HJP.out; omega⟩]), HB7⟩
              case measure => (have := HJN.out; (try simp (disch := omega) only [IntWalk.wrap64_in] at *); simp [intOf] <;> omega)
          · have g3 := h1 hjp
            subst g3
            have HJP := Lib.hid hjp
            clear h1 h2 hjp
            generalize (u.toNat : Int) = uv at *
            have nq0 : (uv != uv) = false := by simp
            go_wp2_with fail
            go_quiet (fail)
            have HB7 := Lib.hid (below_drewN HW.out nq)
            go_wp2_with fail
            go_roundw
            case rel => exact ⟨j + 1, q, by have := HJN.out; omega, by (try simp (disch := omega) only [IntWalk.wrap64_in]); go_num, rfl, Lib.hid (by rw [hq13.out]; have := HJP.out; split <;> split <;> omega), HB7⟩
            case measure => (have := HJN.out; (try simp (disch := omega) only [IntWalk.wrap64_in] at *); simp [intOf] <;> omega)
        · obtain rfl : j = n := by omega
          by_cases he : e = 0
          · obtain ⟨dl, sl⟩ := HIF.out.1 he
            rw [if_neg (fun h => h.1 he)] at hq13
            obtain rfl := hq13.out
            go_wp2_with fail
            go_ret
            exact ⟨rfl, HW.out⟩
          · have hpn : p < j := HT.out.pn
            rw [if_pos ⟨he, hpn⟩] at hq13
            obtain rfl := hq13.out
            have hno : ¬ (d < 8 ∧ s < 8) := fun h => he (HIF.out.2 h)
            clear he hpn
            by_cases dl : d < 8
            · have sl : ¬ s < 8 := fun h => hno ⟨dl, h⟩
              clear hno
              go_wp2_with fail
              go_ret
              exact ⟨rfl, HW.out⟩
            · clear hno
              go_wp2_with fail
              go_ret
              exact ⟨rfl, HW.out⟩
    · rw [he] at HC
      clear hk he hf hwd hws hwo hz
      unfold dsI Ins.vs at *
      dsimp only at *
      go_enter Tryd.func7, Tryd.ntmps7
      go_wp2_with fail
      go_at_call 8
      refine (HL.out _ (ec.tb HG (by assumption))).mono ?_
      rintro e w1 ⟨rfl, hb⟩
      have HB1 := Lib.hid (HB0.out.trans (hb.mono HB0.out.size))
      clear hb HL HB0
      have HB2 := Lib.hid (HB1.out.alloc HB1.out.size (.cells #[.int .i64 op, .int .i64 d, .int .i64 s, .int .i64 0, .int .i64 0, .int .i64 0, .int .i64 0, .int .i64 0, .int .i64 0] 29))
      have HI2 := Lib.hid (Bk.new w1 29 #[.int .i64 op, .int .i64 d, .int .i64 s, .int .i64 0, .int .i64 0, .int .i64 0, .int .i64 0, .int .i64 0, .int .i64 0])
      obtain ⟨a0, a1, a2, a3, a4, a5, a6, a7, a8⟩ := c9 HI2.out
      go_wp2_with fail
      go_at_call 18
      refine (HF.out _).mono ?_
      rintro e w2 ⟨rfl, hww⟩
      subst hww
      go_wp2_with fail
      go_at_call 16
      refine (HC.out _).mono ?_
      rintro e w3 ⟨rfl, hb⟩
      have HB3 := Lib.hid (bel3 HB2.out hb)
      clear a0 a1 a2 a3 a4 a5 a6 a7 a8 hb HB2 HI2
      go_wp2_with fail
      go_ret
      exact ⟨rfl, HB3.out⟩
  | _ =>
    rw [hf] at HF
    unfold Fm.str at HF
    dsimp only at HF
    clear hf hwd hws hwo hz
    have HB2a := fun (W : World) (hb : Below w.heap.size w W) => hb.alloc hb.size (.cells #[.int .i64 op, .int .i64 d, .int .i64 s, .int .i64 0, .int .i64 0, .int .i64 0, .int .i64 0, .int .i64 0, .int .i64 0] 29)
    have HB2h := Lib.hid HB2a
    clear HB2a
    go_enter Tryd.func7, Tryd.ntmps7
    go_wp2_with fail
    go_at_call 8
    refine (HL.out _ (ec.tb HG (by assumption))).mono ?_
    rintro e w1 ⟨rfl, hb⟩
    have HB1 := Lib.hid (HB0.out.trans (hb.mono HB0.out.size))
    clear hb HL HB0
    have HB2 := Lib.hid (HB2h.out _ HB1.out)
    clear HB2h
    go_wp2_with fail
    go_at_call 18
    refine (HF.out _).mono ?_
    rintro e w2 ⟨rfl, hww⟩
    subst hww
    go_wp2_with fail
    go_ret
    exact ⟨rfl, HB2.out⟩
end encodeRegisters
end Go.Proofs.YthidjiidcelniaaDoor
