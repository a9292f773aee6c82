/- The landed package limb: a run to its end. -/
import Derived.Test.YtbdhibgljaelbaaDoorM8
import Derived.WalkMore
import Derived.ScopeJumps
import Derived.Deep.LoopGhost
namespace Go.Proofs.YtbdhibgljaelbaaDoor
open Go Go.RowKit Go.Sort Go.Shelf
namespace Lb
open Wd Nt Gr
set_option linter.unusedVariables false
set_option linter.unusedSimpArgs false
theorem wp_scope_ghost {P : Program} {Q : Exit → Act → World → Prop} {a : Act} {w : World} {A body : Code} (l : Nat) (I : Nat → Act → World → Prop) (hf : findLabel (A.seq ((Code.label l).seq body)) l = some (Code.skip.seq body))
    (first : A.wp P (Exit.then (fun a w => ∃ n, I n a w) (Exit.jump l (fun a w => ∃ n, I n a w) Q)) a w)
    (pass : ∀ n a w, I n a w → body.wp P (Exit.jump l (fun a' w' => ∃ n', n' < n ∧ I n' a' w') Q) a w) : (Code.scope (A.seq ((Code.label l).seq body))).wp P Q a w := by
  refine wp_scope_jumps l (fun a w => ∃ n, I n a w) (fun a w => leastOf (fun n => I n a w)) hf ?_ ?_
  · refine wp_seq (wp_mono first ?_)
    intro e a' w' hq
    cases e with
    | normal =>
      obtain ⟨n, hn⟩ := hq
      refine wp_seq (wp_label (wp_mono (pass n a' w' hn) ?_))
      intro e a2 w2 hq2
      cases e with
      | normal => exact hq2
      | exit id => exact hq2
      | goto l' => obtain ⟨h1, n', _, hI'⟩ := hq2; exact ⟨h1, n', hI'⟩
      | ret => exact hq2
      | panic ch => exact hq2
      | outgrown => exact hq2
    | exit id => exact hq
    | goto l' => exact hq
    | ret => exact hq
    | panic ch => exact hq
    | outgrown => exact hq
  · intro a w hJ
    refine wp_seq (wp_skip (wp_mono (pass _ a w (leastOf_spec hJ).1) ?_))
    intro e a' w' hq
    cases e with
    | normal => exact hq
    | exit id => exact hq
    | goto l' =>
      obtain ⟨h1, n', hlt, hI'⟩ := hq
      exact ⟨h1, ⟨n', hI'⟩, Nat.lt_of_le_of_lt ((leastOf_spec ⟨n', hI'⟩).2 n' hI') hlt⟩
    | ret => exact hq
    | panic ch => exact hq
    | outgrown => exact hq
/-! ### one step, by kinds -/
section
variable {ops : List Op} {ends : List Int} {m k : Nat} {o : Op} {rg : Nat → Int} {rows : List (List Int)} {seen : List Ev} {r : Bool × St}
theorem opAt_of (h : ops[k]? = some o) : opAt ops k = o := by unfold opAt; rw [h]; rfl
theorem runF_ge (h : ops.length ≤ k) : runF ops ends (m + 1) ⟨k, rg, rows, seen⟩ = some (true, ⟨k, rg, rows, seen⟩) := by
  unfold runF
  rw [if_neg (by show ¬ k < ops.length; omega)]
theorem runF_lt (h : ops[k]? = some o) {t : Option St} (hs : stp ops ends ⟨k, rg, rows, seen⟩ = t) : runF ops ends (m + 1) ⟨k, rg, rows, seen⟩ = match (motive := Option St → Option (Bool × St)) t with | none => some (false, ⟨k, rg, rows, seen⟩) | some s' => runF ops ends m s' := by
  subst hs
  have hk := (List.getElem?_eq_some_iff.1 h).1
  conv => lhs; unfold runF
  rw [if_pos (show (⟨k, rg, rows, seen⟩ : St).at_ < ops.length from hk)]
  rfl
theorem stp_16 (h : ops[k]? = some o) (h16 : o.k = 16) : stp ops ends ⟨k, rg, rows, seen⟩ = some ⟨k + 1, Lb.put rg o.d 0, rows, seen ++ [((k : Int), -1)]⟩ := by
  unfold stp
  dsimp only
  rw [opAt_of h, if_pos h16]
  unfold turnS
  rw [opAt_of h]
theorem stp_17t (h : ops[k]? = some o) (h17 : o.k = 17) {l : Nat} {lo : Op} (he : enAt ends k = (l : Int)) (hl : ops[l]? = some lo) (ht : (rg lo.d.toNat + 1) % 18446744073709551616 < lo.im) :
    stp ops ends ⟨k, rg, rows, seen⟩ = some ⟨l + 1, Lb.put rg lo.d ((rg lo.d.toNat + 1) % 18446744073709551616), rows, seen ++ [((l : Int), -1)]⟩ := by
  unfold stp
  dsimp only
  rw [opAt_of h, if_neg (by omega), if_pos h17, he, Int.toNat_natCast, opAt_of hl, if_pos ht]
  unfold turnS
  rw [opAt_of hl]
theorem stp_17f (h : ops[k]? = some o) (h17 : o.k = 17) {l : Nat} {lo : Op} (he : enAt ends k = (l : Int)) (hl : ops[l]? = some lo) (ht : ¬ (rg lo.d.toNat + 1) % 18446744073709551616 < lo.im) :
    stp ops ends ⟨k, rg, rows, seen⟩ = some ⟨k + 1, rg, rows, seen⟩ := by
  unfold stp
  dsimp only
  rw [opAt_of h, if_neg (by omega), if_pos h17, he, Int.toNat_natCast, opAt_of hl, if_neg ht]
theorem plQ_int (o : Op) (rg : Nat → Int) : ((plQ o rg : Nat) : Int) = (o.im + hld rg o.a) % 18446744073709551616 := by
  unfold plQ
  omega
theorem mm_of (h : o.k = 14 ∨ o.k = 15) : mm o.k = true := by unfold mm; rcases h with h | h <;> rw [h] <;> decide
theorem rowAt_xs {xs : List (Nat × List Int)} {i g : Nat} {ys : List Int} (hb : o.bf = (i : Int)) (hi : xs[i]? = some (g, ys)) : rowAt (xs.map (·.2)) o.bf = ys := by
  unfold rowAt
  rw [hb, Int.toNat_natCast, List.getElem?_map, hi]
  rfl
theorem stp_mn {xs : List (Nat × List Int)} {i g : Nat} {ys : List Int} (h : ops[k]? = some o) (hk : o.k = 14 ∨ o.k = 15) (hb : o.bf = (i : Int)) (hi : xs[i]? = some (g, ys)) (hle : ys.length ≤ plQ o rg) :
    stp ops ends ⟨k, rg, xs.map (·.2), seen⟩ = none := by
  unfold stp
  dsimp only
  rw [opAt_of h, if_neg (by omega), if_neg (by omega), if_pos (mm_of hk), rowAt_xs hb hi, if_pos (by rw [← plQ_int]; omega)]
theorem stp_ms {xs : List (Nat × List Int)} {i g : Nat} {ys : List Int} (h : ops[k]? = some o) (hk : o.k = 14 ∨ o.k = 15) (hb : o.bf = (i : Int)) (hi : xs[i]? = some (g, ys)) (hle : ¬ ys.length ≤ plQ o rg) :
    stp ops ends ⟨k, rg, xs.map (·.2), seen⟩ = some ⟨k + 1, if o.k = 15 then rg else Lb.put rg o.d (Nt.at_ ys (plQ o rg)), (if o.k = 15 then xs.set i (g, ys.set (plQ o rg) (rg o.b.toNat)) else xs).map (·.2), seen ++ [((k : Int), ((plQ o rg : Nat) : Int))]⟩ := by
  unfold stp
  dsimp only
  rw [opAt_of h, if_neg (by omega), if_neg (by omega), if_pos (mm_of hk), rowAt_xs hb hi, if_neg (by rw [← plQ_int]; omega), ← plQ_int, Int.toNat_natCast]
  by_cases h15 : o.k = 15
  · rw [if_pos h15, if_pos h15, if_pos h15, hb, Int.toNat_natCast, List.map_set]
  · rw [if_neg h15, if_neg h15, if_neg h15]
theorem stp_pl (h : ops[k]? = some o) (hk : 1 ≤ o.k ∧ o.k ≤ 13) : stp ops ends ⟨k, rg, rows, seen⟩ = some ⟨k + 1, Lb.put (Lb.put rg o.d (resD o.k o.im (hld rg o.a) (hld rg o.b) (hld rg o.c))) o.e (resE o.k (hld rg o.a) (hld rg o.b) (hld rg o.c)), rows, seen ++ [((k : Int), -1)]⟩ := by
  unfold stp
  dsimp only
  have hm : mm o.k = false := by unfold mm; rw [decide_eq_false (by omega), decide_eq_false (by omega)]; rfl
  rw [opAt_of h, if_neg (by omega), if_neg (by omega), hm, if_neg (by decide)]
end
theorem stp_mono {ops : List Op} {ends : List Int} {s s' : St} (h : stp ops ends s = some s') : s.seen.length ≤ s'.seen.length := by
  unfold stp turnS at h
  dsimp only at h
  split at h
  · cases h; simp
  · split at h
    · split at h <;> (cases h; simp)
    · split at h
      · split at h
        · cases h
        · split at h <;> (cases h; simp)
      · cases h; simp
theorem runF_mono {ops : List Op} {ends : List Int} {f : Bool} {s' : St} : ∀ {n : Nat} {s : St}, runF ops ends n s = some (f, s') → s.seen.length ≤ s'.seen.length
  | 0, s, h => by cases h
  | n + 1, s, h => by
    unfold runF at h
    split at h
    · split at h
      · cases h; exact Nat.le_refl _
      · rename_i s2 hs
        exact Nat.le_trans (stp_mono hs) (runF_mono h)
    · cases h; exact Nat.le_refl _
/-- what each operation of a program that may be keeps to, with nb buffers -/
structure StOk (ops : List Op) (ends : List Int) (nb k : Nat) (o : Op) : Prop where
  rg : Rgs o
  k1 : 1 ≤ o.k ∧ o.k ≤ 17
  d : o.k ≠ 15 → o.k ≠ 17 → 0 ≤ o.d
  b : o.k = 15 → 0 ≤ o.b
  im : W o.im
  sh : o.k = 8 ∨ o.k = 9 → 1 ≤ o.im ∧ o.im ≤ 63
  bf : o.k = 14 ∨ o.k = 15 → ∃ i : Nat, o.bf = (i : Int) ∧ i < nb
  en : o.k = 17 → ∃ (l : Nat) (lo : Op), enAt ends k = (l : Int) ∧ l < k ∧ ops[l]? = some lo ∧ 0 ≤ lo.d ∧ lo.d < 64
/-- how many rows, how long -/
structure Dim (nb : Nat) (xs : List (Nat × List Int)) : Prop where
  len : xs.length = nb
  le : ∀ x ∈ xs, x.2.length ≤ 65536
theorem Dim.set {nb : Nat} {xs : List (Nat × List Int)} (h : Dim nb xs) {i g q : Nat} {ys : List Int} {v : Int} (hi : xs[i]? = some (g, ys)) : Dim nb (xs.set i (g, ys.set q v)) := by
  refine ⟨by rw [List.length_set]; exact h.len, fun x hx => ?_⟩
  rcases List.mem_or_eq_of_mem_set hx with hx | rfl
  · exact h.le x hx
  · show (ys.set q v).length ≤ 65536
    rw [List.length_set]
    exact h.le _ (List.mem_of_getElem? hi)
theorem tch_f {B R : Nat} {ov : Value} {ev : EnV} {xs : List (Nat × List Int)} {rg : Nat → Int} {seen : List Ev} {k : Nat} {o : Op} {i g : Nat} {ys : List Int} {e : Ending} {w' : World} (h : TchP B R ov ev xs rg seen k o i g ys e w') (hle : ys.length ≤ plQ o rg) : e = .returned (.bool false) ∧ RnW w' B R ov ev xs rg seen := by
  unfold TchP at h
  rw [if_pos hle] at h
  exact h
theorem tch_t {B R : Nat} {ov : Value} {ev : EnV} {xs : List (Nat × List Int)} {rg : Nat → Int} {seen : List Ev} {k : Nat} {o : Op} {i g : Nat} {ys : List Int} {e : Ending} {w' : World} (h : TchP B R ov ev xs rg seen k o i g ys e w') (hle : ¬ ys.length ≤ plQ o rg) : e = .returned (.bool true) ∧ RnW w' B R ov ev (if o.k = 15 then xs.set i (g, ys.set (plQ o rg) (rg o.b.toNat)) else xs) (if o.k = 15 then rg else Lb.put rg o.d (Nt.at_ ys (plQ o rg))) (seen ++ [((k : Int), ((plQ o rg : Nat) : Int))]) := by
  unfold TchP at h
  rw [if_neg hle] at h
  exact h
/-- the frame of a run, at operation k -/
def DoF (R k : Nat) (a : Act) : Prop := ∃ (u1 u2 u4 u5 u6 u7 u8 u9 u10 u11 u12 u13 u14 u15 u16 u17 u18 u19 u20 u21 u22 u23 u24 u25 u26 u27 u28 u29 u30 u31 u32 u33 u34 u35 u36 u37 u38 u39 u40 u41 u42 u43 u44 u45 u46 u47 u48 u49 u50 u51 u52 u53 u54 u55 u56 u57 u58 u59 u60 u61 u62 u63 u64 u65 u66 u67 u68 u69 u70 u71 u72 u73 u74 u75 u76 u77 u78 u79 u80 u81 u82 : Value), a = { tmps := #[.pointer (some ⟨R, 0, none⟩), u1, u2, .int .i64 (k : Int), u4, u5, u6, u7, u8, u9, u10, u11, u12, u13, u14, u15, u16, u17, u18, u19, u20, u21, u22, u23, u24, u25, u26, u27, u28, u29, u30, u31, u32, u33, u34, u35, u36, u37, u38, u39, u40, u41, u42, u43, u44, u45, u46, u47, u48, u49, u50, u51, u52, u53, u54, u55, u56, u57, u58, u59, u60, u61, u62, u63, u64, u65, u66, u67, u68, u69, u70, u71, u72, u73, u74, u75, u76, u77, u78, u79, u80, u81, u82], defers := [] }
/-- a run under way, with at most n steps to come -/
structure DoI (ops : List Op) (nb B R : Nat) (ov : Value) (ev : EnV) (w : World) (f : Bool) (s' : St) (n k : Nat) (W : World) : Prop where
  ex : ∃ xs rg seen, runF ops ev.xs n ⟨k, rg, xs.map (·.2), seen⟩ = some (f, s') ∧ RnW W B R ov ev xs rg seen ∧ Dim nb xs
  bel : Below B w W
/-- what do leaves -/
def DoP (nb B R : Nat) (ov : Value) (ev : EnV) (w : World) (f : Bool) (s' : St) (e : Ending) (w' : World) : Prop :=
  e = .returned (.bool f) ∧ (∃ xs, xs.map (·.2) = s'.rows ∧ RnW w' B R ov ev xs s'.rg s'.seen ∧ Dim nb xs) ∧ Below B w w'
set_option maxRecDepth 100000 in
set_option maxHeartbeats 8000000 in
theorem do_l (ops : List Op) (nb B R : Nat) (X : Option Addr) (d : Nat) (ev : EnV) (f : Bool) (s' : St) (hn : ops.length ≤ 65536) (hnb : nb ≤ 32) (HS : ∀ k o, ops[k]? = some o → StOk ops ev.xs nb k o) (hel : ev.xs.length = ops.length) (hs' : s'.seen.length ≤ 16777216)
    (N : Nat) (w : World) (hX : Rdr w B X ops.length ops) (hB : B ≤ w.heap.size) (hI : DoI ops nb B R (.slice X ops.length d) ev w f s' N 0 w) :
    Calls Tryd.prog 40 #[.pointer (some ⟨R, 0, none⟩)] w fun e w' => DoP nb B R (.slice X ops.length d) ev w f s' e w' := by
  have HI0 := Lib.hid hI
  have HX := Lib.hid hX
  have HST := Lib.hid HS
  have HEL := Lib.hid hel
  have HBD := Lib.hid (show s'.seen.length ≤ 16777216 ∧ B ≤ w.heap.size ∧ nb ≤ 32 ∧ ops.length ≤ 65536 from ⟨hs', hB, hnb, hn⟩)
  have hn4 : (ops.length : Int) ≤ 65536 := by omega
  clear hI hX HS hel hs' hB hnb hn
  go_enter Tryd.func40, Tryd.ntmps40
  go_wp2
  refine wp_scope_ghost 0 (fun n a W => ∃ k, DoF R k a ∧ DoI ops nb B R (.slice X ops.length d) ev w f s' n k W) rfl ?_ ?_
  · go_wp2
    exact ⟨N, 0, ⟨_, _, _, _, _, _, _, _, _, _, _, _, _, _, _, _, _, _, _, _, _, _, _, _, _, _, _, _, _, _, _, _, _, _, _, _, _, _, _, _, _, _, _, _, _, _, _, _, _, _, _, _, _, _, _, _, _, _, _, _, _, _, _, _, _, _, _, _, _, _, _, _, _, _, _, _, _, _, _, _, _, rfl⟩, HI0.out⟩
  · rintro n0 a W0 ⟨k0, ⟨u1, u2, u4, u5, u6, u7, u8, u9, u10, u11, u12, u13, u14, u15, u16, u17, u18, u19, u20, u21, u22, u23, u24, u25, u26, u27, u28, u29, u30, u31, u32, u33, u34, u35, u36, u37, u38, u39, u40, u41, u42, u43, u44, u45, u46, u47, u48, u49, u50, u51, u52, u53, u54, u55, u56, u57, u58, u59, u60, u61, u62, u63, u64, u65, u66, u67, u68, u69, u70, u71, u72, u73, u74, u75, u76, u77, u78, u79, u80, u81, u82, rfl⟩, hD⟩
    have HD := Lib.hid hD
    clear hD HI0
    go_wp2_with fail
    go_loopg [3] n0 (fun m at_ W => ∃ k : Nat, at_ = .int .i64 (k : Int) ∧ m ≤ n0 ∧ Hid (DoI ops nb B R (.slice X ops.length d) ev w f s' m k W))
    case atStart => exact ⟨k0, rfl, Nat.le_refl _, HD⟩
    case round =>
      obtain ⟨k, rfl, hm, HD2⟩ := hrel
      clear HD
      obtain ⟨xs, rg, seen, hrun, hR, hdim⟩ := HD2.out.ex
      have HBL := Lib.hid HD2.out.bel
      have HSE := Lib.hid (runF_mono hrun)
      obtain ⟨m, hgk⟩ : ∃ m', gk = m' + 1 := by
        cases gk with
        | zero => cases hrun
        | succ m => exact ⟨m, rfl⟩
      rw [hgk] at hrun hm
      have HGK := Lib.hid hgk
      have HRUN := Lib.hid hrun
      have HRN := Lib.hid hR
      have HDM := Lib.hid hdim
      have HM := Lib.hid hm
      obtain ⟨r0, r1, rr, rf, hRl⟩ := hR.cells
      have hk0 : (0 : Int) ≤ (k : Int) := by omega
      clear HD2 hrun hR hdim hm hgk
      rcases Nat.lt_or_ge k ops.length with hk | hk
      · have hk4 : (k : Int) < (ops.length : Int) := by omega
        obtain ⟨o, ho⟩ : ∃ o, ops[k]? = some o := ⟨_, List.getElem?_eq_getElem hk⟩
        have HO := Lib.hid ho
        have HSK := Lib.hid (HST.out k o ho)
        have HX1 := Lib.hid (HX.out.below HBL.out)
        obtain ⟨bx, ox, hXe, hbx, hO⟩ := opc_at HX1.out ho
        subst hXe
        have HOC := Lib.hid hO
        obtain ⟨o0, o1, o2, o3, o4, o5, o6, o7⟩ := hO
        have HSZ : Hid (B ≤ wr.heap.size) := Lib.hid (Nat.le_trans HBD.out.2.1 HBL.out.size)
        have HSL : Hid (seen.length ≤ 100000000) := Lib.hid (by have h1 := HSE.out; have h2 := HBD.out.1; have h3 : (⟨k, rg, xs.map (·.2), seen⟩ : St).seen.length = seen.length := rfl; omega)
        clear ho HSE
        by_cases h16 : o.k = 16
        · have HT := Lib.hid (turn_l B R ops (some ⟨bx, ox, none⟩) ops.length d ev xs rg seen k o HO.out hk HBD.out.2.2.2 ⟨HSK.out.d (by omega) (by omega), HSK.out.rg.d.2⟩ 0 W_zero wr HRN.out HX1.out HSZ.out HSL.out)
          have HNX : Hid (runF ops ev.xs m ⟨k + 1, Lb.put rg o.d 0, xs.map (·.2), seen ++ [((k : Int), -1)]⟩ = some (f, s')) := Lib.hid (by have h := HRUN.out; rw [runF_lt HO.out (stp_16 HO.out h16)] at h; exact h)
          rw [h16] at o0
          clear h16
          go_wp2_with fail
          go_at_call 66
          refine HT.out.mono ?_
          rintro e w4 ⟨rfl, hR4, hb4⟩
          have HR4 := Lib.hid hR4
          have HB4 := Lib.hid (HBL.out.trans hb4)
          clear hR4 hb4 HT
          go_wp2_with fail
          go_roundg m
          case measure => rw [HGK.out]; exact Nat.lt_succ_self _
          case rel => exact ⟨k + 1, by go_num, by have := HM.out; omega, Lib.hid ⟨⟨xs, _, _, HNX.out, HR4.out, HDM.out⟩, HB4.out⟩⟩
        have n16 : (o.k == 16) = false := by rw [beq_eq_false_iff_ne]; exact h16
        by_cases h17 : o.k = 17
        · obtain ⟨l, lo, he, hlk, hlo, hld0, hld1⟩ := HSK.out.en h17
          obtain ⟨bx2, ox2, hXe2, _, hOL⟩ := opc_at HX1.out hlo
          cases hXe2
          obtain ⟨p0, p1, p2, p3, p4, p5, p6, p7⟩ := hOL
          obtain ⟨j, hj⟩ : ∃ j : Nat, lo.d = (j : Int) := ⟨lo.d.toNat, by omega⟩
          have hj64 : j < 64 := by omega
          have hj4 : (j : Int) < 64 := by omega
          have hj0 : (0 : Int) ≤ (j : Int) := by omega
          have hl4 : (l : Int) < (ops.length : Int) := by omega
          have hl0 : (0 : Int) ≤ (l : Int) := by omega
          obtain ⟨Av, cv, hv, hvc⟩ := rws_form HRN.out.en
          have hen := HRN.out.en
          rw [hv] at hen r1
          have hx : ev.xs[k]? = some (l : Int) := by
            have h1 : k < ev.xs.length := by rw [HEL.out]; exact hk
            unfold enAt at he
            rw [List.getElem?_eq_getElem h1] at he ⊢
            exact congrArg some he
          obtain ⟨be, oe', hAv, _, x0⟩ := int_at (rws_rd hen).2.1 hx
          subst hAv
          rw [HEL.out] at r1
          have e0 := rr j hj64
          obtain ⟨t, ht⟩ : ∃ t, (rg j + 1) % 18446744073709551616 = t := ⟨_, rfl⟩
          have hwt : W t := by rw [← ht]; exact W_mod _
          have ewt : IntKind.u64.wrap (rg j + 1) = t := by rw [IntKind.wrap_u64]; exact ht
          have hjn : lo.d.toNat = j := by rw [hj, Int.toNat_natCast]
          have HT := Lib.hid (fun (W : World) (hb : Below wr.heap.size wr W) => turn_l B R ops (some ⟨bx, ox, none⟩) ops.length d ev xs rg seen l lo hlo (by omega) HBD.out.2.2.2 ⟨hld0, hld1⟩ t hwt W (HRN.out.below hb) (HX1.out.below (hb.mono HSZ.out)) (Nat.le_trans HSZ.out hb.size) HSL.out)
          have HNT : Hid (t < lo.im → runF ops ev.xs m ⟨l + 1, Lb.put rg lo.d t, xs.map (·.2), seen ++ [((l : Int), -1)]⟩ = some (f, s')) := Lib.hid (fun hlt => by
            have h := HRUN.out
            rw [runF_lt HO.out (stp_17t HO.out h17 he hlo (by rw [hjn, ht]; exact hlt)), hjn, ht] at h
            exact h)
          have HNF : Hid (¬ t < lo.im → runF ops ev.xs m ⟨k + 1, rg, xs.map (·.2), seen⟩ = some (f, s')) := Lib.hid (fun hlt => by
            have h := HRUN.out
            rw [runF_lt HO.out (stp_17f HO.out h17 he hlo (by rw [hjn, ht]; exact hlt))] at h
            exact h)
          rw [h17] at o0
          rw [hj] at p1
          have HLM := Lib.hid (show m + 1 ≤ n0 from HM.out)
          clear h17 h16 he hv hen hx ht hwt hjn hld0 hld1 hlo hlk hvc
          by_cases hlt : t < lo.im
          · have HNX := Lib.hid (HNT.out hlt)
            clear HNT HNF
            generalize lo.im = lim at *
            go_wp2_with fail
            go_quiet (fail)
            go_wp2_with fail
            go_at_call 66
            refine (HT.out _ (below_drewN (Below.refl _ _) _)).mono ?_
            rintro e w4 ⟨rfl, hR4, hb4⟩
            have HR4 := Lib.hid hR4
            have HB4 := Lib.hid ((below_drewN HBL.out nq).trans hb4)
            clear hR4 hb4 HT
            go_wp2_with fail
            go_step3
            refine (show (0 : Nat) = 0 ∧ _ from ⟨rfl, m, by have := HLM.out; omega, l + 1, ⟨_, _, _, _, _, _, _, _, _, _, _, _, _, _, _, _, _, _, _, _, _, _, _, _, _, _, _, _, _, _, _, _, _, _, _, _, _, _, _, _, _, _, _, _, _, _, _, _, _, _, _, _, _, _, _, _, _, _, _, _, _, _, _, _, _, _, _, _, _, _, _, _, _, _, _, _, _, _, _, _, _, rfl⟩, ⟨⟨xs, _, _, HNX.out, HR4.out, HDM.out⟩, HB4.out⟩⟩)
          · have hge : lo.im ≤ t := by omega
            have HNX := Lib.hid (HNF.out hlt)
            clear HNT HNF hlt
            generalize lo.im = lim at *
            go_wp2_with fail
            go_quiet (fail)
            go_wp2_with fail
            go_roundg m
            case measure => rw [HGK.out]; exact Nat.lt_succ_self _
            case rel => exact ⟨k + 1, by go_num, by have := HM.out; omega, Lib.hid ⟨⟨xs, _, _, HNX.out, HRN.out.below (below_drewN (Below.refl _ _) _), HDM.out⟩, below_drewN HBL.out _⟩⟩
        have n17 : (o.k == 17) = false := by rw [beq_eq_false_iff_ne]; exact h17
        by_cases hmem : o.k = 14 ∨ o.k = 15
        · obtain ⟨i, hbf, hi⟩ := HSK.out.bf hmem
          obtain ⟨⟨g, ys⟩, hxi⟩ : ∃ x, xs[i]? = some x := ⟨_, List.getElem?_eq_getElem (by rw [HDM.out.len]; exact hi)⟩
          have hys := HDM.out.le _ (List.mem_of_getElem? hxi)
          have HT := Lib.hid (touch_l B R ops (some ⟨bx, ox, none⟩) ops.length d ev xs rg seen k o HO.out hk HBD.out.2.2.2 HSK.out.rg hmem (fun h => HSK.out.d (by omega) (by omega)) HSK.out.b HSK.out.im i g ys hbf hxi hys (by rw [HDM.out.len]; exact HBD.out.2.2.1) wr HRN.out HX1.out HSZ.out HSL.out)
          have hk1415 : Hid ((o.k == 14) = true ∨ ((o.k == 14) = false ∧ (o.k == 15) = true)) := Lib.hid (by rcases hmem with h | h <;> rw [h] <;> simp)
          by_cases hle : ys.length ≤ plQ o rg
          · have HNX := Lib.hid (by have h := HRUN.out; rw [runF_lt HO.out (stp_mn HO.out hmem hbf hxi hle)] at h; exact h)
            have hfs : false = f ∧ (⟨k, rg, xs.map (·.2), seen⟩ : St) = s' := by have h := HNX.out; injection h with h; exact ⟨congrArg Prod.fst h, congrArg Prod.snd h⟩
            obtain ⟨rfl, rfl⟩ := hfs
            have HT2 := Lib.hid (HT.out.mono (fun e w' h => (show _ ∧ _ from ⟨tch_f h.1 hle, h.2⟩)))
            clear HNX hle hmem HT
            generalize o.k = ok at *
            have hq := hk1415.out
            clear hk1415
            rcases hq with hq | ⟨hq, hq2⟩
            all_goals (
              go_wp2_with fail
              go_at_call 67
              refine HT2.out.mono ?_
              rintro e w4 ⟨⟨rfl, hR4⟩, hb4⟩
              have HR4 := Lib.hid hR4
              have HB4 := Lib.hid (HBL.out.trans hb4)
              clear hR4 hb4 HT2
              go_wp2_with fail
              refine (show bodyPost Tryd.prog Tryd.f40 _ Exit.ret _ _ from ?_)
              go_ret
              exact ⟨rfl, ⟨xs, rfl, HR4.out, HDM.out⟩, HB4.out⟩)
          · have HNX := Lib.hid (by have h := HRUN.out; rw [runF_lt HO.out (stp_ms HO.out hmem hbf hxi hle)] at h; exact h)
            have HDM2 : Hid (Dim nb (if o.k = 15 then xs.set i (g, ys.set (plQ o rg) (rg o.b.toNat)) else xs)) := Lib.hid (by
              split
              · exact HDM.out.set hxi
              · exact HDM.out)
            have HT2 := Lib.hid (HT.out.mono (fun e w' h => (show _ ∧ _ from ⟨tch_t h.1 hle, h.2⟩)))
            generalize (if o.k = 15 then xs.set i (g, ys.set (plQ o rg) (rg o.b.toNat)) else xs) = xs2 at *
            generalize (if o.k = 15 then rg else Lb.put rg o.d (Nt.at_ ys (plQ o rg))) = rg2 at *
            clear hle hmem HT
            generalize o.k = ok at *
            have hq := hk1415.out
            clear hk1415
            rcases hq with hq | ⟨hq, hq2⟩
            all_goals (
              go_wp2_with fail
              go_at_call 67
              refine HT2.out.mono ?_
              rintro e w4 ⟨⟨rfl, hR4⟩, hb4⟩
              have HR4 := Lib.hid hR4
              have HB4 := Lib.hid (HBL.out.trans hb4)
              clear hR4 hb4 HT2
              go_wp2_with fail
              go_roundg m
              case measure => rw [HGK.out]; exact Nat.lt_succ_self _
              case rel => exact ⟨k + 1, by go_num, by have := HM.out; omega, Lib.hid ⟨⟨xs2, _, _, HNX.out, HR4.out, HDM2.out⟩, HB4.out⟩⟩)
        have n14 : (o.k == 14) = false := by rw [beq_eq_false_iff_ne]; omega
        have n15 : (o.k == 15) = false := by rw [beq_eq_false_iff_ne]; omega
        have hk13 : 1 ≤ o.k ∧ o.k ≤ 13 := by have := HSK.out.k1; omega
        have HRE := Lib.hid (reckon_l B R (.slice (some ⟨bx, ox, none⟩) ops.length d) ev xs rg seen bx (ox + k * 8) o HSK.out.rg hk13 (HSK.out.d (by omega) (by omega)) HSK.out.im HSK.out.sh hbx wr HRN.out HOC.out HSZ.out)
        have HNX := Lib.hid (by have h := HRUN.out; rw [runF_lt HO.out (stp_pl HO.out hk13)] at h; exact h)
        generalize Lb.put (Lb.put rg o.d (resD o.k o.im (hld rg o.a) (hld rg o.b) (hld rg o.c))) o.e (resE o.k (hld rg o.a) (hld rg o.b) (hld rg o.c)) = rg2 at *
        have HSEE := Lib.hid (fun (W : World) (hw : RnW W B R (.slice (some ⟨bx, ox, none⟩) ops.length d) ev xs rg2 seen) (hb : B ≤ W.heap.size) => see_l B R _ ev xs rg2 seen (k : Int) (-1) W hw hb HSL.out)
        clear hk13 hmem h17 h16
        generalize o.k = ok at *
        go_wp2_with fail
        go_at_call 68
        refine HRE.out.mono ?_
        rintro e w4 ⟨rfl, hR4, hb4⟩
        have HR4 := Lib.hid hR4
        have HB4 := Lib.hid (HBL.out.trans hb4)
        clear hR4 hb4 HRE
        go_wp2_with fail
        go_at_call 69
        refine (HSEE.out _ HR4.out (Nat.le_trans HBD.out.2.1 HB4.out.size)).mono ?_
        rintro e w5 ⟨rfl, hR5, hb5⟩
        have HR5 := Lib.hid hR5
        have HB5 := Lib.hid (HB4.out.trans hb5)
        clear hR5 hb5 HSEE
        go_wp2_with fail
        go_roundg m
        case measure => rw [HGK.out]; exact Nat.lt_succ_self _
        case rel => exact ⟨k + 1, by go_num, by have := HM.out; omega, Lib.hid ⟨⟨xs, _, _, HNX.out, HR5.out, HDM.out⟩, HB5.out⟩⟩
      · have hk4 : ¬ ((k : Int) < (ops.length : Int)) := by omega
        have HNX := Lib.hid (by have h := HRUN.out; rw [runF_ge hk] at h; exact h)
        have hfs : true = f ∧ (⟨k, rg, xs.map (·.2), seen⟩ : St) = s' := by have h := HNX.out; injection h with h; exact ⟨congrArg Prod.fst h, congrArg Prod.snd h⟩
        obtain ⟨rfl, rfl⟩ := hfs
        clear HNX
        go_wp2_with fail
        refine (show bodyPost Tryd.prog Tryd.f40 _ Exit.ret _ _ from ?_)
        go_ret
        exact ⟨rfl, ⟨xs, rfl, HRN.out, HDM.out⟩, HBL.out⟩
end Lb
end Go.Proofs.YtbdhibgljaelbaaDoor
