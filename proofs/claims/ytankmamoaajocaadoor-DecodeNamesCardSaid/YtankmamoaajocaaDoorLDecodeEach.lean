/- DecodeEach's walk. -/
import Derived.Test.YtankmamoaajocaaDoorU3
import Derived.Test.YtankmamoaajocaaDoorV1
import Derived.Test.YtankmamoaajocaaDoorA1
import Derived.Shelf.RegionOpen
import Derived.Deep.RegionHeld3
import Derived.OrdersIn
namespace Go.Proofs.YtankmamoaajocaaDoor
open Go Go.RowKit Go.Shelf
namespace decodeEach
open Is Nt
set_option linter.unusedVariables false
attribute [local go_sem] Oper.semAt_some
theorem bel3 {a b c : World} (h : Below a.heap.size a b) (k : Below b.heap.size b c) : Below a.heap.size a c := h.trans (k.mono h.size)
theorem below_al {a b : World} (h : Below a.heap.size a b) (o : Obj) : Below a.heap.size a (b.alloc o) := h.alloc h.size o
theorem far1 {w : World} {B n g : Nat} {A : Option Addr} {is : List Ins} {t : TypeId} {v : Value} (h : RdX w B A n is) (hk : Bk w g t #[v]) (u : Value) : RdX (w.setCell ⟨g, 0, none⟩ u) B A n is :=
  ⟨h.len, h.oks, fun h0 => by
    obtain ⟨ad, e, hB, hc⟩ := h.rd h0
    refine ⟨ad, e, hB, fun j x hj => ?_⟩
    obtain ⟨h1, h2, h3, h4, h5, h6, h7, h8, h9⟩ := hc j x hj
    have hne : (ad.add (j * 9)).block ≠ g := by
      intro e'
      rw [e', hk.cell, Array.getElem?_eq_none (by simp)] at h2
      cases h2
    have hs : ∀ p : Addr, p.block = (ad.add (j * 9)).block → (w.setCell ⟨g, 0, none⟩ u).cell? p = w.cell? p := fun p hp => World.cell?_of_block (Below.heap_setCell w ⟨g, 0, none⟩ u _ (by rw [hp]; exact hne))
    exact ⟨by rw [hs _ rfl]; exact h1, by rw [hs ⟨(ad.add (j * 9)).block, (ad.add (j * 9)).off + 1, none⟩ rfl]; exact h2, by rw [hs ⟨(ad.add (j * 9)).block, (ad.add (j * 9)).off + 2, none⟩ rfl]; exact h3, by rw [hs ⟨(ad.add (j * 9)).block, (ad.add (j * 9)).off + 3, none⟩ rfl]; exact h4, by rw [hs ⟨(ad.add (j * 9)).block, (ad.add (j * 9)).off + 4, none⟩ rfl]; exact h5, by rw [hs ⟨(ad.add (j * 9)).block, (ad.add (j * 9)).off + 5, none⟩ rfl]; exact h6, by rw [hs ⟨(ad.add (j * 9)).block, (ad.add (j * 9)).off + 6, none⟩ rfl]; exact h7, by rw [hs ⟨(ad.add (j * 9)).block, (ad.add (j * 9)).off + 7, none⟩ rfl]; exact h8, by rw [hs ⟨(ad.add (j * 9)).block, (ad.add (j * 9)).off + 8, none⟩ rfl]; exact h9⟩⟩
theorem keepc {w w' : World} {p : Addr} {v : Value} (hb : Below w.heap.size w w') (h : w.cell? p = some v) : w'.cell? p = some v := (hb.cell (World.block_lt_of_cell? w p h)).trans h
def noDefer (ops : Array Oper) : Bool := ops.toList.all (fun o => match o.op with | .defer _ => false | _ => true)
theorem noDefer_spec {ops : Array Oper} (h : noDefer ops = true) : ∀ (i : Nat) (o : Oper), ops[i]? = some o → ∀ c, o.op ≠ .defer c := by
  intro i o hi c hc
  have hm : o ∈ ops.toList := Array.mem_toList_iff.2 (Array.mem_of_getElem? hi)
  have := List.all_eq_true.1 h o hm
  rw [hc] at this
  cases this
def Only (Q : Exit → Act → World → Prop) : Exit → Act → World → Prop
  | .normal, a, w => Q .normal a w
  | _, _, _ => False
theorem op_r {P : Program} {n l : Nat} {ops : Array Oper} (hd : ∀ (i : Nat) (o : Oper), ops[i]? = some o → ∀ c, o.op ≠ .defer c) {Q : Exit → Act → World → Prop} {i : Nat} {K K' : Act → World → Prop} (hK : ∀ a w, K a w → K' a w) {a : Act} {w : World}
    (h : wpOp P ops (Only Q) i K a w) : wpOpIn (Fence.wide.inRound l) n P ops (Only Q) i K' a w := by
  unfold wpOp at h
  unfold wpOpIn
  cases ho : ops[i]? with
  | none => rw [ho] at h; exact hK _ _ h
  | some o =>
    rw [ho] at h
    dsimp only at h ⊢
    split
    · rename_i hw
      rw [if_pos hw] at h
      rcases h with h | ⟨_, a', w', hl⟩
      · refine ⟨fun _ _ => trivial, ?_⟩
        have hs : o.semAt (Fence.wide.inRound l).round a.eval = execOp a.eval o := Oper.semAt_some l _ _ (hd i o ho)
        rw [hs]
        unfold Oper.wp at h
        generalize (execOp a.eval o).run P w = r at *
        cases r with
        | ok nx w' =>
          cases nx with
          | value v => exact hK _ _ h
          | skip => exact hK _ _ h
          | defer d => exact hK _ _ h
          | enter f args =>
            refine ⟨fun hh => (by cases hh), CallsIn.inRound l (callsIn_wide.2 (Calls.mono h fun e w'' he => ?_))⟩
            cases e with
            | returned u => exact hK _ _ he
            | panicked c => exact he
            | outgrown => exact he
          | row row args =>
            refine ⟨fun hh => (by cases hh), fun c cs _ => ?_⟩
            obtain ⟨v, w', hR, hs⟩ := h c cs
            exact ⟨v, w', hK _ _ hR, stepsIn_wide.2 hs⟩
          | _ => exact h.elim
        | halt x w' =>
          cases x <;> exact h
      · exact hl.elim
    · rename_i hw
      rw [if_neg hw] at h
      exact ⟨fun _ _ => trivial, hK _ _ h⟩
theorem any_r {P : Program} {n l : Nat} {md : Region.Mode} {ops : Array Oper} (hd : ∀ (i : Nat) (o : Oper), ops[i]? = some o → ∀ c, o.op ≠ .defer c) {Q : Exit → Act → World → Prop} :
    ∀ (fuel : Nat) (listed : Array Bool) (a : Act) (w : World), wpAny P md ops (Only Q) fuel listed a w → wpAnyIn (Fence.wide.inRound l) n P md ops (Only Q) fuel listed a w
  | 0, _, _, _, h => h
  | fuel + 1, _, _, _, h => ⟨h.1, fun i hi => op_r hd (fun a' w' h' => any_r hd fuel _ a' w' h') (h.2 i hi)⟩
/-- a drawn region in a round, by the laws for one outside -/
theorem region_r {P : Program} {n l id : Nat} {ops : Array Oper} {Q : Exit → Act → World → Prop} {a : Act} {w : World} (S : World → Prop) (hm : P.follows .mixedOrders = true) (hd : noDefer ops = true)
    (hS : S w.drew) (h : S w.drew → wpAnyH P .any ops (Only Q) S ops.size (Array.replicate ops.size false) a w.drew) : (Code.region id ops true).wpIn (Fence.wide.inRound l) n P Q a w :=
  wpIn_mono (wpIn_region_any hm (any_r (noDefer_spec hd) _ _ _ _ (wpAny_of_held _ _ _ _ (h hS)))) (fun e _ _ hq => by
    cases e with
    | normal => exact hq
    | ret => exact hq.elim
    | exit i => exact hq.elim
    | goto i => exact hq.elim
    | panic c => exact hq.elim
    | outgrown => exact hq.elim)
set_option maxRecDepth 100000 in
set_option maxHeartbeats 4000000 in
theorem walk_ (dc : DecC TabE) (w : World) (HG : Hid (TabE w)) (code : ByteArray) (early : Int) (hws : code.size ≤ maxLen) (he : (Lit.int .i64 early).wf = true) :
    Calls Tryd.prog 6 #[.string code, .int .i64 early] w fun e w' => e = .returned (.bool true) ∧ Below w.heap.size w w' := by
  have HL := Lib.hid (fun W hg => dlives_c dc W (Lib.hid hg))
  have hmax : (code.size : Int) ≤ 9223372036854775807 := by have : code.size ≤ maxLen := hws; simp only [maxLen] at this; omega
  refine (callsIn_wide (n := 5)).1 ?_
  refine callsIn_of_wp_marks Tryd.func6 rfl trivial ?_ rfl
  simp only [Tryd.ntmps6, List.size_toArray, List.length_cons, List.length_nil, Nat.reduceAdd, Nat.reduceSub, Array.replicate_succ, Array.replicate_zero, List.push_toArray, List.append_toArray, List.nil_append, List.cons_append]
  have HB0 := Lib.hid ((((Below.refl w.heap.size w).alloc (Nat.le_refl _) (.cells #[.string code] 9)).alloc (by simp) (.cells #[.int .i64 early] 3)).alloc (by simp; omega) (.cells #[.bool false] 4))
  have HS0 : Hid (Bk (((w.alloc (.cells #[.string code] 9)).alloc (.cells #[.int .i64 early] 3)).alloc (.cells #[.bool false] 4)) w.heap.size 9 #[.string code]) := Lib.hid (((Bk.new _ _ _).alloc _).alloc _)
  have HE0 : Hid (Bk (((w.alloc (.cells #[.string code] 9)).alloc (.cells #[.int .i64 early] 3)).alloc (.cells #[.bool false] 4)) (w.heap.size + 1) 3 #[.int .i64 early]) := Lib.hid (Bk.alloc (Bk.new' (by simp)) _)
  have HR0 : Hid (Bk (((w.alloc (.cells #[.string code] 9)).alloc (.cells #[.int .i64 early] 3)).alloc (.cells #[.bool false] 4)) (w.heap.size + 2) 4 #[.bool false]) := Lib.hid (Bk.new' (by simp))
  rcases Nat.lt_or_ge 120 code.size with hbig | hsm
  · have hb1 : (120 : Int) < (code.size : Int) := by omega
    clear hws
    gi_wp2_with (refine ⟨trivial, ?_⟩; gi_at_call 7; refine (callsIn_wide.2 (HL.out _ (HG.out.keep HB0.out))).mono ?_; rintro e w1 ⟨rfl, hb⟩; have HB1 := Lib.hid (bel3 HB0.out hb); have HS1 := Lib.hid (HS0.out.below hb HS0.out.lt); have HR1 := Lib.hid (HR0.out.below hb HR0.out.lt); have s1 : w1.cell? ⟨w.heap.size, 0, none⟩ = some (.string code) := HS1.out.cell 0; have r1 : w1.cell? ⟨w.heap.size + 2, 0, none⟩ = some (.bool false) := HR1.out.cell 0; have rf : w1.frozen? ⟨w.heap.size + 2, 0, none⟩ = false := HR1.out.frozen 0; clear hb)
    exact ⟨_, run_bool_cell rfl _ _ _ true rfl (by exact World.cell?_setCell_same' _ _ _ (by rw [r1]; rfl)), rfl, HB1.out.setCell (p := ⟨w.heap.size + 1 + 1, 0, none⟩) (by show w.heap.size ≤ w.heap.size + 1 + 1; omega) _⟩
  · have hs4 : (code.size : Int) ≤ 120 := by omega
    have HA := Lib.hid (fun W hg => dc.all code W hg (by omega))
    obtain ⟨f1, f2, f3, f4, f5, f6⟩ := all_facts code
    have hpl := Kit.pick_lt (n := early) (m := ((allD code).1.length : Int) + 1) (by omega)
    have HP := Lib.hid (fun W => Kit.pick_c early (((allD code).1.length : Int) + 1) W he (by simp [Lit.wf, IntKind.min, IntKind.max, IntKind.signed, IntKind.bits]; omega))
    have HOKS := Lib.hid (allD_ok code)
    have HSM : Hid (code.size ≤ 120) := Lib.hid hsm
    have HEV := Lib.hid (fun j hj => ev_at code j hj)
    have HNL : Hid ((allD code).1.length ≤ code.size) := Lib.hid f5
    have hnl4 : ((allD code).1.length : Int) ≤ 120 := by omega
    have hnl0 : (0 : Int) ≤ ((allD code).1.length : Int) := by omega
    unfold TellA at HA
    clear f1 f2 f3 f4 f5 f6 he hws hsm
    generalize (if (allD code).2 = code.size then (0 : Int) else 4) = er at HA
    generalize Kit.pick early (((allD code).1.length : Int) + 1) = E at *
    gi_wp2_with (refine ⟨trivial, ?_⟩; gi_at_call 7; refine (callsIn_wide.2 (HL.out _ (HG.out.keep HB0.out))).mono ?_; rintro e w1 ⟨rfl, hb⟩; have HB1 := Lib.hid (bel3 HB0.out hb); have HS1 := Lib.hid (HS0.out.below hb HS0.out.lt); have HE1 := Lib.hid (HE0.out.below hb HE0.out.lt); have HR1 := Lib.hid (HR0.out.below hb HR0.out.lt); have s1 : w1.cell? ⟨w.heap.size, 0, none⟩ = some (.string code) := HS1.out.cell 0; clear hb)
    refine ⟨trivial, ?_⟩
    gi_at_call 9
    refine (callsIn_wide.2 (HA.out w1 (HG.out.keep HB1.out))).mono ?_
    rintro e w2 ⟨A, c, rfl, hr, hc, hb⟩
    have HB2 : Hid (Below w.heap.size w (w2.alloc (.cells #[.slice A (allD code).1.length c] 30))) := Lib.hid (below_al (bel3 HB1.out hb) _)
    have HS2 : Hid (Bk (w2.alloc (.cells #[.slice A (allD code).1.length c] 30)) w.heap.size 9 #[.string code]) := Lib.hid ((HS1.out.below hb HS1.out.lt).alloc _)
    have HE2 : Hid (Bk (w2.alloc (.cells #[.slice A (allD code).1.length c] 30)) (w.heap.size + 1) 3 #[.int .i64 early]) := Lib.hid ((HE1.out.below hb HE1.out.lt).alloc _)
    have HR2 : Hid (Bk (w2.alloc (.cells #[.slice A (allD code).1.length c] 30)) (w.heap.size + 2) 4 #[.bool false]) := Lib.hid ((HR1.out.below hb HR1.out.lt).alloc _)
    have HT2 : Hid (TabE (w2.alloc (.cells #[.slice A (allD code).1.length c] 30))) := Lib.hid (HG.out.keep HB2.out)
    have HX2 : Hid (RdX (w2.alloc (.cells #[.slice A (allD code).1.length c] 30)) w2.heap.size A (allD code).1.length (allD code).1) := Lib.hid (hr.below ((Below.refl _ w2).alloc (Nat.le_refl _) _))
    have HL2 : Hid (Bk (w2.alloc (.cells #[.slice A (allD code).1.length c] 30)) w2.heap.size 30 #[.slice A (allD code).1.length c]) := Lib.hid (Bk.new _ _ _)
    have hz2 : w.heap.size + 2 < w2.heap.size := (HR1.out.below hb HR1.out.lt).lt
    have s2 : (w2.alloc (.cells #[.slice A (allD code).1.length c] 30)).cell? ⟨w.heap.size, 0, none⟩ = some (.string code) := HS2.out.cell 0
    have s1' : w2.cell? ⟨w.heap.size, 0, none⟩ = some (.string code) := (HS1.out.below hb HS1.out.lt).cell 0
    have HC := Lib.hid hc
    clear hr hc hb s1 HS1 HE1 HR1 HS0 HE0 HR0 HB0 HB1
    gi_wp2
    refine ⟨trivial, ?_⟩
    gi_at_call 10
    refine (each_in _ code _).mono ?_
    rintro e w3 ⟨rfl, hw3⟩
    have HB3 : Hid (Below w.heap.size w w3) := Lib.hid (by rw [hw3]; exact below_al HB2.out _)
    have HS3 : Hid (Bk w3 w.heap.size 9 #[.string code]) := Lib.hid (by rw [hw3]; exact HS2.out.alloc _)
    have HE3 : Hid (Bk w3 (w.heap.size + 1) 3 #[.int .i64 early]) := Lib.hid (by rw [hw3]; exact HE2.out.alloc _)
    have HR3 : Hid (Bk w3 (w.heap.size + 2) 4 #[.bool false]) := Lib.hid (by rw [hw3]; exact HR2.out.alloc _)
    have HT3 : Hid (TabE w3) := Lib.hid (HG.out.keep HB3.out)
    have HX3 : Hid (RdX w3 w2.heap.size A (allD code).1.length (allD code).1) := Lib.hid (by rw [hw3]; exact HX2.out.below ((Below.refl _ _).alloc (by simp) _))
    have HL3 : Hid (Bk w3 w2.heap.size 30 #[.slice A (allD code).1.length c]) := Lib.hid (by rw [hw3]; exact HL2.out.alloc _)
    have hsz3 : w3.heap.size = w2.heap.size + 2 := by rw [hw3]; simp
    have HK3 : Hid (Bk w3 (w2.heap.size + 1) 9 #[.string code]) := Lib.hid (by rw [hw3]; exact Bk.new' (by simp))
    have hsC : (w2.alloc (.cells #[.slice A (allD code).1.length c] 30)).heap.size = w2.heap.size + 1 := by simp
    rw [hsC]
    clear hw3 HB2 HS2 HE2 HR2 HT2 HX2 HL2 s2 s1' hsC
    generalize w2.heap.size = L at *
    have s3 : w3.cell? ⟨w.heap.size + 1, 0, none⟩ = some (.int .i64 early) := HE3.out.cell 0
    have f3 : w3.frozen? ⟨w.heap.size + 1, 0, none⟩ = false := HE3.out.frozen 0
    have l3 : w3.cell? ⟨L, 0, none⟩ = some (.slice A (allD code).1.length c) := HL3.out.cell 0
    have hnf : ∀ W : World, (binOp .eql 34 (.func (.func 23) #[] #[.pointer (some ⟨L + 1, 0, none⟩)]) .nilFunc).run Tryd.prog W = .ok (.bool false) W := fun W => by kernel_rfl
    gi_wp2_with (refine ⟨trivial, ?_⟩; gi_at_call 16; refine (callsIn_wide.2 (HP.out _)).mono ?_; rintro e w' ⟨rfl, rfl⟩)
    obtain ⟨W0, hW0⟩ : ∃ W0, ((w3.setCell ⟨w.heap.size + 1, 0, none⟩ (.int .i64 E)).alloc (.cells #[.int .i64 0] 3)).alloc (.cells #[.int .i64 0] 3) = W0 := ⟨_, rfl⟩
    have hwl : w.heap.size + 2 < L := hz2
    have hs0 : W0.heap.size = L + 4 := by rw [← hW0]; simp [hsz3]
    have HB4 : Hid (Below w.heap.size w W0) := Lib.hid (by rw [← hW0]; exact below_al (below_al (HB3.out.setCell (p := ⟨w.heap.size + 1, 0, none⟩) (by show w.heap.size ≤ w.heap.size + 1; omega) _) _) _)
    have HS4 : Hid (Bk W0 w.heap.size 9 #[.string code]) := Lib.hid (by rw [← hW0]; exact ((HS3.out.far (by show w.heap.size ≠ w.heap.size + 1; omega) _).alloc _).alloc _)
    have HE4 : Hid (Bk W0 (w.heap.size + 1) 3 #[.int .i64 E]) := Lib.hid (by rw [← hW0]; exact ((HE3.out.set_ 0 _).alloc _).alloc _)
    have HR4 : Hid (Bk W0 (w.heap.size + 2) 4 #[.bool false]) := Lib.hid (by rw [← hW0]; exact ((HR3.out.far (by show w.heap.size + 2 ≠ w.heap.size + 1; omega) _).alloc _).alloc _)
    have HL4 : Hid (Bk W0 L 30 #[.slice A (allD code).1.length c]) := Lib.hid (by rw [← hW0]; exact ((HL3.out.far (by show L ≠ w.heap.size + 1; omega) _).alloc _).alloc _)
    have HK4 : Hid (Bk W0 (L + 1) 9 #[.string code]) := Lib.hid (by rw [← hW0]; exact ((HK3.out.far (by show L + 1 ≠ w.heap.size + 1; omega) _).alloc _).alloc _)
    have HN4 : Hid (Bk W0 (L + 2) 3 #[.int .i64 0]) := Lib.hid (by rw [← hW0]; exact (Bk.new' (by simp [hsz3])).alloc _)
    have HA4 : Hid (Bk W0 (L + 3) 3 #[.int .i64 0]) := Lib.hid (by rw [← hW0]; exact Bk.new' (by simp [hsz3]))
    have HT4 : Hid (TabE W0) := Lib.hid (HG.out.keep HB4.out)
    have HG3 : Hid (G3 (L + 2)) := Lib.hid ⟨by have := HG.out.inst.lt; omega, by have := HG.out.lt; omega, by have := HG.out.tlt; omega⟩
    have HX4 : Hid (RdX W0 L A (allD code).1.length (allD code).1) := Lib.hid (by rw [← hW0]; exact ((far1 HX3.out HE3.out _).below ((Below.refl _ _).alloc (by simp [hsz3]) _)).below ((Below.refl _ _).alloc (by simp [hsz3]; omega) _))
    rw [hW0]
    clear hW0 HB3 HS3 HE3 HR3 HT3 HX3 HL3 HK3 s3 f3 l3 hsz3 hnf HP
    refine wpIn_rangeFunc_ownH rfl (by omega) (gf := 23) (lb := #[.pointer (some ⟨L + 1, 0, none⟩)]) rfl trivial (enters_of Tryd.func23 (by kernel_rfl) rfl)
      (each_stops _ (by omega) (L + 1) (L + 2) code (by omega) W0 HT4.out HG3.out HK4.out (by omega) (by omega)) belowK_t (belowK_b (by omega)) (Below.refl _ _) (fun _ => rfl)
      (fun pre W => pre = List.range pre.length ∧ pre.length ≤ (allD code).1.length ∧ (pre.length : Int) ≤ E ∧ Bk W (L + 2) 3 #[.int .i64 (pre.length : Int)] ∧ Bk W (L + 3) 3 #[.int .i64 ((catU ((allD code).1.take pre.length)).length : Int)] ∧ Below (L + 2) W0 W)
      (fun cc pre W => (cc = .exit 0 ∧ Bk W (L + 2) 3 #[.int .i64 E] ∧ Below (L + 2) W0 W) ∨ (cc = .ret ∧ ¬ ∃ k, pre = List.range k)) ?own ?ownx ?start
      (fun x a' W => ∃ Bx, L + 4 ≤ Bx ∧ Bk W Bx 26 (insN code x).vs ∧ a' = { tmps := #[.string code, .int .i64 early, .pointer (some ⟨w.heap.size, 0, none⟩), .pointer (some ⟨w.heap.size + 1, 0, none⟩), .pointer (some ⟨w.heap.size + 1 + 1, 0, none⟩), .pointer (some ⟨L, 0, none⟩), .int .i64 ((allD code).2 : Int), .int .i64 er, .func (.func 23) #[] #[.pointer (some ⟨L + 1, 0, none⟩)], .pointer (some ⟨L + 2, 0, none⟩), .pointer (some ⟨L + 2 + 1, 0, none⟩), .int .i64 (posN code x), .pointer (some ⟨Bx, 0, none⟩), undef, undef, undef, .bool true, .bool false, .string code, .int .i64 (code.size : Int), .bool (decide ((120 : Int) < (code.size : Int))), .tuple #[.slice A (allD code).1.length c, .int .i64 ((allD code).2 : Int), .int .i64 er], .string code, .tuple #[.slice A (allD code).1.length c, .int .i64 ((allD code).2 : Int), .int .i64 er], .slice A (allD code).1.length c, .int .i64 ((allD code).2 : Int), .int .i64 er, .string code, .func (.func 23) #[] #[.pointer (some ⟨L + 1, 0, none⟩)], .func (.func 23) #[] #[.pointer (some ⟨L + 1, 0, none⟩)], .bool false, .int .i64 early, .slice A (allD code).1.length c, .int .i64 ((allD code).1.length : Int), .int .i64 (((allD code).1.length : Int) + 1), .int .i64 E, .func (.func 23) #[] #[.pointer (some ⟨L + 1, 0, none⟩)], .int .i64 (posN code x), .agg (insN code x).vs, undef, undef, undef, undef, undef, undef, undef, undef, undef, undef, undef, undef, undef, undef, undef, undef, undef, undef, undef, undef, undef, undef, undef, undef, undef, undef, undef, undef, undef, undef, undef, undef, undef, undef, undef, undef, undef, undef, undef, undef, undef, undef, undef, undef], defers := [] }) ?ownax ?assign ?body ?done ?stop
    case own =>
      rintro s X Y row ⟨h1, h2, h3, h4, h5, h6⟩ hg hr
      have hr' : ∀ r, row = some r → ∃ o : Obj, X.heap[r]? = some o ∧ o.isCells = false := fun r e => (hr r e).2
      exact ⟨h1, h2, h3, h4.grown hg hr', h5.grown hg hr', h6.grown hg (by have := h6.size; omega) (fun r e => by have := (hr r e).1; omega)⟩
    case ownx =>
      rintro cc s X Y row h hg hr
      have hr' : ∀ r, row = some r → ∃ o : Obj, X.heap[r]? = some o ∧ o.isCells = false := fun r e => (hr r e).2
      rcases h with ⟨h1, h4, h6⟩ | h
      · exact .inl ⟨h1, h4.grown hg hr', h6.grown hg (by have := h6.size; omega) (fun r e => by have := (hr r e).1; omega)⟩
      · exact .inr h
    case start =>
      refine ⟨rfl, Nat.zero_le _, by show (0 : Int) ≤ E; omega, HN4.out, ?_, Below.refl _ _⟩
      rw [List.length_nil, List.take_zero]
      exact HA4.out
    case ownax =>
      rintro x a' s X Y row ⟨Bx, h1, h2, h3⟩ hg hr
      exact ⟨Bx, h1, h2.grown hg (fun r e => (hr r e).2), h3⟩
    case assign =>
      rintro l pre x W K hI hK
      have hsz := hI.2.2.2.2.2.size
      unfold encE
      generalize hii : insN code x = ii
      obtain ⟨i0, i1, i2, i3, i4, i5, i6, i7, i8⟩ := ii
      unfold Ins.vs
      dsimp only
      gi_wp2
      refine hK _ _ ((KeepsOthers.alloc _ _).from _) ((Below.refl _ W).alloc (by omega) _) ?_ ⟨W.heap.size, by omega, ?_, ?_⟩
      · obtain ⟨h1, h2, h3, h4, h5, h6⟩ := hI
        exact ⟨h1, h2, h3, h4.alloc _, h5.alloc _, h6.alloc (by omega) _⟩
      · rw [hii]; exact Bk.new _ _ _
      · rw [hii]; rfl
    case body =>
      rintro l pre x a' W hl _ ⟨hp, hpN, hpE, hn9, hat, hB⟩ ⟨Bx, hBx, hbx, rfl⟩ hlen
      have hsz := hB.size
      have HT5 : Hid (TabE W) := Lib.hid (HT4.out.keepB HG3.out hB)
      have HE5 : Hid (Bk W (w.heap.size + 1) 3 #[.int .i64 E]) := Lib.hid (HE4.out.below hB (by omega))
      have HS5 : Hid (Bk W w.heap.size 9 #[.string code]) := Lib.hid (HS4.out.below hB (by omega))
      have e5 : W.cell? ⟨w.heap.size + 1, 0, none⟩ = some (.int .i64 E) := HE5.out.cell 0
      have s5 : W.cell? ⟨w.heap.size, 0, none⟩ = some (.string code) := HS5.out.cell 0
      by_cases hE : (pre.length : Int) = E
      · have c9 : W.cell? ⟨L + 2, 0, none⟩ = some (.int .i64 E) := by rw [← hE]; exact hn9.cell 0
        gi_wp2
        exact ⟨KeepsFrom.refl _ _, .inl ⟨rfl, by rw [← hE]; exact hn9, hB⟩⟩
      · have c9 : W.cell? ⟨L + 2, 0, none⟩ = some (.int .i64 (pre.length : Int)) := hn9.cell 0
        have HHB := Lib.hid hB
        have HN9 := Lib.hid hn9
        have HAT := Lib.hid hat
        have HBX := Lib.hid hbx
        have HP := Lib.hid hp
        by_cases hx : x = pre.length
        · obtain ⟨k, hp1, hk, hks, hd, hwf, hok, l1, l11, hnx, hi⟩ := ev_at code pre.length hlen
          have HIK := Lib.hid (fun W hg => dc.inst code (k : Int) W hg (i64s (by omega) (by omega)) (by omega))
          rw [rD_some hks hd] at HIK
          have HRS := Lib.hid (fun W => rsize_c (insN code pre.length) W)
          rw [encS_len hok] at HRS
          rw [← hk] at HAT
          obtain ⟨ad, hA, hadL, hcells⟩ := HX4.out.rd (by omega)
          have hin : Hid (∀ W', Below (L + 2) W0 W' → InAt W' (ad.add (pre.length * 9)) (insN code pre.length)) := Lib.hid (fun W' hb => by
            obtain ⟨ad', e', h1', h2'⟩ := (RdX.below HX4.out (hb.mono (by omega))).rd (by omega)
            rw [hA] at e'
            cases e'
            exact h2' _ _ hi)
          rw [hx, hp1]
          rw [hx] at hbx
          have HNX := Lib.hid hnx
          have hl0 : (0 : Int) ≤ ((encL (insN code pre.length)).length : Int) := by omega
          have hl11 : ((encL (insN code pre.length)).length : Int) ≤ 11 := by omega
          have hk4 : (k : Int) ≤ 120 := by omega
          have hk0 : (0 : Int) ≤ (k : Int) := by omega
          have hcat : W.cell? ⟨L + 2 + 1, 0, none⟩ = some (.int .i64 (k : Int)) := HAT.out.cell 0
          clear hp1 hk hks hd hwf hok l1 l11 hnx hi hat hn9 hcells HBX HX4
          subst hA
          unfold tD at HIK
          dsimp only at HIK
          generalize (encL (insN code pre.length)).length = ln at *
          generalize insN code pre.length = ii at *
          obtain ⟨i0, i1, i2, i3, i4, i5, i6, i7, i8⟩ := ii
          have HBX2 : Hid (Bk W Bx 26 #[.int .i64 i0, .int .i64 i1, .int .i64 i2, .int .i64 i3, .int .i64 i4, .int .i64 i5, .int .i64 i6, .int .i64 i7, .int .i64 i8]) := Lib.hid hbx
          unfold Ins.vs at HIK HRS
          unfold Ins.vs
          dsimp only at HIK HRS
          have HEQ := instEq i0 i1 i2 i3 i4 i5 i6 i7 i8 i0 i1 i2 i3 i4 i5 i6 i7 i8
          rw [eqI_self] at HEQ
          clear hbx hp hB
          gi_wp2_with (refine ⟨trivial, ?_⟩; gi_at_call 8; refine (CallsIn.inRound l (callsIn_wide.2 (HIK.out _ HT5.out))).mono ?_; rintro e w5 ⟨rfl, hb⟩)
          have HB5 : Hid (Below W.heap.size W (w5.alloc (.cells #[.int .i64 i0, .int .i64 i1, .int .i64 i2, .int .i64 i3, .int .i64 i4, .int .i64 i5, .int .i64 i6, .int .i64 i7, .int .i64 i8] 26))) := Lib.hid (below_al hb _)
          have HN6 : Hid (Bk (w5.alloc (.cells #[.int .i64 i0, .int .i64 i1, .int .i64 i2, .int .i64 i3, .int .i64 i4, .int .i64 i5, .int .i64 i6, .int .i64 i7, .int .i64 i8] 26)) (L + 2) 3 #[.int .i64 (pre.length : Int)]) := Lib.hid (HN9.out.below HB5.out (by omega))
          have HA6 : Hid (Bk (w5.alloc (.cells #[.int .i64 i0, .int .i64 i1, .int .i64 i2, .int .i64 i3, .int .i64 i4, .int .i64 i5, .int .i64 i6, .int .i64 i7, .int .i64 i8] 26)) (L + 3) 3 #[.int .i64 (k : Int)]) := Lib.hid (HAT.out.below HB5.out (by omega))
          have HX6 : Hid (Bk (w5.alloc (.cells #[.int .i64 i0, .int .i64 i1, .int .i64 i2, .int .i64 i3, .int .i64 i4, .int .i64 i5, .int .i64 i6, .int .i64 i7, .int .i64 i8] 26)) Bx 26 #[.int .i64 i0, .int .i64 i1, .int .i64 i2, .int .i64 i3, .int .i64 i4, .int .i64 i5, .int .i64 i6, .int .i64 i7, .int .i64 i8]) := Lib.hid (HBX2.out.below HB5.out HBX2.out.lt)
          have HI6 : Hid (Bk (w5.alloc (.cells #[.int .i64 i0, .int .i64 i1, .int .i64 i2, .int .i64 i3, .int .i64 i4, .int .i64 i5, .int .i64 i6, .int .i64 i7, .int .i64 i8] 26)) w5.heap.size 26 #[.int .i64 i0, .int .i64 i1, .int .i64 i2, .int .i64 i3, .int .i64 i4, .int .i64 i5, .int .i64 i6, .int .i64 i7, .int .i64 i8]) := Lib.hid (Bk.new _ _ _)
          have HL6 : Hid (Bk (w5.alloc (.cells #[.int .i64 i0, .int .i64 i1, .int .i64 i2, .int .i64 i3, .int .i64 i4, .int .i64 i5, .int .i64 i6, .int .i64 i7, .int .i64 i8] 26)) L 30 #[.slice (some ad) (allD code).1.length c]) := Lib.hid ((HL4.out.below HHB.out (by omega)).below HB5.out (by omega))
          have HIN6 := Lib.hid (hin.out _ (HHB.out.trans (HB5.out.mono (by omega))))
          have HZ6 : Hid (W.heap.size ≤ w5.heap.size ∧ L + 4 ≤ W.heap.size) := Lib.hid ⟨hb.size, by omega⟩
          clear hb c9 hcat e5 s5
          generalize w5.alloc (.cells #[.int .i64 i0, .int .i64 i1, .int .i64 i2, .int .i64 i3, .int .i64 i4, .int .i64 i5, .int .i64 i6, .int .i64 i7, .int .i64 i8] 26) = w6 at *
          generalize w5.heap.size = B6 at *
          have hcond : pre.length < (allD code).1.length := hlen
          have c9 : w6.cell? ⟨L + 2, 0, none⟩ = some (.int .i64 (pre.length : Int)) := HN6.out.cell 0
          have hcat : w6.cell? ⟨L + 2 + 1, 0, none⟩ = some (.int .i64 (k : Int)) := HA6.out.cell 0
          have l6 : w6.cell? ⟨L, 0, none⟩ = some (.slice (some ad) (allD code).1.length c) := HL6.out.cell 0
          obtain ⟨a0, a1, a2, a3, a4, a5, a6, a7, a8⟩ := HIN6.out
          dsimp only at a0 a1 a2 a3 a4 a5 a6 a7 a8
          have q0 : w6.cell? ⟨B6, 0, none⟩ = some (.int .i64 i0) := HI6.out.cell 0
          have q1 : w6.cell? ⟨B6, 1, none⟩ = some (.int .i64 i1) := HI6.out.cell 1
          have q2 : w6.cell? ⟨B6, 2, none⟩ = some (.int .i64 i2) := HI6.out.cell 2
          have q3 : w6.cell? ⟨B6, 3, none⟩ = some (.int .i64 i3) := HI6.out.cell 3
          have q4 : w6.cell? ⟨B6, 4, none⟩ = some (.int .i64 i4) := HI6.out.cell 4
          have q5 : w6.cell? ⟨B6, 5, none⟩ = some (.int .i64 i5) := HI6.out.cell 5
          have q6 : w6.cell? ⟨B6, 6, none⟩ = some (.int .i64 i6) := HI6.out.cell 6
          have q7 : w6.cell? ⟨B6, 7, none⟩ = some (.int .i64 i7) := HI6.out.cell 7
          have q8 : w6.cell? ⟨B6, 8, none⟩ = some (.int .i64 i8) := HI6.out.cell 8
          have b0 : w6.cell? ⟨Bx, 0, none⟩ = some (.int .i64 i0) := HX6.out.cell 0
          have b1 : w6.cell? ⟨Bx, 1, none⟩ = some (.int .i64 i1) := HX6.out.cell 1
          have b2 : w6.cell? ⟨Bx, 2, none⟩ = some (.int .i64 i2) := HX6.out.cell 2
          have b3 : w6.cell? ⟨Bx, 3, none⟩ = some (.int .i64 i3) := HX6.out.cell 3
          have b4 : w6.cell? ⟨Bx, 4, none⟩ = some (.int .i64 i4) := HX6.out.cell 4
          have b5 : w6.cell? ⟨Bx, 5, none⟩ = some (.int .i64 i5) := HX6.out.cell 5
          have b6 : w6.cell? ⟨Bx, 6, none⟩ = some (.int .i64 i6) := HX6.out.cell 6
          have b7 : w6.cell? ⟨Bx, 7, none⟩ = some (.int .i64 i7) := HX6.out.cell 7
          have b8 : w6.cell? ⟨Bx, 8, none⟩ = some (.int .i64 i8) := HX6.out.cell 8
          have hnp : ((pre.length : Int) + 1) ≤ 200 := by omega
          have hnp0 : (0 : Int) ≤ (pre.length : Int) := by omega
          have hpt : ((pre.length : Int)) < ((allD code).1.length : Int) := by omega
          refine region_r (fun w' => w'.cell? ⟨L + 2, 0, none⟩ = some (.int .i64 (pre.length : Int)) ∧ w'.cell? ⟨L + 2 + 1, 0, none⟩ = some (.int .i64 (k : Int)) ∧ w'.cell? ⟨L, 0, none⟩ = some (.slice (some ad) (allD code).1.length c) ∧ w'.cell? ⟨B6, 0, none⟩ = some (.int .i64 i0) ∧ w'.cell? ⟨B6, 1, none⟩ = some (.int .i64 i1) ∧ w'.cell? ⟨B6, 2, none⟩ = some (.int .i64 i2) ∧ w'.cell? ⟨B6, 3, none⟩ = some (.int .i64 i3) ∧ w'.cell? ⟨B6, 4, none⟩ = some (.int .i64 i4) ∧ w'.cell? ⟨B6, 5, none⟩ = some (.int .i64 i5) ∧ w'.cell? ⟨B6, 6, none⟩ = some (.int .i64 i6) ∧ w'.cell? ⟨B6, 7, none⟩ = some (.int .i64 i7) ∧ w'.cell? ⟨B6, 8, none⟩ = some (.int .i64 i8) ∧ w'.cell? ⟨Bx, 0, none⟩ = some (.int .i64 i0) ∧ w'.cell? ⟨Bx, 1, none⟩ = some (.int .i64 i1) ∧ w'.cell? ⟨Bx, 2, none⟩ = some (.int .i64 i2) ∧ w'.cell? ⟨Bx, 3, none⟩ = some (.int .i64 i3) ∧ w'.cell? ⟨Bx, 4, none⟩ = some (.int .i64 i4) ∧ w'.cell? ⟨Bx, 5, none⟩ = some (.int .i64 i5) ∧ w'.cell? ⟨Bx, 6, none⟩ = some (.int .i64 i6) ∧ w'.cell? ⟨Bx, 7, none⟩ = some (.int .i64 i7) ∧ w'.cell? ⟨Bx, 8, none⟩ = some (.int .i64 i8) ∧ w'.cell? (ad.add (pre.length * 9)) = some (.int .i64 i0) ∧ w'.cell? ⟨(ad.add (pre.length * 9)).block, (ad.add (pre.length * 9)).off + 1, none⟩ = some (.int .i64 i1) ∧ w'.cell? ⟨(ad.add (pre.length * 9)).block, (ad.add (pre.length * 9)).off + 2, none⟩ = some (.int .i64 i2) ∧ w'.cell? ⟨(ad.add (pre.length * 9)).block, (ad.add (pre.length * 9)).off + 3, none⟩ = some (.int .i64 i3) ∧ w'.cell? ⟨(ad.add (pre.length * 9)).block, (ad.add (pre.length * 9)).off + 4, none⟩ = some (.int .i64 i4) ∧ w'.cell? ⟨(ad.add (pre.length * 9)).block, (ad.add (pre.length * 9)).off + 5, none⟩ = some (.int .i64 i5) ∧ w'.cell? ⟨(ad.add (pre.length * 9)).block, (ad.add (pre.length * 9)).off + 6, none⟩ = some (.int .i64 i6) ∧ w'.cell? ⟨(ad.add (pre.length * 9)).block, (ad.add (pre.length * 9)).off + 7, none⟩ = some (.int .i64 i7) ∧ w'.cell? ⟨(ad.add (pre.length * 9)).block, (ad.add (pre.length * 9)).off + 8, none⟩ = some (.int .i64 i8)) (by kernel_rfl) (by kernel_rfl) ⟨c9, hcat, l6, q0, q1, q2, q3, q4, q5, q6, q7, q8, b0, b1, b2, b3, b4, b5, b6, b7, b8, a0, a1, a2, a3, a4, a5, a6, a7, a8⟩ (fun hHeld => ?_)
          refine wpAnyH_take (i := 0) (oi := { dst := some 49, op := Op.move (Operand.tmp 11), type := 3, pos := "law.go:176", after := #[], guard := none }) (v := (.int .i64 (k : Int))) rfl (by kernel_rfl) (by kernel_rfl) (by kernel_rfl) (fun _ _ _ h => h) (Or.inl ⟨by rfl, ?_⟩) (by assumption) ?_
          · intro w' hSw
            obtain ⟨zc9, zhcat, zl6, zq0, zq1, zq2, zq3, zq4, zq5, zq6, zq7, zq8, zb0, zb1, zb2, zb3, zb4, zb5, zb6, zb7, zb8, za0, za1, za2, za3, za4, za5, za6, za7, za8⟩ := hSw
            go_simp
          simp only [Act.put, List.setIfInBounds_toArray, List.set_cons_zero, List.set_cons_succ]
          refine wpAnyH_take (i := 1) (oi := { dst := some 50, op := Op.load 3 (Operand.tmp 10), type := 3, pos := "law.go:176", after := #[], guard := none }) (v := (.int .i64 (k : Int))) rfl (by kernel_rfl) (by kernel_rfl) (by kernel_rfl) (fun _ _ _ h => h) (Or.inl ⟨by rfl, ?_⟩) (by assumption) ?_
          · intro w' hSw
            obtain ⟨zc9, zhcat, zl6, zq0, zq1, zq2, zq3, zq4, zq5, zq6, zq7, zq8, zb0, zb1, zb2, zb3, zb4, zb5, zb6, zb7, zb8, za0, za1, za2, za3, za4, za5, za6, za7, za8⟩ := hSw
            go_simp
          simp only [Act.put, List.setIfInBounds_toArray, List.set_cons_zero, List.set_cons_succ]
          refine wpAnyH_take (i := 2) (oi := { dst := some 51, op := Op.binOp BinOp.neq 3 (Operand.tmp 49) (Operand.tmp 50) 3, type := 4, pos := "law.go:176", after := #[{ on := 0, ground := Ground.data }, { on := 1, ground := Ground.data }], guard := none }) (v := (.bool false)) rfl (by kernel_rfl) (by kernel_rfl) (by kernel_rfl) (fun _ _ _ h => h) (Or.inl ⟨by rfl, ?_⟩) (by assumption) ?_
          · intro w' hSw
            obtain ⟨zc9, zhcat, zl6, zq0, zq1, zq2, zq3, zq4, zq5, zq6, zq7, zq8, zb0, zb1, zb2, zb3, zb4, zb5, zb6, zb7, zb8, za0, za1, za2, za3, za4, za5, za6, za7, za8⟩ := hSw
            go_simp
          simp only [Act.put, List.setIfInBounds_toArray, List.set_cons_zero, List.set_cons_succ]
          refine wpAnyH_take (i := 3) (oi := { dst := some 52, op := Op.move (Operand.tmp 51), type := 4, pos := "law.go:176", after := #[{ on := 2, ground := Ground.data }], guard := none }) (v := (.bool false)) rfl (by kernel_rfl) (by kernel_rfl) (by kernel_rfl) (fun _ _ _ h => h) (Or.inl ⟨by rfl, ?_⟩) (by assumption) ?_
          · intro w' hSw
            obtain ⟨zc9, zhcat, zl6, zq0, zq1, zq2, zq3, zq4, zq5, zq6, zq7, zq8, zb0, zb1, zb2, zb3, zb4, zb5, zb6, zb7, zb8, za0, za1, za2, za3, za4, za5, za6, za7, za8⟩ := hSw
            go_simp
          simp only [Act.put, List.setIfInBounds_toArray, List.set_cons_zero, List.set_cons_succ]
          refine wpAnyH_take (i := 4) (oi := { dst := some 53, op := Op.move (Operand.tmp 15), type := 27, pos := "law.go:176", after := #[{ on := 3, ground := Ground.guard }], guard := some (3, false) }) (v := (.int .i64 0)) rfl (by kernel_rfl) (by kernel_rfl) (by kernel_rfl) (fun _ _ _ h => h) (Or.inl ⟨by rfl, ?_⟩) (by assumption) ?_
          · intro w' hSw
            obtain ⟨zc9, zhcat, zl6, zq0, zq1, zq2, zq3, zq4, zq5, zq6, zq7, zq8, zb0, zb1, zb2, zb3, zb4, zb5, zb6, zb7, zb8, za0, za1, za2, za3, za4, za5, za6, za7, za8⟩ := hSw
            go_simp
          simp only [Act.put, List.setIfInBounds_toArray, List.set_cons_zero, List.set_cons_succ]
          refine wpAnyH_take (i := 5) (oi := { dst := some 54, op := Op.binOp BinOp.neq 27 (Operand.tmp 53) (Operand.const (Value.int IntKind.i64 0)) 27, type := 4, pos := "law.go:176", after := #[{ on := 4, ground := Ground.data }, { on := 3, ground := Ground.guard }], guard := some (3, false) }) (v := (.bool false)) rfl (by kernel_rfl) (by kernel_rfl) (by kernel_rfl) (fun _ _ _ h => h) (Or.inl ⟨by rfl, ?_⟩) (by assumption) ?_
          · intro w' hSw
            obtain ⟨zc9, zhcat, zl6, zq0, zq1, zq2, zq3, zq4, zq5, zq6, zq7, zq8, zb0, zb1, zb2, zb3, zb4, zb5, zb6, zb7, zb8, za0, za1, za2, za3, za4, za5, za6, za7, za8⟩ := hSw
            go_simp
          simp only [Act.put, List.setIfInBounds_toArray, List.set_cons_zero, List.set_cons_succ]
          refine wpAnyH_take (i := 6) (oi := { dst := some 55, op := Op.pick (Operand.tmp 52) (Operand.const (Value.bool true)) (Operand.tmp 54), type := 4, pos := "law.go:176", after := #[{ on := 3, ground := Ground.data }, { on := 5, ground := Ground.data }], guard := none }) (v := (.bool false)) rfl (by kernel_rfl) (by kernel_rfl) (by kernel_rfl) (fun _ _ _ h => h) (Or.inl ⟨by rfl, ?_⟩) (by assumption) ?_
          · intro w' hSw
            obtain ⟨zc9, zhcat, zl6, zq0, zq1, zq2, zq3, zq4, zq5, zq6, zq7, zq8, zb0, zb1, zb2, zb3, zb4, zb5, zb6, zb7, zb8, za0, za1, za2, za3, za4, za5, za6, za7, za8⟩ := hSw
            go_simp
          simp only [Act.put, List.setIfInBounds_toArray, List.set_cons_zero, List.set_cons_succ]
          refine wpAnyH_take (i := 7) (oi := { dst := some 56, op := Op.move (Operand.tmp 55), type := 4, pos := "law.go:176", after := #[{ on := 6, ground := Ground.data }, { on := 3, ground := Ground.chain }], guard := none }) (v := (.bool false)) rfl (by kernel_rfl) (by kernel_rfl) (by kernel_rfl) (fun _ _ _ h => h) (Or.inl ⟨by rfl, ?_⟩) (by assumption) ?_
          · intro w' hSw
            obtain ⟨zc9, zhcat, zl6, zq0, zq1, zq2, zq3, zq4, zq5, zq6, zq7, zq8, zb0, zb1, zb2, zb3, zb4, zb5, zb6, zb7, zb8, za0, za1, za2, za3, za4, za5, za6, za7, za8⟩ := hSw
            go_simp
          simp only [Act.put, List.setIfInBounds_toArray, List.set_cons_zero, List.set_cons_succ]
          refine wpAnyH_take (i := 8) (oi := { dst := some 57, op := Op.load 26 (Operand.tmp 13), type := 26, pos := "law.go:176", after := #[{ on := 7, ground := Ground.guard }], guard := some (7, false) }) (v := (.agg #[.int .i64 i0, .int .i64 i1, .int .i64 i2, .int .i64 i3, .int .i64 i4, .int .i64 i5, .int .i64 i6, .int .i64 i7, .int .i64 i8])) rfl (by kernel_rfl) (by kernel_rfl) (by kernel_rfl) (fun _ _ _ h => h) (Or.inl ⟨by rfl, ?_⟩) (by assumption) ?_
          · intro w' hSw
            obtain ⟨zc9, zhcat, zl6, zq0, zq1, zq2, zq3, zq4, zq5, zq6, zq7, zq8, zb0, zb1, zb2, zb3, zb4, zb5, zb6, zb7, zb8, za0, za1, za2, za3, za4, za5, za6, za7, za8⟩ := hSw
            go_simp
          simp only [Act.put, List.setIfInBounds_toArray, List.set_cons_zero, List.set_cons_succ]
          refine wpAnyH_take (i := 9) (oi := { dst := some 58, op := Op.load 26 (Operand.tmp 12), type := 26, pos := "law.go:176", after := #[{ on := 7, ground := Ground.guard }], guard := some (7, false) }) (v := (.agg #[.int .i64 i0, .int .i64 i1, .int .i64 i2, .int .i64 i3, .int .i64 i4, .int .i64 i5, .int .i64 i6, .int .i64 i7, .int .i64 i8])) rfl (by kernel_rfl) (by kernel_rfl) (by kernel_rfl) (fun _ _ _ h => h) (Or.inl ⟨by rfl, ?_⟩) (by assumption) ?_
          · intro w' hSw
            obtain ⟨zc9, zhcat, zl6, zq0, zq1, zq2, zq3, zq4, zq5, zq6, zq7, zq8, zb0, zb1, zb2, zb3, zb4, zb5, zb6, zb7, zb8, za0, za1, za2, za3, za4, za5, za6, za7, za8⟩ := hSw
            go_simp
          simp only [Act.put, List.setIfInBounds_toArray, List.set_cons_zero, List.set_cons_succ]
          refine wpAnyH_take (i := 10) (oi := { dst := some 59, op := Op.binOp BinOp.neq 26 (Operand.tmp 57) (Operand.tmp 58) 26, type := 4, pos := "law.go:176", after := #[{ on := 8, ground := Ground.data }, { on := 9, ground := Ground.data }, { on := 7, ground := Ground.guard }], guard := some (7, false) }) (v := (.bool false)) rfl (by kernel_rfl) (by kernel_rfl) (by kernel_rfl) (fun _ _ _ h => h) (Or.inl ⟨by rfl, ?_⟩) (by assumption) ?_
          · intro w' hSw
            obtain ⟨zc9, zhcat, zl6, zq0, zq1, zq2, zq3, zq4, zq5, zq6, zq7, zq8, zb0, zb1, zb2, zb3, zb4, zb5, zb6, zb7, zb8, za0, za1, za2, za3, za4, za5, za6, za7, za8⟩ := hSw
            go_simp
          simp only [Act.put, List.setIfInBounds_toArray, List.set_cons_zero, List.set_cons_succ]
          refine wpAnyH_take (i := 11) (oi := { dst := some 60, op := Op.pick (Operand.tmp 56) (Operand.const (Value.bool true)) (Operand.tmp 59), type := 4, pos := "law.go:176", after := #[{ on := 7, ground := Ground.data }, { on := 10, ground := Ground.data }], guard := none }) (v := (.bool false)) rfl (by kernel_rfl) (by kernel_rfl) (by kernel_rfl) (fun _ _ _ h => h) (Or.inl ⟨by rfl, ?_⟩) (by assumption) ?_
          · intro w' hSw
            obtain ⟨zc9, zhcat, zl6, zq0, zq1, zq2, zq3, zq4, zq5, zq6, zq7, zq8, zb0, zb1, zb2, zb3, zb4, zb5, zb6, zb7, zb8, za0, za1, za2, za3, za4, za5, za6, za7, za8⟩ := hSw
            go_simp
          simp only [Act.put, List.setIfInBounds_toArray, List.set_cons_zero, List.set_cons_succ]
          refine wpAnyH_take (i := 12) (oi := { dst := some 61, op := Op.move (Operand.tmp 60), type := 4, pos := "law.go:176", after := #[{ on := 11, ground := Ground.data }, { on := 7, ground := Ground.chain }], guard := none }) (v := (.bool false)) rfl (by kernel_rfl) (by kernel_rfl) (by kernel_rfl) (fun _ _ _ h => h) (Or.inl ⟨by rfl, ?_⟩) (by assumption) ?_
          · intro w' hSw
            obtain ⟨zc9, zhcat, zl6, zq0, zq1, zq2, zq3, zq4, zq5, zq6, zq7, zq8, zb0, zb1, zb2, zb3, zb4, zb5, zb6, zb7, zb8, za0, za1, za2, za3, za4, za5, za6, za7, za8⟩ := hSw
            go_simp
          simp only [Act.put, List.setIfInBounds_toArray, List.set_cons_zero, List.set_cons_succ]
          refine wpAnyH_take (i := 13) (oi := { dst := some 62, op := Op.load 26 (Operand.tmp 12), type := 26, pos := "law.go:176", after := #[{ on := 12, ground := Ground.guard }], guard := some (12, false) }) (v := (.agg #[.int .i64 i0, .int .i64 i1, .int .i64 i2, .int .i64 i3, .int .i64 i4, .int .i64 i5, .int .i64 i6, .int .i64 i7, .int .i64 i8])) rfl (by kernel_rfl) (by kernel_rfl) (by kernel_rfl) (fun _ _ _ h => h) (Or.inl ⟨by rfl, ?_⟩) (by assumption) ?_
          · intro w' hSw
            obtain ⟨zc9, zhcat, zl6, zq0, zq1, zq2, zq3, zq4, zq5, zq6, zq7, zq8, zb0, zb1, zb2, zb3, zb4, zb5, zb6, zb7, zb8, za0, za1, za2, za3, za4, za5, za6, za7, za8⟩ := hSw
            go_simp
          simp only [Act.put, List.setIfInBounds_toArray, List.set_cons_zero, List.set_cons_succ]
          refine wpAnyH_take (i := 14) (oi := { dst := some 63, op := Op.load 30 (Operand.tmp 5), type := 30, pos := "law.go:176", after := #[{ on := 12, ground := Ground.guard }], guard := some (12, false) }) (v := (.slice (some ad) (allD code).1.length c)) rfl (by kernel_rfl) (by kernel_rfl) (by kernel_rfl) (fun _ _ _ h => h) (Or.inl ⟨by rfl, ?_⟩) (by assumption) ?_
          · intro w' hSw
            obtain ⟨zc9, zhcat, zl6, zq0, zq1, zq2, zq3, zq4, zq5, zq6, zq7, zq8, zb0, zb1, zb2, zb3, zb4, zb5, zb6, zb7, zb8, za0, za1, za2, za3, za4, za5, za6, za7, za8⟩ := hSw
            go_simp
          simp only [Act.put, List.setIfInBounds_toArray, List.set_cons_zero, List.set_cons_succ]
          refine wpAnyH_take (i := 15) (oi := { dst := some 64, op := Op.load 3 (Operand.tmp 9), type := 3, pos := "law.go:176", after := #[{ on := 12, ground := Ground.guard }], guard := some (12, false) }) (v := (.int .i64 (pre.length : Int))) rfl (by kernel_rfl) (by kernel_rfl) (by kernel_rfl) (fun _ _ _ h => h) (Or.inl ⟨by rfl, ?_⟩) (by assumption) ?_
          · intro w' hSw
            obtain ⟨zc9, zhcat, zl6, zq0, zq1, zq2, zq3, zq4, zq5, zq6, zq7, zq8, zb0, zb1, zb2, zb3, zb4, zb5, zb6, zb7, zb8, za0, za1, za2, za3, za4, za5, za6, za7, za8⟩ := hSw
            go_simp
          simp only [Act.put, List.setIfInBounds_toArray, List.set_cons_zero, List.set_cons_succ]
          refine wpAnyH_take (i := 16) (oi := { dst := some 65, op := Op.indexAddr 30 (Operand.tmp 63) (Operand.tmp 64), type := 0, pos := "law.go:176", after := #[{ on := 14, ground := Ground.data }, { on := 15, ground := Ground.data }, { on := 12, ground := Ground.guard }], guard := some (12, false) }) (v := (.pointer (some (ad.add (pre.length * 9))))) rfl (by kernel_rfl) (by kernel_rfl) (by kernel_rfl) (fun _ _ _ h => h) (Or.inl ⟨by rfl, ?_⟩) (by assumption) ?_
          · intro w' hSw
            obtain ⟨zc9, zhcat, zl6, zq0, zq1, zq2, zq3, zq4, zq5, zq6, zq7, zq8, zb0, zb1, zb2, zb3, zb4, zb5, zb6, zb7, zb8, za0, za1, za2, za3, za4, za5, za6, za7, za8⟩ := hSw
            go_simp
          simp only [Act.put, List.setIfInBounds_toArray, List.set_cons_zero, List.set_cons_succ]
          refine wpAnyH_take (i := 17) (oi := { dst := some 66, op := Op.load 26 (Operand.tmp 65), type := 26, pos := "law.go:176", after := #[{ on := 16, ground := Ground.data }, { on := 12, ground := Ground.guard }], guard := some (12, false) }) (v := (.agg #[.int .i64 i0, .int .i64 i1, .int .i64 i2, .int .i64 i3, .int .i64 i4, .int .i64 i5, .int .i64 i6, .int .i64 i7, .int .i64 i8])) rfl (by kernel_rfl) (by kernel_rfl) (by kernel_rfl) (fun _ _ _ h => h) (Or.inl ⟨by rfl, ?_⟩) (by assumption) ?_
          · intro w' hSw
            obtain ⟨zc9, zhcat, zl6, zq0, zq1, zq2, zq3, zq4, zq5, zq6, zq7, zq8, zb0, zb1, zb2, zb3, zb4, zb5, zb6, zb7, zb8, za0, za1, za2, za3, za4, za5, za6, za7, za8⟩ := hSw
            go_simp
          simp only [Act.put, List.setIfInBounds_toArray, List.set_cons_zero, List.set_cons_succ]
          refine wpAnyH_take (i := 18) (oi := { dst := some 67, op := Op.binOp BinOp.neq 26 (Operand.tmp 62) (Operand.tmp 66) 26, type := 4, pos := "law.go:176", after := #[{ on := 13, ground := Ground.data }, { on := 17, ground := Ground.data }, { on := 12, ground := Ground.guard }], guard := some (12, false) }) (v := (.bool false)) rfl (by kernel_rfl) (by kernel_rfl) (by kernel_rfl) (fun _ _ _ h => h) (Or.inl ⟨by rfl, ?_⟩) (by assumption) ?_
          · intro w' hSw
            obtain ⟨zc9, zhcat, zl6, zq0, zq1, zq2, zq3, zq4, zq5, zq6, zq7, zq8, zb0, zb1, zb2, zb3, zb4, zb5, zb6, zb7, zb8, za0, za1, za2, za3, za4, za5, za6, za7, za8⟩ := hSw
            go_simp
          simp only [Act.put, List.setIfInBounds_toArray, List.set_cons_zero, List.set_cons_succ]
          refine wpAnyH_take (i := 19) (oi := { dst := some 68, op := Op.pick (Operand.tmp 61) (Operand.const (Value.bool true)) (Operand.tmp 67), type := 4, pos := "law.go:176", after := #[{ on := 12, ground := Ground.data }, { on := 18, ground := Ground.data }], guard := none }) (v := (.bool false)) rfl (by kernel_rfl) (by kernel_rfl) (by kernel_rfl) (fun _ _ _ h => h) (Or.inl ⟨by rfl, ?_⟩) (by assumption) ?_
          · intro w' hSw
            obtain ⟨zc9, zhcat, zl6, zq0, zq1, zq2, zq3, zq4, zq5, zq6, zq7, zq8, zb0, zb1, zb2, zb3, zb4, zb5, zb6, zb7, zb8, za0, za1, za2, za3, za4, za5, za6, za7, za8⟩ := hSw
            go_simp
          simp only [Act.put, List.setIfInBounds_toArray, List.set_cons_zero, List.set_cons_succ]
          refine wpAnyH_take (i := 20) (oi := { dst := some 69, op := Op.move (Operand.tmp 68), type := 4, pos := "law.go:176", after := #[{ on := 19, ground := Ground.data }, { on := 12, ground := Ground.chain }], guard := none }) (v := (.bool false)) rfl (by kernel_rfl) (by kernel_rfl) (by kernel_rfl) (fun _ _ _ h => h) (Or.inl ⟨by rfl, ?_⟩) (by assumption) ?_
          · intro w' hSw
            obtain ⟨zc9, zhcat, zl6, zq0, zq1, zq2, zq3, zq4, zq5, zq6, zq7, zq8, zb0, zb1, zb2, zb3, zb4, zb5, zb6, zb7, zb8, za0, za1, za2, za3, za4, za5, za6, za7, za8⟩ := hSw
            go_simp
          simp only [Act.put, List.setIfInBounds_toArray, List.set_cons_zero, List.set_cons_succ]
          refine wpAnyH_take (i := 21) (oi := { dst := some 70, op := Op.move (Operand.tmp 14), type := 3, pos := "law.go:176", after := #[{ on := 20, ground := Ground.guard }], guard := some (20, false) }) (v := (.int .i64 (ln : Int))) rfl (by kernel_rfl) (by kernel_rfl) (by kernel_rfl) (fun _ _ _ h => h) (Or.inl ⟨by rfl, ?_⟩) (by assumption) ?_
          · intro w' hSw
            obtain ⟨zc9, zhcat, zl6, zq0, zq1, zq2, zq3, zq4, zq5, zq6, zq7, zq8, zb0, zb1, zb2, zb3, zb4, zb5, zb6, zb7, zb8, za0, za1, za2, za3, za4, za5, za6, za7, za8⟩ := hSw
            go_simp
          simp only [Act.put, List.setIfInBounds_toArray, List.set_cons_zero, List.set_cons_succ]
          refine wpAnyH_take (i := 22) (oi := { dst := some 71, op := Op.load 26 (Operand.tmp 12), type := 26, pos := "law.go:176", after := #[{ on := 20, ground := Ground.guard }], guard := some (20, false) }) (v := (.agg #[.int .i64 i0, .int .i64 i1, .int .i64 i2, .int .i64 i3, .int .i64 i4, .int .i64 i5, .int .i64 i6, .int .i64 i7, .int .i64 i8])) rfl (by kernel_rfl) (by kernel_rfl) (by kernel_rfl) (fun _ _ _ h => h) (Or.inl ⟨by rfl, ?_⟩) (by assumption) ?_
          · intro w' hSw
            obtain ⟨zc9, zhcat, zl6, zq0, zq1, zq2, zq3, zq4, zq5, zq6, zq7, zq8, zb0, zb1, zb2, zb3, zb4, zb5, zb6, zb7, zb8, za0, za1, za2, za3, za4, za5, za6, za7, za8⟩ := hSw
            go_simp
          simp only [Act.put, List.setIfInBounds_toArray, List.set_cons_zero, List.set_cons_succ]
          refine wpAnyH_ready (rs := [23]) (by kernel_rfl) (by simp) ?_
          refine AllReadyH.cons (o := { dst := some 72, op := Op.call { callee := Callee.value (Operand.func 14), args := #[Operand.tmp 71], argTypes := #[26] }, type := 3, pos := "law.go:176", after := #[{ on := 22, ground := Ground.data }, { on := 20, ground := Ground.chain }, { on := 20, ground := Ground.guard }], guard := some (20, false) }) rfl (fun K' hK => ?_) AllReadyH.nil
          rw [if_pos (by rfl)]
          go_simp
          go_at_call 14
          refine (HRS.out _).mono ?_
          rintro e w7 ⟨rfl, hb7⟩
          refine hK.out _ _ ⟨keepc hb7 c9, keepc hb7 hcat, keepc hb7 l6, keepc hb7 q0, keepc hb7 q1, keepc hb7 q2, keepc hb7 q3, keepc hb7 q4, keepc hb7 q5, keepc hb7 q6, keepc hb7 q7, keepc hb7 q8, keepc hb7 b0, keepc hb7 b1, keepc hb7 b2, keepc hb7 b3, keepc hb7 b4, keepc hb7 b5, keepc hb7 b6, keepc hb7 b7, keepc hb7 b8, keepc hb7 a0, keepc hb7 a1, keepc hb7 a2, keepc hb7 a3, keepc hb7 a4, keepc hb7 a5, keepc hb7 a6, keepc hb7 a7, keepc hb7 a8⟩ (fun hS7 => ?_)
          try simp only [Act.put, List.setIfInBounds_toArray, List.set_cons_zero, List.set_cons_succ]
          refine wpAnyH_take (i := 24) (oi := { dst := some 73, op := Op.binOp BinOp.neq 3 (Operand.tmp 70) (Operand.tmp 72) 3, type := 4, pos := "law.go:176", after := #[{ on := 21, ground := Ground.data }, { on := 23, ground := Ground.data }, { on := 20, ground := Ground.guard }], guard := some (20, false) }) (v := (.bool false)) rfl (by kernel_rfl) (by kernel_rfl) (by kernel_rfl) (fun _ _ _ h => h) (Or.inl ⟨by rfl, ?_⟩) (by assumption) ?_
          · intro w' hSw
            obtain ⟨zc9, zhcat, zl6, zq0, zq1, zq2, zq3, zq4, zq5, zq6, zq7, zq8, zb0, zb1, zb2, zb3, zb4, zb5, zb6, zb7, zb8, za0, za1, za2, za3, za4, za5, za6, za7, za8⟩ := hSw
            go_simp
          simp only [Act.put, List.setIfInBounds_toArray, List.set_cons_zero, List.set_cons_succ]
          refine wpAnyH_take (i := 25) (oi := { dst := some 74, op := Op.pick (Operand.tmp 69) (Operand.const (Value.bool true)) (Operand.tmp 73), type := 4, pos := "law.go:176", after := #[{ on := 20, ground := Ground.data }, { on := 24, ground := Ground.data }], guard := none }) (v := (.bool false)) rfl (by kernel_rfl) (by kernel_rfl) (by kernel_rfl) (fun _ _ _ h => h) (Or.inl ⟨by rfl, ?_⟩) (by assumption) ?_
          · intro w' hSw
            obtain ⟨zc9, zhcat, zl6, zq0, zq1, zq2, zq3, zq4, zq5, zq6, zq7, zq8, zb0, zb1, zb2, zb3, zb4, zb5, zb6, zb7, zb8, za0, za1, za2, za3, za4, za5, za6, za7, za8⟩ := hSw
            go_simp
          simp only [Act.put, List.setIfInBounds_toArray, List.set_cons_zero, List.set_cons_succ]
          refine wpAnyH_done (by kernel_rfl) ?_ _
          unfold Only
          dsimp only
          have HB7 : Hid (Below w6.heap.size w6 w7) := Lib.hid ⟨hb7.os, hb7.tape, hb7.output, hb7.size, hb7.block⟩
          clear hb7 hK hS7 hHeld c9 hcat l6 a0 a1 a2 a3 a4 a5 a6 a7 a8 q0 q1 q2 q3 q4 q5 q6 q7 q8 b0 b1 b2 b3 b4 b5 b6 b7 b8 HEQ HRS HIK HBX2 HX6 HI6 HL6 HIN6
          gi_wp2
          have HN7 : Hid (Bk w7 (L + 2) 3 #[.int .i64 (pre.length : Int)]) := Lib.hid (HN6.out.below HB7.out HN6.out.lt)
          have HA7 : Hid (Bk w7 (L + 3) 3 #[.int .i64 (k : Int)]) := Lib.hid (HA6.out.below HB7.out HA6.out.lt)
          have n7 : w7.cell? ⟨L + 2, 0, none⟩ = some (.int .i64 (pre.length : Int)) := HN7.out.cell 0
          have t7 : w7.cell? ⟨L + 2 + 1, 0, none⟩ = some (.int .i64 (k : Int)) := HA7.out.cell 0
          have fn7 : w7.frozen? ⟨L + 2, 0, none⟩ = false := HN7.out.frozen 0
          have ft7 : w7.frozen? ⟨L + 2 + 1, 0, none⟩ = false := HA7.out.frozen 0
          have hkl : (k : Int) + (ln : Int) ≤ 300 := by omega
          have hmix : Tryd.prog.follows .mixedOrders = true := by kernel_rfl
          have HBw : Below W.heap.size W w7 := HB5.out.trans (HB7.out.mono HB5.out.size)
          have HBL : Below (L + 2) W (((w7.setCell ⟨L + 2, 0, none⟩ (.int .i64 ((pre.length : Int) + 1))).setCell ⟨L + 2 + 1, 0, none⟩ (.int .i64 ((k : Int) + (ln : Int)))).drew) := (((HBw.mono (by omega)).setCell (p := ⟨L + 2, 0, none⟩) (Nat.le_refl (L + 2)) _).setCell (p := ⟨L + 2 + 1, 0, none⟩) (show L + 2 ≤ L + 2 + 1 from by omega) _).drew
          have hlen1 : (pre ++ [pre.length]).length = pre.length + 1 := by simp
          have hlen2 : ((pre ++ [pre.length]).length : Int) = (pre.length : Int) + 1 := by rw [hlen1]; rfl
          have K1 : KeepsFrom W0.heap.size w7 (w7.setCell ⟨L + 2, 0, none⟩ (.int .i64 ((pre.length : Int) + 1))) := KeepsFrom.of_grownBy (grownBy_setCell' w7 (L + 2) _) (fun j e => by cases e; omega)
          have K2 : KeepsFrom W0.heap.size (w7.setCell ⟨L + 2, 0, none⟩ (.int .i64 ((pre.length : Int) + 1))) (((w7.setCell ⟨L + 2, 0, none⟩ (.int .i64 ((pre.length : Int) + 1))).setCell ⟨L + 2 + 1, 0, none⟩ (.int .i64 ((k : Int) + (ln : Int)))).drew) := by
            have := KeepsFrom.of_grownBy (B := W0.heap.size) (grownBy_setCell' (w7.setCell ⟨L + 2, 0, none⟩ (.int .i64 ((pre.length : Int) + 1))) (L + 2 + 1) (.int .i64 ((k : Int) + (ln : Int)))) (fun j e => by cases e; omega)
            exact ⟨this.size, this.same⟩
          have B1 : Bk (((w7.setCell ⟨L + 2, 0, none⟩ (.int .i64 ((pre.length : Int) + 1))).setCell ⟨L + 2 + 1, 0, none⟩ (.int .i64 ((k : Int) + (ln : Int)))).drew) (L + 2) 3 #[.int .i64 ((pre.length : Int) + 1)] := ((HN7.out.set_ 0 _).far (show L + 2 ≠ L + 2 + 1 from by omega) _).drew
          have B2 : Bk (((w7.setCell ⟨L + 2, 0, none⟩ (.int .i64 ((pre.length : Int) + 1))).setCell ⟨L + 2 + 1, 0, none⟩ (.int .i64 ((k : Int) + (ln : Int)))).drew) (L + 3) 3 #[.int .i64 ((k : Int) + (ln : Int))] := ((HA7.out.far (show L + 3 ≠ L + 2 from by omega) _).set_ 0 _).drew
          have FIN : Hid (KeepsFrom W0.heap.size W (((w7.setCell ⟨L + 2, 0, none⟩ (.int .i64 ((pre.length : Int) + 1))).setCell ⟨L + 2 + 1, 0, none⟩ (.int .i64 ((k : Int) + (ln : Int)))).drew) ∧ Below (L + 2) W (((w7.setCell ⟨L + 2, 0, none⟩ (.int .i64 ((pre.length : Int) + 1))).setCell ⟨L + 2 + 1, 0, none⟩ (.int .i64 ((k : Int) + (ln : Int)))).drew) ∧ (pre ++ [pre.length]) = List.range (pre ++ [pre.length]).length ∧ (pre ++ [pre.length]).length ≤ (allD code).1.length ∧ ((pre ++ [pre.length]).length : Int) ≤ E ∧ Bk (((w7.setCell ⟨L + 2, 0, none⟩ (.int .i64 ((pre.length : Int) + 1))).setCell ⟨L + 2 + 1, 0, none⟩ (.int .i64 ((k : Int) + (ln : Int)))).drew) (L + 2) 3 #[.int .i64 ((pre ++ [pre.length]).length : Int)] ∧ Bk (((w7.setCell ⟨L + 2, 0, none⟩ (.int .i64 ((pre.length : Int) + 1))).setCell ⟨L + 2 + 1, 0, none⟩ (.int .i64 ((k : Int) + (ln : Int)))).drew) (L + 3) 3 #[.int .i64 ((catU ((allD code).1.take (pre ++ [pre.length]).length)).length : Int)] ∧ Below (L + 2) W0 (((w7.setCell ⟨L + 2, 0, none⟩ (.int .i64 ((pre.length : Int) + 1))).setCell ⟨L + 2 + 1, 0, none⟩ (.int .i64 ((k : Int) + (ln : Int)))).drew)) := Lib.hid ⟨((keeps_below HBw).trans K1).trans K2, HBL,
            by rw [hlen1, List.range_succ, ← HP.out], by rw [hlen1]; omega, by rw [hlen2]; omega, by rw [hlen2]; exact B1,
            by rw [hlen1, HNX.out]; push_cast; exact B2, HHB.out.trans HBL⟩
          have ew1 : IntKind.i64.wrap ((pre.length : Int) + 1) = (pre.length : Int) + 1 := IntWalk.i64_in _ (by omega)
          have ew2 : IntKind.i64.wrap ((k : Int) + (ln : Int)) = (k : Int) + (ln : Int) := IntWalk.i64_in _ (by omega)
          have EW1 := Lib.hid ew1
          have EW2 := Lib.hid ew2
          clear HBw HBL hlen1 hlen2 K1 K2 B1 B2 HN7 HA7 HB7 HNX HN6 HA6 HB5 HN9 HAT ew1 ew2
          gi_region_with_o fail
          all_goals
            gi_wp2
            rw [EW1.out, EW2.out]
            exact FIN.out
        · obtain ⟨k, hp1, hk, _⟩ := ev_at code pre.length hlen
          have hne := posN_ne hlen hx
          rw [hp1] at hne
          have HNO : Hid (¬ ∃ k, pre ++ [x] = List.range k) := Lib.hid (fun h => hx (range_snoc (p := 0) hp h))
          have HIK := Lib.hid (fun W hg => dc.inst code (posN code x) W hg (posN_i64 code x (by omega)) (by omega))
          rw [← hk] at HAT
          generalize rD code (posN code x) = r at HIK
          obtain ⟨ri, rk, re⟩ := r
          obtain ⟨j0, j1, j2, j3, j4, j5, j6, j7, j8⟩ := ri
          unfold tD Ins.vs at HIK
          dsimp only at HIK
          clear hp1 hk hbx hp hat HBX
          generalize posN code x = px at *
          generalize insN code x = ii at *
          obtain ⟨i0, i1, i2, i3, i4, i5, i6, i7, i8⟩ := ii
          unfold Ins.vs
          dsimp only
          gi_wp2_with (refine ⟨trivial, ?_⟩; gi_at_call 8; refine (CallsIn.inRound l (callsIn_wide.2 (HIK.out _ HT5.out))).mono ?_; rintro e w5 ⟨rfl, hb⟩)
          have HB5 : Hid (Below W.heap.size W (w5.alloc (.cells #[.int .i64 j0, .int .i64 j1, .int .i64 j2, .int .i64 j3, .int .i64 j4, .int .i64 j5, .int .i64 j6, .int .i64 j7, .int .i64 j8] 26))) := Lib.hid (below_al hb _)
          have HA6 : Hid (Bk (w5.alloc (.cells #[.int .i64 j0, .int .i64 j1, .int .i64 j2, .int .i64 j3, .int .i64 j4, .int .i64 j5, .int .i64 j6, .int .i64 j7, .int .i64 j8] 26)) (L + 3) 3 #[.int .i64 (k : Int)]) := Lib.hid (HAT.out.below HB5.out (by omega))
          have HR6 : Hid (Bk (w5.alloc (.cells #[.int .i64 j0, .int .i64 j1, .int .i64 j2, .int .i64 j3, .int .i64 j4, .int .i64 j5, .int .i64 j6, .int .i64 j7, .int .i64 j8] 26)) (w.heap.size + 2) 4 #[.bool false]) := Lib.hid ((HR4.out.below hB (by omega)).below HB5.out (by omega))
          clear hb c9 e5 s5 hB hn9
          generalize (w5.alloc (.cells #[.int .i64 j0, .int .i64 j1, .int .i64 j2, .int .i64 j3, .int .i64 j4, .int .i64 j5, .int .i64 j6, .int .i64 j7, .int .i64 j8] 26)) = w6 at *
          generalize w5.heap.size = B6 at *
          have hcat : w6.cell? ⟨L + 2 + 1, 0, none⟩ = some (.int .i64 (k : Int)) := HA6.out.cell 0
          refine region_r (fun w' => w'.cell? ⟨L + 2 + 1, 0, none⟩ = some (.int .i64 (k : Int))) (by kernel_rfl) (by kernel_rfl) hcat (fun hHeld => ?_)
          refine wpAnyH_take (i := 0) (oi := { dst := some 49, op := Op.move (Operand.tmp 11), type := 3, pos := "law.go:176", after := #[], guard := none }) (v := (.int .i64 px)) rfl (by kernel_rfl) (by kernel_rfl) (by kernel_rfl) (fun _ _ _ h => h) (Or.inl ⟨by rfl, ?_⟩) (by assumption) ?_
          · intro w' hSw
            go_simp
          simp only [Act.put, List.setIfInBounds_toArray, List.set_cons_zero, List.set_cons_succ]
          refine wpAnyH_take (i := 1) (oi := { dst := some 50, op := Op.load 3 (Operand.tmp 10), type := 3, pos := "law.go:176", after := #[], guard := none }) (v := (.int .i64 (k : Int))) rfl (by kernel_rfl) (by kernel_rfl) (by kernel_rfl) (fun _ _ _ h => h) (Or.inl ⟨by rfl, ?_⟩) (by assumption) ?_
          · intro w' hSw
            go_simp
          simp only [Act.put, List.setIfInBounds_toArray, List.set_cons_zero, List.set_cons_succ]
          refine wpAnyH_take (i := 2) (oi := { dst := some 51, op := Op.binOp BinOp.neq 3 (Operand.tmp 49) (Operand.tmp 50) 3, type := 4, pos := "law.go:176", after := #[{ on := 0, ground := Ground.data }, { on := 1, ground := Ground.data }], guard := none }) (v := (.bool true)) rfl (by kernel_rfl) (by kernel_rfl) (by kernel_rfl) (fun _ _ _ h => h) (Or.inl ⟨by rfl, ?_⟩) (by assumption) ?_
          · intro w' hSw
            first | (go_simp; done) | (go_simp; simp [hne]; done) | (go_simp; exact hne)
          simp only [Act.put, List.setIfInBounds_toArray, List.set_cons_zero, List.set_cons_succ]
          refine wpAnyH_take (i := 3) (oi := { dst := some 52, op := Op.move (Operand.tmp 51), type := 4, pos := "law.go:176", after := #[{ on := 2, ground := Ground.data }], guard := none }) (v := (.bool true)) rfl (by kernel_rfl) (by kernel_rfl) (by kernel_rfl) (fun _ _ _ h => h) (Or.inl ⟨by rfl, ?_⟩) (by assumption) ?_
          · intro w' hSw
            go_simp
          simp only [Act.put, List.setIfInBounds_toArray, List.set_cons_zero, List.set_cons_succ]
          refine wpAnyH_take (i := 4) (oi := { dst := some 53, op := Op.move (Operand.tmp 15), type := 27, pos := "law.go:176", after := #[{ on := 3, ground := Ground.guard }], guard := some (3, false) }) (v := undef) rfl (by kernel_rfl) (by kernel_rfl) (by kernel_rfl) (fun _ _ _ h => h) (Or.inr ⟨by rfl, rfl⟩) (by assumption) ?_
          simp only [Act.put, List.setIfInBounds_toArray, List.set_cons_zero, List.set_cons_succ]
          refine wpAnyH_take (i := 5) (oi := { dst := some 54, op := Op.binOp BinOp.neq 27 (Operand.tmp 53) (Operand.const (Value.int IntKind.i64 0)) 27, type := 4, pos := "law.go:176", after := #[{ on := 4, ground := Ground.data }, { on := 3, ground := Ground.guard }], guard := some (3, false) }) (v := undef) rfl (by kernel_rfl) (by kernel_rfl) (by kernel_rfl) (fun _ _ _ h => h) (Or.inr ⟨by rfl, rfl⟩) (by assumption) ?_
          simp only [Act.put, List.setIfInBounds_toArray, List.set_cons_zero, List.set_cons_succ]
          refine wpAnyH_take (i := 6) (oi := { dst := some 55, op := Op.pick (Operand.tmp 52) (Operand.const (Value.bool true)) (Operand.tmp 54), type := 4, pos := "law.go:176", after := #[{ on := 3, ground := Ground.data }, { on := 5, ground := Ground.data }], guard := none }) (v := (.bool true)) rfl (by kernel_rfl) (by kernel_rfl) (by kernel_rfl) (fun _ _ _ h => h) (Or.inl ⟨by rfl, ?_⟩) (by assumption) ?_
          · intro w' hSw
            go_simp
          simp only [Act.put, List.setIfInBounds_toArray, List.set_cons_zero, List.set_cons_succ]
          refine wpAnyH_take (i := 7) (oi := { dst := some 56, op := Op.move (Operand.tmp 55), type := 4, pos := "law.go:176", after := #[{ on := 6, ground := Ground.data }, { on := 3, ground := Ground.chain }], guard := none }) (v := (.bool true)) rfl (by kernel_rfl) (by kernel_rfl) (by kernel_rfl) (fun _ _ _ h => h) (Or.inl ⟨by rfl, ?_⟩) (by assumption) ?_
          · intro w' hSw
            go_simp
          simp only [Act.put, List.setIfInBounds_toArray, List.set_cons_zero, List.set_cons_succ]
          refine wpAnyH_take (i := 8) (oi := { dst := some 57, op := Op.load 26 (Operand.tmp 13), type := 26, pos := "law.go:176", after := #[{ on := 7, ground := Ground.guard }], guard := some (7, false) }) (v := undef) rfl (by kernel_rfl) (by kernel_rfl) (by kernel_rfl) (fun _ _ _ h => h) (Or.inr ⟨by rfl, rfl⟩) (by assumption) ?_
          simp only [Act.put, List.setIfInBounds_toArray, List.set_cons_zero, List.set_cons_succ]
          refine wpAnyH_take (i := 9) (oi := { dst := some 58, op := Op.load 26 (Operand.tmp 12), type := 26, pos := "law.go:176", after := #[{ on := 7, ground := Ground.guard }], guard := some (7, false) }) (v := undef) rfl (by kernel_rfl) (by kernel_rfl) (by kernel_rfl) (fun _ _ _ h => h) (Or.inr ⟨by rfl, rfl⟩) (by assumption) ?_
          simp only [Act.put, List.setIfInBounds_toArray, List.set_cons_zero, List.set_cons_succ]
          refine wpAnyH_take (i := 10) (oi := { dst := some 59, op := Op.binOp BinOp.neq 26 (Operand.tmp 57) (Operand.tmp 58) 26, type := 4, pos := "law.go:176", after := #[{ on := 8, ground := Ground.data }, { on := 9, ground := Ground.data }, { on := 7, ground := Ground.guard }], guard := some (7, false) }) (v := undef) rfl (by kernel_rfl) (by kernel_rfl) (by kernel_rfl) (fun _ _ _ h => h) (Or.inr ⟨by rfl, rfl⟩) (by assumption) ?_
          simp only [Act.put, List.setIfInBounds_toArray, List.set_cons_zero, List.set_cons_succ]
          refine wpAnyH_take (i := 11) (oi := { dst := some 60, op := Op.pick (Operand.tmp 56) (Operand.const (Value.bool true)) (Operand.tmp 59), type := 4, pos := "law.go:176", after := #[{ on := 7, ground := Ground.data }, { on := 10, ground := Ground.data }], guard := none }) (v := (.bool true)) rfl (by kernel_rfl) (by kernel_rfl) (by kernel_rfl) (fun _ _ _ h => h) (Or.inl ⟨by rfl, ?_⟩) (by assumption) ?_
          · intro w' hSw
            go_simp
          simp only [Act.put, List.setIfInBounds_toArray, List.set_cons_zero, List.set_cons_succ]
          refine wpAnyH_take (i := 12) (oi := { dst := some 61, op := Op.move (Operand.tmp 60), type := 4, pos := "law.go:176", after := #[{ on := 11, ground := Ground.data }, { on := 7, ground := Ground.chain }], guard := none }) (v := (.bool true)) rfl (by kernel_rfl) (by kernel_rfl) (by kernel_rfl) (fun _ _ _ h => h) (Or.inl ⟨by rfl, ?_⟩) (by assumption) ?_
          · intro w' hSw
            go_simp
          simp only [Act.put, List.setIfInBounds_toArray, List.set_cons_zero, List.set_cons_succ]
          refine wpAnyH_take (i := 13) (oi := { dst := some 62, op := Op.load 26 (Operand.tmp 12), type := 26, pos := "law.go:176", after := #[{ on := 12, ground := Ground.guard }], guard := some (12, false) }) (v := undef) rfl (by kernel_rfl) (by kernel_rfl) (by kernel_rfl) (fun _ _ _ h => h) (Or.inr ⟨by rfl, rfl⟩) (by assumption) ?_
          simp only [Act.put, List.setIfInBounds_toArray, List.set_cons_zero, List.set_cons_succ]
          refine wpAnyH_take (i := 14) (oi := { dst := some 63, op := Op.load 30 (Operand.tmp 5), type := 30, pos := "law.go:176", after := #[{ on := 12, ground := Ground.guard }], guard := some (12, false) }) (v := undef) rfl (by kernel_rfl) (by kernel_rfl) (by kernel_rfl) (fun _ _ _ h => h) (Or.inr ⟨by rfl, rfl⟩) (by assumption) ?_
          simp only [Act.put, List.setIfInBounds_toArray, List.set_cons_zero, List.set_cons_succ]
          refine wpAnyH_take (i := 15) (oi := { dst := some 64, op := Op.load 3 (Operand.tmp 9), type := 3, pos := "law.go:176", after := #[{ on := 12, ground := Ground.guard }], guard := some (12, false) }) (v := undef) rfl (by kernel_rfl) (by kernel_rfl) (by kernel_rfl) (fun _ _ _ h => h) (Or.inr ⟨by rfl, rfl⟩) (by assumption) ?_
          simp only [Act.put, List.setIfInBounds_toArray, List.set_cons_zero, List.set_cons_succ]
          refine wpAnyH_take (i := 16) (oi := { dst := some 65, op := Op.indexAddr 30 (Operand.tmp 63) (Operand.tmp 64), type := 0, pos := "law.go:176", after := #[{ on := 14, ground := Ground.data }, { on := 15, ground := Ground.data }, { on := 12, ground := Ground.guard }], guard := some (12, false) }) (v := undef) rfl (by kernel_rfl) (by kernel_rfl) (by kernel_rfl) (fun _ _ _ h => h) (Or.inr ⟨by rfl, rfl⟩) (by assumption) ?_
          simp only [Act.put, List.setIfInBounds_toArray, List.set_cons_zero, List.set_cons_succ]
          refine wpAnyH_take (i := 17) (oi := { dst := some 66, op := Op.load 26 (Operand.tmp 65), type := 26, pos := "law.go:176", after := #[{ on := 16, ground := Ground.data }, { on := 12, ground := Ground.guard }], guard := some (12, false) }) (v := undef) rfl (by kernel_rfl) (by kernel_rfl) (by kernel_rfl) (fun _ _ _ h => h) (Or.inr ⟨by rfl, rfl⟩) (by assumption) ?_
          simp only [Act.put, List.setIfInBounds_toArray, List.set_cons_zero, List.set_cons_succ]
          refine wpAnyH_take (i := 18) (oi := { dst := some 67, op := Op.binOp BinOp.neq 26 (Operand.tmp 62) (Operand.tmp 66) 26, type := 4, pos := "law.go:176", after := #[{ on := 13, ground := Ground.data }, { on := 17, ground := Ground.data }, { on := 12, ground := Ground.guard }], guard := some (12, false) }) (v := undef) rfl (by kernel_rfl) (by kernel_rfl) (by kernel_rfl) (fun _ _ _ h => h) (Or.inr ⟨by rfl, rfl⟩) (by assumption) ?_
          simp only [Act.put, List.setIfInBounds_toArray, List.set_cons_zero, List.set_cons_succ]
          refine wpAnyH_take (i := 19) (oi := { dst := some 68, op := Op.pick (Operand.tmp 61) (Operand.const (Value.bool true)) (Operand.tmp 67), type := 4, pos := "law.go:176", after := #[{ on := 12, ground := Ground.data }, { on := 18, ground := Ground.data }], guard := none }) (v := (.bool true)) rfl (by kernel_rfl) (by kernel_rfl) (by kernel_rfl) (fun _ _ _ h => h) (Or.inl ⟨by rfl, ?_⟩) (by assumption) ?_
          · intro w' hSw
            go_simp
          simp only [Act.put, List.setIfInBounds_toArray, List.set_cons_zero, List.set_cons_succ]
          refine wpAnyH_take (i := 20) (oi := { dst := some 69, op := Op.move (Operand.tmp 68), type := 4, pos := "law.go:176", after := #[{ on := 19, ground := Ground.data }, { on := 12, ground := Ground.chain }], guard := none }) (v := (.bool true)) rfl (by kernel_rfl) (by kernel_rfl) (by kernel_rfl) (fun _ _ _ h => h) (Or.inl ⟨by rfl, ?_⟩) (by assumption) ?_
          · intro w' hSw
            go_simp
          simp only [Act.put, List.setIfInBounds_toArray, List.set_cons_zero, List.set_cons_succ]
          refine wpAnyH_take (i := 21) (oi := { dst := some 70, op := Op.move (Operand.tmp 14), type := 3, pos := "law.go:176", after := #[{ on := 20, ground := Ground.guard }], guard := some (20, false) }) (v := undef) rfl (by kernel_rfl) (by kernel_rfl) (by kernel_rfl) (fun _ _ _ h => h) (Or.inr ⟨by rfl, rfl⟩) (by assumption) ?_
          simp only [Act.put, List.setIfInBounds_toArray, List.set_cons_zero, List.set_cons_succ]
          refine wpAnyH_take (i := 22) (oi := { dst := some 71, op := Op.load 26 (Operand.tmp 12), type := 26, pos := "law.go:176", after := #[{ on := 20, ground := Ground.guard }], guard := some (20, false) }) (v := undef) rfl (by kernel_rfl) (by kernel_rfl) (by kernel_rfl) (fun _ _ _ h => h) (Or.inr ⟨by rfl, rfl⟩) (by assumption) ?_
          simp only [Act.put, List.setIfInBounds_toArray, List.set_cons_zero, List.set_cons_succ]
          refine wpAnyH_take (i := 23) (oi := { dst := some 72, op := Op.call { callee := Callee.value (Operand.func 14), args := #[Operand.tmp 71], argTypes := #[26] }, type := 3, pos := "law.go:176", after := #[{ on := 22, ground := Ground.data }, { on := 20, ground := Ground.chain }, { on := 20, ground := Ground.guard }], guard := some (20, false) }) (v := undef) rfl (by kernel_rfl) (by kernel_rfl) (by kernel_rfl) (fun _ _ _ h => h) (Or.inr ⟨by rfl, rfl⟩) (by assumption) ?_
          simp only [Act.put, List.setIfInBounds_toArray, List.set_cons_zero, List.set_cons_succ]
          refine wpAnyH_take (i := 24) (oi := { dst := some 73, op := Op.binOp BinOp.neq 3 (Operand.tmp 70) (Operand.tmp 72) 3, type := 4, pos := "law.go:176", after := #[{ on := 21, ground := Ground.data }, { on := 23, ground := Ground.data }, { on := 20, ground := Ground.guard }], guard := some (20, false) }) (v := undef) rfl (by kernel_rfl) (by kernel_rfl) (by kernel_rfl) (fun _ _ _ h => h) (Or.inr ⟨by rfl, rfl⟩) (by assumption) ?_
          simp only [Act.put, List.setIfInBounds_toArray, List.set_cons_zero, List.set_cons_succ]
          refine wpAnyH_take (i := 25) (oi := { dst := some 74, op := Op.pick (Operand.tmp 69) (Operand.const (Value.bool true)) (Operand.tmp 73), type := 4, pos := "law.go:176", after := #[{ on := 20, ground := Ground.data }, { on := 24, ground := Ground.data }], guard := none }) (v := (.bool true)) rfl (by kernel_rfl) (by kernel_rfl) (by kernel_rfl) (fun _ _ _ h => h) (Or.inl ⟨by rfl, ?_⟩) (by assumption) ?_
          · intro w' hSw
            go_simp
          simp only [Act.put, List.setIfInBounds_toArray, List.set_cons_zero, List.set_cons_succ]
          refine wpAnyH_done (by kernel_rfl) ?_ _
          unfold Only
          dsimp only
          have fr6 : w6.drew.frozen? ⟨w.heap.size + 1 + 1, 0, none⟩ = false := HR6.out.frozen 0
          have cr6 : w6.drew.cell? ⟨w.heap.size + 1 + 1, 0, none⟩ = some (.bool false) := HR6.out.cell 0
          gi_wp2
          have K1 : KeepsFrom W0.heap.size w6 (w6.setCell ⟨w.heap.size + 1 + 1, 0, none⟩ (.bool false)) := KeepsFrom.of_grownBy (grownBy_setCell' w6 (w.heap.size + 1 + 1) _) (fun j e => by cases e; omega)
          exact ⟨(keeps_below HB5.out).trans ⟨K1.size, K1.same⟩, .inr ⟨rfl, HNO.out⟩⟩
    case done =>
      rintro D ys W hD hS ⟨hp, hpN, hpE, hn9, hat, hB⟩ hK
      rw [hS, List.length_range] at hpE hn9
      obtain rfl : E = ((allD code).1.length : Int) := by omega
      have HR5 : Hid (Bk W (w.heap.size + 2) 4 #[.bool false]) := Lib.hid (HR4.out.below hB (by omega))
      have e5 : W.cell? ⟨w.heap.size + 1, 0, none⟩ = some (.int .i64 ((allD code).1.length : Int)) := (HE4.out.below hB (by omega)).cell 0
      have c9 : W.cell? ⟨L + 2, 0, none⟩ = some (.int .i64 ((allD code).1.length : Int)) := hn9.cell 0
      have f5 : W.frozen? ⟨w.heap.size + 2, 0, none⟩ = false := HR5.out.frozen 0
      have r5 : W.cell? ⟨w.heap.size + 2, 0, none⟩ = some (.bool false) := HR5.out.cell 0
      have HBF := Lib.hid (HB4.out.trans (hB.mono (by omega)))
      clear hp hpN hpE hn9 hat hB
      gi_wp2
      have hK2 : (W.setCell ⟨w.heap.size + 1 + 1, 0, none⟩ (.bool true)).heap[D]? = some (.deferred (some [])) := (KeepsOthers.setCell _ _ _).same D _ hK rfl
      refine ⟨by simp, .inl ⟨_, _, rfl, run_takeDeferred hK2, ?_⟩⟩
      exact ⟨_, run_bool_cell rfl _ _ _ true rfl (((HR5.out.set_ 0 (.bool true)).putObj _ hK2 rfl).cell 0), rfl, (HBF.out.setCell (p := ⟨w.heap.size + 1 + 1, 0, none⟩) (show w.heap.size ≤ w.heap.size + 1 + 1 from by omega) _).trans (belowK_b (w := W0) (by have := HB4.out.size; omega) _ D _ _ hD hK2 rfl rfl)⟩
    case stop =>
      rintro D cc pre W hD hSp h hK
      rcases h with ⟨rfl, hn9, hB⟩ | ⟨_, hno⟩
      · have HR5 : Hid (Bk W (w.heap.size + 2) 4 #[.bool false]) := Lib.hid (HR4.out.below hB (by omega))
        have e5 : W.cell? ⟨w.heap.size + 1, 0, none⟩ = some (.int .i64 E) := (HE4.out.below hB (by omega)).cell 0
        have c9 : W.cell? ⟨L + 2, 0, none⟩ = some (.int .i64 E) := hn9.cell 0
        have f5 : W.frozen? ⟨w.heap.size + 2, 0, none⟩ = false := HR5.out.frozen 0
        have r5 : W.cell? ⟨w.heap.size + 2, 0, none⟩ = some (.bool false) := HR5.out.cell 0
        have HBF := Lib.hid (HB4.out.trans (hB.mono (by omega)))
        clear hn9 hB
        gi_wp2
        have hK2 : (W.setCell ⟨w.heap.size + 1 + 1, 0, none⟩ (.bool true)).heap[D]? = some (.deferred (some [])) := (KeepsOthers.setCell _ _ _).same D _ hK rfl
        refine ⟨by simp, .inl ⟨_, _, rfl, run_takeDeferred hK2, ?_⟩⟩
        exact ⟨_, run_bool_cell rfl _ _ _ true rfl (((HR5.out.set_ 0 (.bool true)).putObj _ hK2 rfl).cell 0), rfl, (HBF.out.setCell (p := ⟨w.heap.size + 1 + 1, 0, none⟩) (show w.heap.size ≤ w.heap.size + 1 + 1 from by omega) _).trans (belowK_b (w := W0) (by have := HB4.out.size; omega) _ D _ _ hD hK2 rfl rfl)⟩
      · obtain ⟨k, _, hk⟩ := hSp
        exact (hno ⟨k, hk⟩).elim
end decodeEach
end Go.Proofs.YtankmamoaajocaaDoor
