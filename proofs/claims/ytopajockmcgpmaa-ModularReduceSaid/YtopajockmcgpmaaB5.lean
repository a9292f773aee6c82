/- mulAdd: a product of words, with what lies under it and what is carried; marks of ranges at a function's end. | Mul: the product of two naturals. -/
import Derived.Test.YtopajockmcgpmaaB2
namespace Go.Proofs.Ytopajockmcgpmaa
open Go Go.RowKit Go.Shelf
attribute [local go_sem] Oper.semAt_some
namespace Nt
open Wd Sti
set_option linter.unusedVariables false
def maL (x y u c : Int) : Int := (x * y + u + c) % 18446744073709551616
def maH (x y u c : Int) : Int := (x * y + u + c) / 18446744073709551616
theorem maL_W (x y u c : Int) : W (maL x y u c) := W_mod _
theorem maH_W {x y u c : Int} (hx : W x) (hy : W y) (hu : W u) (hc : W c) : W (maH x y u c) := by
  have := mul_le hx hy
  unfold W at hu hc
  unfold W maH; omega
theorem ma_eq (x y u c : Int) : maL x y u c + 18446744073709551616 * maH x y u c = x * y + u + c := by unfold maL maH; omega
theorem ma_parts {x y u c : Int} (hx : W x) (hy : W y) (hu : W u) (hc : W c) :
    Wd.add (Wd.add (mulL x y) u false) c false = maL x y u c ∧
    Wd.add (Wd.add (mulH x y) 0 (addO (mulL x y) u false)) 0 (addO (Wd.add (mulL x y) u false) c false) = maH x y u c := by
  have h0 := mul_le hx hy
  have e1 := add_eq (W_mulL x y) hu false
  have e2 := add_eq (W_add (mulL x y) u false) hc false
  have e := mul_eq x y
  have b1' := b1_01 (addO (mulL x y) u false)
  have b2' := b1_01 (addO (Wd.add (mulL x y) u false) c false)
  have w1 := W_add (Wd.add (mulL x y) u false) c false
  have eq1 : Wd.add (mulH x y) 0 (addO (mulL x y) u false) = (mulH x y + 0 + b1 (addO (mulL x y) u false)) % 18446744073709551616 := rfl
  have eq2 : Wd.add (Wd.add (mulH x y) 0 (addO (mulL x y) u false)) 0 (addO (Wd.add (mulL x y) u false) c false) = (Wd.add (mulH x y) 0 (addO (mulL x y) u false) + 0 + b1 (addO (Wd.add (mulL x y) u false) c false)) % 18446744073709551616 := rfl
  rw [eq2, eq1]
  unfold maL maH
  simp only [b1_f] at e1 e2
  unfold W at hu hc w1
  generalize Wd.add (Wd.add (mulL x y) u false) c false = s at *
  generalize Wd.add (mulL x y) u false = r at *
  generalize b1 (addO r c false) = d at *
  generalize b1 (addO (mulL x y) u false) = f at *
  generalize mulL x y = ml at *
  generalize mulH x y = mh at *
  generalize x * y = p at *
  omega
set_option maxHeartbeats 1000000 in
theorem mulAdd_c (x y u c : Int) (w : World) (hx : W x) (hy : W y) (hu : W u) (hc : W c) :
    Calls Try.prog 70 #[.int .u64 x, .int .u64 y, .int .u64 u, .int .u64 c] w fun e w' => e = .returned (.tuple #[.int .u64 (maL x y u c), .int .u64 (maH x y u c)]) ∧ w' = w := by
  obtain ⟨H1, H2⟩ := ma_parts hx hy hu hc
  have C1 := Lib.hid (mul_c x y w hx hy)
  have C2 := Lib.hid (add_c (mulL x y) u false w (W_mulL _ _) hu)
  have C3 := Lib.hid (add_c (mulH x y) 0 (addO (mulL x y) u false) w (W_mulH hx hy) W_zero)
  have C4 := Lib.hid (add_c (Wd.add (mulL x y) u false) c false w (W_add _ _ _) hc)
  have C5 := Lib.hid (add_c (Wd.add (mulH x y) 0 (addO (mulL x y) u false)) 0 (addO (Wd.add (mulL x y) u false) c false) w (W_add _ _ _) W_zero)
  rw [← H1, ← H2]
  clear H1 H2 hx hy hu hc
  go_enter Try.func70, Try.ntmps70
  go_wp2_with fail
  go_at_call 83
  refine C1.out.mono ?_; rintro e w' ⟨rfl, rfl⟩
  go_wp2_with fail
  go_at_call 63
  refine C2.out.mono ?_; rintro e w' ⟨rfl, rfl⟩
  go_wp2_with fail
  go_at_call 63
  refine C3.out.mono ?_; rintro e w' ⟨rfl, rfl⟩
  go_wp2_with fail
  go_at_call 63
  refine C4.out.mono ?_; rintro e w' ⟨rfl, rfl⟩
  go_wp2_with fail
  go_at_call 63
  refine C5.out.mono ?_; rintro e w' ⟨rfl, rfl⟩
  go_wp2_with fail
  go_ret2
  exact ⟨rfl, rfl⟩

/-! ### marks -/
def mark (D : Nat) : Deferred := { target := .collected D, args := #[] }
/-- the blocks of marks, the youngest first: each stands open -/
def Open (Ds : List Nat) (W : World) : Prop := Ds.Pairwise (fun a b => b < a) ∧ ∀ D ∈ Ds, W.heap[D]? = some (.deferred (some []))
theorem Open.nil (W : World) : Open [] W := ⟨List.Pairwise.nil, fun D h => by cases h⟩
theorem Open.lt {Ds : List Nat} {W : World} (h : Open Ds W) {D : Nat} (hD : D ∈ Ds) : D < W.heap.size := (Array.getElem?_eq_some_iff.1 (h.2 D hD)).1
theorem Open.cons {Ds : List Nat} {W : World} {D : Nat} (h : Open Ds W) (hD : ∀ d ∈ Ds, d < D) (hK : W.heap[D]? = some (.deferred (some []))) : Open (D :: Ds) W :=
  ⟨List.Pairwise.cons hD h.1, fun d hd => by
    rcases List.mem_cons.1 hd with rfl | hd
    · exact hK
    · exact h.2 d hd⟩
theorem Open.kept {Ds : List Nat} {W W' : World} (h : Open Ds W) (hk : ∀ k o, W.heap[k]? = some o → o.isCells = false → k ∈ Ds → W'.heap[k]? = some o) : Open Ds W' := ⟨h.1, fun D hD => hk D _ (h.2 D hD) rfl hD⟩
theorem Open.others {Ds : List Nat} {W W' : World} (h : Open Ds W) (hk : KeepsOthers W W') : Open Ds W' := h.kept fun k o ho hc _ => hk.same k o ho hc
theorem leaves_open {F : Fence} {n : Nat} {P : Program} {fn : Func} {tmps : Array Value} {R : Ending → World → Prop} (B : Nat) : ∀ (Ds : List Nat) (W : World), Open Ds W → (∀ D ∈ Ds, B ≤ D) →
    (∀ W', (∀ k t cs, Bk W k t cs → Bk W' k t cs) → Below B W W' → ∃ v, (results fn tmps).run P W' = .ok v W' ∧ R (.returned v) W') → LeavesInM F n P fn tmps R (Ds.map mark) .returning W := by
  intro Ds
  induction Ds with
  | nil =>
    intro W _ _ h
    obtain ⟨v, h1, h2⟩ := h W (fun _ _ _ h => h) (Below.refl _ _)
    exact ⟨v, h1, h2⟩
  | cons D Ds ih =>
    intro W ho hB h
    have hK := ho.2 D (List.mem_cons_self ..)
    refine ⟨by simp, .inl ⟨D, _, rfl, run_takeDeferred hK, ?_⟩⟩
    refine ih _ ⟨(List.pairwise_cons.1 ho.1).2, fun d hd => ?_⟩ (fun d hd => hB d (List.mem_cons_of_mem _ hd)) (fun W' hk hb => ?_)
    · have hlt := (List.pairwise_cons.1 ho.1).1 d hd
      exact (World.putObj_heap_other (by omega)).trans (ho.2 d (List.mem_cons_of_mem _ hd))
    · refine h W' (fun k t cs hc => hk k t cs (hc.putObj _ hK rfl)) ?_
      exact (below_putObj (Below.refl B W) (by have := ho.lt (List.mem_cons_self ..); have := hB D (List.mem_cons_self ..); omega) (hB D (List.mem_cons_self ..)) _).trans hb
end Nt
end Go.Proofs.Ytopajockmcgpmaa
namespace Go.Proofs.Ytopajockmcgpmaa
open Go Go.RowKit Go.Shelf
attribute [local go_sem] Oper.semAt_some
namespace Nt
open Wd Sti
set_option linter.unusedVariables false
/-- within a round of the outer loop: k limbs of b have been gone through -/
structure MulI (w : World) (g h m : Nat) (B : Option Addr) (lb cb i cu : Nat) (x : Int) (os ys : List Int) (Ds : List Nat) (k : Nat) (W : World) : Prop where
  sum : ∃ os' c, Bk W g 29 (us os') ∧ os'.length = m ∧ Ws os' ∧ Bk W (h + 2) 29 #[.int .u64 c] ∧ Wd.W c ∧ V os' + P (i + k) * c = V os + P i * (x * lo ys k) ∧ (∀ j, i + k ≤ j → Nt.at_ os' j = Nt.at_ os j)
  bx : Bk W h 29 #[.int .u64 x]
  un : Bk W (h + 1) 24 #[.slice (some ⟨g, i, none⟩) lb cu]
  ba : Bk W (h + 3) 23 #[.slice B lb cb]
  bb : Bk W (h + 4) 23 #[.slice (some ⟨g, i, none⟩) lb cu]
  be : Below g w W
  op : Open Ds W
theorem MulI.own {w : World} {g h m lb cb i cu C : Nat} {B : Option Addr} {x : Int} {os ys : List Int} {Ds : List Nat} (hg0 : g ≤ w.heap.size) (hC : g ≤ C) (hD : ∀ D ∈ Ds, D < C) : OwnFrom C (MulI w g h m B lb cb i cu x os ys Ds) := by
  intro k W W' row hh hg hr
  have hr' : ∀ r, row = some r → ∃ o : Obj, W.heap[r]? = some o ∧ o.isCells = false := fun r e => (hr r e).2
  obtain ⟨⟨os', c, h1, h2, h3, h4, h5, h6, h7⟩, h8, h9, h10, h11, h12, h13⟩ := hh
  exact ⟨⟨os', c, h1.grown hg hr', h2, h3, h4.grown hg hr', h5, h6, h7⟩, h8.grown hg hr', h9.grown hg hr', h10.grown hg hr', h11.grown hg hr', h12.grown hg (Nat.le_trans hg0 h12.size) (fun r e => Nat.le_trans hC (hr r e).1),
    h13.kept (fun k o ho _ hk => (hg.block k (Array.getElem?_eq_some_iff.1 ho).1 (fun e => by have := (hr k e.symm).1; have := hD k hk; omega)).trans ho)⟩
theorem mul_step {os os' ys : List Int} {i k : Nat} {x c : Int} (hk : i + k < os'.length) (he : Nt.at_ os' (i + k) = Nt.at_ os (i + k)) (h : V os' + P (i + k) * c = V os + P i * (x * lo ys k)) :
    V (os'.set (i + k) (maL x (Nt.at_ ys k) (Nt.at_ os (i + k)) c)) + P (i + (k + 1)) * maH x (Nt.at_ ys k) (Nt.at_ os (i + k)) c = V os + P i * (x * lo ys (k + 1)) := by
  have e := ma_eq x (Nt.at_ ys k) (Nt.at_ os (i + k)) c
  rw [V_set _ _ _ hk, he, lo_succ, show i + (k + 1) = (i + k) + 1 by omega, P_succ]
  generalize maL x (Nt.at_ ys k) (Nt.at_ os (i + k)) c = s at *
  generalize maH x (Nt.at_ ys k) (Nt.at_ os (i + k)) c = d at *
  generalize Nt.at_ os (i + k) = u at *
  generalize Nt.at_ ys k = y at *
  have e2 : P (i + k) * (s - u) + 18446744073709551616 * P (i + k) * d = P (i + k) * (s + 18446744073709551616 * d - u) := by
    rw [Int.mul_sub, Int.mul_sub, Int.mul_add, Int.mul_comm 18446744073709551616 (P (i + k)), Int.mul_assoc]; omega
  have e3 : P i * (x * (lo ys k + P k * y)) = P i * (x * lo ys k) + P (i + k) * (x * y) := by
    rw [P_add, Int.mul_add, Int.mul_add, Int.mul_assoc (P i) (P k), Int.mul_left_comm x (P k) y]
  rw [e3, Int.add_assoc, e2, e]
  have e4 : P (i + k) * (x * y + u + c - u) = P (i + k) * (x * y) + P (i + k) * c := by
    rw [show x * y + u + c - u = x * y + c by omega, Int.mul_add]
  rw [e4]; omega

set_option maxRecDepth 100000 in
set_option maxHeartbeats 8000000 in
theorem mul_n (A B : Option Addr) (na ca nb cb : Nat) (xs ys : List Int) (w : World) (ha : Rd w w.heap.size A na xs) (hb : Rd w w.heap.size B nb ys) (la : na ≤ ca ∧ na ≤ 1073741824) (la' : ca ≤ 9223372036854775807) (lb : nb ≤ cb ∧ nb ≤ 1073741824) (lb' : cb ≤ 9223372036854775807) :
    Calls Try.prog 47 #[.slice A na ca, .slice B nb cb] w fun e w' => ∃ v, e = .returned v ∧ Ans w w' v (V xs * V ys) (na + nb) := by
  obtain ⟨la, lan⟩ := la
  obtain ⟨lb, lbn⟩ := lb
  have hF : Wide Fence.wide Try.prog := wide _
  have HT1 := Lib.hid (trimmed_c A na ca w.heap.size xs w ha la (by omega))
  have HT2 := Lib.hid (trimmed_c B nb cb w.heap.size ys w hb lb (by omega))
  have hza := ha.trim
  have hzb := hb.trim
  have hla : (trim xs).length ≤ na := by have := trim_le xs; have := ha.len; omega
  have hlb : (trim ys).length ≤ nb := by have := trim_le ys; have := hb.len; omega
  rw [← V_trim xs, ← V_trim ys]
  clear ha hb
  generalize trim xs = za at *
  generalize trim ys = zb at *
  obtain ⟨p, hp⟩ : ∃ p, za.length = p := ⟨_, rfl⟩
  obtain ⟨q, hq⟩ : ∃ q, zb.length = q := ⟨_, rfl⟩
  rw [hp] at hza HT1 hla
  rw [hq] at hzb HT2 hlb
  have HP := Lib.hid hp
  have HQ := Lib.hid hq
  clear hp hq
  have hmk := fun W => make_nat (p + q) (by omega) W
  simp only [Int.natCast_add] at hmk
  refine callsIn_wide (n := 3).1 (callsIn_of_wp_marks Try.func47 rfl trivial ?_ rfl)
  simp only [Try.ntmps47, List.size_toArray, List.length_cons, List.length_nil, Nat.reduceAdd, Nat.reduceSub, Array.replicate_succ, Array.replicate_zero, List.push_toArray, List.append_toArray, List.nil_append, List.cons_append]
  gi_wp2
  refine ⟨trivial, ?_⟩
  gi_at_call 64
  refine (callsIn_wide.2 HT1.out).mono ?_
  rintro e w' ⟨rfl, rfl⟩
  gi_wp2
  refine ⟨trivial, ?_⟩
  gi_at_call 64
  refine (callsIn_wide.2 HT2.out).mono ?_
  rintro e w' ⟨rfl, rfl⟩
  gi_wp2
  obtain ⟨w, rfl⟩ : ∃ w, w = w' := ⟨_, rfl⟩
  refine wpIn_loop (fun a' W => ∃ (u6 u7 u8 u9 u10 u11 u25 u26 u27 u28 u29 u30 u31 u32 u33 u34 u35 u36 u37 u38 u39 u40 u41 u42 u43 u44 u45 u46 u47 u48 u49 u50 u51 u52 u53 u54 u55 u56 u57 u58 u59 u60 u61 u62 u63 : Value) (i : Nat) (Ds : List Nat) (os : List Int), a' = { tmps := #[.slice A p ca, .slice B q cb, undef, undef, .slice none 0 0, .slice (some ⟨w.heap.size, 0, none⟩) (p + q) (p + q), u6, u7, u8, u9, u10, u11, .slice A na ca, .slice A p ca, .slice B nb cb, .slice B q cb, .slice A p ca, .int .i64 p, .slice B q cb, .int .i64 q, .int .i64 ((p : Int) + q), .slice (some ⟨w.heap.size, 0, none⟩) (p + q) (p + q), .slice A p ca, .int .i64 p, .int .i64 i, u25, u26, u27, u28, u29, u30, u31, u32, u33, u34, u35, u36, u37, u38, u39, u40, u41, u42, u43, u44, u45, u46, u47, u48, u49, u50, u51, u52, u53, u54, u55, u56, u57, u58, u59, u60, u61, u62, u63], defers := Ds.map mark } ∧
    i ≤ p ∧ Bk W w.heap.size 29 (us os) ∧ os.length = p + q ∧ Ws os ∧ V os = lo za i * V zb ∧ (∀ j, i + q ≤ j → Nt.at_ os j = 0) ∧ Below w.heap.size w W ∧ Open Ds W ∧ (∀ D ∈ Ds, w.heap.size ≤ D))
    (fun a' _ => p - (intOf (a'.tmps.getD 24 undef)).toNat) ?start ?round
  case start =>
    refine ⟨_, _, _, _, _, _, _, _, _, _, _, _, _, _, _, _, _, _, _, _, _, _, _, _, _, _, _, _, _, _, _, _, _, _, _, _, _, _, _, _, _, _, _, _, _, 0, [], List.replicate (p + q) 0, rfl, Nat.zero_le _, Bk.new _ _ _, by simp, Ws.zeros _, ?_, fun j _ => ?_, (Below.refl _ w).alloc (Nat.le_refl _) _, Open.nil _, fun D h => by cases h⟩
    · rw [V_zeros, lo_zero, Int.zero_mul]
    · unfold Nt.at_
      rw [List.getElem?_replicate]
      split <;> rfl
  case round =>
    rintro a' W ⟨u6, u7, u8, u9, u10, u11, u25, u26, u27, u28, u29, u30, u31, u32, u33, u34, u35, u36, u37, u38, u39, u40, u41, u42, u43, u44, u45, u46, u47, u48, u49, u50, u51, u52, u53, u54, u55, u56, u57, u58, u59, u60, u61, u62, u63, i, Ds, os, rfl, hi, h1, h2, h3, h4, h5, h6, h7, h8⟩
    by_cases hlt : i < p
    · obtain ⟨ad, rfl, hbk, hcell⟩ := (hza.below h6).at_ hlt
      have hzbW := hzb.below h6
      have H2 := Lib.hid h2
      have hl2 : os.length ≤ 2147483648 := by omega
      have hgW := h1.lt
      have HW : ∃ x, Nt.at_ za i = x ∧ Wd.W x := ⟨_, rfl, hza.ws.at_ i⟩
      obtain ⟨x, hx, hxw⟩ := HW
      rw [hx] at hcell
      have HX := Lib.hid hx
      clear hx h2
      gi_wp2_with (refine ⟨trivial, ?_⟩; gi_at_call 62; refine (pairs_c hF rfl B (some ⟨w.heap.size, i, none⟩) q cb q (p + q - i) _).mono ?_; rintro e w'' ⟨rfl, rfl⟩)
      refine wpIn_rangeB rfl (fun h => by cases h) (gf := 78) (lb := _) rfl trivial (enters_of Try.func78 (by kernel_rfl) rfl)
        (pairs_gives (n := 2) hF rfl (W.heap.size + 3) (W.heap.size + 4) B (some ⟨w.heap.size, i, none⟩) q cb q (p + q - i) q (by omega) (by omega) (by omega) (Nt.at_ zb) (fun k => Nt.at_ os (i + k))) (fun _ => rfl)
        (MulI w w.heap.size W.heap.size (p + q) B q cb i (p + q - i) x os zb Ds) (fun _ _ => False) (MulI.own (Nat.le_refl _) (by simp; omega) (fun D hD => by have := h7.lt hD; simp; omega)) (fun _ _ _ _ h _ _ => h)
        ?rdy ?start2 (fun k b W' => W.heap.size + 4 < b ∧ Bk W' b 69 #[.int .u64 (Nt.at_ zb k), .int .u64 (Nt.at_ os (i + k))]) ?ax
        (fun k b T => (((T.setIfInBounds 39 (.int .i64 (k : Int))).setIfInBounds 40 (.agg #[.int .u64 (Nt.at_ zb k), .int .u64 (Nt.at_ os (i + k))])).setIfInBounds 10 (.int .i64 (k : Int))).setIfInBounds 11 (.pointer (some ⟨b, 0, none⟩))) ?assign ?body ?done ?stop
      case rdy =>
        intro k W' hI
        refine ⟨hI.ba.cell 0, hI.bb.cell 0, fun hk => ⟨(hzb.below hI.be).lat k, ?_⟩⟩
        obtain ⟨os', c, g1, g2, g3, g4, g5, g6, g7⟩ := hI.sum
        have h2 := H2.out
        refine ⟨fun hk' => ⟨_, rfl, ?_⟩, fun hk' => absurd hk (by omega)⟩
        have e : (Addr.add ⟨w.heap.size, i, none⟩ k) = ⟨w.heap.size, i + k, none⟩ := by unfold Addr.add; split <;> simp_all
        rw [e, g1.cell, us_get (by omega), g7 _ (Nat.le_refl _)]
      case start2 =>
        have h2 := H2.out
        refine ⟨⟨os, 0, ((((h1.alloc _).alloc _).alloc _).alloc _).alloc _, h2, h3, ((Bk.new' (by simp)).alloc _).alloc _, W_zero, ?_, fun j _ => rfl⟩,
          ((((Bk.new' rfl).alloc _).alloc _).alloc _).alloc _, (((Bk.new' (by simp)).alloc _).alloc _).alloc _, (Bk.new' (by simp)).alloc _, Bk.new' (by simp),
          (((((h6.alloc h6.size _).alloc (by simp; have := h6.size; omega) _).alloc (by simp; have := h6.size; omega) _).alloc (by simp; have := h6.size; omega) _).alloc (by simp; have := h6.size; omega) _), ?_⟩
        · rw [lo_zero, Int.mul_zero, Int.mul_zero, Int.mul_zero]
        · exact ((((h7.others (KeepsOthers.alloc _ _)).others (KeepsOthers.alloc _ _)).others (KeepsOthers.alloc _ _)).others (KeepsOthers.alloc _ _)).others (KeepsOthers.alloc _ _)
      case ax => exact fun k b => fun _ W W' row h hg hr => ⟨h.1, h.2.grown hg (fun r e => (hr r e).2)⟩
      case assign =>
        intro l k W' K hI hK
        have hlt' := hI.bb.lt
        have hDl := fun D (hD : D ∈ Ds) => hI.op.lt hD
        gi_wp2
        exact hK W'.heap.size _ ((KeepsOthers.alloc _ _).from _) ((MulI.own (Nat.le_refl _) (by have := hI.be.size; exact this) hDl).alloc _ hI) ⟨hlt', Bk.new W' _ _⟩
      case body =>
        rintro l k b W' hl hI ⟨hb1, hb2⟩ hk
        obtain ⟨⟨os', c', g1, g2, g3, g4, g5, g6, g7⟩, g8, g9, g10, g11, g12, g13⟩ := hI
        have hko : i + k < os'.length := by omega
        have e7 := g7 _ (Nat.le_refl (i + k))
        have hxw' := hxw
        have hosw := h3.at_ (i + k)
        have c1 : W'.drew.cell? ⟨W.heap.size + 1, 0, none⟩ = some (.slice (some ⟨w.heap.size, i, none⟩) q (p + q - i)) := g9.cell 0
        have c0 : W'.drew.cell? ⟨W.heap.size, 0, none⟩ = some (.int .u64 x) := g8.cell 0
        have c2 : W'.drew.cell? ⟨W.heap.size + 1 + 1, 0, none⟩ = some (.int .u64 c') := g4.cell 0
        have f2 : W'.drew.frozen? ⟨W.heap.size + 1 + 1, 0, none⟩ = false := g4.frozen 0
        have c3 : W'.drew.cell? ⟨b, 0, none⟩ = some (.int .u64 (Nt.at_ zb k)) := hb2.cell 0
        have c4 : W'.drew.cell? ⟨b, 1, none⟩ = some (.int .u64 (Nt.at_ os (i + k))) := hb2.cell 1
        have c5 : W'.drew.cell? ⟨w.heap.size, i + k, none⟩ = some (.int .u64 (Nt.at_ os' (i + k))) := (g1.cell _).trans (us_get hko)
        have f5 : W'.drew.frozen? ⟨w.heap.size, i + k, none⟩ = false := g1.frozen _
        have hki : (k : Int) < (q : Int) := by omega
        have cad := mulAdd_c x (Nt.at_ zb k) (Nt.at_ os (i + k)) c' W'.drew hxw (hzb.ws.at_ k) hosw g5
        have E7 := Lib.hid e7
        have hms := mul_step hko e7 g6
        have HMS := Lib.hid hms
        clear e7 hms
        simp only [List.setIfInBounds_toArray]
        gi_wp2
        refine wpIn_region_holdR hF rfl l 13 13 11 (by kernel_rfl) (by kernel_rfl) (by kernel_rfl) ?_
        simp only [hold, behind, List.push_toArray, List.cons_append, List.nil_append, List.take_succ_cons, List.take_zero, List.drop_succ_cons, List.drop_zero]
        iterate 8 still_step
        still_call cad
        iterate 4 still_step
        refine wpStill_nil ?_
        have c2' : W'.cell? ⟨W.heap.size + 1 + 1, 0, none⟩ = some (.int .u64 c') := c2
        have f2' : W'.frozen? ⟨W.heap.size + 1 + 1, 0, none⟩ = false := f2
        have c5' : W'.cell? ⟨w.heap.size, i + k, none⟩ = some (.int .u64 (Nt.at_ os' (i + k))) := c5
        have f5' : W'.frozen? ⟨w.heap.size, i + k, none⟩ = false := f5
        have c2'' : (W'.setCell ⟨w.heap.size, i + k, none⟩ (.int .u64 (maL x (Nt.at_ zb k) (Nt.at_ os (i + k)) c'))).cell? ⟨W.heap.size + 1 + 1, 0, none⟩ = some (.int .u64 c') := by
          rw [World.cell?_setCell_other _ _ _ _ (fun e => by have := congrArg Addr.block e; simp at this; omega)]; exact c2
        clear cad c1 c2 c3 c4 f2 c5 f5 c0
        gi_wp2
        refine ⟨(((KeepsOthers.setCell _ _ _).trans (KeepsOthers.setCell _ _ _)).trans (KeepsOthers.drew _)).from _, ⟨os'.set (i + k) (maL x (Nt.at_ zb k) (Nt.at_ os (i + k)) c'), maH x (Nt.at_ zb k) (Nt.at_ os (i + k)) c', ?_, by simpa using g2, g3.set _ (maL_W _ _ _ _), ?_, maH_W hxw' (hzb.ws.at_ k) hosw g5, HMS.out, fun j hj => ?_⟩, ?_, ?_, ?_, ?_, ?_, ?_⟩
        · have := g1.set_ (i + k) (.int .u64 (maL x (Nt.at_ zb k) (Nt.at_ os (i + k)) c'))
          rw [us_set] at this
          exact (this.far (by simp; omega) _).drew
        · exact ((g4.far (by simp; omega) _).set_ 0 _).drew
        · rw [at_set _ _ _ _ hko, if_neg (by omega)]; exact g7 j (by omega)
        · exact ((g8.far (by simp; omega) _).far (by simp <;> omega) _).drew
        · exact ((g9.far (by simp; omega) _).far (by simp) _).drew
        · exact ((g10.far (by simp; omega) _).far (by simp) _).drew
        · exact ((g11.far (by simp; omega) _).far (by simp) _).drew
        · exact ((g12.setCell (Nat.le_refl _) _).setCell (by simp; omega) _).drew
        · exact g13.others (((KeepsOthers.setCell _ _ _).trans (KeepsOthers.setCell _ _ _)).trans (KeepsOthers.drew _))
      case done =>
        rintro D W' hD hI hK
        obtain ⟨⟨os', c', g1, g2, g3, g4, g5, g6, g7⟩, g8, g9, g10, g11, g12, g13⟩ := hI
        have hDs : W.heap.size + 5 ≤ D := by simpa using hD
        have hko : i + q < os'.length := by omega
        have c2 : W'.cell? ⟨W.heap.size + 1 + 1, 0, none⟩ = some (.int .u64 c') := g4.cell 0
        have c5 : W'.cell? ⟨w.heap.size, i + q, none⟩ = some (.int .u64 (Nt.at_ os' (i + q))) := (g1.cell _).trans (us_get hko)
        have f5 : W'.frozen? ⟨w.heap.size, i + q, none⟩ = false := g1.frozen _
        have hv : V (os'.set (i + q) c') = lo za (i + 1) * V zb := by
          rw [V_set _ _ _ hko, g7 _ (Nat.le_refl _), h5 _ (Nat.le_refl _), Int.sub_zero, g6, lo_all (xs := zb) (by have := HQ.out; omega), h4, lo_succ, HX.out, Int.add_mul, Int.mul_assoc]
        have HV := Lib.hid hv
        clear hv
        gi_wp2
        refine ⟨⟨_, _, _, _, _, _, _, _, _, _, _, _, _, _, _, _, _, _, _, _, _, _, _, _, _, _, _, _, _, _, _, _, _, _, _, _, _, _, _, _, _, _, _, _, _, i + 1, D :: Ds, os'.set (i + q) c', rfl, by omega, ?_, by simpa using g2, g3.set _ g5, HV.out, fun j hj => ?_, g12.setCell (Nat.le_refl _) _, ?_, ?_⟩, ?_⟩
        · have := g1.set_ (i + q) (.int .u64 c')
          rwa [us_set] at this
        · rw [at_set _ _ _ _ hko, if_neg (by omega), g7 j (by omega)]; exact h5 j (by omega)
        · exact (g13.others (KeepsOthers.setCell _ _ _)).cons (fun d hd => by have := h7.lt hd; omega) ((KeepsOthers.setCell _ _ _).same D _ hK rfl)
        · intro d hd
          rcases List.mem_cons.1 hd with rfl | hd
          · have := h6.size; omega
          · exact h8 d hd
        · simp [intOf]; omega
      case stop =>
        rintro D c W hD h _
        exact h.elim
    · obtain rfl : i = p := by omega
      have ht := trimmed_c (some ⟨w.heap.size, 0, none⟩) (i + q) (i + q) W.heap.size os W (h1.rd0 h1.lt h3 h2) (Nat.le_refl _) (by omega)
      have HT := Lib.hid ht
      have H2 := Lib.hid h2
      clear ht h2
      gi_wp2_with (refine ⟨trivial, ?_⟩; gi_at_call 64; refine (callsIn_wide.2 HT.out).mono ?_; rintro e w'' ⟨rfl, rfl⟩)
      refine leaves_open w.heap.size Ds _ h7 h8 (fun W' hk hbw => ⟨_, results_tmp rfl _ _ _, _, rfl, ?_⟩)
      have hv : V os = V za * V zb := by rw [h4, lo_all (by have := HP.out; omega)]
      have := ans_trim (w := w) (m := na + nb) (hk _ _ _ h1) h3 hv (by have := trim_le os; have := H2.out; omega) (h6.trans hbw)
      rw [H2.out] at this
      exact this
end Nt
end Go.Proofs.Ytopajockmcgpmaa
