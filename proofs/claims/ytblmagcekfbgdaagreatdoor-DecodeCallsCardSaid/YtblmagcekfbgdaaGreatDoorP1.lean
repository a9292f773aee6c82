/- The landed package encode: low, fromR8, rex; bytes of one's own, put behind others; no table in it. | The landed package encode: bytes put behind others, a number's bytes, a register's. | The landed package encode: a number's bytes, a register's. | The landed package encode: what its tables hold; a scale's bit. -/
import Derived.Test.YtblmagcekfbgdaaGreatDoorK1
import Derived.Test.YtblmagcekfbgdaaGreatDoorB1
import Derived.Test.YtblmagcekfbgdaaGreatDoorJ4
namespace Go.Proofs.YtblmagcekfbgdaaGreatDoor
open Go Go.RowKit Go.Sort
namespace Is
open Nt
set_option linter.unusedVariables false
set_option linter.unusedSimpArgs false
theorem low_l (r : Int) (h : R16 r) (w : World) : Calls Tryz.prog 85 #[.int .i64 r] w fun e w' => e = .returned (.int .u8 (r % 8)) ∧ w' = w := by
  obtain ⟨h1, h2⟩ := h
  rcases (show r = 0 ∨ r = 1 ∨ r = 2 ∨ r = 3 ∨ r = 4 ∨ r = 5 ∨ r = 6 ∨ r = 7 ∨ r = 8 ∨ r = 9 ∨ r = 10 ∨ r = 11 ∨ r = 12 ∨ r = 13 ∨ r = 14 ∨ r = 15 by omega) with rfl | rfl | rfl | rfl | rfl | rfl | rfl | rfl | rfl | rfl | rfl | rfl | rfl | rfl | rfl | rfl
  all_goals
    clear h1 h2
    go_enter Tryz.func85, Tryz.ntmps85
    go_wp2_with fail
    go_ret
    exact ⟨rfl, rfl⟩
theorem from_l (r : Int) (h : Rx r) (w : World) : Calls Tryz.prog 89 #[.int .i64 r] w fun e w' => e = .returned (.int .u8 (hiR r)) ∧ w' = w := by
  obtain ⟨h1, h2⟩ := h
  rcases (show r = -1 ∨ r = 0 ∨ r = 1 ∨ r = 2 ∨ r = 3 ∨ r = 4 ∨ r = 5 ∨ r = 6 ∨ r = 7 ∨ r = 8 ∨ r = 9 ∨ r = 10 ∨ r = 11 ∨ r = 12 ∨ r = 13 ∨ r = 14 ∨ r = 15 by omega) with rfl | rfl | rfl | rfl | rfl | rfl | rfl | rfl | rfl | rfl | rfl | rfl | rfl | rfl | rfl | rfl | rfl
  all_goals
    clear h1 h2
    go_enter Tryz.func89, Tryz.ntmps89
    go_wp2_with fail
    go_ret
    exact ⟨rfl, rfl⟩
set_option maxRecDepth 100000 in
set_option maxHeartbeats 1000000 in
theorem rex_l (m x l : Int) (hm : Rx m) (hx : Rx x) (hl : Rx l) (w : World) : Calls Tryz.prog 83 #[.int .i64 m, .int .i64 x, .int .i64 l] w fun e w' => e = .returned (.int .u8 (rexI m x l)) ∧ w' = w := by
  obtain ⟨a1, a2⟩ := hi_b hm.1 hm.2
  obtain ⟨b1, b2⟩ := hi_b hx.1 hx.2
  obtain ⟨c1, c2⟩ := hi_b hl.1 hl.2
  have HM := Lib.hid (fun W => from_l m hm W)
  have HX := Lib.hid (fun W => from_l x hx W)
  have HL := Lib.hid (fun W => from_l l hl W)
  have HE : Hid (rexI m x l = 72 + 4 * hiR m + 2 * hiR x + hiR l) := Lib.hid rfl
  clear hm hx hl
  generalize rexI m x l = z at *
  generalize hiR m = p at *
  generalize hiR x = q at *
  generalize hiR l = s at *
  go_enter Tryz.func83, Tryz.ntmps83
  go_wp2_with fail
  go_at_call 89
  refine (HM.out _).mono ?_
  rintro e w' ⟨rfl, rfl⟩
  go_wp2_with fail
  go_at_call 89
  refine (HX.out _).mono ?_
  rintro e w' ⟨rfl, rfl⟩
  go_wp2_with fail
  go_at_call 89
  refine (HL.out _).mono ?_
  rintro e w' ⟨rfl, rfl⟩
  go_wp2_with fail
  go_ret
  refine ⟨?_, rfl⟩
  rw [HE.out]
  rcases (show p = 0 ∨ p = 1 by omega) with rfl | rfl <;> rcases (show q = 0 ∨ q = 1 by omega) with rfl | rfl <;> rcases (show s = 0 ∨ s = 1 by omega) with rfl | rfl <;> rfl
end Is
end Go.Proofs.YtblmagcekfbgdaaGreatDoor
namespace Go.Proofs.YtblmagcekfbgdaaGreatDoor
open Go Go.RowKit Go.Sort
namespace Is
open Nt
set_option linter.unusedVariables false
set_option linter.unusedSimpArgs false
/-- from w on nothing that was there has turned but v's own block; what v has become has that block, or a new one -/
structure Kp (w : World) (v : Value) (w' : World) (v' : Value) : Prop where
  grown : w.grownBy w' v.ownBlock
  own : v'.ownBlock = v.ownBlock ∨ ∃ g, v'.ownBlock = some g ∧ w.heap.size ≤ g
theorem Kp.refl (w : World) (v : Value) : Kp w v w v := ⟨World.grownBy.refl w _, .inl rfl⟩
theorem Kp.alloc {w w' : World} {v v' : Value} (h : Kp w v w' v') (o : Obj) : Kp w v (w'.alloc o) v' := by
  refine ⟨⟨h.grown.os, h.grown.tape, h.grown.output, Nat.le_trans h.grown.size (by simp), fun k hk hne => ?_⟩, h.own⟩
  rw [Below.heap_alloc _ _ _ (Nat.lt_of_lt_of_le hk h.grown.size)]
  exact h.grown.block k hk hne
theorem Kp.drew {w w' : World} {v v' : Value} (h : Kp w v w' v') : Kp w v w'.drew v' := ⟨⟨h.grown.os, h.grown.tape, h.grown.output, h.grown.size, h.grown.block⟩, h.own⟩
theorem Kp.trans {w w1 w2 : World} {v v1 v2 : Value} (h : Kp w v w1 v1) (k : Kp w1 v1 w2 v2) : Kp w v w2 v2 := by
  refine ⟨⟨k.grown.os.trans h.grown.os, k.grown.tape.trans h.grown.tape, k.grown.output.trans h.grown.output, Nat.le_trans h.grown.size k.grown.size, fun j hj hne => ?_⟩, ?_⟩
  · refine (k.grown.block j (Nat.lt_of_lt_of_le hj h.grown.size) ?_).trans (h.grown.block j hj hne)
    rcases h.own with e | ⟨g, e, hg⟩
    · rw [e]; exact hne
    · rw [e]; intro e2; cases e2; omega
  · rcases k.own with e | ⟨g, e, hg⟩
    · rcases h.own with e2 | ⟨g, e2, hg⟩
      · exact .inl (e.trans e2)
      · exact .inr ⟨g, e.trans e2, hg⟩
    · exact .inr ⟨g, e, Nat.le_trans h.grown.size hg⟩
theorem Kp.below {B : Nat} {w w' : World} {v v' : Value} (h : Kp w v w' v') (hB : B ≤ w.heap.size) (hv : ∀ g, v.ownBlock = some g → B ≤ g) : Below B w w' :=
  (Below.refl B w).grown h.grown hB hv
theorem Kp.bk {w w' : World} {v v' : Value} {g : Nat} {t : TypeId} {cs : Array Value} (h : Kp w v w' v') (hb : Bk w g t cs) (hne : some g ≠ v.ownBlock) : Bk w' g t cs := (h.grown.block g hb.lt hne).trans hb
/-- bytes of one's own -/
abbrev Rw (B : Nat) (v : Value) (xs : List Int) (w : World) : Prop := w.ownsRow B 5 1 v xs.length (bv xs)
/-- what a function that puts bytes leaves -/
def OutF (B : Nat) (v : Value) (zs : List Int) (w : World) (e : Ending) (w' : World) : Prop := ∃ v', e = .returned v' ∧ Rw B v' zs w' ∧ Kp w v w' v'
theorem own_lt {B : Nat} {v : Value} {xs : List Int} {w : World} (h : Rw B v xs w) : ∀ g, v.ownBlock = some g → B ≤ g ∧ g < w.heap.size := h.lt
theorem run_append_mixed (ty : TypeId) (A A' : Option Addr) (n c n' c' : Nat) (w : World) : (Builtin.append_ #[65, 63] ty #[.slice A n c, .slice A' n' c']).run Tryz.prog w = (Builtin.append_ #[65, 65] ty #[.slice A n c, .slice A' n' c']).run Tryz.prog w := by
  simp [Builtin.append_, run_underlying Tryz.underlying63, run_underlying Tryz.underlying65]
theorem slice_of {B : Nat} {v : Value} {xs : List Int} {w : World} (h : Rw B v xs w) : ∃ A c, v = .slice A xs.length c := by
  rcases h.2 with ⟨e, h0⟩ | ⟨g, cap, cur, e, _⟩
  · exact ⟨none, 0, by rw [e, h0]⟩
  · exact ⟨_, _, e⟩
/-- bytes put behind bytes of one's own -/
theorem own_put {w : World} {B B' : Nat} {v src : Value} {xs ys : List Int} (ty : TypeId) (ho : Rw B v xs w) (hs : Rw B' src ys w) (hk : xs.length + ys.length ≤ 1048576) (hB : B ≤ w.heap.size) :
    ∃ v' w', (Builtin.append_ #[65, 63] ty #[v, src]).run Tryz.prog w = .ok v' w' ∧ Rw B v' (xs ++ ys) w' ∧ Kp w v w' v' := by
  obtain ⟨i, hi, hz, h1, h2⟩ := info_parts info_u8
  have hmix : ∃ A n c A' n' c', v = .slice A n c ∧ src = .slice A' n' c' := by
    obtain ⟨A, c, e⟩ := slice_of ho
    obtain ⟨A', c', e'⟩ := slice_of hs
    exact ⟨_, _, _, _, _, _, e, e'⟩
  have hmx : (Builtin.append_ #[65, 63] ty #[v, src]).run Tryz.prog w = (Builtin.append_ #[65, 65] ty #[v, src]).run Tryz.prog w := by
    obtain ⟨A, n, c, A', n', c', rfl, rfl⟩ := hmix
    exact run_append_mixed _ _ _ _ _ _ _ _
  rw [hmx]
  clear hmix hmx
  rcases hs.2 with ⟨rfl, h0⟩ | ⟨g, cap, cur, rfl, hb, r⟩
  · obtain rfl : ys = [] := List.eq_nil_of_length_eq_zero h0
    rw [List.append_nil]
    exact ⟨v, w, run_append_nil _ ty 5 i Tryz.underlying65 hi _ _ _ _ _ ho 0, ho, Kp.refl w v⟩
  · obtain ⟨v', w', hrun, h3, h4, h5, h6⟩ := run_append_own_at (P := Tryz.prog) w B 65 ty 5 i (.int .u8 0) 1 1 Tryz.underlying65 hi hz h1 h2 rfl (by omega) _ _ _ ho ⟨g, 0, none⟩ ys.length cap (bv ys) (by unfold bv; rw [List.length_map, Nat.mul_one])
      (fun j u hu => World.ownsRow.cells hs (g := g) rfl j u hu)
      (fun u hu => by unfold bv at hu; obtain ⟨x, _, rfl⟩ := List.mem_map.1 hu; simp [Value.oneCell']) (by simp only [maxLen]; omega) (by omega) hB
    unfold bv at h3
    rw [← List.map_append, ← List.length_append] at h3
    refine ⟨v', w', hrun, h3, h4, ?_⟩
    rcases h6 with e | e
    · exact .inl e
    · exact .inr ⟨_, e, Nat.le_refl _⟩
theorem wpList_append_mx {P : Program} {w : World} {ops : Array Oper} {rest : List Oper} {o : Oper} {a : Act} {Q : Exit → Act → World → Prop} (hgd : o.guard = none) (s x : Operand) {t t' : TypeId}
    (ho : o.op = .call { callee := .builtin .append, args := #[s, x], argTypes := #[t, t'] }) (v sx : Value) (hs : a.eval s = v) (hx : a.eval x = sx) (v' : Value) (w' : World)
    (hrun : (Builtin.append_ #[t, t'] o.type #[v, sx]).run P w = .ok v' w') (h : wpList P ops Q rest (a.put o.dst v') w') : wpList P ops Q (o :: rest) a w :=
  wpList_plain hgd fun _ hK => by
    unfold Oper.wp execOp
    simp only [ho, resolve, invoke, builtin, Sem.run_bind, Sem.run_pure, Result.andThen_ok, List.map_toArray, List.map_cons, List.map_nil, hs, hx, hrun]
    exact hK _ _ h
set_option maxRecDepth 100000 in
set_option maxHeartbeats 1000000 in
theorem put_l {w : World} {B B' : Nat} {v src : Value} {xs ys : List Int} (ho : Rw B v xs w) (hs : Rw B' src ys w) (hk : xs.length + ys.length ≤ 1048576) (hB : B ≤ w.heap.size) :
    Calls Tryz.prog 82 #[v, src] w (OutF B v (xs ++ ys) w) := by
  obtain ⟨A, c, rfl⟩ := slice_of ho
  obtain ⟨A', c', rfl⟩ := slice_of hs
  have HP := Lib.hid (fun ty => own_put ty ho hs hk hB)
  clear ho hs hk hB
  obtain ⟨v6, w6, hap, o6, hk6⟩ := HP.out 65
  have HAP := Lib.hid hap
  clear hap HP
  go_enter Tryz.func82, Tryz.ntmps82
  go_wp2_with (at_builtin; refine wpList_append_mx rfl _ _ rfl _ _ rfl rfl _ _ HAP.out ?_)
  go_ret
  exact ⟨_, rfl, o6, hk6⟩
end Is
end Go.Proofs.YtblmagcekfbgdaaGreatDoor
namespace Go.Proofs.YtblmagcekfbgdaaGreatDoor
open Go Go.RowKit Go.Sort
namespace Is
open Nt
set_option linter.unusedVariables false
set_option linter.unusedSimpArgs false
theorem OutF.mk {B : Nat} {v v' : Value} {zs : List Int} {w w1 w' : World} (e : Ending) (h : OutF B v' zs w1 e w') (k : Kp w v w1 v') : OutF B v zs w e w' := by
  obtain ⟨v2, rfl, o, k2⟩ := h
  exact ⟨v2, rfl, o, k.trans k2⟩
theorem or_rm {p q : Int} (p1 : 0 ≤ p) (p2 : p ≤ 7) (q1 : 0 ≤ q) (q2 : q ≤ 7) : bits BinOp.or IntKind.u8 (bits BinOp.or IntKind.u8 192 (p * 8)) q = 192 + 8 * p + q := by
  rcases (show p = 0 ∨ p = 1 ∨ p = 2 ∨ p = 3 ∨ p = 4 ∨ p = 5 ∨ p = 6 ∨ p = 7 by omega) with rfl | rfl | rfl | rfl | rfl | rfl | rfl | rfl <;>
  rcases (show q = 0 ∨ q = 1 ∨ q = 2 ∨ q = 3 ∨ q = 4 ∨ q = 5 ∨ q = 6 ∨ q = 7 by omega) with rfl | rfl | rfl | rfl | rfl | rfl | rfl | rfl <;> rfl
/-- new bytes put behind bytes of one's own -/
theorem put_new {w : World} {B : Nat} {v : Value} {xs : List Int} (ys : List Int) (n : Nat) (hn : ys.length = n) (ho : Rw B v xs w) (hk : xs.length + n ≤ 1048576) (hB : B ≤ w.heap.size) :
    Calls Tryz.prog 82 #[v, .slice (some ⟨w.heap.size, 0, none⟩) n n] (w.alloc (.cells (bv ys).toArray 5)) (OutF B v (xs ++ ys) w) := by
  subst hn
  refine (put_l (B' := B) (ys := ys) (ho.alloc _) (own_lit8 (Bk.new w _ _) hB (by omega)) hk (by simp; omega)).mono ?_
  intro e w' h
  exact OutF.mk e h ((Kp.refl w v).alloc _)
set_option maxRecDepth 100000 in
set_option maxHeartbeats 2000000 in
theorem register_l {w : World} {B : Nat} {v : Value} {xs : List Int} (m r : Int) (hm : R16 m) (hr : R16 r) (ho : Rw B v xs w) (hk : xs.length + 1 ≤ 1048576) (hB : B ≤ w.heap.size) :
    Calls Tryz.prog 84 #[v, .int .i64 m, .int .i64 r] w (OutF B v (xs ++ [rmI m r]) w) := by
  obtain ⟨A, c, hv⟩ := slice_of ho
  have HM := Lib.hid (fun W => low_l m hm W)
  have HR := Lib.hid (fun W => low_l r hr W)
  have HE : Hid (rmI m r = 192 + 8 * (m % 8) + r % 8) := Lib.hid rfl
  have p1 : 0 ≤ m % 8 := by omega
  have p2 : m % 8 ≤ 7 := by omega
  have q1 : 0 ≤ r % 8 := by omega
  have q2 : r % 8 ≤ 7 := by omega
  clear hm hr
  rw [← or_rm p1 p2 q1 q2] at HE
  generalize rmI m r = z at *
  generalize m % 8 = p at *
  generalize r % 8 = q at *
  have HO := Lib.hid ho
  have HKB := Lib.hid (And.intro hk hB)
  clear ho hk hB
  subst hv
  go_enter Tryz.func84, Tryz.ntmps84
  go_wp2_with fail
  go_at_call 85
  refine (HM.out _).mono ?_
  rintro e w' ⟨rfl, rfl⟩
  go_wp2_with fail
  go_at_call 85
  refine (HR.out _).mono ?_
  rintro e w' ⟨rfl, rfl⟩
  go_wp2_with fail
  rw [← HE.out]
  go_at_call 82
  refine (put_new [z] 1 rfl HO.out HKB.out.1 HKB.out.2).mono ?_
  rintro e w1 ⟨v1, rfl, o1, k1⟩
  go_wp2_with fail
  go_ret
  exact ⟨_, rfl, o1, k1⟩
set_option maxRecDepth 100000 in
set_option maxHeartbeats 4000000 in
theorem number_l {w : World} {B : Nat} {v : Value} {xs : List Int} (n : Int) (k : Nat) (hk8 : k ≤ 8) (ho : Rw B v xs w) (hk : xs.length ≤ 1000000) (hB : B ≤ w.heap.size) :
    Calls Tryz.prog 86 #[v, .int .i64 n, .int .i64 (k : Int)] w (OutF B v (xs ++ ltl n k) w) := by
  obtain ⟨A, c, rfl⟩ := slice_of ho
  have HO := Lib.hid ho
  have HKB := Lib.hid (And.intro hk hB)
  clear ho hk hB
  go_enter Tryz.func86, Tryz.ntmps86
  go_wp2_with fail
  go_loopw [0, 1, 8] (fun u m i W => ∃ (j : Nat), j ≤ k ∧ i = .int .i64 (j : Int) ∧ m = .int .i64 (n / 256 ^ j) ∧ Hid (Rw B u (xs ++ ltl n j) W) ∧ Hid (Kp w (.slice A xs.length c) W u)) (fun _ _ i _ => k - (intOf i).toNat)
  case atStart => exact ⟨0, by omega, rfl, by simp, Lib.hid (by rw [show xs ++ ltl n 0 = xs from List.append_nil xs]; exact HO.out), Lib.hid (Kp.refl _ _)⟩
  case round =>
    obtain ⟨j, hj, rfl, rfl, hO, hK⟩ := hrel
    rcases Nat.lt_or_ge j k with hjk | hjk
    · have e1 : (j : Int) < (k : Int) := by omega
      have hj8 : (j : Int) < 8 := by omega
      have HST := Lib.hid (ltl_snoc n j)
      have HJ := Lib.hid hjk
      have HK8 := Lib.hid hk8
      have HNX : Hid (n / 256 ^ j / 256 = n / 256 ^ (j + 1)) := Lib.hid (by rw [Int.pow_succ, Int.ediv_ediv_of_nonneg (Int.le_of_lt (Int.pow_pos (by decide)))])
      have hln : (xs ++ ltl n j).length = xs.length + j := by rw [List.length_append, ltl_len]
      obtain ⟨A1, c1, rfl⟩ := slice_of hO.out
      have HL := Lib.hid hln
      clear hjk hk8 hln
      have HZ : Hid (xs ++ ltl n (j + 1) = (xs ++ ltl n j) ++ [n / 256 ^ j % 256]) := Lib.hid (by rw [HST.out, List.append_assoc])
      clear HST
      generalize n / 256 ^ j = nn at *
      generalize xs ++ ltl n j = zs at *
      go_wp2_with fail
      go_at_call 82
      refine (put_new [nn % 256] 1 rfl hO.out (by have := HL.out; have := HKB.out.1; have := HJ.out; have := HK8.out; omega) (Nat.le_trans HKB.out.2 hK.out.grown.size)).mono ?_
      rintro e w1 ⟨v1, rfl, o1, k1⟩
      have HO1 : Hid (Rw B v1 (xs ++ ltl n (j + 1)) w1) := Lib.hid (by rw [HZ.out]; exact o1)
      have HK1 := Lib.hid (hK.out.trans k1)
      clear o1 k1
      go_wp2_with fail
      go_roundw
      case rel => exact ⟨j + 1, by have := HJ.out; omega, by (try simp (disch := omega) only [IntWalk.wrap64_in]); go_num, by first | exact congrArg _ HNX.out | (show Value.int _ _ = _; rw [← HNX.out]; rfl), HO1, HK1⟩
      case measure => (have := HJ.out; (try simp (disch := omega) only [IntWalk.wrap64_in] at *); simp [intOf] <;> omega)
    · obtain rfl : j = k := by omega
      go_wp2_with fail
      go_ret
      exact ⟨_, rfl, hO.out, hK.out⟩
end Is
end Go.Proofs.YtblmagcekfbgdaaGreatDoor
namespace Go.Proofs.YtblmagcekfbgdaaGreatDoor
open Go Go.RowKit Go.Sort
namespace Is
open Nt
set_option linter.unusedVariables false
set_option linter.unusedSimpArgs false
def ownL : List Int := [0, 137, 184, 139, 137, 141, 1, 17, 41, 25, 33, 9, 49, 57, 133, 0, 4, 5, 7, 246, 102, 243, 3, 2, 4, 5, 66, 69, 80, 88, 233, 133, 130, 195]
def ownAt (k : Nat) : Int := (ownL[k]?).getD 0
def tzL : List Int := [0, 1, 56, 2, 57, 49, 28, 3]
def tzAt (k : Nat) : Int := (tzL[k]?).getD 0
/-- the tables hold what their initialisers lay -/
structure TabE (w : World) : Prop where
  inst : Tab w
  lt : 1 < w.heap.size
  own : ∀ k : Nat, k < 34 → w.cell? ⟨1, k, none⟩ = some (.int .u8 (ownAt k))
  tlt : 3 < w.heap.size
  tz : ∀ k : Nat, k < 8 → w.cell? ⟨3, k, none⟩ = some (.int .u8 (tzAt k))
theorem TabE.keep {w w' : World} (h : TabE w) (hb : Below w.heap.size w w') : TabE w' :=
  ⟨h.inst.keep hb, Nat.lt_of_lt_of_le h.lt hb.size, fun k hk => (hb.cell (p := ⟨1, k, none⟩) h.lt).trans (h.own k hk),
   Nat.lt_of_lt_of_le h.tlt hb.size, fun k hk => (hb.cell (p := ⟨3, k, none⟩) h.tlt).trans (h.tz k hk)⟩
def ScOk (sc : Int) : Prop := sc = 1 ∨ sc = 2 ∨ sc = 4 ∨ sc = 8
set_option maxRecDepth 100000 in
set_option maxHeartbeats 1000000 in
theorem tz64_l (sc : Int) (h : ScOk sc) (w : World) (hT : TabE w) : Calls Tryz.prog 107 #[.int .u64 sc] w fun e w' => e = .returned (.int .i64 (scI sc)) ∧ w' = w := by
  have z0 := hT.tz 0 (by decide)
  have z1 := hT.tz 1 (by decide)
  have z3 := hT.tz 3 (by decide)
  have z7 := hT.tz 7 (by decide)
  rw [show tzAt 0 = 0 from rfl] at z0
  rw [show tzAt 1 = 1 from rfl] at z1
  rw [show tzAt 3 = 2 from rfl] at z3
  rw [show tzAt 7 = 3 from rfl] at z7
  clear hT
  rcases h with rfl | rfl | rfl | rfl
  · have E : IntKind.u64.wrap (bits BinOp.and IntKind.u64 1 (IntKind.u64.wrap (-1)) * 285870213051353865) / 288230376151711744 = 0 := by decide +kernel
    go_enter Tryz.func107, Tryz.ntmps107
    go_wp2_with fail
    go_ret
    exact ⟨rfl, rfl⟩
  · have E : IntKind.u64.wrap (bits BinOp.and IntKind.u64 2 (IntKind.u64.wrap (-2)) * 285870213051353865) / 288230376151711744 = 1 := by decide +kernel
    go_enter Tryz.func107, Tryz.ntmps107
    go_wp2_with fail
    go_ret
    exact ⟨rfl, rfl⟩
  · have E : IntKind.u64.wrap (bits BinOp.and IntKind.u64 4 (IntKind.u64.wrap (-4)) * 285870213051353865) / 288230376151711744 = 3 := by decide +kernel
    go_enter Tryz.func107, Tryz.ntmps107
    go_wp2_with fail
    go_ret
    exact ⟨rfl, rfl⟩
  · have E : IntKind.u64.wrap (bits BinOp.and IntKind.u64 8 (IntKind.u64.wrap (-8)) * 285870213051353865) / 288230376151711744 = 7 := by decide +kernel
    go_enter Tryz.func107, Tryz.ntmps107
    go_wp2_with fail
    go_ret
    exact ⟨rfl, rfl⟩
theorem tz_l (sc : Int) (h : ScOk sc) (w : World) (hT : TabE w) : Calls Tryz.prog 104 #[.int .u64 sc] w fun e w' => e = .returned (.int .i64 (scI sc)) ∧ w' = w := by
  have HC := Lib.hid (tz64_l sc h w hT)
  generalize scI sc = z at *
  clear hT h
  go_enter Tryz.func104, Tryz.ntmps104
  go_wp2_with fail
  go_at_call 107
  refine HC.out.mono ?_
  rintro e w' ⟨rfl, rfl⟩
  go_wp2_with fail
  go_ret
  exact ⟨rfl, rfl⟩
end Is
end Go.Proofs.YtblmagcekfbgdaaGreatDoor
