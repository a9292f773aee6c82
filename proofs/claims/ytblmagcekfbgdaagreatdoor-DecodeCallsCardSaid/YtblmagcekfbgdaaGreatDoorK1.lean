/- The document's own bytes: a number's. | The document's own bytes: REX, RM, the operations over two registers. | Bytes of one's own, kept. -/
import Derived.Test.YtblmagcekfbgdaaGreatDoorJ1
import Derived.Test.YtblmagcekfbgdaaGreatDoorG1
import Derived.Maps.AppendAt
import Derived.Laws.AppendOwn
import Derived.Laws.OwnMore
import Derived.OwnWalk
import Derived.Lib.MinMax
namespace Go.Proofs.YtblmagcekfbgdaaGreatDoor
open Go Go.RowKit Go.Sort
namespace Is
open Nt
set_option linter.unusedVariables false
set_option linter.unusedSimpArgs false
def bv (xs : List Int) : List Value := xs.map (Value.int .u8)
/-- a row of bytes of one's own, told -/
def RowB (xs : List Int) (w : World) (e : Ending) (w' : World) : Prop := ∃ v, e = .returned v ∧ w'.ownsRow w.heap.size 5 1 v xs.length (bv xs) ∧ Below w.heap.size w w'
theorem info_u8 : (Tryz.prog.info? 5).map (fun i => (i.zero, i.size, i.bytes)) = some (some (.int .u8 0), 1, 1) := by kernel_rfl
theorem one_new8 (W : World) (z : Int) (j : Nat) (u : Value) (hu : [Value.int .u8 z][j]? = some u) : (W.alloc (.cells #[.int .u8 z] 5)).cell? ((⟨W.heap.size, 0, none⟩ : Addr).add j) = some u := by
  have e : (⟨W.heap.size, 0, none⟩ : Addr).add j = ⟨W.heap.size, j, none⟩ := by
    unfold Addr.add; split
    · rename_i e; rw [e]
    · simp
  rw [e, World.cell?_alloc_at _ _ _ _ (by simp)]
  simpa using hu
theorem ltl_snoc (n : Int) (k : Nat) : ltl n (k + 1) = ltl n k ++ [n / 256 ^ k % 256] := by
  induction k generalizing n with
  | zero => simp [ltl]
  | succ k ih =>
    have h := ih (n / 256)
    have e : n / 256 / 256 ^ k = n / 256 ^ (k + 1) := by rw [Int.pow_succ, Int.mul_comm, Int.ediv_ediv_of_nonneg (by decide)]
    rw [ltl, h, e]
    rfl
set_option maxRecDepth 100000 in
set_option maxHeartbeats 4000000 in
theorem little_c (n : Int) (k : Nat) (hk : k ≤ 8) (w : World) : Calls Tryz.prog 55 #[.int .i64 n, .int .i64 (k : Int)] w (RowB (ltl n k) w) := by
  obtain ⟨i0, hi, hz, h1, h2⟩ := info_parts info_u8
  go_enter Tryz.func55, Tryz.ntmps55
  go_wp2_with fail
  go_loopw [5, 6] (fun v i W => ∃ (j : Nat), j ≤ k ∧ i = .int .i64 (j : Int) ∧ Hid (W.ownsRow w.heap.size 5 1 v (ltl n j).length (bv (ltl n j))) ∧ Hid (Below w.heap.size w W)) (fun _ i _ => k - (intOf i).toNat)
  case atStart => exact ⟨0, by omega, rfl, Lib.hid (World.ownsRow_nil _ _ _ _), Lib.hid (Below.refl _ _)⟩
  case round =>
    obtain ⟨j, hj, rfl, hO, hW⟩ := hrel
    rcases Nat.lt_or_ge j k with hjk | hjk
    · have e1 : (j : Int) < (k : Int) := by omega
      have hln := ltl_len n j
      have hrow := hO.out
      have hsz := hW.out.size
      have hsh : (∃ A0 n0 c0, u5 = .slice A0 n0 c0) := by
        rcases hrow.2 with ⟨e1, _⟩ | ⟨g, c0, cur, e1, _⟩
        · exact ⟨_, _, _, e1⟩
        · exact ⟨_, _, _, e1⟩
      obtain ⟨A0, n0, c1, rfl⟩ := hsh
      have HST := Lib.hid (ltl_snoc n j)
      have HJ := Lib.hid hjk
      have HK := Lib.hid hk
      have hj8 : (j : Int) < 8 := by omega
      clear hjk hk
      have hpw : n / 2 ^ (8 * j) % 256 = n / 256 ^ j % 256 := by rw [show (2 : Int) ^ (8 * j) = 256 ^ j by rw [Int.pow_mul]; rfl]
      have HPW := Lib.hid hpw
      clear hpw
      generalize hzz : n / 256 ^ j % 256 = zz at *
      go_wp2_with (at_builtin; go_loud (refine wpList_append_own _ rfl _ _ 63 rfl w.heap.size 5 i0 _ 1 1 Tryz.underlying63 hi hz h1 h2 rfl (by decide) _ _ _ rfl (hrow.alloc _) ⟨wr.heap.size, 0, none⟩ 1 1 [.int .u8 (n / 2 ^ (8 * j) % 256)] rfl rfl (one_new8 wr (n / 2 ^ (8 * j) % 256)) (by simp [Value.oneCell']) (by simp only [maxLen]; omega) (by omega) (by simp; omega) ?_); intro v' w1 hown hgrow hnil)
      have HO' : Hid (w1.ownsRow w.heap.size 5 1 v' (ltl n (j + 1)).length (bv (ltl n (j + 1)))) := Lib.hid (by
        rw [HST.out, List.length_append]
        unfold bv
        rw [List.map_append]
        rw [HPW.out] at hown
        exact hown)
      have hgg : ∀ g, (Value.slice A0 n0 c1).ownBlock = some g → w.heap.size ≤ g := fun g hg => (hO.out.lt g hg).1
      have HW' : Hid (Below w.heap.size w w1) := Lib.hid (((hW.out.alloc (by omega) _).grown hgrow (by simp; omega) (fun g e => by have := hgg g e; omega)))
      clear hown hgrow hnil hrow hgg
      go_wp2_with fail
      go_roundw
      case rel => exact ⟨j + 1, by have := HJ.out; omega, by go_num, HO', HW'⟩
      case measure => (have := HJ.out; simp [intOf] <;> omega)
    · obtain rfl : j = k := by omega
      go_wp2_with fail
      go_ret
      exact ⟨_, rfl, hO.out, hW.out⟩
theorem run_append_nil {w : World} (t ty e : TypeId) (i : TypeInfo) (ht : Tryz.prog.underlying t = some (.slice e)) (hi : Tryz.prog.info? e = some i)
    (v : Value) (n : Nat) (xs : List Value) (base size : Nat) (hown : w.ownsRow base e size v n xs) (c : Nat) : (Builtin.append_ #[t, t] ty #[v, .slice none 0 c]).run Tryz.prog w = .ok v w := by
  rcases hown.2 with ⟨rfl, rfl⟩ | ⟨g, cap, cur, rfl, _, _, hnc, _⟩
  · simp [Builtin.append_, run_underlying ht, sizeOf, typeInfo, hi, Builtin.lenOf, Builtin.firstCells]
  · simp [Builtin.append_, run_underlying ht, sizeOf, typeInfo, hi, Builtin.lenOf, Builtin.firstCells, hnc, storeCells]
theorem wpList_append_eq {P : Program} {w : World} {ops : Array Oper} {rest : List Oper} {o : Oper} {a : Act} {Q : Exit → Act → World → Prop} (hgd : o.guard = none) (s x : Operand) (t : TypeId)
    (ho : o.op = .call { callee := .builtin .append, args := #[s, x], argTypes := #[t, t] }) (v sx : Value) (hs : a.eval s = v) (hx : a.eval x = sx) (v' : Value) (w' : World)
    (hrun : (Builtin.append_ #[t, t] o.type #[v, sx]).run P w = .ok v' w') (h : wpList P ops Q rest (a.put o.dst v') w') : wpList P ops Q (o :: rest) a w :=
  wpList_plain hgd fun _ hK => by
    unfold Oper.wp execOp
    simp only [ho, resolve, invoke, builtin, Sem.run_bind, Sem.run_pure, Result.andThen_ok, List.map_toArray, List.map_cons, List.map_nil, hs, hx, hrun]
    exact hK _ _ h

theorem b8_get {ys : List Int} {j : Nat} (h : j < ys.length) : (bv ys)[j]? = some (.int .u8 (ys[j]'h)) := by
  unfold bv
  rw [List.getElem?_map, List.getElem?_eq_getElem h]; rfl
/-- bytes of one's own behind bytes of one's own -/
theorem own_app8 {w : World} {B B' : Nat} {v src : Value} {xs ys : List Int} (ty : TypeId) (ho : w.ownsRow B 5 1 v xs.length (bv xs)) (hs : w.ownsRow B' 5 1 src ys.length (bv ys)) (hk : xs.length + ys.length ≤ 1048576) (hB : B ≤ w.heap.size) :
    ∃ v' w', (Builtin.append_ #[63, 63] ty #[v, src]).run Tryz.prog w = .ok v' w' ∧ w'.ownsRow B 5 1 v' (xs ++ ys).length (bv (xs ++ ys)) ∧ w.grownBy w' v.ownBlock := by
  obtain ⟨i, hi, hz, h1, h2⟩ := info_parts info_u8
  rcases hs.2 with ⟨rfl, h0⟩ | ⟨g, cap, cur, rfl, hb, r⟩
  · obtain rfl : ys = [] := List.eq_nil_of_length_eq_zero h0
    rw [List.append_nil]
    exact ⟨v, w, run_append_nil _ ty 5 i Tryz.underlying63 hi _ _ _ _ _ ho 0, ho, World.grownBy.refl w _⟩
  · obtain ⟨v', w', hrun, h3, h4, h5, h6⟩ := run_append_own_at (P := Tryz.prog) w B 63 ty 5 i (.int .u8 0) 1 1 Tryz.underlying63 hi hz h1 h2 rfl (by omega) _ _ _ ho ⟨g, 0, none⟩ ys.length cap (bv ys) (by unfold bv; rw [List.length_map, Nat.mul_one])
      (fun j u hu => World.ownsRow.cells hs (g := g) rfl j u hu)
      (fun u hu => by unfold bv at hu; obtain ⟨x, _, rfl⟩ := List.mem_map.1 hu; simp [Value.oneCell']) (by simp only [maxLen]; omega) (by omega) hB
    unfold bv at h3
    rw [← List.map_append, ← List.length_append] at h3
    exact ⟨v', w', hrun, h3, h4⟩
theorem own_lit8 {w : World} {B g : Nat} {xs : List Int} (h : Bk w g 5 (bv xs).toArray) (hB : B ≤ g) (hl : xs.length ≤ 1048576) : w.ownsRow B 5 1 (.slice (some ⟨g, 0, none⟩) xs.length xs.length) xs.length (bv xs) := by
  have hsz : (bv xs).toArray.size = xs.length := by unfold bv; simp
  exact ⟨by unfold bv; simp, .inr ⟨g, xs.length, (bv xs).toArray, rfl, hB, h, Nat.le_refl _, by simp only [maxLen]; omega, by rw [hsz, Nat.mul_one], by rw [Nat.mul_one, List.take_of_length_le (by unfold bv; simp)]⟩⟩
theorem own_base {w : World} {B B' : Nat} {e : TypeId} {s n : Nat} {v : Value} {xs : List Value} (h : w.ownsRow B e s v n xs) (hB : B' ≤ B) : w.ownsRow B' e s v n xs := by
  refine ⟨h.1, ?_⟩
  rcases h.2 with h1 | ⟨g, c, cur, h1, h2, h3⟩
  · exact .inl h1
  · exact .inr ⟨g, c, cur, h1, Nat.le_trans hB h2, h3⟩
end Is
end Go.Proofs.YtblmagcekfbgdaaGreatDoor
namespace Go.Proofs.YtblmagcekfbgdaaGreatDoor
open Go Go.RowKit Go.Sort
namespace Is
open Nt
set_option linter.unusedVariables false
set_option linter.unusedSimpArgs false
def Rx (r : Int) : Prop := -1 ≤ r ∧ r ≤ 15
theorem R16.rx {r : Int} (h : R16 r) : Rx r := ⟨by have := h.1; omega, h.2⟩
theorem u8_in {n : Int} (h1 : 0 ≤ n) (h2 : n ≤ 255) : n % 256 = n := Int.emod_eq_of_lt h1 (by omega)
theorem high_c (r : Int) (h : Rx r) (w : World) : Calls Tryz.prog 58 #[.int .i64 r] w fun e w' => e = .returned (.int .u8 (hiR r)) ∧ w' = w := by
  obtain ⟨h1, h2⟩ := h
  rcases (show r = -1 ∨ r = 0 ∨ r = 1 ∨ r = 2 ∨ r = 3 ∨ r = 4 ∨ r = 5 ∨ r = 6 ∨ r = 7 ∨ r = 8 ∨ r = 9 ∨ r = 10 ∨ r = 11 ∨ r = 12 ∨ r = 13 ∨ r = 14 ∨ r = 15 by omega) with rfl | rfl | rfl | rfl | rfl | rfl | rfl | rfl | rfl | rfl | rfl | rfl | rfl | rfl | rfl | rfl | rfl
  all_goals
    clear h1 h2
    go_enter Tryz.func58, Tryz.ntmps58
    go_wp2_with fail
    go_ret
    exact ⟨rfl, rfl⟩
theorem rex_v {m x l : Int} (hm : Rx m) (hx : Rx x) (hl : Rx l) : (((72 + 4 * hiR m % 256) % 256 + 2 * hiR x % 256) % 256 + hiR l) % 256 = rexI m x l := by
  have a := hi_b hm.1 hm.2
  have b := hi_b hx.1 hx.2
  have c := hi_b hl.1 hl.2
  unfold rexI
  omega
set_option maxHeartbeats 1000000 in
theorem rex_c (m x l : Int) (hm : Rx m) (hx : Rx x) (hl : Rx l) (w : World) : Calls Tryz.prog 54 #[.int .i64 m, .int .i64 x, .int .i64 l] w fun e w' => e = .returned (.int .u8 (rexI m x l)) ∧ w' = w := by
  have a := hi_b hm.1 hm.2
  have b := hi_b hx.1 hx.2
  have c := hi_b hl.1 hl.2
  have HM := Lib.hid (fun W => high_c m hm W)
  have HX := Lib.hid (fun W => high_c x hx W)
  have HL := Lib.hid (fun W => high_c l hl W)
  have HE := Lib.hid (rex_v hm hx hl)
  have e1 : IntKind.u8.wrap (4 * hiR m) = 4 * hiR m := by rw [IntKind.wrap_u8']; omega
  clear hm hx hl
  generalize rexI m x l = z at *
  generalize hiR m = p at *
  generalize hiR x = q at *
  generalize hiR l = s at *
  go_enter Tryz.func54, Tryz.ntmps54
  go_wp2_with fail
  go_at_call 58
  refine (HM.out _).mono ?_
  rintro e w' ⟨rfl, rfl⟩
  go_wp2_with fail
  go_at_call 58
  refine (HX.out _).mono ?_
  rintro e w' ⟨rfl, rfl⟩
  go_wp2_with fail
  go_at_call 58
  refine (HL.out _).mono ?_
  rintro e w' ⟨rfl, rfl⟩
  go_wp2_with fail
  go_ret
  refine ⟨?_, rfl⟩
  rw [← HE.out]
  first | rfl | (simp; omega)
theorem both_c (m l : Int) (hm : R16 m) (hl : R16 l) (w : World) : Calls Tryz.prog 57 #[.int .i64 m, .int .i64 l] w fun e w' => e = .returned (.int .u8 (rmI m l)) ∧ w' = w := by
  have HE : Hid (rmI m l = 192 + 8 * (m % 8) + l % 8) := Lib.hid rfl
  obtain ⟨m1, m2⟩ := hm
  obtain ⟨l1, l2⟩ := hl
  generalize rmI m l = z at *
  go_enter Tryz.func57, Tryz.ntmps57
  go_wp2_with fail
  go_ret
  refine ⟨?_, rfl⟩
  rw [HE.out]
  first | rfl | (simp; omega)
theorem code_c (op : Int) (h : op = 1 ∨ (6 ≤ op ∧ op ≤ 14)) (w : World) : Calls Tryz.prog 59 #[.int .i64 op] w fun e w' => e = .returned (.int .u8 (codeI op)) ∧ w' = w := by
  rcases (show op = 1 ∨ op = 6 ∨ op = 7 ∨ op = 8 ∨ op = 9 ∨ op = 10 ∨ op = 11 ∨ op = 12 ∨ op = 13 ∨ op = 14 by omega) with rfl | rfl | rfl | rfl | rfl | rfl | rfl | rfl | rfl | rfl
  all_goals
    clear h
    go_enter Tryz.func59, Tryz.ntmps59
    go_wp2_with fail
    go_ret
    exact ⟨rfl, rfl⟩
end Is
end Go.Proofs.YtblmagcekfbgdaaGreatDoor
namespace Go.Proofs.YtblmagcekfbgdaaGreatDoor
open Go Go.RowKit
namespace Is
open Nt
set_option linter.unusedVariables false
set_option linter.unusedSimpArgs false
/-- bytes of one's own, behind what leaves them be -/
theorem own_keep {w w' : World} {B : Nat} {v : Value} {xs : List Int} (h : w.ownsRow B 5 1 v xs.length (bv xs)) (hb : Below w.heap.size w w') : w'.ownsRow B 5 1 v xs.length (bv xs) := by
  refine ⟨h.1, ?_⟩
  rcases h.2 with h1 | ⟨g, c, cur, h1, h2, h3, h4⟩
  · exact .inl h1
  · exact .inr ⟨g, c, cur, h1, h2, (hb.block g (Array.getElem?_eq_some_iff.1 h3).1).trans h3, h4⟩
end Is
end Go.Proofs.YtblmagcekfbgdaaGreatDoor
