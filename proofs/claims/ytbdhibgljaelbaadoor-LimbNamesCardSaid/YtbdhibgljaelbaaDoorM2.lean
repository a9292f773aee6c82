/- The landed package limb: how many events. -/
import Derived.Test.YtbdhibgljaelbaaDoorM1
import Derived.Lib.MinMax
namespace Go.Proofs.YtbdhibgljaelbaaDoor
open Go Go.RowKit Go.Sort Go.Shelf
namespace Lb
open Wd Nt Gr
set_option linter.unusedVariables false
set_option linter.unusedSimpArgs false
theorem wpList_append_eq {P : Program} {w : World} {ops : Array Oper} {rest : List Oper} {o : Oper} {a : Act} {Q : Exit → Act → World → Prop} (hgd : o.guard = none) (s x : Operand) (t : TypeId)
    (ho : o.op = .call { callee := .builtin .append, args := #[s, x], argTypes := #[t, t] }) (v sx : Value) (hs : a.eval s = v) (hx : a.eval x = sx) (v' : Value) (w' : World)
    (hrun : (Builtin.append_ #[t, t] o.type #[v, sx]).run P w = .ok v' w') (h : wpList P ops Q rest (a.put o.dst v') w') : wpList P ops Q (o :: rest) a w :=
  wpList_plain hgd fun _ hK => by
    unfold Oper.wp execOp
    simp only [ho, resolve, invoke, builtin, Sem.run_bind, Sem.run_pure, Result.andThen_ok, List.map_toArray, List.map_cons, List.map_nil, hs, hx, hrun]
    exact hK _ _ h

theorem plus_l (c d : Nat) (hc : c ≤ 1125899906842624) (hd : d ≤ 1125899906842624) (w : World) : Calls Tryd.prog 62 #[.int .u64 (c : Int), .int .u64 (d : Int)] w fun e w' => e = .returned (.int .u64 ((capN (c + d) : Nat) : Int)) ∧ w' = w := by
  have e1 : IntKind.u64.wrap ((c : Int) + (d : Int)) = (c : Int) + (d : Int) := by simp only [IntKind.wrap_u64]; omega
  have HE : Hid (((capN (c + d) : Nat) : Int) = min ((c : Int) + (d : Int)) 1125899906842624) := Lib.hid (by unfold capN; omega)
  generalize ((capN (c + d) : Nat) : Int) = r at *
  go_enter Tryd.func62, Tryd.ntmps62
  go_wp2_with fail
  go_ret
  exact ⟨by rw [HE.out]; first | rfl | simp, rfl⟩
theorem times_l (c n : Nat) (hc : c ≤ 1125899906842624) (hn : n ≤ 1048576) (w : World) : Calls Tryd.prog 63 #[.int .u64 (c : Int), .int .u64 (n : Int)] w fun e w' => e = .returned (.int .u64 ((capN (c * n) : Nat) : Int)) ∧ w' = w := by
  have hle : c * n ≤ 1125899906842624 * 1048576 := Nat.mul_le_mul hc hn
  have HM := Lib.hid (mul_c (c : Int) (n : Int) w (by unfold W; omega) (by unfold W; omega))
  have HH : Hid (mulH (c : Int) (n : Int) = ((c * n / 18446744073709551616 : Nat) : Int)) := Lib.hid (by unfold mulH; rw [← Int.natCast_mul]; generalize c * n = q; omega)
  have HL : Hid (mulL (c : Int) (n : Int) = ((c * n % 18446744073709551616 : Nat) : Int)) := Lib.hid (by unfold mulL; rw [← Int.natCast_mul]; generalize c * n = q; omega)
  generalize mulH (c : Int) (n : Int) = mh at *
  generalize mulL (c : Int) (n : Int) = ml at *
  have HE : Hid (((capN (c * n) : Nat) : Int) = if 0 < mh then 1125899906842624 else min ml 1125899906842624) := Lib.hid (by
    rw [HH.out, HL.out]
    unfold capN
    generalize c * n = q at *
    split <;> omega)
  generalize ((capN (c * n) : Nat) : Int) = r at *
  have HMH : Hid (0 ≤ mh) := Lib.hid (by rw [HH.out]; omega)
  clear HH HL hle
  by_cases h : 0 < mh
  · rw [if_pos h] at HE
    go_enter Tryd.func63, Tryd.ntmps63
    go_wp2_with fail
    refine HM.out.mono ?_
    rintro e w' ⟨rfl, rfl⟩
    go_wp2_with fail
    go_ret
    exact ⟨by rw [HE.out]; first | rfl | simp, rfl⟩
  · rw [if_neg h] at HE
    obtain rfl : mh = 0 := by have := HMH.out; omega
    clear h
    go_enter Tryd.func63, Tryd.ntmps63
    go_wp2_with fail
    refine HM.out.mono ?_
    rintro e w' ⟨rfl, rfl⟩
    go_wp2_with fail
    go_ret
    exact ⟨by rw [HE.out]; first | rfl | simp, rfl⟩
/-- a frame: how often, how many events so far -/
def frV (x : Nat × Nat) : List Value := [.int .u64 (x.1 : Int), .int .u64 (x.2 : Int)]
instance : Sh (Nat × Nat) := ⟨frV, 2, fun _ => rfl, fun o v hv => by
  unfold frV at hv
  simp only [List.mem_cons, List.not_mem_nil, or_false] at hv
  rcases hv with rfl | rfl <;> rfl, by decide⟩
theorem info_body : (Tryd.prog.info? 100).map (fun i => (i.zero, i.size, i.bytes)) = some (some (.agg #[.int .u64 0, .int .u64 0]), 2, 16) := by kernel_rfl
theorem fr_at {w : World} {B n : Nat} {A : Option Addr} {xs : List (Nat × Nat)} (h : Rdr w B A n xs) {j : Nat} {x : Nat × Nat} (hj : xs[j]? = some x) :
    ∃ b o, A = some ⟨b, o, none⟩ ∧ b < B ∧ w.cell? ⟨b, o + j * 2, none⟩ = some (.int .u64 (x.1 : Int)) ∧ w.cell? ⟨b, o + j * 2 + 1, none⟩ = some (.int .u64 (x.2 : Int)) := by
  obtain ⟨b, o, e, hb, hc⟩ := h.at_ hj
  exact ⟨b, o, e, hb, hc 0 _ rfl, hc 1 _ rfl⟩
/-- the frames, in a row of one's own, the outermost first -/
abbrev FrW (w : World) (B : Nat) (v : Value) (fr : List (Nat × Nat)) : Prop := Rws 100 B v fr.reverse w
theorem fr_open {w : World} {B : Nat} {v : Value} {t e : Nat} {r : List (Nat × Nat)} (h : FrW w B v ((t, e) :: r)) :
    ∃ gl c, v = .slice (some ⟨gl, 0, none⟩) (r.length + 1) c ∧ B ≤ gl ∧ gl < w.heap.size ∧ r.length + 1 ≤ c ∧ w.cell? ⟨gl, r.length * 2, none⟩ = some (.int .u64 (t : Int)) ∧ w.cell? ⟨gl, r.length * 2 + 1, none⟩ = some (.int .u64 (e : Int)) ∧ (∀ i, w.frozen? ⟨gl, i, none⟩ = false) := by
  obtain ⟨A, c, rfl, hc⟩ := rws_form h
  obtain ⟨gl, rfl, h1, h2, h3, h4⟩ := own_blk h (by simp)
  have hl : ((t, e) :: r).reverse.length = r.length + 1 := by simp
  have hx : ((t, e) :: r).reverse[r.length]? = some (t, e) := by
    rw [List.reverse_cons, List.getElem?_append_right (by simp)]
    simp
  obtain ⟨b, o, e1, _, k0, k1⟩ := fr_at (rws_rd h).2.1 hx
  cases e1
  rw [Nat.zero_add] at k0 k1
  refine ⟨gl, c, by rw [hl], h1, h2, by rw [← hl]; exact hc, k0, k1, fun i => ?_⟩
  exact World.ownsRow.frozenAt h i
theorem fr_outer {w : World} {B gl n c : Nat} {t e t' e' : Nat} {r : List (Nat × Nat)} (h : FrW w B (.slice (some ⟨gl, 0, none⟩) n c) ((t, e) :: (t', e') :: r)) :
    w.cell? ⟨gl, r.length * 2, none⟩ = some (.int .u64 (t' : Int)) ∧ w.cell? ⟨gl, r.length * 2 + 1, none⟩ = some (.int .u64 (e' : Int)) := by
  have hx : ((t, e) :: (t', e') :: r).reverse[r.length]? = some (t', e') := by
    rw [List.reverse_cons, List.reverse_cons, List.append_assoc, List.getElem?_append_right (by simp)]
    simp
  obtain ⟨b, o, e1, _, k0, k1⟩ := fr_at (rws_rd h).2.1 hx
  cases e1
  rw [Nat.zero_add] at k0 k1
  exact ⟨k0, k1⟩
/-- the innermost frame's events stored anew -/
theorem fr_put {w : World} {B gl n c : Nat} {t e u : Nat} {r : List (Nat × Nat)} (h : FrW w B (.slice (some ⟨gl, 0, none⟩) n c) ((t, e) :: r)) :
    FrW (w.setCell ⟨gl, r.length * 2 + 1, none⟩ (.int .u64 (u : Int))) B (.slice (some ⟨gl, 0, none⟩) n c) ((t, u) :: r) := by
  have hx : ((t, e) :: r).reverse[r.length]? = some (t, e) := by
    rw [List.reverse_cons, List.getElem?_append_right (by simp)]
    simp
  have hn := (rws_rd h).1
  have h1 := own_put (y := (t, u)) (u := .int .u64 (u : Int)) h hn hx (d := 1) (by decide) rfl
  have e1 : ((t, e) :: r).reverse.set r.length (t, u) = ((t, u) :: r).reverse := by
    rw [List.reverse_cons, List.reverse_cons, List.set_append_right _ _ (by simp)]
    simp
  rw [e1] at h1
  exact h1
/-- a loop's end: the outer frame's events stored anew, the innermost frame left out -/
theorem fr_end {w : World} {B gl c : Nat} {t e t' e' u : Nat} {r : List (Nat × Nat)} (h : FrW w B (.slice (some ⟨gl, 0, none⟩) (r.length + 2) c) ((t, e) :: (t', e') :: r)) :
    FrW (w.setCell ⟨gl, r.length * 2 + 1, none⟩ (.int .u64 (u : Int))) B (.slice (some ⟨gl, 0, none⟩) (r.length + 1) c) ((t', u) :: r) := by
  have hx : ((t, e) :: (t', e') :: r).reverse[r.length]? = some (t', e') := by
    rw [List.reverse_cons, List.reverse_cons, List.append_assoc, List.getElem?_append_right (by simp)]
    simp
  have hn := (rws_rd h).1
  have h1 := own_put (y := (t', u)) (u := .int .u64 (u : Int)) h hn hx (d := 1) (by decide) rfl
  have e1 : ((t, e) :: (t', e') :: r).reverse.set r.length (t', u) = ((t', u) :: r).reverse ++ [(t, e)] := by
    rw [List.reverse_cons, List.reverse_cons, List.reverse_cons, List.append_assoc, List.set_append_right _ _ (by simp)]
    simp
  rw [e1] at h1
  have h2 := own_init (m := r.length + 1) h1 (by simp)
  rw [List.dropLast_concat] at h2
  exact h2
end Lb
end Go.Proofs.YtbdhibgljaelbaaDoor
