/- A region that draws its order, inside a round: loads taken first, though the region's last operations store into their cells. | The law's own each, of chapter 7: what Each tells, in two rows. | DecodeCalls' walk. -/
import Derived.Test.YtblmagcekfbgdaaGreatDoorU3
import Derived.Test.YtblmagcekfbgdaaGreatDoorT2
import Derived.Test.YtblmagcekfbgdaaGreatDoorD1
import Derived.Test.YtblmagcekfbgdaaGreatDoorW8
import Derived.Test.YtblmagcekfbgdaaGreatDoorU1
import Derived.OrdersHeld
import Derived.OrdersIn
import Derived.RangeFuncNested
import Derived.Deep.RegionHeld
import Derived.Shelf.RegionOpen
import Derived.Deep.RegionHeld3
import Derived.Maps.AppendAt
namespace Go.Proofs.YtblmagcekfbgdaaGreatDoor
open Go
namespace Tk
set_option linter.unusedVariables false
section
variable {P : Program} {ops : Array Oper} {Q : Exit → Act → World → Prop} {md : Region.Mode} {S : World → Prop} {late : List Nat}
/-- what is listed has all that it waits for listed -/
def Cl (md : Region.Mode) (ops : Array Oper) (l : Array Bool) : Prop := ∀ (j : Nat) (o : Oper), ops[j]? = some o → l.getD j false = true → ∀ e ∈ o.after, Region.binds md e = true → l.getD e.on false = true
theorem cl_start (n : Nat) : Cl md ops (Array.replicate n false) := fun j o _ h => by
  have : (Array.replicate n false).getD j false = false := by
    rw [Array.getD_eq_getD_getElem?, Array.getElem?_replicate]
    split <;> rfl
  rw [this] at h
  cases h
theorem Cl.set {l : Array Bool} (h : Cl md ops l) {i : Nat} (hi : i ∈ Region.ready md ops l) : Cl md ops (l.setIfInBounds i true) := fun j o ho hj e he hb => by
  refine getD_set_true ?_
  by_cases hij : i = j
  · subst hij
    obtain ⟨_, o', ho', hall⟩ := mem_ready.1 hi
    rw [ho] at ho'
    cases ho'
    exact hall e he hb
  · rw [getD_set_ne false hij] at hj
    exact h j o ho hj e he hb
/-- does j wait for i, by way of whatever? -/
def needs (md : Region.Mode) (ops : Array Oper) : Nat → Nat → Nat → Bool
  | 0, _, _ => false
  | f + 1, j, i => match ops[j]? with
    | none => false
    | some o => o.after.toList.any fun e => Region.binds md e && (e.on == i || needs md ops f e.on i)
theorem needs_spec {l : Array Bool} (h : Cl md ops l) {i : Nat} : ∀ (f j : Nat), needs md ops f j i = true → (∀ o, ops[j]? = some o → ∀ e ∈ o.after, Region.binds md e = true → l.getD e.on false = true) → l.getD i false = true
  | 0, _, hn, _ => by cases hn
  | f + 1, j, hn, ha => by
    unfold needs at hn
    cases ho : ops[j]? with
    | none => rw [ho] at hn; cases hn
    | some o =>
      rw [ho] at hn
      dsimp only at hn
      obtain ⟨e, he, hb⟩ := List.any_eq_true.1 hn
      rw [Bool.and_eq_true, Bool.or_eq_true, beq_iff_eq] at hb
      have hl := ha o ho e (by simpa using he) hb.1
      rcases hb.2 with h1 | h1
      · rw [← h1]; exact hl
      · exact needs_spec h f e.on h1 (fun o' ho' => h e.on o' ho' hl)
/-- whichever order is drawn; S holds behind each operation that is not one of the last -/
def Til (P : Program) (md : Region.Mode) (ops : Array Oper) (Q : Exit → Act → World → Prop) (S : World → Prop) (late : List Nat) : Nat → Array Bool → Act → World → Prop
  | 0, l, a, w => Region.ready md ops l = [] ∧ Q .normal a w
  | f + 1, l, a, w => Cl md ops l → (Region.ready md ops l = [] → Q .normal a w) ∧
    ∀ i ∈ Region.ready md ops l, wpOp P ops Q i (fun a' w' => (late.contains i = true ∨ S w') ∧ Til P md ops Q S late f (l.setIfInBounds i true) a' w') a w
theorem til_any : ∀ (f : Nat) (l : Array Bool) (a : Act) (w : World), Cl md ops l → Til P md ops Q S late f l a w → wpAny P md ops Q f l a w
  | 0, _, _, _, _, h => h
  | f + 1, l, a, w, hc, h => ⟨(h hc).1, fun i hi => wpOp_mono (fun a' w' h' => til_any f _ a' w' (hc.set hi) h'.2) ((h hc).2 i hi)⟩
theorem til_first {i : Nat} {oi : Oper} {v : Value} (hi : ops[i]? = some oi) (hsel : ∀ (j : Nat) (o : Oper) cs b, ops[j]? = some o → o.op ≠ .select cs b)
    (hQ : ∀ c a w, Q (.panic c) (a.put oi.dst v) w → Q (.panic c) a w) (hlate : ∀ j, late.contains j = true → needs md ops 8 j i = true) :
    ∀ (f : Nat) (l : Array Bool) (a : Act) (w : World),
      (∀ j oj, ops[j]? = some oj → j ≠ i → l.getD j true = false → (∀ e ∈ oj.after, Region.binds md e = true → e.on ≠ i) → oi.apart ops oj = true) →
      i ∈ Region.ready md ops l → YieldsIf P ops S oi v a → S w →
      Til P md ops Q S late f (l.setIfInBounds i true) (a.put oi.dst v) w → Til P md ops Q S late (f + 1) l a w := by
  intro f
  induction f with
  | zero =>
    intro l a w _ hr hy hS H hc
    refine ⟨fun h => (by rw [h] at hr; cases hr), fun j hj => ?_⟩
    by_cases hji : j = i
    · subst hji; exact hy.wpOp hi hS ⟨.inr hS, H⟩
    · have := ready_mono hj hji
      rw [H.1] at this
      cases this
  | succ f ih =>
    intro l a w hfree hr hy hS H hc
    have H2 := H (hc.set hr)
    refine ⟨fun h => (by rw [h] at hr; cases hr), fun j hj => ?_⟩
    by_cases hji : j = i
    · subst hji; exact hy.wpOp hi hS ⟨.inr hS, H⟩
    · have h1 := H2.2 j (ready_mono hj hji)
      obtain ⟨hjun, oj, hoj, hall⟩ := mem_ready.1 hj
      have hun : l.getD i true = false := (mem_ready.1 hr).1
      have huf : ¬ l.getD i false = true := fun h => by
        rw [Array.getD_eq_getD_getElem?] at h hun
        cases hq : l[i]? with
        | none => rw [hq] at h; cases h
        | some b =>
          rw [hq] at h hun
          simp at h hun
          rw [h] at hun
          cases hun
      have hnl : ¬ late.contains j = true := fun hl => huf (needs_spec hc 8 j (hlate j hl) (fun o ho => by
        rw [hoj] at ho
        cases ho
        exact hall))
      have hnot : ∀ e ∈ oj.after, Region.binds md e = true → e.on ≠ i := fun e he hb heq => huf (heq ▸ hall e he hb)
      have h2 := wpOp_putIf hoj (hfree j oj hoj hji hjun hnot) (fun cs b => hsel i oi cs b hi) (fun cs b => hsel j oj cs b hoj) hQ hy h1
      refine wpOp_mono (fun a' w' h3 => ?_) h2
      have hS' : S w' := h3.2.1.resolve_left hnl
      refine ⟨.inr hS', ih (l.setIfInBounds j true) a' w' (fun k ok hk hki hu hno => ?_) (ready_mono hr (Ne.symm hji)) h3.1 hS' ?_⟩
      · refine hfree k ok hk hki ?_ hno
        by_cases hjk : j = k
        · subst hjk; exact hjun
        · rw [getD_set_ne true hjk] at hu; exact hu
      · rw [Array.setIfInBounds_comm _ _ hji]
        exact h3.2.2
theorem til_take {i : Nat} {oi : Oper} {v : Value} {f : Nat} {l : Array Bool} {a : Act} {w : World} (hi : ops[i]? = some oi) (hs : Region.noSelect ops = true) (hf : Region.free md ops l i = true) (hr : (Region.ready md ops l).contains i = true)
    (hl : (late.all fun j => needs md ops 8 j i) = true) (hQ : ∀ c a w, Q (.panic c) (a.put oi.dst v) w → Q (.panic c) a w) (hy : YieldsIf P ops S oi v a) (hS : S w)
    (h : Til P md ops Q S late f (l.setIfInBounds i true) (a.put oi.dst v) w) : Til P md ops Q S late (f + 1) l a w :=
  til_first hi (Region.noSelect_spec hs) hQ (fun j hj => List.all_eq_true.1 hl j (by simpa using hj)) f l a w (Region.free_spec hi hf) (by simpa using hr) hy hS h
theorem til_all {rs : List Nat} {f : Nat} {l : Array Bool} {a : Act} {w : World} (hr : Region.ready md ops l = rs) (hne : rs ≠ [])
    (h : ∀ i ∈ rs, wpOp P ops Q i (fun a' w' => (late.contains i = true ∨ S w') ∧ Til P md ops Q S late f (l.setIfInBounds i true) a' w') a w) : Til P md ops Q S late (f + 1) l a w :=
  fun _ => ⟨fun h0 => absurd (hr ▸ h0) hne, hr ▸ h⟩
theorem til_one {i : Nat} {o : Oper} {f : Nat} {l : Array Bool} {a : Act} {w : World} (hr : Region.ready md ops l = [i]) (ho : ops[i]? = some o)
    (h : ∀ K : Act → World → Prop, RowKit.Hid (∀ a' w', (late.contains i = true ∨ S w') ∧ Til P md ops Q S late f (l.setIfInBounds i true) a' w' → K a' w') → if Region.wanted o (yielded ops a.tmps) = true then Oper.wp P o a w K Q else K (a.put o.dst undef) w) : Til P md ops Q S late (f + 1) l a w :=
  til_all hr (by simp) (fun j hj => by
    rw [List.mem_singleton] at hj
    subst hj
    exact wpOp_step ho (fun K hK => h K (Lib.hid hK)))
theorem til_two {i j : Nat} {o o' : Oper} {f : Nat} {l : Array Bool} {a : Act} {w : World} (hr : Region.ready md ops l = [i, j]) (ho : ops[i]? = some o) (ho' : ops[j]? = some o')
    (h : ∀ K : Act → World → Prop, RowKit.Hid (∀ a' w', (late.contains i = true ∨ S w') ∧ Til P md ops Q S late f (l.setIfInBounds i true) a' w' → K a' w') → if Region.wanted o (yielded ops a.tmps) = true then Oper.wp P o a w K Q else K (a.put o.dst undef) w)
    (h' : ∀ K : Act → World → Prop, RowKit.Hid (∀ a' w', (late.contains j = true ∨ S w') ∧ Til P md ops Q S late f (l.setIfInBounds j true) a' w' → K a' w') → if Region.wanted o' (yielded ops a.tmps) = true then Oper.wp P o' a w K Q else K (a.put o'.dst undef) w) : Til P md ops Q S late (f + 1) l a w :=
  til_all hr (by simp) (fun k hk => by
    rcases List.mem_cons.1 hk with rfl | hk
    · exact wpOp_step ho (fun K hK => h K (Lib.hid hK))
    · rw [List.mem_singleton] at hk
      subst hk
      exact wpOp_step ho' (fun K hK => h' K (Lib.hid hK)))
theorem til_done {l : Array Bool} {a : Act} {w : World} (hr : Region.ready md ops l = []) (h : Q .normal a w) : ∀ f, Til P md ops Q S late f l a w
  | 0 => ⟨hr, h⟩
  | _ + 1 => fun _ => ⟨fun _ => h, by rw [hr]; simp⟩
end
def noDefer (ops : Array Oper) : Bool := ops.toList.all (fun o => match o.op with | .defer _ => false | _ => true)
theorem noDefer_spec {ops : Array Oper} (h : noDefer ops = true) : ∀ (i : Nat) (o : Oper), ops[i]? = some o → ∀ c, o.op ≠ .defer c := by
  intro i o hi c hc
  have hm : o ∈ ops.toList := Array.mem_toList_iff.2 (Array.mem_of_getElem? hi)
  have := List.all_eq_true.1 h o hm
  rw [hc] at this
  cases this
def Only (Q : Exit → Act → World → Prop) : Exit → Act → World → Prop
  | .normal, a, w => Q .normal a w
  | _, _, _ => False
theorem op_r {P : Program} {n l : Nat} {ops : Array Oper} (hd : ∀ (i : Nat) (o : Oper), ops[i]? = some o → ∀ c, o.op ≠ .defer c) {Q : Exit → Act → World → Prop} {i : Nat} {K K' : Act → World → Prop} (hK : ∀ a w, K a w → K' a w) {a : Act} {w : World}
    (h : wpOp P ops (Only Q) i K a w) : wpOpIn (Fence.wide.inRound l) n P ops (Only Q) i K' a w := by
  unfold wpOp at h
  unfold wpOpIn
  cases ho : ops[i]? with
  | none => rw [ho] at h; exact hK _ _ h
  | some o =>
    rw [ho] at h
    dsimp only at h ⊢
    split
    · rename_i hw
      rw [if_pos hw] at h
      rcases h with h | ⟨_, a', w', hl⟩
      · refine ⟨fun _ _ => trivial, ?_⟩
        have hs : o.semAt (Fence.wide.inRound l).round a.eval = execOp a.eval o := Oper.semAt_some l _ _ (hd i o ho)
        rw [hs]
        unfold Oper.wp at h
        generalize (execOp a.eval o).run P w = r at *
        cases r with
        | ok nx w' =>
          cases nx with
          | value v => exact hK _ _ h
          | skip => exact hK _ _ h
          | defer d => exact hK _ _ h
          | enter f args =>
            refine ⟨fun hh => (by cases hh), CallsIn.inRound l (callsIn_wide.2 (Calls.mono h fun e w'' he => ?_))⟩
            cases e with
            | returned u => exact hK _ _ he
            | panicked c => exact he
            | outgrown => exact he
          | row row args =>
            refine ⟨fun hh => (by cases hh), fun c cs _ => ?_⟩
            obtain ⟨v, w', hR, hs⟩ := h c cs
            exact ⟨v, w', hK _ _ hR, stepsIn_wide.2 hs⟩
          | _ => exact h.elim
        | halt x w' =>
          cases x <;> exact h
      · exact hl.elim
    · rename_i hw
      rw [if_neg hw] at h
      exact ⟨fun _ _ => trivial, hK _ _ h⟩
theorem any_r {P : Program} {n l : Nat} {md : Region.Mode} {ops : Array Oper} (hd : ∀ (i : Nat) (o : Oper), ops[i]? = some o → ∀ c, o.op ≠ .defer c) {Q : Exit → Act → World → Prop} :
    ∀ (fuel : Nat) (listed : Array Bool) (a : Act) (w : World), wpAny P md ops (Only Q) fuel listed a w → wpAnyIn (Fence.wide.inRound l) n P md ops (Only Q) fuel listed a w
  | 0, _, _, _, h => h
  | fuel + 1, _, _, _, h => ⟨h.1, fun i hi => op_r hd (fun a' w' h' => any_r hd fuel _ a' w' h') (h.2 i hi)⟩
/-- a drawn region in a round, loads first -/
theorem til_region {P : Program} {n l id : Nat} {ops : Array Oper} {Q : Exit → Act → World → Prop} {a : Act} {w : World} (S : World → Prop) (late : List Nat) (hm : P.follows .mixedOrders = true) (hd : noDefer ops = true)
    (h : Til P .any ops (Only Q) S late ops.size (Array.replicate ops.size false) a w.drew) : (Code.region id ops true).wpIn (Fence.wide.inRound l) n P Q a w :=
  wpIn_mono (wpIn_region_any hm (any_r (noDefer_spec hd) _ _ _ _ (til_any _ _ _ _ (cl_start _) h))) (fun e _ _ hq => by
    cases e with
    | normal => exact hq
    | ret => exact hq.elim
    | exit i => exact hq.elim
    | goto i => exact hq.elim
    | panic c => exact hq.elim
    | outgrown => exact hq.elim)
end Tk
end Go.Proofs.YtblmagcekfbgdaaGreatDoor
namespace Go.Proofs.YtblmagcekfbgdaaGreatDoor
open Go Go.RowKit Go.Shelf
namespace decodeCalls
open Is Nt Tk
set_option linter.unusedVariables false
set_option linter.unusedSimpArgs false
attribute [local go_sem] Oper.semAt_some
theorem bel3 {a b c : World} (h : Below a.heap.size a b) (k : Below b.heap.size b c) : Below a.heap.size a c := h.trans (k.mono h.size)
theorem below_al {a b : World} (h : Below a.heap.size a b) (o : Obj) : Below a.heap.size a (b.alloc o) := h.alloc h.size o
/-- numbers of one's own -/
def zrow (ps : List Int) : List Value := ps.map (.int .i64 ·)
abbrev Rzs (B : Nat) (v : Value) (ps : List Int) (w : World) : Prop := w.ownsRow B 3 1 v ps.length (zrow ps)
/-- where the first so many begin -/
def poss (code : ByteArray) (n : Nat) : List Int := (List.range n).map (posN code)
def inss (code : ByteArray) (n : Nat) : List Ins := (List.range n).map (insN code)
/-- a row of one's own stays where what grows is no block of cells -/
theorem own_row {X Y : World} {B s n : Nat} {e : TypeId} {v : Value} {xs : List Value} {row : Option Nat} (h : X.ownsRow B e s v n xs) (hg : X.grownBy Y row) (hr : ∀ r, row = some r → ∃ o : Obj, X.heap[r]? = some o ∧ o.isCells = false) : Y.ownsRow B e s v n xs := by
  refine h.kept hg ?_
  rcases h.2 with ⟨rfl, _⟩ | ⟨g, cap, cur, rfl, _, hgb, _⟩
  · exact .inl rfl
  · refine .inr fun e' => ?_
    obtain ⟨o, ho, hc⟩ := hr g (by rw [← e']; rfl)
    rw [hgb] at ho
    cases ho
    cases hc
set_option maxRecDepth 100000 in
theorem run_res3 {fn : Func} (h : fn.results = #[.cell 2 33, .cell 3 30, .cell 4 4]) (tmps : Array Value) (w : World) (a b c : Nat) (v1 v2 v3 : Value) (hp : tmps.getD 2 undef = .pointer (some ⟨a, 0, none⟩)) (hq : tmps.getD 3 undef = .pointer (some ⟨b, 0, none⟩)) (hr : tmps.getD 4 undef = .pointer (some ⟨c, 0, none⟩))
    (h1 : w.cell? ⟨a, 0, none⟩ = some v1) (h2 : w.cell? ⟨b, 0, none⟩ = some v2) (h3 : w.cell? ⟨c, 0, none⟩ = some v3) : (results fn tmps).run Tryz.prog w = .ok (.tuple #[v1, v2, v3]) w := by
  have hp' : tmps[2]?.getD undef = .pointer (some ⟨a, 0, none⟩) := by simpa using hp
  have hq' : tmps[3]?.getD undef = .pointer (some ⟨b, 0, none⟩) := by simpa using hq
  have hr' : tmps[4]?.getD undef = .pointer (some ⟨c, 0, none⟩) := by simpa using hr
  have ha := Tryz.isAgg33 w
  have hb := Tryz.isAgg30 w
  have hc := Tryz.isAgg4 w
  simp [results, h, hp', hq', hr', asAddr, loadVar, ha, hb, hc, h1, h2, h3]
theorem rz_form {U : World} {B : Nat} {v : Value} {ps : List Int} (h : Rzs B v ps U) : ∃ A c, v = .slice A ps.length c := by
  rcases h.2 with ⟨e, h0⟩ | ⟨g, cap, cur, e, _⟩
  · exact ⟨none, 0, by rw [e, h0]⟩
  · exact ⟨_, _, e⟩
theorem row_form {U : World} {B s n : Nat} {e : TypeId} {v : Value} {xs : List Value} (h : U.ownsRow B e s v n xs) : ∃ A m c, v = .slice A m c := by
  rcases h.2 with ⟨rfl, _⟩ | ⟨g, cap, cur, rfl, _⟩
  · exact ⟨_, _, _, rfl⟩
  · exact ⟨_, _, _, rfl⟩
theorem grown_cells {U U' : World} {B s n : Nat} {e : TypeId} {v : Value} {xs : List Value} (h : U.ownsRow B e s v n xs) (hg : U.grownBy U' v.ownBlock) : KeepsOthers U U' :=
  KeepsOthers.of_grownBy hg (fun j o ej hj => by
    rcases h.2 with ⟨rfl, _⟩ | ⟨g, cap, cur, rfl, _, hgb, _⟩
    · cases ej
    · obtain rfl : g = j := by simpa [Value.ownBlock] using ej
      rw [hgb] at hj
      cases hj
      rfl)
/-- a block of another kind is not the row's own -/
theorem row_other {U U' : World} {B s n g : Nat} {e t : TypeId} {v : Value} {xs : List Value} {cs : Array Value} (h : U.ownsRow B e s v n xs) (hg : U.grownBy U' v.ownBlock) (hb : Bk U g t cs) (hne : e ≠ t) : Bk U' g t cs := by
  refine (hg.block g hb.lt ?_).trans hb
  intro e'
  rcases h.2 with ⟨rfl, _⟩ | ⟨g', cap, cur, rfl, _, hgb, _⟩
  · cases e'
  · obtain rfl : g' = g := by simpa [Value.ownBlock] using e'.symm
    unfold Bk at hb
    rw [hb] at hgb
    injection hgb with h1
    injection h1 with _ h2
    exact hne h2.symm
/-- two rows of different kinds -/
theorem row_two {U U' : World} {B s n s' n' : Nat} {e e' : TypeId} {v v' : Value} {xs ys : List Value} (h : U.ownsRow B e s v n xs) (hg : U.grownBy U' v.ownBlock) (k : U.ownsRow B e' s' v' n' ys) (hne : e ≠ e') : U'.ownsRow B e' s' v' n' ys := by
  refine k.kept hg ?_
  rcases k.2 with ⟨rfl, _⟩ | ⟨g, cap, cur, rfl, _, hgb, _⟩
  · exact .inl rfl
  · refine .inr fun e1 => ?_
    rcases h.2 with ⟨rfl, _⟩ | ⟨g', cap', cur', rfl, _, hgb', _⟩
    · cases e1
    · obtain rfl : g = g' := by simpa [Value.ownBlock] using e1
      rw [hgb] at hgb'
      injection hgb' with h1
      injection h1 with _ h2
      exact hne h2.symm
theorem row_put {U : World} {B s n g : Nat} {e t : TypeId} {v u : Value} {xs : List Value} {cs : Array Value} (h : U.ownsRow B e s v n xs) (hb : Bk U g t cs) (hne : e ≠ t) : (U.setCell ⟨g, 0, none⟩ u).ownsRow B e s v n xs := by
  refine h.kept (grownBy_setCell' U g u) ?_
  rcases h.2 with ⟨rfl, _⟩ | ⟨g', cap, cur, rfl, _, hgb, _⟩
  · exact .inl rfl
  · refine .inr fun e' => ?_
    obtain rfl : g' = g := by simpa [Value.ownBlock] using e'
    unfold Bk at hb
    rw [hb] at hgb
    injection hgb with h1
    injection h1 with _ h2
    exact hne h2.symm
theorem row_below {U U' a : World} {B C s n : Nat} {e : TypeId} {v : Value} {xs : List Value} (h : U.ownsRow B e s v n xs) (hg : U.grownBy U' v.ownBlock) (hb : Below C a U) (hC : C ≤ B) (hCU : C ≤ U.heap.size) : Below C a U' :=
  hb.grown hg hCU (fun r er => by
    rcases h.2 with ⟨rfl, _⟩ | ⟨g, cap, cur, rfl, hB, _⟩
    · cases er
    · obtain rfl : g = r := by simpa [Value.ownBlock] using er
      omega)
theorem push_z {U : World} {B g2 : Nat} {v : Value} {ps : List Int} {z : Int} (ho : Rzs B v ps U) (hs : Bk U g2 3 #[.int .i64 z]) (hk : ps.length ≤ 1000) (hB : B ≤ U.heap.size) :
    ∃ v' U', (Builtin.append_ #[33, 33] 33 #[v, .slice (some ⟨g2, 0, none⟩) 1 1]).run Tryz.prog U = .ok v' U' ∧ Rzs B v' (ps ++ [z]) U' ∧ U.grownBy U' v.ownBlock := by
  obtain ⟨inf, hi, hz, q1, q2⟩ := info_parts info_int
  obtain ⟨v', U', h1, h2, h3, _⟩ := run_append_own_at (P := Tryz.prog) (w := U) B 33 33 3 inf _ 1 8 Tryz.underlying33 hi hz q1 q2 rfl (by decide) _ _ _ ho ⟨g2, 0, none⟩ 1 1 [.int .i64 z] rfl (fun j u hu => by
    have hj : j = 0 := by
      have := (List.getElem?_eq_some_iff.1 hu).1
      simp at this
      exact this
    subst hj
    simp at hu
    subst hu
    exact hs.cell 0) (by simp [Value.oneCell']) (by simp only [maxLen]; omega) (by omega) hB
  refine ⟨v', U', h1, ?_, h3⟩
  unfold Rzs zrow
  rw [List.length_append, List.map_append]
  exact h2
theorem push_x {U : World} {B g2 : Nat} {v : Value} {is : List Ins} {i : Ins} (ho : Rxs B v is U) (hs : Bk U g2 26 i.vs) (hk : is.length ≤ 1000) (hB : B ≤ U.heap.size) :
    ∃ v' U', (Builtin.append_ #[30, 30] 30 #[v, .slice (some ⟨g2, 0, none⟩) 1 1]).run Tryz.prog U = .ok v' U' ∧ Rxs B v' (is ++ [i]) U' ∧ U.grownBy U' v.ownBlock := by
  obtain ⟨inf, hi, hz, q1, q2⟩ := info_parts info_inst
  obtain ⟨v', U', h1, h2, h3, _⟩ := run_append_own_at (P := Tryz.prog) (w := U) B 30 30 26 inf _ 9 72 Tryz.underlying30 hi hz q1 q2 rfl (by decide) _ _ _ ho ⟨g2, 0, none⟩ 1 1 i.vs.toList rfl (fun j u hu => by
    have e : (⟨g2, 0, none⟩ : Addr).add j = ⟨g2, j, none⟩ := by
      unfold Addr.add; split
      · rename_i e; rw [e]
      · simp
    rw [e, hs.cell j, ← Array.getElem?_toList]
    exact hu) (vs_one9 i) (by simp only [maxLen]; omega) (by omega) hB
  refine ⟨v', U', h1, ?_, h3⟩
  unfold Rxs
  rw [List.length_append, insRow_app, insRow_one]
  exact h2
/-- the two cells, the two rows, what stays -/
structure St (T B : Nat) (W U : World) (u1 u2 v1 v2 : Value) (ps : List Int) (is : List Ins) : Prop where
  c1 : Bk U T 33 #[u1]
  c2 : Bk U (T + 1) 30 #[u2]
  r1 : Rzs B v1 ps U
  r2 : Rxs B v2 is U
  bl : Below T W U
  kp : KeepsOthers W U
  sz : T + 2 ≤ B ∧ B ≤ U.heap.size
section
variable {T B : Nat} {W U : World} {u1 u2 v1 v2 : Value} {ps : List Int} {is : List Ins}
theorem St.drew (h : St T B W W u1 u2 v1 v2 ps is) : St T B W W.drew u1 u2 v1 v2 ps is := ⟨h.c1, h.c2, h.r1.drew, h.r2.drew, ⟨rfl, rfl, rfl, Nat.le_refl _, fun _ _ => rfl⟩, KeepsOthers.drew W, h.sz⟩
theorem St.al (h : St T B W U u1 u2 v1 v2 ps is) (o : Obj) : St T B W (U.alloc o) u1 u2 v1 v2 ps is :=
  ⟨h.c1.alloc _, h.c2.alloc _, h.r1.alloc _, h.r2.alloc _, h.bl.alloc (by have := h.sz; omega) _, h.kp.trans (KeepsOthers.alloc _ _), h.sz.1, by have := h.sz; simp; omega⟩
theorem St.p1 (h : St T B W U u1 u2 v1 v2 ps is) {g2 : Nat} {z : Int} (hs : Bk U g2 3 #[.int .i64 z]) (hk : ps.length ≤ 1000) :
    ∃ v' U', (Builtin.append_ #[33, 33] 33 #[v1, .slice (some ⟨g2, 0, none⟩) 1 1]).run Tryz.prog U = .ok v' U' ∧ St T B W U' u1 u2 v' v2 (ps ++ [z]) is ∧ ∀ g cs, Bk U g 26 cs → Bk U' g 26 cs := by
  obtain ⟨v', U', k1, k2, k3⟩ := push_z h.r1 hs hk h.sz.2
  exact ⟨v', U', k1, ⟨row_other h.r1 k3 h.c1 (by decide), row_other h.r1 k3 h.c2 (by decide), k2, row_two h.r1 k3 h.r2 (by decide), row_below h.r1 k3 h.bl (by have := h.sz; omega) (by have := h.sz; omega), h.kp.trans (grown_cells h.r1 k3), h.sz.1, Nat.le_trans h.sz.2 k3.size⟩, fun g cs hb => row_other h.r1 k3 hb (by decide)⟩
theorem St.p2 (h : St T B W U u1 u2 v1 v2 ps is) {g2 : Nat} {i : Ins} (hs : Bk U g2 26 i.vs) (hk : is.length ≤ 1000) :
    ∃ v' U', (Builtin.append_ #[30, 30] 30 #[v2, .slice (some ⟨g2, 0, none⟩) 1 1]).run Tryz.prog U = .ok v' U' ∧ St T B W U' u1 u2 v1 v' ps (is ++ [i]) := by
  obtain ⟨v', U', k1, k2, k3⟩ := push_x h.r2 hs hk h.sz.2
  exact ⟨v', U', k1, ⟨row_other h.r2 k3 h.c1 (by decide), row_other h.r2 k3 h.c2 (by decide), row_two h.r2 k3 h.r1 (by decide), k2, row_below h.r2 k3 h.bl (by have := h.sz; omega) (by have := h.sz; omega), h.kp.trans (grown_cells h.r2 k3), h.sz.1, Nat.le_trans h.sz.2 k3.size⟩⟩
theorem St.put1 (h : St T B W U u1 u2 v1 v2 ps is) (u : Value) : St T B W (U.setCell ⟨T, 0, none⟩ u) u u2 v1 v2 ps is :=
  ⟨h.c1.set_ 0 u, h.c2.far (p := ⟨T, 0, none⟩) (by show T + 1 ≠ T; omega) u, row_put h.r1 h.c1 (by decide), row_put h.r2 h.c1 (by decide), h.bl.setCell (p := ⟨T, 0, none⟩) (Nat.le_refl _) u, h.kp.trans (KeepsOthers.setCell _ _ _), h.sz.1, by have := h.sz; simp; omega⟩
theorem St.put2 (h : St T B W U u1 u2 v1 v2 ps is) (u : Value) : St T B W (U.setCell ⟨T + 1, 0, none⟩ u) u1 u v1 v2 ps is :=
  ⟨h.c1.far (p := ⟨T + 1, 0, none⟩) (by show T ≠ T + 1; omega) u, h.c2.set_ 0 u, row_put h.r1 h.c2 (by decide), row_put h.r2 h.c2 (by decide), h.bl.setCell (p := ⟨T + 1, 0, none⟩) (by show T ≤ T + 1; omega) u, h.kp.trans (KeepsOthers.setCell _ _ _), h.sz.1, by have := h.sz; simp; omega⟩
end
set_option maxRecDepth 100000 in
set_option maxHeartbeats 4000000 in
theorem each_l (w : World) (HG : Hid (TabE w)) (code : ByteArray) (hsm : code.size ≤ 120) :
    Calls Tryz.prog 9 #[.string code] w fun e w' => ∃ A B c d, e = .returned (.tuple #[.slice A (allD code).1.length c, .slice B (allD code).1.length d, .bool true]) ∧ Below w.heap.size w w' ∧
      Rzs w.heap.size (.slice A (allD code).1.length c) (poss code (allD code).1.length) w' ∧ Rxs w.heap.size (.slice B (allD code).1.length d) (inss code (allD code).1.length) w' := by
  refine (callsIn_wide (n := 5)).1 ?_
  refine callsIn_of_wp_marks Tryz.func9 rfl trivial ?_ rfl
  simp only [Tryz.ntmps9, List.size_toArray, List.length_cons, List.length_nil, Nat.reduceAdd, Nat.reduceSub, Array.replicate_succ, Array.replicate_zero, List.push_toArray, List.append_toArray, List.nil_append, List.cons_append]
  have HSM := Lib.hid hsm
  have hs4 : (code.size : Int) ≤ 120 := by omega
  have HEV := Lib.hid (fun j hj => ev_at code j hj)
  obtain ⟨f1, f2, f3, f4, f5, f6⟩ := all_facts code
  have HNL : Hid ((allD code).1.length ≤ code.size) := Lib.hid f5
  clear f1 f2 f3 f4 f5 f6 hsm
  gi_wp2
  refine ⟨trivial, ?_⟩
  gi_at_call 20
  refine (each_in _ code _).mono ?_
  rintro e w3 ⟨rfl, hw3⟩
  obtain ⟨W0, hW0⟩ : ∃ W0, (((((((w.alloc (.cells #[.string code] 9)).alloc (.cells #[.slice none 0 0] 33)).alloc (.cells #[.slice none 0 0] 30)).alloc (.cells #[.bool false] 4)).alloc (.cells #[.string code] 9)).alloc (.cells #[.slice none 0 0] 33)).alloc (.cells #[.slice none 0 0] 30)) = W0 := ⟨_, rfl⟩
  have hs0 : W0.heap.size = w.heap.size + 7 := by rw [← hW0]; simp
  have HB4 : Hid (Below w.heap.size w W0) := Lib.hid (by rw [← hW0]; exact below_al (below_al (below_al (below_al (below_al (below_al (below_al (Below.refl _ _) _) _) _) _) _) _) _)
  have HC4 : Hid (Bk W0 w.heap.size 9 #[.string code]) := Lib.hid (by rw [← hW0]; exact ((((((Bk.new _ _ _).alloc _).alloc _).alloc _).alloc _).alloc _).alloc _)
  have H14 : Hid (Bk W0 (w.heap.size + 1) 33 #[.slice none 0 0]) := Lib.hid (by rw [← hW0]; exact (((((Bk.new' (by simp)).alloc _).alloc _).alloc _).alloc _).alloc _)
  have H24 : Hid (Bk W0 (w.heap.size + 1 + 1) 30 #[.slice none 0 0]) := Lib.hid (by rw [← hW0]; exact ((((Bk.new' (by simp)).alloc _).alloc _).alloc _).alloc _)
  have H34 : Hid (Bk W0 (w.heap.size + 1 + 1 + 1) 4 #[.bool false]) := Lib.hid (by rw [← hW0]; exact (((Bk.new' (by simp)).alloc _).alloc _).alloc _)
  have HK4 : Hid (Bk W0 (w.heap.size + 4) 9 #[.string code]) := Lib.hid (by rw [← hW0]; exact ((Bk.new' (by simp)).alloc _).alloc _)
  have H54 : Hid (Bk W0 (w.heap.size + 4 + 1) 33 #[.slice none 0 0]) := Lib.hid (by rw [← hW0]; exact (Bk.new' (by simp)).alloc _)
  have H64 : Hid (Bk W0 (w.heap.size + 4 + 1 + 1) 30 #[.slice none 0 0]) := Lib.hid (by rw [← hW0]; exact Bk.new' (by simp))
  have HT4 : Hid (TabE W0) := Lib.hid (HG.out.keep HB4.out)
  have HG3 : Hid (G3 (w.heap.size + 4 + 1)) := Lib.hid ⟨by have := HG.out.inst.lt; omega, by have := HG.out.lt; omega, by have := HG.out.tlt; omega⟩
  have hsz4 : ((((w.alloc (.cells #[.string code] 9)).alloc (.cells #[.slice none 0 0] 33)).alloc (.cells #[.slice none 0 0] 30)).alloc (.cells #[.bool false] 4)).heap.size = w.heap.size + 4 := by simp
  rw [hsz4]
  subst hw3
  have hnf : ∀ W : World, (binOp .eql 51 (.func (.func 36) #[] #[.pointer (some ⟨w.heap.size + 4, 0, none⟩)]) .nilFunc).run Tryz.prog W = .ok (.bool false) W := fun W => by kernel_rfl
  gi_wp2
  refine wpIn_rangeFunc_ownH rfl (by omega) (gf := 36) (lb := #[.pointer (some ⟨w.heap.size + 4, 0, none⟩)]) rfl trivial (enters_of Tryz.func36 (by kernel_rfl) rfl)
    (each_stops _ (by omega) (w.heap.size + 4) (w.heap.size + 4 + 1) code (by have := HSM.out; omega) W0 HT4.out HG3.out HK4.out (by omega) (by omega)) belowK_t (belowK_b (by omega)) (Below.refl _ _) (fun _ => rfl)
    (fun pre W => ∃ v1 v2, Bk W (w.heap.size + 4 + 1) 33 #[v1] ∧ Bk W (w.heap.size + 4 + 1 + 1) 30 #[v2] ∧ Rzs W0.heap.size v1 (pre.map (posN code)) W ∧ Rxs W0.heap.size v2 (pre.map (insN code)) W ∧ Below (w.heap.size + 4 + 1) W0 W)
    (fun _ _ _ => False) ?own ?ownx ?start
    (fun x a' W => ∃ Bx, w.heap.size + 7 ≤ Bx ∧ Bk W Bx 26 (insN code x).vs ∧ a' = { tmps := #[.string code, .pointer (some ⟨w.heap.size, 0, none⟩), .pointer (some ⟨w.heap.size + 1, 0, none⟩), .pointer (some ⟨w.heap.size + 1 + 1, 0, none⟩), .pointer (some ⟨w.heap.size + 1 + 1 + 1, 0, none⟩), (.func (.func 36) #[] #[.pointer (some ⟨w.heap.size + 4, 0, none⟩)]), .pointer (some ⟨w.heap.size + 4 + 1, 0, none⟩), .pointer (some ⟨w.heap.size + 4 + 1 + 1, 0, none⟩), .int .i64 (posN code x), .pointer (some ⟨Bx, 0, none⟩), .string code, (.func (.func 36) #[] #[.pointer (some ⟨w.heap.size + 4, 0, none⟩)]), (.func (.func 36) #[] #[.pointer (some ⟨w.heap.size + 4, 0, none⟩)]), .bool false, (.func (.func 36) #[] #[.pointer (some ⟨w.heap.size + 4, 0, none⟩)]), .int .i64 (posN code x), .agg (insN code x).vs, undef, undef, undef, undef, undef, undef, undef, undef, undef, undef, undef, undef, undef, undef, undef], defers := [] }) ?ownax ?assign ?body ?done ?stop
  case own =>
    rintro s X Y row ⟨v1, v2, h1, h2, h3, h4, h5⟩ hg hr
    have hr' : ∀ r, row = some r → ∃ o : Obj, X.heap[r]? = some o ∧ o.isCells = false := fun r e => (hr r e).2
    exact ⟨v1, v2, h1.grown hg hr', h2.grown hg hr', own_row h3 hg hr', own_row h4 hg hr', h5.grown hg (by have := h5.size; omega) (fun r e => by have := (hr r e).1; omega)⟩
  case ownx => exact fun _ s X Y row h _ _ => h
  case start =>
    exact ⟨_, _, H54.out, H64.out, World.ownsRow_nil _ _ _ _, World.ownsRow_nil _ _ _ _, Below.refl _ _⟩
  case ownax =>
    rintro x a' s X Y row ⟨Bx, h1, h2, h3⟩ hg hr
    exact ⟨Bx, h1, h2.grown hg (fun r e => (hr r e).2), h3⟩
  case assign =>
    rintro l pre x W K ⟨v1, v2, h1, h2, h3, h4, h5⟩ hK
    have hsz := h5.size
    unfold encE
    generalize hii : insN code x = ii
    obtain ⟨i0, i1, i2, i3, i4, i5, i6, i7, i8⟩ := ii
    unfold Ins.vs
    dsimp only
    gi_wp2
    refine hK _ _ ((KeepsOthers.alloc _ _).from _) ((Below.refl _ W).alloc (by omega) _) ?_ ⟨W.heap.size, by omega, ?_, ?_⟩
    · exact ⟨v1, v2, h1.alloc _, h2.alloc _, h3.alloc _, h4.alloc _, h5.alloc (by omega) _⟩
    · rw [hii]; exact Bk.new _ _ _
    · rw [hii]; rfl
  case body =>
    rintro l pre x a' W hl _ ⟨v1, v2, h1, h2, h3, h4, h5⟩ ⟨Bx, hBx, hbx, rfl⟩ hlen
    obtain ⟨A, c, rfl⟩ := rx_form h4
    rw [List.length_map] at h4 h2
    have hsz := h5.size
    have h2c : W.cell? ⟨w.heap.size + 4 + 1 + 1, 0, none⟩ = some (.slice A pre.length c) := h2.cell 0
    have h0c : W.cell? ⟨w.heap.size, 0, none⟩ = some (.string code) := (HC4.out.below h5 (by omega)).cell 0
    have hlc : ¬ (code.size : Int) < (pre.length : Int) := by
      have := HNL.out
      omega
    have HST : Hid (St (w.heap.size + 4 + 1) W0.heap.size W W v1 (.slice A pre.length c) v1 (.slice A pre.length c) (pre.map (posN code)) (pre.map (insN code))) := Lib.hid ⟨h1, h2, h3, h4, Below.refl _ _, KeepsOthers.refl W, by omega, hsz⟩
    have HP : Hid ((pre ++ [x]).map (posN code) = pre.map (posN code) ++ [posN code x]) := Lib.hid (by simp)
    have HQ : Hid ((pre ++ [x]).map (insN code) = pre.map (insN code) ++ [insN code x]) := Lib.hid (by simp)
    have HLP : Hid ((pre.map (posN code)).length ≤ 1000) := Lib.hid (by have := HNL.out; have := HSM.out; rw [List.length_map]; omega)
    have HLQ : Hid ((pre.map (insN code)).length ≤ 1000) := Lib.hid (by have := HNL.out; have := HSM.out; rw [List.length_map]; omega)
    have K5 := Lib.hid h5
    have K6 := Lib.hid hbx
    have HI : Hid (∀ U v v', Bk U (w.heap.size + 4 + 1) 33 #[v] → Bk U (w.heap.size + 4 + 1 + 1) 30 #[v'] → Rzs W0.heap.size v ((pre ++ [x]).map (posN code)) U → Rxs W0.heap.size v' ((pre ++ [x]).map (insN code)) U → Below (w.heap.size + 4 + 1) W U → KeepsOthers W U → ownPostG W0.heap.size (Below (w.heap.size + 4 + 1)) (fun pre W => ∃ v1 v2, Bk W (w.heap.size + 4 + 1) 33 #[v1] ∧ Bk W (w.heap.size + 4 + 1 + 1) 30 #[v2] ∧ Rzs W0.heap.size v1 (pre.map (posN code)) W ∧ Rxs W0.heap.size v2 (pre.map (insN code)) W ∧ Below (w.heap.size + 4 + 1) W0 W) (fun _ _ _ => False) (pre ++ [x]) W .normal { tmps := #[], defers := [] } U) := Lib.hid (fun U v v' k1 k2 k3 k4 k5 k6 => ⟨k6.from _, k5, ⟨v, v', k1, k2, k3, k4, h5.trans k5⟩⟩)
    rw [HP.out, HQ.out] at HI
    clear h1 h2 h3 h4 h5 hbx
    gi_wp2
    clear h0c hlc HP HQ hnf
    generalize List.map (posN code) pre = P at *
    generalize List.map (insN code) pre = Q at *
    generalize posN code x = z at *
    generalize insN code x = i at *
    generalize hTT : w.heap.size + 4 + 1 = T at *
    obtain ⟨i0, i1, i2, i3, i4, i5, i6, i7, i8⟩ := i
    have K7 : Hid (Bk W Bx 26 #[.int .i64 i0, .int .i64 i1, .int .i64 i2, .int .i64 i3, .int .i64 i4, .int .i64 i5, .int .i64 i6, .int .i64 i7, .int .i64 i8]) := Lib.hid K6.out
    clear K6
    unfold Ins.vs
    dsimp only
    have HD := Lib.hid HST.out.drew
    have hS0 : (fun U => Bk U T 33 #[v1] ∧ Bk U (T + 1) 30 #[.slice A pre.length c] ∧ Bk U Bx 26 #[.int .i64 i0, .int .i64 i1, .int .i64 i2, .int .i64 i3, .int .i64 i4, .int .i64 i5, .int .i64 i6, .int .i64 i7, .int .i64 i8]) W.drew := ⟨HD.out.c1, HD.out.c2, K7.out⟩
    refine til_region (fun U => Bk U T 33 #[v1] ∧ Bk U (T + 1) 30 #[.slice A pre.length c] ∧ Bk U Bx 26 #[.int .i64 i0, .int .i64 i1, .int .i64 i2, .int .i64 i3, .int .i64 i4, .int .i64 i5, .int .i64 i6, .int .i64 i7, .int .i64 i8]) [7, 8, 9] (by kernel_rfl) (by kernel_rfl) ?_
    refine til_take (i := 0) (oi := { dst := some 22, op := Op.load 33 (Operand.tmp 6), type := 33, pos := "law.go:66", after := #[], guard := none }) (v := v1) rfl (by kernel_rfl) (by kernel_rfl) (by kernel_rfl) (by kernel_rfl) (fun _ _ _ h => h) (Or.inl ⟨by rfl, ?_⟩) hS0 ?_
    · rintro w' ⟨zS1, zS2, zS3⟩
      have zc1 := zS1.cell 0
      have zc2 := zS2.cell 0
      have zb := c9 zS3
      obtain ⟨b0, b1, b2, b3, b4, b5, b6, b7, b8⟩ := zb
      clear zS1 zS2 zS3
      go_simp
    simp only [Act.put, List.setIfInBounds_toArray, List.set_cons_zero, List.set_cons_succ]
    refine til_take (i := 1) (oi := { dst := some 23, op := Op.move (Operand.tmp 8), type := 3, pos := "law.go:66", after := #[], guard := none }) (v := .int .i64 z) rfl (by kernel_rfl) (by kernel_rfl) (by kernel_rfl) (by kernel_rfl) (fun _ _ _ h => h) (Or.inl ⟨by rfl, ?_⟩) hS0 ?_
    · rintro w' ⟨zS1, zS2, zS3⟩
      have zc1 := zS1.cell 0
      have zc2 := zS2.cell 0
      have zb := c9 zS3
      obtain ⟨b0, b1, b2, b3, b4, b5, b6, b7, b8⟩ := zb
      clear zS1 zS2 zS3
      go_simp
    simp only [Act.put, List.setIfInBounds_toArray, List.set_cons_zero, List.set_cons_succ]
    refine til_take (i := 4) (oi := { dst := some 26, op := Op.load 30 (Operand.tmp 7), type := 30, pos := "law.go:66", after := #[], guard := none }) (v := .slice A pre.length c) rfl (by kernel_rfl) (by kernel_rfl) (by kernel_rfl) (by kernel_rfl) (fun _ _ _ h => h) (Or.inl ⟨by rfl, ?_⟩) hS0 ?_
    · rintro w' ⟨zS1, zS2, zS3⟩
      have zc1 := zS1.cell 0
      have zc2 := zS2.cell 0
      have zb := c9 zS3
      obtain ⟨b0, b1, b2, b3, b4, b5, b6, b7, b8⟩ := zb
      clear zS1 zS2 zS3
      go_simp
    simp only [Act.put, List.setIfInBounds_toArray, List.set_cons_zero, List.set_cons_succ]
    refine til_take (i := 5) (oi := { dst := some 27, op := Op.load 26 (Operand.tmp 9), type := 26, pos := "law.go:66", after := #[], guard := none }) (v := .agg #[.int .i64 i0, .int .i64 i1, .int .i64 i2, .int .i64 i3, .int .i64 i4, .int .i64 i5, .int .i64 i6, .int .i64 i7, .int .i64 i8]) rfl (by kernel_rfl) (by kernel_rfl) (by kernel_rfl) (by kernel_rfl) (fun _ _ _ h => h) (Or.inl ⟨by rfl, ?_⟩) hS0 ?_
    · rintro w' ⟨zS1, zS2, zS3⟩
      have zc1 := zS1.cell 0
      have zc2 := zS2.cell 0
      have zb := c9 zS3
      obtain ⟨b0, b1, b2, b3, b4, b5, b6, b7, b8⟩ := zb
      clear zS1 zS2 zS3
      go_simp
    simp only [Act.put, List.setIfInBounds_toArray, List.set_cons_zero, List.set_cons_succ]
    have HD0 := HD
    have HX0 : Hid (Bk W.drew Bx 26 #[.int .i64 i0, .int .i64 i1, .int .i64 i2, .int .i64 i3, .int .i64 i4, .int .i64 i5, .int .i64 i6, .int .i64 i7, .int .i64 i8]) := Lib.hid K7.out
    clear HD hS0
    refine til_two (i := 2) (j := 6) (o := { dst := some 24, op := Op.buildSlice 33 1 #[(0, Operand.tmp 23)], type := 33, pos := "law.go:66", after := #[{ on := 1, ground := Ground.data }], guard := none }) (o' := { dst := some 28, op := Op.buildSlice 30 1 #[(0, Operand.tmp 27)], type := 30, pos := "law.go:66", after := #[{ on := 5, ground := Ground.data }], guard := none }) (by kernel_rfl) rfl rfl (fun K HK => ?_) (fun K HK => ?_)
    · skip
      go_simp
      have HD1 := Lib.hid (HD0.out.al (.cells #[.int .i64 z] 3))
      have HX1 := Lib.hid (HX0.out.alloc (.cells #[.int .i64 z] 3))
      refine HK.out _ _ ⟨.inr ⟨HD1.out.c1, HD1.out.c2, HX1.out⟩, ?_⟩
      clear HK
      refine til_two (i := 3) (j := 6) (o := { dst := some 25, op := Op.call { callee := Callee.builtin Builtin.append, args := #[Operand.tmp 22, Operand.tmp 24], argTypes := #[33, 33] }, type := 33, pos := "law.go:66", after := #[{ on := 0, ground := Ground.data }, { on := 2, ground := Ground.data }], guard := none }) (o' := { dst := some 28, op := Op.buildSlice 30 1 #[(0, Operand.tmp 27)], type := 30, pos := "law.go:66", after := #[{ on := 5, ground := Ground.data }], guard := none }) (by kernel_rfl) rfl rfl (fun K HK => ?_) (fun K HK => ?_)
      · skip
        obtain ⟨y1, U2, hrun, hst, hoth⟩ := HD1.out.p1 (g2 := W.heap.size) (Bk.new W.drew _ _) HLP.out
        obtain ⟨A1, n1, d1, rfl⟩ := row_form hst.r1
        refine step_append_eq rfl (.tmp 22) (.tmp 24) 33 rfl v1 _ rfl rfl (.slice A1 n1 d1) U2 hrun ?_
        have HX2 := Lib.hid (hoth _ _ HX1.out)
        have HO2 := Lib.hid hoth
        have HD2 := Lib.hid hst
        refine HK.out _ _ ⟨.inr ⟨HD2.out.c1, HD2.out.c2, HX2.out⟩, ?_⟩
        clear HK hrun hst hoth
        simp only [Act.put, List.setIfInBounds_toArray, List.set_cons_zero, List.set_cons_succ]
        refine til_one (i := 6) (o := { dst := some 28, op := Op.buildSlice 30 1 #[(0, Operand.tmp 27)], type := 30, pos := "law.go:66", after := #[{ on := 5, ground := Ground.data }], guard := none }) (by kernel_rfl) rfl (fun K HK => ?_)
        go_simp
        have HD3 := Lib.hid (HD2.out.al (.cells #[.int .i64 i0, .int .i64 i1, .int .i64 i2, .int .i64 i3, .int .i64 i4, .int .i64 i5, .int .i64 i6, .int .i64 i7, .int .i64 i8] 26))
        have HX3 := Lib.hid (HX2.out.alloc (.cells #[.int .i64 i0, .int .i64 i1, .int .i64 i2, .int .i64 i3, .int .i64 i4, .int .i64 i5, .int .i64 i6, .int .i64 i7, .int .i64 i8] 26))
        refine HK.out _ _ ⟨.inr ⟨HD3.out.c1, HD3.out.c2, HX3.out⟩, ?_⟩
        clear HK
        refine til_one (i := 7) (o := { dst := some 29, op := Op.call { callee := Callee.builtin Builtin.append, args := #[Operand.tmp 26, Operand.tmp 28], argTypes := #[30, 30] }, type := 30, pos := "law.go:66", after := #[{ on := 4, ground := Ground.data }, { on := 6, ground := Ground.data }, { on := 3, ground := Ground.chain }], guard := none }) (by kernel_rfl) rfl (fun K HK => ?_)
        obtain ⟨y2, U4, hrun, hst⟩ := HD3.out.p2 (i := ⟨i0, i1, i2, i3, i4, i5, i6, i7, i8⟩) (g2 := U2.heap.size) (Bk.new U2 _ _) HLQ.out
        obtain ⟨A2, n2, d2, rfl⟩ := row_form hst.r2
        refine step_append_eq rfl (.tmp 26) (.tmp 28) 30 rfl _ _ rfl rfl (.slice A2 n2 d2) U4 hrun ?_
        have HD4 := Lib.hid hst
        refine HK.out _ _ ⟨.inl rfl, ?_⟩
        clear HK hrun hst
        simp only [Act.put, List.setIfInBounds_toArray, List.set_cons_zero, List.set_cons_succ]
        refine til_one (i := 8) (o := { dst := none, op := Op.store 33 (Operand.tmp 6) (Operand.tmp 25), type := 0, pos := "law.go:66", after := #[{ on := 3, ground := Ground.data }, { on := 7, ground := Ground.chain }, { on := 0, ground := Ground.phase }, { on := 1, ground := Ground.phase }, { on := 2, ground := Ground.phase }, { on := 3, ground := Ground.phase }, { on := 4, ground := Ground.textOnly Departure.inlinedCapture }, { on := 5, ground := Ground.textOnly Departure.lateStores }, { on := 6, ground := Ground.textOnly Departure.inlinedCapture }, { on := 7, ground := Ground.textOnly Departure.lateStoresUnsure }], guard := none }) (by kernel_rfl) rfl (fun K HK => ?_)
        have q1 := HD4.out.c1.cell 0
        have q2 := HD4.out.c1.frozen 0
        go_simp
        have HD5 := Lib.hid (HD4.out.put1 (.slice A1 n1 d1))
        clear q1 q2
        refine HK.out _ _ ⟨.inl rfl, ?_⟩
        clear HK
        refine til_one (i := 9) (o := { dst := none, op := Op.store 30 (Operand.tmp 7) (Operand.tmp 29), type := 0, pos := "law.go:66", after := #[{ on := 7, ground := Ground.data }, { on := 8, ground := Ground.chain }, { on := 0, ground := Ground.phase }, { on := 1, ground := Ground.phase }, { on := 2, ground := Ground.phase }, { on := 3, ground := Ground.phase }, { on := 4, ground := Ground.phase }, { on := 5, ground := Ground.phase }, { on := 6, ground := Ground.phase }, { on := 7, ground := Ground.phase }, { on := 8, ground := Ground.phase }], guard := none }) (by kernel_rfl) rfl (fun K HK => ?_)
        have q1 := HD5.out.c2.cell 0
        have q2 := HD5.out.c2.frozen 0
        go_simp
        have HD6 := Lib.hid (HD5.out.put2 (.slice A2 n2 d2))
        clear q1 q2
        refine HK.out _ _ ⟨.inl rfl, ?_⟩
        clear HK
        refine til_done (by kernel_rfl) ?_ _
        unfold Only
        dsimp only
        gi_wp2
        subst hTT
        exact HI.out _ _ _ HD6.out.c1 HD6.out.c2 HD6.out.r1 HD6.out.r2 HD6.out.bl HD6.out.kp
      · skip
        go_simp
        have HD2 := Lib.hid (HD1.out.al (.cells #[.int .i64 i0, .int .i64 i1, .int .i64 i2, .int .i64 i3, .int .i64 i4, .int .i64 i5, .int .i64 i6, .int .i64 i7, .int .i64 i8] 26))
        have HX2 := Lib.hid (HX1.out.alloc (.cells #[.int .i64 i0, .int .i64 i1, .int .i64 i2, .int .i64 i3, .int .i64 i4, .int .i64 i5, .int .i64 i6, .int .i64 i7, .int .i64 i8] 26))
        refine HK.out _ _ ⟨.inr ⟨HD2.out.c1, HD2.out.c2, HX2.out⟩, ?_⟩
        clear HK
        refine til_one (i := 3) (o := { dst := some 25, op := Op.call { callee := Callee.builtin Builtin.append, args := #[Operand.tmp 22, Operand.tmp 24], argTypes := #[33, 33] }, type := 33, pos := "law.go:66", after := #[{ on := 0, ground := Ground.data }, { on := 2, ground := Ground.data }], guard := none }) (by kernel_rfl) rfl (fun K HK => ?_)
        obtain ⟨y1, U3, hrun, hst, hoth⟩ := HD2.out.p1 (g2 := W.heap.size) ((Bk.new W.drew _ _).alloc _) HLP.out
        obtain ⟨A1, n1, d1, rfl⟩ := row_form hst.r1
        refine step_append_eq rfl (.tmp 22) (.tmp 24) 33 rfl v1 _ rfl rfl (.slice A1 n1 d1) U3 hrun ?_
        have HX3 := Lib.hid (hoth _ _ HX2.out)
        have HO3 := Lib.hid hoth
        have HD3 := Lib.hid hst
        refine HK.out _ _ ⟨.inr ⟨HD3.out.c1, HD3.out.c2, HX3.out⟩, ?_⟩
        clear HK hrun hst hoth
        simp only [Act.put, List.setIfInBounds_toArray, List.set_cons_zero, List.set_cons_succ]
        refine til_one (i := 7) (o := { dst := some 29, op := Op.call { callee := Callee.builtin Builtin.append, args := #[Operand.tmp 26, Operand.tmp 28], argTypes := #[30, 30] }, type := 30, pos := "law.go:66", after := #[{ on := 4, ground := Ground.data }, { on := 6, ground := Ground.data }, { on := 3, ground := Ground.chain }], guard := none }) (by kernel_rfl) rfl (fun K HK => ?_)
        obtain ⟨y2, U4, hrun, hst⟩ := HD3.out.p2 (i := ⟨i0, i1, i2, i3, i4, i5, i6, i7, i8⟩) (g2 := W.heap.size + 1) (HO3.out _ _ (Bk.new' (by simp))) HLQ.out
        obtain ⟨A2, n2, d2, rfl⟩ := row_form hst.r2
        refine step_append_eq rfl (.tmp 26) (.tmp 28) 30 rfl _ _ rfl rfl (.slice A2 n2 d2) U4 hrun ?_
        have HD4 := Lib.hid hst
        refine HK.out _ _ ⟨.inl rfl, ?_⟩
        clear HK hrun hst
        simp only [Act.put, List.setIfInBounds_toArray, List.set_cons_zero, List.set_cons_succ]
        refine til_one (i := 8) (o := { dst := none, op := Op.store 33 (Operand.tmp 6) (Operand.tmp 25), type := 0, pos := "law.go:66", after := #[{ on := 3, ground := Ground.data }, { on := 7, ground := Ground.chain }, { on := 0, ground := Ground.phase }, { on := 1, ground := Ground.phase }, { on := 2, ground := Ground.phase }, { on := 3, ground := Ground.phase }, { on := 4, ground := Ground.textOnly Departure.inlinedCapture }, { on := 5, ground := Ground.textOnly Departure.lateStores }, { on := 6, ground := Ground.textOnly Departure.inlinedCapture }, { on := 7, ground := Ground.textOnly Departure.lateStoresUnsure }], guard := none }) (by kernel_rfl) rfl (fun K HK => ?_)
        have q1 := HD4.out.c1.cell 0
        have q2 := HD4.out.c1.frozen 0
        go_simp
        have HD5 := Lib.hid (HD4.out.put1 (.slice A1 n1 d1))
        clear q1 q2
        refine HK.out _ _ ⟨.inl rfl, ?_⟩
        clear HK
        refine til_one (i := 9) (o := { dst := none, op := Op.store 30 (Operand.tmp 7) (Operand.tmp 29), type := 0, pos := "law.go:66", after := #[{ on := 7, ground := Ground.data }, { on := 8, ground := Ground.chain }, { on := 0, ground := Ground.phase }, { on := 1, ground := Ground.phase }, { on := 2, ground := Ground.phase }, { on := 3, ground := Ground.phase }, { on := 4, ground := Ground.phase }, { on := 5, ground := Ground.phase }, { on := 6, ground := Ground.phase }, { on := 7, ground := Ground.phase }, { on := 8, ground := Ground.phase }], guard := none }) (by kernel_rfl) rfl (fun K HK => ?_)
        have q1 := HD5.out.c2.cell 0
        have q2 := HD5.out.c2.frozen 0
        go_simp
        have HD6 := Lib.hid (HD5.out.put2 (.slice A2 n2 d2))
        clear q1 q2
        refine HK.out _ _ ⟨.inl rfl, ?_⟩
        clear HK
        refine til_done (by kernel_rfl) ?_ _
        unfold Only
        dsimp only
        gi_wp2
        subst hTT
        exact HI.out _ _ _ HD6.out.c1 HD6.out.c2 HD6.out.r1 HD6.out.r2 HD6.out.bl HD6.out.kp
    · skip
      go_simp
      have HD1 := Lib.hid (HD0.out.al (.cells #[.int .i64 i0, .int .i64 i1, .int .i64 i2, .int .i64 i3, .int .i64 i4, .int .i64 i5, .int .i64 i6, .int .i64 i7, .int .i64 i8] 26))
      have HX1 := Lib.hid (HX0.out.alloc (.cells #[.int .i64 i0, .int .i64 i1, .int .i64 i2, .int .i64 i3, .int .i64 i4, .int .i64 i5, .int .i64 i6, .int .i64 i7, .int .i64 i8] 26))
      refine HK.out _ _ ⟨.inr ⟨HD1.out.c1, HD1.out.c2, HX1.out⟩, ?_⟩
      clear HK
      refine til_one (i := 2) (o := { dst := some 24, op := Op.buildSlice 33 1 #[(0, Operand.tmp 23)], type := 33, pos := "law.go:66", after := #[{ on := 1, ground := Ground.data }], guard := none }) (by kernel_rfl) rfl (fun K HK => ?_)
      go_simp
      have HD2 := Lib.hid (HD1.out.al (.cells #[.int .i64 z] 3))
      have HX2 := Lib.hid (HX1.out.alloc (.cells #[.int .i64 z] 3))
      refine HK.out _ _ ⟨.inr ⟨HD2.out.c1, HD2.out.c2, HX2.out⟩, ?_⟩
      clear HK
      refine til_one (i := 3) (o := { dst := some 25, op := Op.call { callee := Callee.builtin Builtin.append, args := #[Operand.tmp 22, Operand.tmp 24], argTypes := #[33, 33] }, type := 33, pos := "law.go:66", after := #[{ on := 0, ground := Ground.data }, { on := 2, ground := Ground.data }], guard := none }) (by kernel_rfl) rfl (fun K HK => ?_)
      obtain ⟨y1, U3, hrun, hst, hoth⟩ := HD2.out.p1 (g2 := W.heap.size + 1) (Bk.new' (by simp)) HLP.out
      obtain ⟨A1, n1, d1, rfl⟩ := row_form hst.r1
      refine step_append_eq rfl (.tmp 22) (.tmp 24) 33 rfl v1 _ rfl rfl (.slice A1 n1 d1) U3 hrun ?_
      have HX3 := Lib.hid (hoth _ _ HX2.out)
      have HO3 := Lib.hid hoth
      have HD3 := Lib.hid hst
      refine HK.out _ _ ⟨.inr ⟨HD3.out.c1, HD3.out.c2, HX3.out⟩, ?_⟩
      clear HK hrun hst hoth
      simp only [Act.put, List.setIfInBounds_toArray, List.set_cons_zero, List.set_cons_succ]
      refine til_one (i := 7) (o := { dst := some 29, op := Op.call { callee := Callee.builtin Builtin.append, args := #[Operand.tmp 26, Operand.tmp 28], argTypes := #[30, 30] }, type := 30, pos := "law.go:66", after := #[{ on := 4, ground := Ground.data }, { on := 6, ground := Ground.data }, { on := 3, ground := Ground.chain }], guard := none }) (by kernel_rfl) rfl (fun K HK => ?_)
      obtain ⟨y2, U4, hrun, hst⟩ := HD3.out.p2 (i := ⟨i0, i1, i2, i3, i4, i5, i6, i7, i8⟩) (g2 := W.heap.size) (HO3.out _ _ ((Bk.new W.drew _ _).alloc _)) HLQ.out
      obtain ⟨A2, n2, d2, rfl⟩ := row_form hst.r2
      refine step_append_eq rfl (.tmp 26) (.tmp 28) 30 rfl _ _ rfl rfl (.slice A2 n2 d2) U4 hrun ?_
      have HD4 := Lib.hid hst
      refine HK.out _ _ ⟨.inl rfl, ?_⟩
      clear HK hrun hst
      simp only [Act.put, List.setIfInBounds_toArray, List.set_cons_zero, List.set_cons_succ]
      refine til_one (i := 8) (o := { dst := none, op := Op.store 33 (Operand.tmp 6) (Operand.tmp 25), type := 0, pos := "law.go:66", after := #[{ on := 3, ground := Ground.data }, { on := 7, ground := Ground.chain }, { on := 0, ground := Ground.phase }, { on := 1, ground := Ground.phase }, { on := 2, ground := Ground.phase }, { on := 3, ground := Ground.phase }, { on := 4, ground := Ground.textOnly Departure.inlinedCapture }, { on := 5, ground := Ground.textOnly Departure.lateStores }, { on := 6, ground := Ground.textOnly Departure.inlinedCapture }, { on := 7, ground := Ground.textOnly Departure.lateStoresUnsure }], guard := none }) (by kernel_rfl) rfl (fun K HK => ?_)
      have q1 := HD4.out.c1.cell 0
      have q2 := HD4.out.c1.frozen 0
      go_simp
      have HD5 := Lib.hid (HD4.out.put1 (.slice A1 n1 d1))
      clear q1 q2
      refine HK.out _ _ ⟨.inl rfl, ?_⟩
      clear HK
      refine til_one (i := 9) (o := { dst := none, op := Op.store 30 (Operand.tmp 7) (Operand.tmp 29), type := 0, pos := "law.go:66", after := #[{ on := 7, ground := Ground.data }, { on := 8, ground := Ground.chain }, { on := 0, ground := Ground.phase }, { on := 1, ground := Ground.phase }, { on := 2, ground := Ground.phase }, { on := 3, ground := Ground.phase }, { on := 4, ground := Ground.phase }, { on := 5, ground := Ground.phase }, { on := 6, ground := Ground.phase }, { on := 7, ground := Ground.phase }, { on := 8, ground := Ground.phase }], guard := none }) (by kernel_rfl) rfl (fun K HK => ?_)
      have q1 := HD5.out.c2.cell 0
      have q2 := HD5.out.c2.frozen 0
      go_simp
      have HD6 := Lib.hid (HD5.out.put2 (.slice A2 n2 d2))
      clear q1 q2
      refine HK.out _ _ ⟨.inl rfl, ?_⟩
      clear HK
      refine til_done (by kernel_rfl) ?_ _
      unfold Only
      dsimp only
      gi_wp2
      subst hTT
      exact HI.out _ _ _ HD6.out.c1 HD6.out.c2 HD6.out.r1 HD6.out.r2 HD6.out.bl HD6.out.kp
  case done =>
    rintro D ys W hD hS ⟨v1, v2, h1, h2, h3, h4, h5⟩ hK
    subst hS
    obtain ⟨A, c, rfl⟩ := rz_form h3
    obtain ⟨B, d, rfl⟩ := rx_form h4
    rw [List.length_map, List.length_range] at h3 h4 h1 h2
    have K1 := Lib.hid (H14.out.below h5 (by omega))
    have K2 := Lib.hid (H24.out.below h5 (by omega))
    have K3 := Lib.hid (H34.out.below h5 (by omega))
    have K4 := Lib.hid h3
    have K5 := Lib.hid h4
    have K6 := Lib.hid (HB4.out.trans (h5.mono (by omega)))
    have q1 := h1.cell 0
    have q2 := h2.cell 0
    have r1 := K1.out.cell 0
    have r2 := K2.out.cell 0
    have r3 := K3.out.cell 0
    have f1 := K1.out.frozen 0
    have f2 := K2.out.frozen 0
    have f3 := K3.out.frozen 0
    clear h1 h2 h3 h4 h5 hnf
    generalize hNN : (allD code).1.length = n at *
    gi_wp2
    have hmix : Tryz.prog.follows .mixedOrders = true := by kernel_rfl
    have FIN : Hid (∀ Wf, (((W.setCell ⟨w.heap.size + 1, 0, none⟩ (.slice A n c)).setCell ⟨w.heap.size + 1 + 1, 0, none⟩ (.slice B n d)).setCell ⟨w.heap.size + 1 + 1 + 1, 0, none⟩ (.bool true)).drew = Wf →
        Bk Wf (w.heap.size + 1) 33 #[.slice A n c] ∧ Bk Wf (w.heap.size + 1 + 1) 30 #[.slice B n d] ∧ Bk Wf (w.heap.size + 1 + 1 + 1) 4 #[.bool true] ∧ Wf.heap[D]? = some (.deferred (some [])) ∧ Below w.heap.size w Wf ∧
        Rzs w.heap.size (.slice A n c) ((List.range n).map (posN code)) Wf ∧ Rxs w.heap.size (.slice B n d) ((List.range n).map (insN code)) Wf) := Lib.hid (fun Wf hw => by
      subst hw
      have e1 := K1.out.set_ 0 (.slice A n c)
      have e2 : Bk (W.setCell ⟨w.heap.size + 1, 0, none⟩ (.slice A n c)) (w.heap.size + 1 + 1) 30 #[.slice none 0 0] := K2.out.far (p := ⟨w.heap.size + 1, 0, none⟩) (by show w.heap.size + 1 + 1 ≠ w.heap.size + 1; omega) _
      have e3 : Bk ((W.setCell ⟨w.heap.size + 1, 0, none⟩ (.slice A n c)).setCell ⟨w.heap.size + 1 + 1, 0, none⟩ (.slice B n d)) (w.heap.size + 1 + 1 + 1) 4 #[.bool false] := (K3.out.far (p := ⟨w.heap.size + 1, 0, none⟩) (by show w.heap.size + 1 + 1 + 1 ≠ w.heap.size + 1; omega) _).far (p := ⟨w.heap.size + 1 + 1, 0, none⟩) (by show w.heap.size + 1 + 1 + 1 ≠ w.heap.size + 1 + 1; omega) _
      refine ⟨(e1.far (p := ⟨w.heap.size + 1 + 1, 0, none⟩) (by show w.heap.size + 1 ≠ w.heap.size + 1 + 1; omega) _).far (p := ⟨w.heap.size + 1 + 1 + 1, 0, none⟩) (by show w.heap.size + 1 ≠ w.heap.size + 1 + 1 + 1; omega) _, (e2.set_ 0 _).far (p := ⟨w.heap.size + 1 + 1 + 1, 0, none⟩) (by show w.heap.size + 1 + 1 ≠ w.heap.size + 1 + 1 + 1; omega) _, e3.set_ 0 _, (((KeepsOthers.setCell _ _ _).trans (KeepsOthers.setCell _ _ _)).trans (KeepsOthers.setCell _ _ _)).same D _ hK rfl, ?_, ?_, ?_⟩
      · have b1 := ((K6.out.setCell (p := ⟨w.heap.size + 1, 0, none⟩) (by show w.heap.size ≤ w.heap.size + 1; omega) (.slice A n c)).setCell (p := ⟨w.heap.size + 1 + 1, 0, none⟩) (by show w.heap.size ≤ w.heap.size + 1 + 1; omega) (.slice B n d)).setCell (p := ⟨w.heap.size + 1 + 1 + 1, 0, none⟩) (by show w.heap.size ≤ w.heap.size + 1 + 1 + 1; omega) (.bool true)
        exact ⟨b1.os, b1.tape, b1.output, b1.size, b1.block⟩
      · exact ownsRow_base (row_put (row_put (row_put K4.out K1.out (by decide)) e2 (by decide)) e3 (by decide)).drew (by omega)
      · exact ownsRow_base (row_put (row_put (row_put K5.out K1.out (by decide)) e2 (by decide)) e3 (by decide)).drew (by omega))
    clear K1 K2 K3 K4 K5 K6
    gi_region_with_o fail
    all_goals
      gi_wp2
      obtain ⟨g1, g2, g3, gK, gb, gr, gx⟩ := FIN.out _ rfl
      subst hNN
      refine ⟨by simp, .inl ⟨_, _, rfl, run_takeDeferred gK, ?_⟩⟩
      exact ⟨_, run_res3 rfl _ _ _ _ _ _ _ _ rfl rfl rfl ((g1.putObj _ gK rfl).cell 0) ((g2.putObj _ gK rfl).cell 0) ((g3.putObj _ gK rfl).cell 0), A, B, c, d, rfl, gb.trans (belowK_b (w := W0) (by have := HB4.out.size; omega) _ D _ _ hD gK rfl rfl), ownsRow_putObj gr _ gK rfl, ownsRow_putObj gx _ gK rfl⟩
  case stop =>
    rintro D cc pre W hD hSp h hK
    exact h.elim
end decodeCalls
end Go.Proofs.YtblmagcekfbgdaaGreatDoor
namespace Go.Proofs.YtblmagcekfbgdaaGreatDoor
open Go Go.RowKit Go.Shelf
namespace decodeCalls
open Is Nt Tk
set_option linter.unusedVariables false
set_option linter.unusedSimpArgs false
theorem inss_all (code : ByteArray) : inss code (allD code).1.length = (allD code).1 := by
  unfold inss
  apply List.ext_getElem?
  intro j
  rw [List.getElem?_map]
  rcases Nat.lt_or_ge j (allD code).1.length with h | h
  · obtain ⟨_, _, _, _, _, _, _, _, _, _, hi⟩ := ev_at code j h
    rw [List.getElem?_range h, hi]
    rfl
  · rw [List.getElem?_eq_none (by rw [List.length_range]; exact h), List.getElem?_eq_none h]
    rfl
/-- places read -/
def RdP (w : World) (A : Option Addr) (code : ByteArray) : Prop := ∀ j, j < (allD code).1.length → ∃ g, A = some ⟨g, 0, none⟩ ∧ g < w.heap.size ∧ w.cell? ⟨g, j, none⟩ = some (.int .i64 (posN code j))
theorem rdp_of {w : World} {B c : Nat} {A : Option Addr} {code : ByteArray} (h : Rzs B (.slice A (allD code).1.length c) (poss code (allD code).1.length) w) : RdP w A code := fun j hj => by
  have hl : (poss code (allD code).1.length).length = (allD code).1.length := by unfold poss; rw [List.length_map, List.length_range]
  have hh : w.ownsRow B 3 1 (.slice A (allD code).1.length c) (allD code).1.length (zrow (poss code (allD code).1.length)) := by
    have h' := h
    unfold Rzs at h'
    rw [hl] at h'
    exact h'
  rcases hh.2 with ⟨e, h0⟩ | ⟨g, cap, cur, e, h2, h3, h4⟩
  · omega
  · injection e with e1
    subst e1
    refine ⟨g, rfl, (Array.getElem?_eq_some_iff.1 h3).1, ?_⟩
    have hk := World.ownsRow.cellAt hh j (by omega)
    rw [hk]
    unfold zrow poss
    rw [List.getElem?_map, List.getElem?_map, List.getElem?_range hj]
    rfl
theorem RdP.below {w w' : World} {A : Option Addr} {code : ByteArray} (h : RdP w A code) (hb : Below w.heap.size w w') : RdP w' A code := fun j hj => by
  obtain ⟨g, e, hg, hc⟩ := h j hj
  exact ⟨g, e, Nat.lt_of_lt_of_le hg hb.size, (hb.cell hg).trans hc⟩
theorem bel_dr (w : World) (q : Nat) : Below w.heap.size w (w.drewN q) := ⟨rfl, rfl, rfl, Nat.le_refl _, fun _ _ => rfl⟩
theorem bel_al2 {a b : World} (h : Below a.heap.size a b) (o : Obj) : Below b.heap.size b (b.alloc o) := (Below.refl _ b).alloc (Nat.le_refl _) o
set_option maxRecDepth 100000 in
set_option maxHeartbeats 4000000 in
theorem walk_ (dc : DecC TabE) (w : World) (HG : Hid (TabE w)) (code : ByteArray) (a : Int) (hws : code.size ≤ maxLen) (ha : (Lit.int .i64 a).wf = true) :
    Calls Tryz.prog 3 #[.string code, .int .i64 a] w fun e w' => e = .returned (.bool true) ∧ Below w.heap.size w w' := by
  have HL := Lib.hid (fun W hg => dlives_c dc W (Lib.hid hg))
  have hmax : (code.size : Int) ≤ 9223372036854775807 := by have : code.size ≤ maxLen := hws; simp only [maxLen] at this; omega
  have hI : I64 a := by
    simp only [Lit.wf, Bool.and_eq_true, decide_eq_true_eq] at ha
    exact ⟨ha.1, ha.2⟩
  clear ha hws
  rcases Nat.lt_or_ge 120 code.size with hbig | hsm
  · have hb1 : (120 : Int) < (code.size : Int) := by omega
    clear hI
    go_enter Tryz.func3, Tryz.ntmps3
    go_wp2_with fail
    go_at_call 4
    refine (HL.out _ HG.out).mono ?_
    rintro e w1 ⟨rfl, hb⟩
    have HB1 := Lib.hid hb
    clear hb
    go_wp2_with fail
    go_ret
    exact ⟨rfl, HB1.out⟩
  · have hs1 : (code.size : Int) ≤ 120 := by omega
    have HDI := Lib.hid (fun W hg => dc.inst code a W hg hI (by omega))
    have HRI := Lib.hid (fun W => rInst_c code a W hI (by omega))
    have HA := Lib.hid (fun W hg => dc.all code W hg (by omega))
    have HRA := Lib.hid (fun W => rAll_c code W (by omega))
    have HE := Lib.hid (fun W hg => each_l W (Lib.hid hg) code (by omega))
    rw [inss_all] at HE
    have HEV := Lib.hid (fun j hj => ev_at code j hj)
    have HRS := Lib.hid (fun i W => rsize_c i W)
    have HOK := Lib.hid (allD_ok code)
    obtain ⟨f1, f2, f3, f4, f5, f6⟩ := all_facts code
    have HNL : Hid ((allD code).1.length ≤ code.size) := Lib.hid f5
    have HQ : Hid ((allD code).2 = (catU (allD code).1).length) := Lib.hid HOK.out.2.2.1
    clear f1 f2 f3 f4 f5 f6 hsm hI
    unfold TellA at HA HRA
    generalize (if (allD code).2 = code.size then (0 : Int) else 4) = er at HA HRA
    generalize rD code a = r at HDI HRI
    obtain ⟨⟨i0, i1, i2, i3, i4, i5, i6, i7, i8⟩, ni, ei⟩ := r
    unfold tD Ins.vs at HDI HRI
    dsimp only at HDI HRI
    go_enter Tryz.func3, Tryz.ntmps3
    go_wp2_with fail
    go_at_call 4
    refine (HL.out _ HG.out).mono ?_
    rintro e w1 ⟨rfl, hb⟩
    have HB1 := Lib.hid hb
    clear hb HL
    go_wp2_with fail
    go_at_call 5
    refine (HDI.out _ (HG.out.keep HB1.out)).mono ?_
    rintro e w2 ⟨rfl, hb⟩
    have HB2 := Lib.hid (below_al (bel3 HB1.out hb) (.cells #[.int .i64 i0, .int .i64 i1, .int .i64 i2, .int .i64 i3, .int .i64 i4, .int .i64 i5, .int .i64 i6, .int .i64 i7, .int .i64 i8] 26))
    have HX2 : Hid (Bk (w2.alloc (.cells #[.int .i64 i0, .int .i64 i1, .int .i64 i2, .int .i64 i3, .int .i64 i4, .int .i64 i5, .int .i64 i6, .int .i64 i7, .int .i64 i8] 26)) w2.heap.size 26 #[.int .i64 i0, .int .i64 i1, .int .i64 i2, .int .i64 i3, .int .i64 i4, .int .i64 i5, .int .i64 i6, .int .i64 i7, .int .i64 i8]) := Lib.hid (Bk.new _ _ _)
    clear hb HDI HB1
    go_wp2_with fail
    go_at_call 6
    refine (HRI.out _).mono ?_
    rintro e w3 ⟨rfl, hb⟩
    have HB3 := Lib.hid (below_al (bel3 HB2.out hb) (.cells #[.int .i64 i0, .int .i64 i1, .int .i64 i2, .int .i64 i3, .int .i64 i4, .int .i64 i5, .int .i64 i6, .int .i64 i7, .int .i64 i8] 26))
    have HX3 : Hid (Bk (w3.alloc (.cells #[.int .i64 i0, .int .i64 i1, .int .i64 i2, .int .i64 i3, .int .i64 i4, .int .i64 i5, .int .i64 i6, .int .i64 i7, .int .i64 i8] 26)) w2.heap.size 26 #[.int .i64 i0, .int .i64 i1, .int .i64 i2, .int .i64 i3, .int .i64 i4, .int .i64 i5, .int .i64 i6, .int .i64 i7, .int .i64 i8]) := Lib.hid ((HX2.out.below hb HX2.out.lt).alloc _)
    have HY3 : Hid (Bk (w3.alloc (.cells #[.int .i64 i0, .int .i64 i1, .int .i64 i2, .int .i64 i3, .int .i64 i4, .int .i64 i5, .int .i64 i6, .int .i64 i7, .int .i64 i8] 26)) w3.heap.size 26 #[.int .i64 i0, .int .i64 i1, .int .i64 i2, .int .i64 i3, .int .i64 i4, .int .i64 i5, .int .i64 i6, .int .i64 i7, .int .i64 i8]) := Lib.hid (Bk.new _ _ _)
    clear hb HRI HB2 HX2
    go_wp2_with fail
    go_at_call 7
    refine (HA.out _ (HG.out.keep HB3.out)).mono ?_
    rintro e w4 ⟨A, c, rfl, hr, hc, hb⟩
    have HB4 := Lib.hid (bel3 HB3.out hb)
    have HX4 : Hid (Bk w4 w2.heap.size 26 #[.int .i64 i0, .int .i64 i1, .int .i64 i2, .int .i64 i3, .int .i64 i4, .int .i64 i5, .int .i64 i6, .int .i64 i7, .int .i64 i8]) := Lib.hid (HX3.out.below hb HX3.out.lt)
    have HY4 : Hid (Bk w4 w3.heap.size 26 #[.int .i64 i0, .int .i64 i1, .int .i64 i2, .int .i64 i3, .int .i64 i4, .int .i64 i5, .int .i64 i6, .int .i64 i7, .int .i64 i8]) := Lib.hid (HY3.out.below hb HY3.out.lt)
    have HR4 := Lib.hid hr
    clear hb hr hc HA HB3 HX3 HY3
    generalize w2.heap.size = B5 at *
    generalize w3.heap.size = B8 at *
    go_wp2_with fail
    go_at_call 8
    refine (HRA.out _).mono ?_
    rintro e w5 ⟨A', c', rfl, hr, hc, hb⟩
    have HB5 := Lib.hid (bel3 HB4.out hb)
    have HX5 := Lib.hid (HX4.out.below hb HX4.out.lt)
    have HY5 := Lib.hid (HY4.out.below hb HY4.out.lt)
    have HR5 := Lib.hid (HR4.out.below hb)
    have HZ5 : Hid (w4.heap.size ≤ w5.heap.size) := Lib.hid hb.size
    have HO5 := Lib.hid hr
    clear hb hr hc HRA HB4 HX4 HY4 HR4
    go_wp2_with fail
    go_at_call 9
    refine (HE.out _ (HG.out.keep HB5.out)).mono ?_
    rintro e w6 ⟨P, X, cp, cx, rfl, hb, hp, hx⟩
    have HB6 := Lib.hid (bel3 HB5.out hb)
    have HX6 := Lib.hid (HX5.out.below hb HX5.out.lt)
    have HY6 := Lib.hid (HY5.out.below hb HY5.out.lt)
    have HR6 := Lib.hid (HR5.out.below (hb.mono HZ5.out))
    have HO6 := Lib.hid (HO5.out.below hb)
    have HZ6 : Hid (w5.heap.size ≤ w6.heap.size) := Lib.hid hb.size
    have HP6 := Lib.hid (rdp_of hp)
    have HS6 := Lib.hid (rx_rd hx HOK.out.2.1).2.1
    clear hb hp hx HE HB5 HX5 HY5 HR5 HO5 HZ5
    have hn4 : ((allD code).1.length : Int) ≤ 120 := by have := HNL.out; omega
    have hn0 : (0 : Int) ≤ ((allD code).1.length : Int) := by omega
    have HEQ := instEq i0 i1 i2 i3 i4 i5 i6 i7 i8 i0 i1 i2 i3 i4 i5 i6 i7 i8
    rw [eqI_self] at HEQ
    obtain ⟨b0, b1, b2, b3, b4, b5, b6, b7, b8⟩ := c9 HX6.out
    obtain ⟨e0, e1, e2, e3, e4, e5, e6, e7, e8⟩ := c9 HY6.out
    go_wp2_with fail
    go_at_call 10
    refine (same_x A A' (allD code).1.length c c' _ _ (allD code).1 _ HR6.out HO6.out (by omega)).mono ?_
    rintro e w7 ⟨rfl, q, rfl⟩
    clear b0 b1 b2 b3 b4 b5 b6 b7 b8 e0 e1 e2 e3 e4 e5 e6 e7 e8 HEQ HX6 HY6
    go_wp2_with fail
    go_at_call 10
    refine (same_x X A' (allD code).1.length cx c' _ _ (allD code).1 _ (HS6.out.below (bel_dr w6 q)) ((HO6.out.below ((bel_dr w6 q).mono HZ6.out)).below (Below.refl _ _)) (by omega)).mono ?_
    rintro e w8 ⟨rfl, q2, rfl⟩
    have HB8 : Hid (Below w.heap.size w ((w6.drewN q).drewN q2)) := Lib.hid (bel3 HB6.out (bel3 (bel_dr w6 q) (bel_dr _ q2)))
    have HP8 : Hid (RdP ((w6.drewN q).drewN q2) P code) := Lib.hid ((HP6.out.below (bel_dr w6 q)).below (bel_dr _ q2))
    have HS8 : Hid (RdX ((w6.drewN q).drewN q2) ((w6.drewN q).drewN q2).heap.size X (allD code).1.length (allD code).1) := Lib.hid ((HS6.out.below (bel_dr w6 q)).below (bel_dr (w6.drewN q) q2))
    clear HB6 HP6 HS6 HR6 HO6 HZ6
    generalize (w6.drewN q).drewN q2 = w8 at *
    go_wp2_with fail
    go_loopw [20, 21] (fun u c W => ∃ k : Nat, Hid (k ≤ (allD code).1.length) ∧ c = .int .i64 (k : Int) ∧ u = .int .i64 ((catU ((allD code).1.take k)).length : Int) ∧ Hid (Below w8.heap.size w8 W)) (fun _ c _ => (allD code).1.length + 1 - (intOf c).toNat)
    case atStart => exact ⟨0, Lib.hid (Nat.zero_le _), rfl, by rw [List.take_zero]; rfl, Lib.hid (Below.refl _ _)⟩
    case round =>
      obtain ⟨k, HK, rfl, rfl, HBW⟩ := hrel
      rcases Nat.lt_or_ge k (allD code).1.length with hlt | hge
      · obtain ⟨pk, hp, hk, hks, hd, hwf, hok, l1, l11, hnx, hi⟩ := HEV.out k hlt
        obtain ⟨g, rfl, hg, hc⟩ := (HP8.out.below HBW.out) k hlt
        obtain ⟨ad, rfl, hB, hx⟩ := (HS8.out.below HBW.out).rd (by omega)
        obtain ⟨a0, a1, a2, a3, a4, a5, a6, a7, a8⟩ := hx k _ hi
        have HSZ := Lib.hid (encS_len hok)
        have HSI := Lib.hid (fun W => HRS.out (insN code k) W)
        rw [HSZ.out] at HSI
        have HNX := Lib.hid hnx
        have HLT := Lib.hid hlt
        rw [← hk, hp] at *
        have hkl : (k : Int) < ((allD code).1.length : Int) := by omega
        have hk0 : (0 : Int) ≤ (k : Int) := by omega
        have hk4 : (k : Int) ≤ 120 := by omega
        have hl11 : ((encL (insN code k)).length : Int) ≤ 11 := by omega
        have hl0 : (0 : Int) ≤ ((encL (insN code k)).length : Int) := by omega
        have hpk : (pk : Int) ≤ 120 := by omega
        have hpk0 : (0 : Int) ≤ (pk : Int) := by omega
        clear hk hks hd hwf hok l1 l11 hnx hi hx hlt HSZ
        generalize (encL (insN code k)).length = ln at *
        generalize insN code k = ii at *
        obtain ⟨j0, j1, j2, j3, j4, j5, j6, j7, j8⟩ := ii
        unfold Ins.vs at HSI
        dsimp only at a0 a1 a2 a3 a4 a5 a6 a7 a8 HSI
        go_wp2_with fail
        go_at_call 11
        refine (HSI.out _).mono ?_
        rintro e w9 ⟨rfl, hb⟩
        have HB9 : Hid (Below w8.heap.size w8 w9) := Lib.hid (bel3 HBW.out hb)
        clear hb HSI a0 a1 a2 a3 a4 a5 a6 a7 a8 hc
        go_wp2_with fail
        go_roundw
        case rel => exact ⟨k + 1, Lib.hid (by have := HLT.out; omega), by (try simp (disch := omega) only [IntWalk.wrap64_in]); go_num, by rw [HNX.out]; (try simp (disch := omega) only [IntWalk.wrap64_in]); push_cast; rfl, HB9⟩
        case measure => (have := HLT.out; (try simp (disch := omega) only [IntWalk.wrap64_in] at *); simp [intOf] <;> omega)
      · have hkn : k = (allD code).1.length := by have := HK.out; omega
        subst hkn
        have hq : (catU ((allD code).1.take (allD code).1.length)).length = (allD code).2 := by rw [List.take_of_length_le (Nat.le_refl _), HQ.out]
        rw [hq]
        clear hge hq
        go_wp2_with fail
        go_ret
        exact ⟨by simp, bel3 HB8.out HBW.out⟩
end decodeCalls
end Go.Proofs.YtblmagcekfbgdaaGreatDoor
