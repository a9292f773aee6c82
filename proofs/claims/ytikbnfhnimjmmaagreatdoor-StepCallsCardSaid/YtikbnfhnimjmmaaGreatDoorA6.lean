/- The document's own row of regions: each region's bytes taken over, sorted by first addresses. -/
import Derived.Test.YtikbnfhnimjmmaaGreatDoorA5
import Derived.StillTailTactics
import Derived.Deep.AppendLies
import Derived.Deep.RegionLaw
namespace Go.Proofs.YtikbnfhnimjmmaaGreatDoor
open Go Go.RowKit
namespace Mm
open Wd Nt
set_option linter.unusedVariables false
theorem set_app {α : Type} (l m : List α) (d : Nat) (x : α) : (l ++ m).set (l.length + d) x = l ++ m.set d x := by
  rw [List.set_append_right _ _ (by omega)]; congr 2; omega
theorem rising_ins {a b : List Reg} {r : Reg} (h : Rising (a ++ b)) (h1 : ∀ x ∈ a, x.base ≤ r.base) (h2 : ∀ x ∈ b, r.base ≤ x.base) : Rising (a ++ r :: b) := by
  unfold Rising at *
  rw [List.pairwise_append] at h ⊢
  refine ⟨h.1, List.pairwise_cons.2 ⟨fun x hx => h2 x hx, h.2.1⟩, fun x hx y hy => ?_⟩
  rcases List.mem_cons.1 hy with rfl | hy
  · exact h1 x hx
  · exact h.2.2 x hx y hy
theorem rising_last {a : List Reg} {y r : Reg} (h : Rising (a ++ [y])) (hy : y.base ≤ r.base) : ∀ x ∈ a ++ [y], x.base ≤ r.base := by
  intro x hx
  unfold Rising at h
  rw [List.pairwise_append] at h
  rcases List.mem_append.1 hx with hx | hx
  · exact Int.le_trans (h.2.2 x hx y (by simp)) hy
  · obtain rfl : x = y := by simpa using hx
    exact hy
/-- a row that one has been given: the regions, rising -/
def OwnP (rs : List Reg) (w : World) (e : Ending) (w' : World) : Prop := ∃ v os, e = .returned v ∧ Hid (OwnR w' w.heap.size v os) ∧ Hid ((os.map (·.r)).Perm rs ∧ Rising (os.map (·.r))) ∧ Below w.heap.size w w'
theorem OwnR.more {w5 w6 : World} {B X : Nat} {v v' : Value} {os : List OReg} {o : OReg} (h : OwnR w5 B v os) (ho : w5.ownsRow B 5 1 o.sl o.r.bytes.length (b8 o.r.bytes)) (hX : ∀ p ∈ os, p.g < X) (hg : X ≤ o.g) (hok : o.r.ok)
    (hr : w6.ownsRow B 106 3 v' (os.length + 1) (rowOf os ++ o.cells)) (hk : w5.grownBy w6 v.ownBlock) : OwnR w6 B v' (os ++ [o]) := by
  refine ⟨by rw [List.length_append, rowOf_append, rowOf_one]; exact hr, fun p hp => ?_, ?_, fun p hp => ?_⟩
  · rcases List.mem_append.1 hp with hp | hp
    · exact (h.each p hp).kept hk (.inr (fun e => own_type (h.each p hp) h.row (by decide) (k := p.g) rfl (by rw [← e]; rfl)))
    · obtain rfl : p = o := by simpa using hp
      exact ho.kept hk (.inr (fun e => own_type ho h.row (by decide) (k := p.g) rfl (by rw [← e]; rfl)))
  · rw [List.map_append]
    rw [List.nodup_append]
    refine ⟨h.apart, by simp, fun x hx y hy => ?_⟩
    obtain ⟨p, hp, rfl⟩ := List.mem_map.1 hx
    obtain rfl : y = o.g := by simpa using hy
    have := hX p hp
    omega
  · rcases List.mem_append.1 hp with hp | hp
    · exact h.oks p hp
    · obtain rfl : p = o := by simpa using hp
      exact hok
theorem last_facts {a b : List OReg} {y : OReg} {z : Int} (h : Rising ((a ++ [y] ++ b).map (·.r))) (hy : y.r.base ≤ z) : ∀ x ∈ a ++ [y], x.r.base ≤ z := by
  intro x hx
  unfold Rising at h
  rw [List.map_append, List.pairwise_append] at h
  have h1 := h.1
  rw [List.map_append, List.pairwise_append] at h1
  rcases List.mem_append.1 hx with hx | hx
  · exact Int.le_trans (h1.2.2 x.r (List.mem_map.2 ⟨x, hx, rfl⟩) y.r (by simp)) hy
  · obtain rfl : x = y := by simpa using hx
    exact hy
theorem ins_facts {rs : List Reg} {os a b : List OReg} {o : OReg} {k : Nat} {r : Reg} (h : (os.map (·.r)).Perm (rs.take k) ∧ Rising (os.map (·.r))) (hab : a ++ b = os) (ho : o.r = r) (hb : ∀ x ∈ b, r.base < x.r.base) (ha : ∀ x ∈ a, x.r.base ≤ r.base) (hr : rs[k]? = some r) :
    ((a ++ o :: b).map (·.r)).Perm (rs.take (k + 1)) ∧ Rising ((a ++ o :: b).map (·.r)) := by
  subst hab
  subst ho
  refine ⟨?_, ?_⟩
  · rw [List.take_add_one, hr]
    have h1 : (a ++ o :: b).Perm (o :: (a ++ b)) := List.perm_middle
    refine (h1.map _).trans ?_
    rw [List.map_cons]
    refine (h.1.cons _).trans ?_
    exact (List.perm_append_singleton _ _).symm
  · have h2 := h.2
    rw [List.map_append] at h2
    rw [List.map_append, List.map_cons]
    refine rising_ins h2 (fun x hx => ?_) (fun x hx => ?_)
    · obtain ⟨y, hy, rfl⟩ := List.mem_map.1 hx
      exact ha y hy
    · obtain ⟨y, hy, rfl⟩ := List.mem_map.1 hx
      exact Int.le_of_lt (hb y hy)
theorem grown_trans {a b c : World} {row : Option Nat} (h : a.grownBy b row) (g : b.grownBy c row) : a.grownBy c row :=
  ⟨g.os.trans h.os, g.tape.trans h.tape, g.output.trans h.output, Nat.le_trans h.size g.size, fun k hk hne => (g.block k (Nat.lt_of_lt_of_le hk h.size) hne).trans (h.block k hk hne)⟩
theorem set6 {l m : List Value} {n : Nat} (hl : l.length = n) (y0 y1 y2 o0 o1 o2 p0 p1 p2 q0 q1 q2 : Value) :
    ((((((l ++ ([y0, y1, y2] ++ ([o0, o1, o2] ++ m))).set n p0).set (n + 1) p1).set (n + 2) p2).set (n + 3) q0).set (n + 4) q1).set (n + 5) q2 = l ++ ([p0, p1, p2] ++ ([q0, q1, q2] ++ m)) := by
  subst hl
  have h0 := fun (k : List Value) (x : Value) => set_app l k 0 x
  simp only [Nat.add_zero] at h0
  rw [h0, set_app, set_app, set_app, set_app, set_app]
  rfl
theorem OwnR.swap {w : World} {B G n c q : Nat} {a b : List OReg} {y o : OReg} (h0 : OwnR w B (.slice (some ⟨G, 0, none⟩) n c) (a ++ [y] ++ o :: b)) (hn : (a ++ y :: o :: b).length = n) (ha : a.length = q) :
    OwnR ((((((w.setCell ⟨G, q * 3, none⟩ (.int .u64 o.r.base)).setCell ⟨G, q * 3 + 1, none⟩ o.sl).setCell ⟨G, q * 3 + 2, none⟩ (.bool o.r.write)).setCell ⟨G, (q + 1) * 3, none⟩ (.int .u64 y.r.base)).setCell ⟨G, (q + 1) * 3 + 1, none⟩ y.sl).setCell ⟨G, (q + 1) * 3 + 2, none⟩ (.bool y.r.write))
      B (.slice (some ⟨G, 0, none⟩) n c) (a ++ o :: y :: b) ∧
    w.grownBy ((((((w.setCell ⟨G, q * 3, none⟩ (.int .u64 o.r.base)).setCell ⟨G, q * 3 + 1, none⟩ o.sl).setCell ⟨G, q * 3 + 2, none⟩ (.bool o.r.write)).setCell ⟨G, (q + 1) * 3, none⟩ (.int .u64 y.r.base)).setCell ⟨G, (q + 1) * 3 + 1, none⟩ y.sl).setCell ⟨G, (q + 1) * 3 + 2, none⟩ (.bool y.r.write)) (some G) := by
  have h : OwnR w B (.slice (some ⟨G, 0, none⟩) n c) (a ++ y :: o :: b) := by rw [List.append_assoc] at h0; exact h0
  have hrow := h.row
  rw [hn] at hrow
  obtain ⟨r1, k1⟩ := hrow.stored (q * 3) (.int .u64 o.r.base)
  obtain ⟨r2, k2⟩ := r1.stored (q * 3 + 1) o.sl
  obtain ⟨r3, k3⟩ := r2.stored (q * 3 + 2) (.bool o.r.write)
  obtain ⟨r4, k4⟩ := r3.stored ((q + 1) * 3) (.int .u64 y.r.base)
  obtain ⟨r5, k5⟩ := r4.stored ((q + 1) * 3 + 1) y.sl
  obtain ⟨r6, k6⟩ := r5.stored ((q + 1) * 3 + 2) (.bool y.r.write)
  have hk := grown_trans (grown_trans (grown_trans (grown_trans (grown_trans k1 k2) k3) k4) k5) k6
  have hp : (a ++ o :: y :: b).Perm (a ++ y :: o :: b) := List.Perm.append_left a (List.Perm.swap y o b)
  have hn' : (a ++ o :: y :: b).length = n := by rw [hp.length_eq]; exact hn
  refine ⟨⟨?_, fun x hx => ?_, ?_, fun x hx => h.oks x (hp.mem_iff.1 hx)⟩, hk⟩
  · rw [hn']
    have e : rowOf (a ++ o :: y :: b) = ((((((rowOf (a ++ y :: o :: b)).set (q * 3) (.int .u64 o.r.base)).set (q * 3 + 1) o.sl).set (q * 3 + 2) (.bool o.r.write)).set ((q + 1) * 3) (.int .u64 y.r.base)).set ((q + 1) * 3 + 1) y.sl).set ((q + 1) * 3 + 2) (.bool y.r.write) := by
      rw [rowOf_append, rowOf_append]
      show rowOf a ++ (o.cells ++ (y.cells ++ rowOf b)) = _
      rw [show (q + 1) * 3 = q * 3 + 3 by omega]
      exact (set6 (by rw [rowOf_len, ha]) _ _ _ _ _ _ _ _ _ _ _ _).symm
    rw [e]; exact r6
  · have hx' := hp.mem_iff.1 hx
    exact (h.each x hx').kept hk (.inr (fun e => own_type (h.each x hx') h.row (by decide) (k := x.g) rfl (by show some G = some x.g; exact e.symm)))
  · exact ((hp.map (·.g)).nodup_iff).2 h.apart
set_option maxRecDepth 100000 in
set_option maxHeartbeats 4000000 in
theorem own_c (A : Option Addr) (n c : Nat) (rs : List Reg) (w : World) (h : Hid (AtR w A n rs)) (hc : n ≤ 9223372036854775807) (hG : Good rs) :
    Calls Tryz.prog 72 #[.slice A n c] w (OwnP rs w) := by
  have HL := Lib.hid h.out.len
  have hn8 : n ≤ 8 := by rw [← HL.out]; exact hG.few
  have HG := Lib.hid hG
  clear hG
  go_enter Tryz.func72, Tryz.ntmps72
  try simp only [List.append]
  go_wp2_with fail
  go_loopw [3, 4] (fun v i W => ∃ (k : Nat) (A0 : Option Addr) (c0 : Nat) (os : List OReg), k ≤ n ∧ v = .slice A0 k c0 ∧ i = .int .i64 (k : Int) ∧ Hid (OwnR W w.heap.size (.slice A0 k c0) os) ∧ Hid ((os.map (·.r)).Perm (rs.take k) ∧ Rising (os.map (·.r))) ∧ Hid (Below w.heap.size w W)) (fun _ i _ => n - (intOf i).toNat)
  case atStart => exact ⟨0, none, 0, [], Nat.zero_le _, rfl, rfl, Lib.hid OwnR.nil, Lib.hid ⟨by rw [List.take_zero]; exact List.Perm.refl _, List.Pairwise.nil⟩, Lib.hid (Below.refl _ _)⟩
  case round =>
    obtain ⟨k, A0, c0, os, hk, rfl, rfl, HO, HP, HW⟩ := hrel
    rcases Nat.lt_or_ge k n with hkn | hkn
    · obtain ⟨r, hr⟩ := get_lt (rs := rs) (j := k) (by rw [HL.out]; exact hkn)
      have hW := AtR.step h HW.out
      obtain ⟨ad, rfl, hb, A1, n1, c1, h1, h2, h3, h4, h5, h6⟩ := hW.out.at_ hr
      have hkni : (k : Int) < (n : Int) := by omega
      have HR := Lib.hid hr
      have hrs := HG.out.short k r hr
      have hlen : n1 = r.bytes.length := h4.len.symm
      have hn1 : n1 ≤ 1048576 := by unfold Reg.len at hrs; omega
      obtain ⟨W2, hW2⟩ : ∃ W2, W2 = (wr.alloc (.cells #[.int .u64 r.base, .slice A1 n1 c1, .bool r.write] 106)).alloc (.cells #[] 5) := ⟨_, rfl⟩
      have hX2 : Bk W2 wr.heap.size 106 #[.int .u64 r.base, .slice A1 n1 c1, .bool r.write] := by rw [hW2]; exact (Bk.new _ _ _).alloc _
      have hY2 : Bk W2 (wr.heap.size + 1) 5 #[] := by rw [hW2]; exact Bk.new' (by simp)
      have hb2 : Below wr.heap.size wr W2 := by rw [hW2]; exact ((Below.refl _ wr).alloc (Nat.le_refl _) _).alloc (by simp) _
      have hs2 : W2.heap.size = wr.heap.size + 2 := by rw [hW2]; simp
      have hwl := HW.out.size
      obtain ⟨g, c', w3, hap, hown, hb3, hg3, hgY⟩ := app8 (w := W2) 104 (cc := c1) (B := w.heap.size) hY2 (by omega) (((h4.keep (fun p hp => hb2.cell hp)).more hb2.size)) (by omega)
      rw [hW2] at hap
      have HLEN := Lib.hid hlen
      have hX3 : Bk w3 wr.heap.size 106 #[.int .u64 r.base, .slice A1 n1 c1, .bool r.write] := hX2.below hb3 (by omega)
      have cX0 : w3.cell? ⟨wr.heap.size, 0, none⟩ = some (.int .u64 r.base) := hX3.cell 0
      have cX2 : w3.cell? ⟨wr.heap.size, 2, none⟩ = some (.bool r.write) := hX3.cell 2
      have cX1 : w3.cell? ⟨wr.heap.size, 1, none⟩ = some (.slice A1 n1 c1) := hX3.cell 1
      have fX1 : w3.frozen? ⟨wr.heap.size, 1, none⟩ = false := hX3.frozen 1
      have hX4 : Bk (w3.setCell ⟨wr.heap.size, 1, none⟩ (.slice (some ⟨g, 0, none⟩) n1 c')) wr.heap.size 106 #[.int .u64 r.base, .slice (some ⟨g, 0, none⟩) n1 c', .bool r.write] := hX3.set_ 1 _
      have hb4 : Below wr.heap.size wr (w3.setCell ⟨wr.heap.size, 1, none⟩ (.slice (some ⟨g, 0, none⟩) n1 c')) := (hb2.trans (hb3.mono (by omega))).setCell (Nat.le_refl _) _
      obtain ⟨W4, hW4⟩ : ∃ W4, W4 = w3.setCell ⟨wr.heap.size, 1, none⟩ (.slice (some ⟨g, 0, none⟩) n1 c') := ⟨_, rfl⟩
      have hs4 : W4.heap.size = w3.heap.size := by rw [hW4]; simp [World.setCell]
      have hgX : g ≠ wr.heap.size := by rcases hgY with e | e <;> omega
      have hgX2 : wr.heap.size < g := by rcases hgY with e | e <;> omega
      have hown4 : W4.ownsRow w.heap.size 5 1 (.slice (some ⟨g, 0, none⟩) n1 c') n1 (b8 r.bytes) := by
        rw [hW4]; exact hown.kept (only_setCell _ _ _ _) (.inr (by simp [Value.ownBlock]; exact hgX))
      rw [← hW4] at hX4 hb4
      have hb5 : Below wr.heap.size wr (W4.alloc (.cells #[.int .u64 r.base, .slice (some ⟨g, 0, none⟩) n1 c', .bool r.write] 106)) := hb4.alloc hb4.size _
      have hown5 := hown4.alloc (.cells #[.int .u64 r.base, .slice (some ⟨g, 0, none⟩) n1 c', .bool r.write] 106)
      have hZ5 : Bk (W4.alloc (.cells #[.int .u64 r.base, .slice (some ⟨g, 0, none⟩) n1 c', .bool r.write] 106)) W4.heap.size 106 #[.int .u64 r.base, .slice (some ⟨g, 0, none⟩) n1 c', .bool r.write] := Bk.new _ _ _
      have HO5 := HO.out.below hb5
      have hrow5 := HO5.row
      have hosl : os.length = k := by
        have h1 := HP.out.1.length_eq
        rw [List.length_map, List.length_take, HL.out] at h1
        omega
      obtain ⟨v2, w6, hap2, hrow6, hk6, hv6⟩ := appR (w := W4.alloc (.cells #[.int .u64 r.base, .slice (some ⟨g, 0, none⟩) n1 c', .bool r.write] 106)) 53 hZ5 hrow5 ⟨rfl, rfl, rfl⟩ (by omega) (by have := hb5.size; omega)
      have HX5 : Hid (OwnR w6 w.heap.size v2 (os ++ [⟨r, g, c'⟩])) := by
        have ho5 : (W4.alloc (.cells #[.int .u64 r.base, .slice (some ⟨g, 0, none⟩) n1 c', .bool r.write] 106)).ownsRow w.heap.size 5 1 (OReg.sl ⟨r, g, c'⟩) r.bytes.length (b8 r.bytes) := by
          unfold OReg.sl
          rw [← hlen]; exact hown5
        exact Lib.hid (HO5.more (o := ⟨r, g, c'⟩) ho5 (X := wr.heap.size) (fun p hp => (HO.out.lt hp).2) (Nat.le_of_lt hgX2) (hW.out.oks r (List.mem_of_getElem? hr))
          (by show w6.ownsRow _ _ _ _ _ (rowOf os ++ [.int .u64 r.base, OReg.sl ⟨r, g, c'⟩, .bool r.write]); unfold OReg.sl; rw [← hlen]; exact hrow6) hk6)
      have HB6 : Hid (Below w.heap.size w w6) := Lib.hid (((HW.out.trans (hb5.mono hwl))).grown hk6 (by have := hb5.size; omega) (fun x hx => (HO.out.rowlt hx).1))
      obtain ⟨G, c2, rfl⟩ : ∃ G c2, v2 = .slice (some ⟨G, 0, none⟩) (k + 1) c2 := by
        rcases HX5.out.shape with ⟨e1, e2⟩ | ⟨g0, c0, e1, _⟩
        · simp at e2
        · exact ⟨g0, c0, by rw [e1, List.length_append, hosl]; rfl⟩
      rw [hs4, hW4] at hap2
      have HAP2 := Lib.hid hap2
      have HOSL := Lib.hid hosl
      have HW2 := Lib.hid hW2
      have HW4 := Lib.hid hW4
      clear hX2 hY2 hb2 hs2 hown hb3 hg3 hgY hX3 hb4 hs4 hgX hgX2 hown4 hown5 hZ5 HO5 hrow5 hosl hrow6 hk6 hv6 hlen hr hW2 hap2 hb5 h4 HO hW4
      have hap2 := HAP2.out
      clear HAP2
      go_wp2_with (first | (at_builtin; refine wpList_app rfl (.tmp 17) (.tmp 19) 104 rfl _ _ rfl rfl _ _ hap ?_) | (at_builtin; refine wpList_app rfl (.tmp 24) (.tmp 26) 53 rfl _ _ rfl rfl _ _ hap2 ?_))
      clear hap hap2 cX0 cX1 cX2 fX1 hX4 h1 h2 h3
      go_loopw [6] (fun v W => ∃ (p : Nat) (a b : List OReg), v = .int .i64 (p : Int) ∧ p ≤ k ∧ Hid (a.length = p ∧ a ++ b = os ∧ ∀ x ∈ b, r.base < x.r.base) ∧ Hid (OwnR W w.heap.size (.slice (some ⟨G, 0, none⟩) (k + 1) c2) (a ++ ⟨r, g, c'⟩ :: b)) ∧ Hid (Below w.heap.size w W)) (fun v _ => (intOf v).toNat)
      case atStart => exact ⟨k, os, [], rfl, Nat.le_refl _, Lib.hid ⟨HOSL.out, List.append_nil _, (fun x hx => by cases hx)⟩, HX5, HB6⟩
      case round =>
        obtain ⟨p, a, b, rfl, hpk, hab, HO6, HW6⟩ := hrel
        rcases Nat.eq_zero_or_pos p with rfl | hp0
        · have ha0 : a = [] := List.eq_nil_of_length_eq_zero hab.out.1
          have HF := Lib.hid (ins_facts HP.out hab.out.2.1 (o := ⟨r, g, c'⟩) rfl hab.out.2.2 (fun x hx => by rw [ha0] at hx; cases hx) HR.out)
          clear ha0
          go_wp2_with fail
          go_quiet (fail)
          go_wp2_with fail
          go_roundw
          case rel => exact ⟨k + 1, _, _, _, by omega, rfl, by go_num, Lib.hid (HO6.out.below (below_drewN (Below.refl _ _) nq)), HF, Lib.hid (HW6.out.trans (below_drewN (Below.refl _ _) nq))⟩
          case measure => (simp [intOf] <;> omega)
        · obtain ⟨q, rfl⟩ : ∃ q, p = q + 1 := ⟨p - 1, by omega⟩
          obtain ⟨a', y, rfl⟩ : ∃ a' y, a = a' ++ [y] := by
            rcases List.eq_nil_or_concat a with h | ⟨l, y, h⟩
            · have := hab.out.1; rw [h] at this; simp at this
            · exact ⟨l, y, by rw [h, List.concat_eq_append]⟩
          have hla : a'.length = q := by have := hab.out.1; simpa using this
          have e1 : (a' ++ [y] ++ (⟨r, g, c'⟩ : OReg) :: b)[q]? = some y := by
            subst hla
            rw [List.append_assoc, List.getElem?_append_right (Nat.le_refl _), Nat.sub_self]
            rfl
          have e2 : (a' ++ [y] ++ (⟨r, g, c'⟩ : OReg) :: b)[q + 1]? = some ⟨r, g, c'⟩ := by
            rw [show q + 1 = (a' ++ [y]).length by simp [hla], List.getElem?_append_right (Nat.le_refl _), Nat.sub_self]; rfl
          have cy : ∀ d, d < 3 → _ := fun d hd => HO6.out.cell (g := G) rfl e1 (d := d) hd
          have cr : ∀ d, d < 3 → _ := fun d hd => HO6.out.cell (g := G) rfl e2 (d := d) hd
          have y0 : wr.cell? ⟨G, q * 3, none⟩ = some (.int .u64 y.r.base) := cy 0 (by omega)
          have r0 : wr.cell? ⟨G, (q + 1) * 3, none⟩ = some (.int .u64 r.base) := cr 0 (by omega)
          have s1 : IntKind.i64.wrap ((q : Int) + 1 - 1) = (q : Int) := by rw [show (q : Int) + 1 - 1 = q by omega]; exact IntWalk.i64_in _ (by omega)
          have q0 : (0 : Int) ≤ (q : Int) := by omega
          have q1 : (q : Int) < (k : Int) := by omega
          have q2 : (0 : Int) < (q : Int) + 1 := by omega
          have q3 : (q : Int) + 1 < (k : Int) + 1 := by omega
          by_cases hlt : r.base < y.r.base
          · go_wp2_with fail
            go_quiet (fail)
            have y1 : wr.cell? ⟨G, q * 3 + 1, none⟩ = some (.slice (some ⟨y.g, 0, none⟩) y.r.bytes.length y.c) := cy 1 (by omega)
            have y2 : wr.cell? ⟨G, q * 3 + 2, none⟩ = some (.bool y.r.write) := cy 2 (by omega)
            have r1 : wr.cell? ⟨G, (q + 1) * 3 + 1, none⟩ = some (.slice (some ⟨g, 0, none⟩) r.bytes.length c') := cr 1 (by omega)
            have r2 : wr.cell? ⟨G, (q + 1) * 3 + 2, none⟩ = some (.bool r.write) := cr 2 (by omega)
            have s2 : IntKind.i64.wrap (q : Int) = (q : Int) := IntWalk.i64_in _ (by omega)
            have s3 : (0 : Int) ≤ (q : Int) + 1 := by omega
            have s5 : (q : Int) < (k : Int) + 1 := by omega
            have s6 : ((q : Int)).toNat = q := by omega
            have s4 : ((q : Int) + 1).toNat = q + 1 := by omega
            have hl' : (a' ++ [y] ++ (⟨r, g, c'⟩ : OReg) :: b).length = k + 1 := by
              have h1 := congrArg List.length hab.out.2.1
              rw [HOSL.out] at h1
              simp only [List.length_append, List.length_cons, List.length_nil] at h1 ⊢
              omega
            have hrow := HO6.out.row
            rw [hl'] at hrow
            have HL2 := Lib.hid hl'
            have ff : ∀ j, wr.frozen? ⟨G, j, none⟩ = false := fun j => hrow.frozenAt j
            have f0 := ff (q * 3)
            have f1 := ff (q * 3 + 1)
            have f2 := ff (q * 3 + 2)
            have f3 := ff ((q + 1) * 3)
            have f4 := ff ((q + 1) * 3 + 1)
            have f5 := ff ((q + 1) * 3 + 2)
            clear ff cy cr hl' hrow
            go_wp2_with fail
            have hab' : Hid (a'.length = q ∧ a' ++ y :: b = os ∧ ∀ x ∈ y :: b, r.base < x.r.base) := Lib.hid ⟨hla, by have h := hab.out.2.1; simpa using h, fun x hx => by
              rcases List.mem_cons.1 hx with rfl | hx
              · exact hlt
              · exact hab.out.2.2 x hx⟩
            go_region_law (fail)
            all_goals
              go_wp2_with fail
              go_roundw
              case rel =>
                have hsw := (HO6.out.below (below_drewN (Below.refl _ _) (nq + 1))).swap (a := a') (b := b) (y := y) (o := ⟨r, g, c'⟩) (q := q) (by have h := HL2.out; rw [List.append_assoc] at h; exact h) hab'.out.1
                exact ⟨q, a', y :: b, by go_num, by omega, hab', Lib.hid hsw.1, Lib.hid ((HW6.out.trans (below_drewN (Below.refl _ _) (nq + 1))).grown hsw.2 (Nat.le_trans HW6.out.size (Nat.le_refl _)) (fun x hx => (HO6.out.rowlt hx).1))⟩
              case measure => (simp [intOf] <;> omega)
          · have hlt' : decide (r.base < y.r.base) = false := decide_eq_false hlt
            have HF := Lib.hid (ins_facts HP.out hab.out.2.1 (o := ⟨r, g, c'⟩) rfl hab.out.2.2 (last_facts (by have h1 := HP.out.2; rw [← hab.out.2.1] at h1; exact h1) (z := r.base) (Int.not_lt.1 hlt)) HR.out)
            clear cy cr hlt
            go_wp2_with fail
            go_quiet (fail)
            go_wp2_with fail
            go_roundw
            case rel => exact ⟨k + 1, _, _, _, by omega, rfl, by go_num, Lib.hid (HO6.out.below (below_drewN (Below.refl _ _) nq)), HF, Lib.hid (HW6.out.trans (below_drewN (Below.refl _ _) nq))⟩
            case measure => (simp [intOf] <;> omega)
    · obtain rfl : k = n := by omega
      have HP' : Hid ((os.map (·.r)).Perm rs ∧ Rising (os.map (·.r))) := Lib.hid (by have := HP.out; rwa [List.take_of_length_le (by rw [HL.out]; exact Nat.le_refl _)] at this)
      clear HP h
      go_wp2_with fail
      go_ret
      exact ⟨_, os, rfl, HO, HP', HW.out⟩
end Mm
end Go.Proofs.YtikbnfhnimjmmaaGreatDoor
