/- Bytes as text; the document's own Bytes; Same of regions. | Same of regions, as the statements ask it. -/
import Derived.Test.YtikbnfhnimjmmaaGreatDoorA7
import Derived.Laws.IdiomStrings
namespace Go.Proofs.YtikbnfhnimjmmaaGreatDoor
open Go Go.RowKit
namespace Mm
open Wd Nt
set_option linter.unusedVariables false
def toU (bs : List Int) : List UInt8 := bs.map fun x => UInt8.ofNat x.toNat
/-- bytes as a text -/
def strOf (bs : List Int) : ByteArray := ⟨(toU bs).toArray⟩
theorem toU_len (bs : List Int) : (toU bs).length = bs.length := List.length_map ..
theorem toU_get {bs : List Int} (h : Bs bs) {k : Nat} (hk : k < (toU bs).length) : (((toU bs)[k]).toNat : Int) = bt bs k := by
  have hk' : k < bs.length := by rw [← toU_len]; exact hk
  have hb := h.bt k
  have e : (toU bs)[k] = UInt8.ofNat (bt bs k).toNat := by
    have e0 : (toU bs)[k] = UInt8.ofNat (bs[k]'hk').toNat := by simp [toU]
    rw [e0]
    unfold bt
    rw [List.getElem?_eq_getElem hk']; rfl
  rw [e, UInt8.toNat_ofNat']
  omega
theorem strOf_inj {cs bs : List Int} (ha : Bs cs) (hb : Bs bs) (h : strOf cs = strOf bs) : cs = bs := by
  have h1 : toU cs = toU bs := by
    have := congrArg ByteArray.data h
    simpa [strOf] using this
  apply List.ext_getElem
  · rw [← toU_len cs, h1, toU_len]
  · intro k h2 h3
    have g1 := toU_get ha (k := k) (by rw [toU_len]; exact h2)
    have g2 := toU_get hb (k := k) (by rw [toU_len]; exact h3)
    have e : (toU cs)[k]'(by rw [toU_len]; exact h2) = (toU bs)[k]'(by rw [toU_len]; exact h3) := by
      simp only [h1]
    rw [e, g2] at g1
    unfold bt at g1
    rw [List.getElem?_eq_getElem h2, List.getElem?_eq_getElem h3] at g1
    exact g1.symm
theorem run_str {w : World} {B n : Nat} {ad : Addr} {bs : List Int} (c : Nat) (h : Rd8 w B (some ad) n bs) :
    (convert 104 9 (.slice (some ad) n c)).run Tryz.prog w = .ok (.string (strOf bs)) w := by
  have h1 := run_convert_bytes_back (P := Tryz.prog) w 104 9 5 ad c (toU bs) Tryz.underlying104 Tryz.underlying5 Tryz.underlying9 (fun j hj => by
    have hj' : j < n := by rw [← h.len, ← toU_len]; exact hj
    obtain ⟨ad', he, _, hc⟩ := h.rd (by omega)
    cases he
    rw [hc j hj', toU_get h.ok hj])
  rw [toU_len, h.len] at h1
  exact h1
theorem Rd8.cut {w : World} {B n : Nat} {g o : Nat} {bs : List Int} (h : Rd8 w B (some ⟨g, o, none⟩) n bs) (d m : Nat) (hd : d + m ≤ n) : Rd8 w B (some ⟨g, o + d, none⟩) m ((bs.drop d).take m) := by
  have hb : Bs ((bs.drop d).take m) := fun x hx => h.ok x (List.mem_of_mem_drop (List.mem_of_mem_take hx))
  refine ⟨by rw [List.length_take, List.length_drop, h.len]; omega, hb, fun h0 => ?_⟩
  obtain ⟨ad, e, h1, h2⟩ := h.rd (by omega)
  cases e
  refine ⟨_, rfl, h1, fun j hj => ?_⟩
  have h3 := h2 (d + j) (by omega)
  have e1 : (⟨g, o + d, none⟩ : Addr).add j = (⟨g, o, none⟩ : Addr).add (d + j) := by
    unfold Addr.add
    by_cases hj0 : j = 0
    · subst hj0
      by_cases hd0 : d = 0
      · subst hd0; rfl
      · simp [hd0]
    · have : d + j ≠ 0 := by omega
      simp [hj0]; omega
  rw [e1, h3]
  unfold bt
  rw [List.getElem?_take, if_pos hj, List.getElem?_drop]
/-- what is told of bytes -/
def BytesP (M : List Reg) (p n : Int) (w : World) (e : Ending) (w' : World) : Prop := Below w.heap.size w w' ∧ ∃ s x, e = .returned (.tuple #[.string (strOf s), .int .i64 x]) ∧ BytesO M p n s x
end Mm
end Go.Proofs.YtikbnfhnimjmmaaGreatDoor
namespace Go.Proofs.YtikbnfhnimjmmaaGreatDoor
open Go Go.RowKit
namespace Mm
open Wd Nt
set_option linter.unusedVariables false
def SameP (rs ss : List Reg) (w : World) (e : Ending) (w' : World) : Prop := (∃ q, w' = w.drewN q) ∧ ((rs = ss ∧ e = .returned (.bool true)) ∨ (rs ≠ ss ∧ e = .returned (.bool false)))
theorem reg_ext {r s : Reg} (h1 : r.base = s.base) (h2 : r.bytes = s.bytes) (h3 : r.write = s.write) : r = s := by
  cases r; cases s; simp_all
theorem ne_at {rs ss : List Reg} {k : Nat} {r s : Reg} (h1 : rs[k]? = some r) (h2 : ss[k]? = some s) (h : r ≠ s) : rs ≠ ss := by
  intro e; rw [e, h2] at h1; exact h (Option.some.inj h1).symm
theorem quiet_conv {P : Program} {C : World → Prop} {o : Oper} {a : Act} {K : Act → Prop} (x : Operand) (s d : TypeId) (h : o.op = .convert s d x) (u v : Value) (hx : a.eval x = u) (hrun : ∀ w, C w → (convert s d u).run P w = .ok v w) (hk : K (a.put o.dst v)) : o.quiet P a C K := by
  refine ⟨v, fun w hw => ?_, hk⟩
  have e : (execOp a.eval o).run P w = .ok (.value v) w := by
    unfold execOp
    simp only [h, hx]
    simp only [Sem.run_bind, hrun w hw, Result.andThen_ok, Sem.run_pure]
  unfold Oper.quietAt
  rw [e]
  exact ⟨rfl, rfl⟩
theorem str_ne {cs bs : List Int} (h1 : Bs cs) (h2 : Bs bs) (h : cs ≠ bs) : ((strOf cs).toList == (strOf bs).toList) = false := by
  rw [ByteArray.toList_eq, ByteArray.toList_eq, beq_eq_false_iff_ne]
  intro e
  apply h
  apply strOf_inj h1 h2
  unfold strOf at e ⊢
  have e' : toU cs = toU bs := by simpa using e
  rw [e']
theorem str_eq (bs : List Int) : ((strOf bs).toList == (strOf bs).toList) = true := beq_self_eq_true _
set_option maxRecDepth 100000 in
set_option maxHeartbeats 4000000 in
theorem rsame_c (A A' : Option Addr) (n c m c' : Nat) (rs ss : List Reg) (w : World) (ha : Hid (AtR w A n rs)) (hb : Hid (AtR w A' m ss)) (hn : n ≤ 1000) (hm : m ≤ 1000) (hp : ∀ r ∈ rs, 0 < r.bytes.length) (hq : ∀ r ∈ ss, 0 < r.bytes.length) :
    Calls Tryz.prog 30 #[.slice A n c, .slice A' m c'] w (SameP rs ss w) := by
  have HP := Lib.hid hp
  have HQ := Lib.hid hq
  have HL := Lib.hid ha.out.len
  have HL' := Lib.hid hb.out.len
  clear hp hq
  by_cases hnm : n = m
  · subst hnm
    go_enter Tryz.func30, Tryz.ntmps30
    try simp only [List.append]
    go_wp2_with fail
    go_loopw [5] (fun i W => ∃ k q : Nat, k ≤ n ∧ i = .int .i64 (k : Int) ∧ W = w.drewN q ∧ Hid (∀ (j : Nat), j < k → rs[j]? = ss[j]?)) (fun i _ => n - (intOf i).toNat)
    case atStart => exact ⟨0, 0, Nat.zero_le _, rfl, rfl, Lib.hid (fun j hj => absurd hj (by omega))⟩
    case round =>
      obtain ⟨k, q, hk, rfl, rfl, hI⟩ := hrel
      rcases Nat.lt_or_ge k n with hkn | hkn
      · obtain ⟨r, hr⟩ := get_lt (rs := rs) (j := k) (by rw [HL.out]; exact hkn)
        obtain ⟨s, hs⟩ := get_lt (rs := ss) (j := k) (by rw [HL'.out]; exact hkn)
        have hkni : (k : Int) < (n : Int) := by omega
        obtain ⟨ad, rfl, _, A1, n1, c1, a1, a2, a3, a4, a5, a6⟩ := ha.out.at_ hr
        obtain ⟨bd, rfl, _, B1, n2, c2, b1, b2, b3, b4, b5, b6⟩ := hb.out.at_ hs
        have hp1 := HP.out r (List.mem_of_getElem? hr)
        have hq1 := HQ.out s (List.mem_of_getElem? hs)
        have hbr := a4.ok
        have hbs := b4.ok
        obtain ⟨ad1, rfl, _, _⟩ := a4.at_ (k := 0) (by rw [← a4.len]; exact hp1)
        obtain ⟨bd1, rfl, _, _⟩ := b4.at_ (k := 0) (by rw [← b4.len]; exact hq1)
        have hst1 := fun j => run_str (w := (w.drewN q).drewN j) c1 (a4.keep (w' := (w.drewN q).drewN j) (fun p _ => rfl))
        have hst2 := fun j => run_str (w := (w.drewN q).drewN j) c2 (b4.keep (w' := (w.drewN q).drewN j) (fun p _ => rfl))
        have HR := Lib.hid hr
        have HS := Lib.hid hs
        have HBR := Lib.hid hbr
        have HBS := Lib.hid hbs
        clear hr hs hbr hbs a4 b4 hp1 hq1
        by_cases e1 : r.base = s.base
        · by_cases e2 : r.write = s.write
          · by_cases e3 : r.bytes = s.bytes
            · have hI' : Hid (∀ (j : Nat), j < k + 1 → rs[j]? = ss[j]?) := Lib.hid (fun j hj => by
                by_cases e : j = k
                · subst e; rw [HR.out, HS.out, reg_ext e1 e3 e2]
                · exact hI.out j (by omega))
              rw [e3] at hst1
              rw [e1] at a1
              rw [e2] at a3
              have f1 : (s.base != s.base) = false := by rw [bne_self_eq_false]
              have f2 : (s.write != s.write) = false := by rw [bne_self_eq_false]
              have f3 := str_eq s.bytes
              clear e1 e2 e3 hI
              generalize s.base = z1 at *
              generalize s.write = z2 at *
              generalize strOf s.bytes = z3 at *
              go_wp2_with fail
              refine wp_region_quiet_lit (by kernel_rfl) (by kernel_rfl) ?_
              repeat (first | go_big_quiet_step (fail) | (go_big_quiet_want; first | (refine quiet_conv _ _ _ rfl _ _ rfl (by rintro w' ⟨n, rfl⟩; exact hst1 n) ?_; simp only [Act.put, List.setIfInBounds_toArray, List.set_cons_succ, List.set_cons_zero]; go_big_quiet_on) | (refine quiet_conv _ _ _ rfl _ _ rfl (by rintro w' ⟨n, rfl⟩; exact hst2 n) ?_; simp only [Act.put, List.setIfInBounds_toArray, List.set_cons_succ, List.set_cons_zero]; go_big_quiet_on)))
              refine wpQuiet_nil ?_
              intro _ hw'
              obtain ⟨nq, hw''⟩ := hw'
              subst hw''
              go_wp2_with fail
              go_roundw
              case rel => exact ⟨k + 1, _, by omega, by go_num, rfl, hI'⟩
              case measure => (simp [intOf] <;> omega)
            · have HN := Lib.hid (ne_at HR.out HS.out (fun e => e3 (by rw [e])))
              rw [e1] at a1
              rw [e2] at a3
              have f1 : (s.base != s.base) = false := by rw [bne_self_eq_false]
              have f2 : (s.write != s.write) = false := by rw [bne_self_eq_false]
              have f3 := str_ne HBR.out HBS.out e3
              clear e1 e2 e3 hI
              generalize s.base = z1 at *
              generalize s.write = z2 at *
              generalize strOf s.bytes = z3 at *
              generalize strOf r.bytes = z4 at *
              go_wp2_with fail
              refine wp_region_quiet_lit (by kernel_rfl) (by kernel_rfl) ?_
              repeat (first | go_big_quiet_step (fail) | (go_big_quiet_want; first | (refine quiet_conv _ _ _ rfl _ _ rfl (by rintro w' ⟨n, rfl⟩; exact hst1 n) ?_; simp only [Act.put, List.setIfInBounds_toArray, List.set_cons_succ, List.set_cons_zero]; go_big_quiet_on) | (refine quiet_conv _ _ _ rfl _ _ rfl (by rintro w' ⟨n, rfl⟩; exact hst2 n) ?_; simp only [Act.put, List.setIfInBounds_toArray, List.set_cons_succ, List.set_cons_zero]; go_big_quiet_on)))
              refine wpQuiet_nil ?_
              intro _ hw'
              obtain ⟨nq, hw''⟩ := hw'
              subst hw''
              go_wp2_with fail
              go_ret
              exact ⟨⟨_, World.drewN_drewN _ _ _⟩, .inr ⟨HN.out, rfl⟩⟩
          · have HN := Lib.hid (ne_at HR.out HS.out (fun e => e2 (by rw [e])))
            rw [e1] at a1
            have f1 : (s.base != s.base) = false := by rw [bne_self_eq_false]
            cases hb1 : r.write <;> cases hb2 : s.write
            case false.false => exact absurd (by rw [hb1, hb2]) e2
            case true.true => exact absurd (by rw [hb1, hb2]) e2
            all_goals
              rw [hb1] at a3
              rw [hb2] at b3
              clear e1 e2 hI hb1 hb2
              generalize s.base = z1 at *
              go_wp2_with fail
              refine wp_region_quiet_lit (by kernel_rfl) (by kernel_rfl) ?_
              repeat (first | go_big_quiet_step (fail) | (go_big_quiet_want; first | (refine quiet_conv _ _ _ rfl _ _ rfl (by rintro w' ⟨n, rfl⟩; exact hst1 n) ?_; simp only [Act.put, List.setIfInBounds_toArray, List.set_cons_succ, List.set_cons_zero]; go_big_quiet_on) | (refine quiet_conv _ _ _ rfl _ _ rfl (by rintro w' ⟨n, rfl⟩; exact hst2 n) ?_; simp only [Act.put, List.setIfInBounds_toArray, List.set_cons_succ, List.set_cons_zero]; go_big_quiet_on)))
              refine wpQuiet_nil ?_
              intro _ hw'
              obtain ⟨nq, hw''⟩ := hw'
              subst hw''
              go_wp2_with fail
              go_ret
              exact ⟨⟨_, World.drewN_drewN _ _ _⟩, .inr ⟨HN.out, rfl⟩⟩
        · have HN := Lib.hid (ne_at HR.out HS.out (fun e => e1 (by rw [e])))
          have f1 : (r.base != s.base) = true := by simpa using e1
          clear e1 hI
          generalize s.base = z1 at *
          generalize r.base = z2 at *
          go_wp2_with fail
          refine wp_region_quiet_lit (by kernel_rfl) (by kernel_rfl) ?_
          repeat (first | go_big_quiet_step (fail) | (go_big_quiet_want; first | (refine quiet_conv _ _ _ rfl _ _ rfl (by rintro w' ⟨n, rfl⟩; exact hst1 n) ?_; simp only [Act.put, List.setIfInBounds_toArray, List.set_cons_succ, List.set_cons_zero]; go_big_quiet_on) | (refine quiet_conv _ _ _ rfl _ _ rfl (by rintro w' ⟨n, rfl⟩; exact hst2 n) ?_; simp only [Act.put, List.setIfInBounds_toArray, List.set_cons_succ, List.set_cons_zero]; go_big_quiet_on)))
          refine wpQuiet_nil ?_
          intro _ hw'
          obtain ⟨nq, hw''⟩ := hw'
          subst hw''
          go_wp2_with fail
          go_ret
          exact ⟨⟨_, World.drewN_drewN _ _ _⟩, .inr ⟨HN.out, rfl⟩⟩
      · obtain rfl : k = n := by omega
        have HE : Hid (rs = ss) := Lib.hid (List.ext_getElem? (fun j => by
          rcases Nat.lt_or_ge j k with h | h
          · exact hI.out j h
          · rw [List.getElem?_eq_none (by rw [HL.out]; exact h), List.getElem?_eq_none (by rw [HL'.out]; exact h)]))
        clear hI
        go_wp2_with fail
        go_ret
        exact ⟨⟨q, rfl⟩, .inl ⟨HE.out, rfl⟩⟩
  · have hne : rs ≠ ss := fun e => hnm (by rw [← HL.out, ← HL'.out, e])
    have HN := Lib.hid hne
    have hnm' : ((n : Int) != (m : Int)) = true := by simp; omega
    clear hne hnm
    go_enter Tryz.func30, Tryz.ntmps30
    try simp only [List.append]
    go_wp2_with fail
    go_ret
    exact ⟨⟨0, rfl⟩, .inr ⟨HN.out, rfl⟩⟩
end Mm
end Go.Proofs.YtikbnfhnimjmmaaGreatDoor
