/- OwnRegions of the statements' kit: every region's bytes are one's own, each in a block of its own. | What is seen of an instruction hangs on no secret: plain reckoning; no program in it. | What an instruction does not make stays; what it does not take does not matter: plain reckoning; no program in it. | Whether a number is among some; what StepStays' calls hand on. | A row loaded by an operation that stands behind a guard. -/
import Derived.Test.YtmiphnocgepdgaaGreatDoorA13
import Derived.Test.YtmiphnocgepdgaaGreatDoorS1
import Derived.Test.YtmiphnocgepdgaaGreatDoorD1
import Derived.Test.YtmiphnocgepdgaaGreatDoorS16
namespace Go.Proofs.YtmiphnocgepdgaaGreatDoor
open Go Go.RowKit
namespace Mm
open Wd Nt
set_option linter.unusedVariables false
def Own9P (bs : List Int) (w : World) (e : Ending) (w' : World) : Prop :=
  Below w.heap.size w w' ∧ ∃ g c, e = .returned (.slice (some ⟨g, 0, none⟩) bs.length c) ∧ w.heap.size ≤ g ∧ w'.ownsRow w.heap.size 5 1 (.slice (some ⟨g, 0, none⟩) bs.length c) bs.length (b8 bs)
theorem kown9_c (A : Option Addr) (n c : Nat) (bs : List Int) (w : World) (h : Hid (Rd8 w w.heap.size A n bs)) (hn : n ≤ 1099511627776) :
    Calls Tryz.prog 57 #[.slice A n c] w (Own9P bs w) := by
  obtain ⟨W2, hW2⟩ : ∃ W2, W2 = w.alloc (.cells #[] 5) := ⟨_, rfl⟩
  have hY : Bk W2 w.heap.size 5 #[] := by rw [hW2]; exact Bk.new _ _ _
  have hb2 : Below w.heap.size w W2 := by rw [hW2]; exact bel_alloc _
  have hlen := h.out.len
  obtain ⟨g, c', w3, hap, hown, hb3, hg3, hgY⟩ := app8 (w := W2) 64 (cc := c) (B := w.heap.size) hY (Nat.le_refl _) ((h.out.keep (fun p hp => hb2.cell hp)).more hb2.size) hn
  have hP : Hid (Own9P bs w (.returned (.slice (some ⟨g, 0, none⟩) n c')) w3) := Lib.hid ⟨hb2.trans hb3, g, c', by rw [hlen], (hown.lt g rfl).1, by rw [hlen]; exact hown⟩
  rw [hW2] at hap
  clear hY hb2 hlen hown hb3 hg3 hgY hW2
  go_enter Tryz.func57, Tryz.ntmps57
  go_wp2_with (at_builtin; refine wpList_app rfl (.tmp 3) (.tmp 4) 64 rfl _ _ rfl rfl _ _ hap ?_)
  go_ret
  exact hP.out
/-! ### a row of regions, the first of which have their bytes for themselves -/
def OReg.sh (o : OReg) : ShR := ⟨o.r, some ⟨o.g, 0, none⟩, o.r.bytes.length, o.c⟩
structure OwnK (w : World) (B g n c : Nat) (rs : List Reg) (k : Nat) (os : List OReg) (xs : List ShR) : Prop where
  sh : ShO w B g n c rs xs
  len : os.length = k
  fst : ∀ (j : Nat) (o : OReg), os[j]? = some o → xs[j]? = some o.sh
  own : ∀ o ∈ os, w.ownsRow B 5 1 o.sl o.r.bytes.length (b8 o.r.bytes)
  nd : (os.map (·.g)).Nodup
theorem OwnK.kept {w w' : World} {B g n c k : Nat} {rs : List Reg} {os : List OReg} {xs : List ShR} (h : OwnK w B g n c rs k os xs) (hb : Below w.heap.size w w') : OwnK w' B g n c rs k os xs :=
  ⟨h.sh.below hb, h.len, h.fst, fun o ho => own_kp (B := w.heap.size) (E := w.heap.size) (Kp.of hb) (h.own o ho) fun j hj => .inl ((h.own o ho).lt j hj).2, h.nd⟩
theorem OwnK.put {w w' : World} {B g n c k g2 c2 : Nat} {rs : List Reg} {os : List OReg} {xs : List ShR} {x : ShR} (h : OwnK w B g n c rs k os xs) (hb : Below w.heap.size w w') (hB : B ≤ w.heap.size) (hx : xs[k]? = some x) (hg : w.heap.size ≤ g2)
    (ho : w'.ownsRow w.heap.size 5 1 (.slice (some ⟨g2, 0, none⟩) x.r.bytes.length c2) x.r.bytes.length (b8 x.r.bytes)) (hok : Bs x.r.bytes) :
    ∃ xs', OwnK (w'.setCell ⟨g, k * 3 + 1, none⟩ (.slice (some ⟨g2, 0, none⟩) x.r.bytes.length c2)) B g n c rs (k + 1) (os ++ [⟨x.r, g2, c2⟩]) xs' := by
  have h1 := h.kept hb
  have hgl := (h.sh.row.lt g rfl).2
  have hne : g2 ≠ g := by omega
  have hrm := own_room ho
  have hkx := (List.getElem?_eq_some_iff.1 hx).1
  refine ⟨_, h1.sh.put hx (own_rd8 ho hok) hne hrm, by rw [List.length_append, h.len]; rfl, fun j o hj => ?_, fun o hmo => ?_, ?_⟩
  · rcases Nat.lt_or_ge j k with hjk | hjk
    · rw [List.getElem?_append_left (by rw [h.len]; exact hjk)] at hj
      rw [List.getElem?_set_ne (by omega)]
      exact h.fst j o hj
    · rw [List.getElem?_append_right (by rw [h.len]; exact hjk), h.len] at hj
      have hj0 : j - k = 0 := by
        rcases Nat.eq_zero_or_pos (j - k) with e | e
        · exact e
        · rw [List.getElem?_eq_none (by show 1 ≤ _; omega)] at hj; cases hj
      rw [hj0] at hj
      obtain rfl : (⟨x.r, g2, c2⟩ : OReg) = o := by simpa using hj
      obtain rfl : j = k := by omega
      rw [List.getElem?_set_self hkx]; rfl
  · have hst := (h1.sh.row.stored (k * 3 + 1) (.slice (some ⟨g2, 0, none⟩) x.r.bytes.length c2)).2
    have key : ∀ {B' : Nat} {v : Value} {m : Nat} {ys : List Value}, w'.ownsRow B' 5 1 v m ys → (v.ownBlock = none ∨ v.ownBlock ≠ some g) → (w'.setCell ⟨g, k * 3 + 1, none⟩ (.slice (some ⟨g2, 0, none⟩) x.r.bytes.length c2)).ownsRow B' 5 1 v m ys := fun h9 h8 => h9.kept hst h8
    rcases List.mem_append.1 hmo with hmo | hmo
    · exact key (h1.own o hmo) (.inr (own_type h1.sh.row (h1.own o hmo) (by decide) rfl))
    · obtain rfl : o = ⟨x.r, g2, c2⟩ := by simpa using hmo
      exact ownsRow_base (key ho (.inr (by show some g2 ≠ some g; simpa using hne))) hB
  · rw [List.map_append, List.nodup_append]
    refine ⟨h.nd, by simp, fun a ha b hb' e => ?_⟩
    obtain ⟨o, ho', rfl⟩ := List.mem_map.1 ha
    have hl := ((h.own o ho').lt o.g rfl).2
    simp at hb'
    omega
theorem OwnK.done {w : World} {B g n c : Nat} {rs : List Reg} {os : List OReg} {xs : List ShR} (h : OwnK w B g n c rs n os xs) : OwnR w B (.slice (some ⟨g, 0, none⟩) n c) os ∧ os.map (·.r) = rs := by
  have hl : xs.length = n := by have := h.sh.row.1; rw [sh_len] at this; omega
  have hxs : xs = os.map OReg.sh := by
    apply List.ext_getElem?
    intro j
    rw [List.getElem?_map]
    rcases Nat.lt_or_ge j n with hj | hj
    · have e := List.getElem?_eq_getElem (l := os) (i := j) (by rw [h.len]; exact hj)
      rw [e, h.fst j _ e]; rfl
    · rw [List.getElem?_eq_none (by omega), List.getElem?_eq_none (by rw [h.len]; exact hj)]; rfl
  have hrow : shCells xs = rowOf os := by
    rw [hxs]; unfold shCells rowOf
    rw [List.flatMap_map]; rfl
  have hrs : os.map (·.r) = rs := by rw [← h.sh.regs, hxs, List.map_map]; rfl
  refine ⟨⟨by have := h.sh.row; rw [hrow] at this; rw [h.len]; exact this, h.own, h.nd, fun o ho => h.sh.oks o.r (by rw [← hrs]; exact List.mem_map_of_mem ho)⟩, hrs⟩
/-- what OwnRegions answers -/
def OwnFP (rs : List Reg) (w : World) (e : Ending) (w' : World) : Prop := Below w.heap.size w w' ∧ ∃ g c os, e = .returned (.slice (some ⟨g, 0, none⟩) rs.length c) ∧ Hid (OwnR w' w.heap.size (.slice (some ⟨g, 0, none⟩) rs.length c) os ∧ os.map (·.r) = rs)
set_option maxRecDepth 100000 in
set_option maxHeartbeats 4000000 in
theorem kregs9_c (A : Option Addr) (n c : Nat) (rs : List Reg) (w : World) (h : Hid (AtR w A n rs)) (hL : Lite rs) :
    Calls Tryz.prog 29 #[.slice A n c] w (OwnFP rs w) := by
  obtain ⟨n', hn'⟩ : ∃ n', n' = rs.length := ⟨_, rfl⟩
  have H1 := Lib.hid (kownR_c A n c rs w h (by have := hL.1; have := h.out.len; omega))
  have HL := Lib.hid hL
  have HN := Lib.hid hn'
  have hn10 : n' ≤ 10 := by rw [hn']; exact hL.1
  clear hL hn'
  go_enter Tryz.func29, Tryz.ntmps29
  go_wp2_with fail
  go_at_call 56
  refine H1.out.mono ?_
  rintro e w1 ⟨hb1, g, c', xs, rfl, hS⟩
  rw [← HN.out] at hS ⊢
  have HB1 := Lib.hid hb1
  have HS0 : Hid (OwnK w1 w.heap.size g n' c' rs 0 [] xs) := Lib.hid ⟨hS.out, rfl, (fun j o hj => by simp at hj), (fun o ho => by cases ho), List.nodup_nil⟩
  clear H1 hb1 hS
  go_wp2_with fail
  go_loopw [4] (fun i W => ∃ (k : Nat) (os : List OReg) (xs : List ShR), k ≤ n' ∧ i = .int .i64 (k : Int) ∧ Hid (OwnK W w.heap.size g n' c' rs k os xs) ∧ Hid (Below w.heap.size w W)) (fun i _ => n' - (intOf i).toNat)
  case atStart => exact ⟨0, [], xs, Nat.zero_le _, rfl, HS0, HB1⟩
  case round =>
    obtain ⟨k, os, xs, hk, rfl, hS, HW⟩ := hrel
    rcases Nat.lt_or_ge k n' with hkn | hkn
    · have hkni : (k : Int) < (n' : Int) := by omega
      have hk0 : (0 : Int) ≤ (k : Int) := by omega
      have hxl : xs.length = n' := by rw [HN.out, ← hS.out.sh.regs, List.length_map]
      obtain ⟨x, hx⟩ : ∃ x, xs[k]? = some x := ⟨_, List.getElem?_eq_getElem (by omega)⟩
      obtain ⟨h8, hne, hxc, hxm⟩ := hS.out.sh.each x (List.mem_of_getElem? hx)
      have hx3 : x.n ≤ 300 := by
        have hr : rs[k]? = some x.r := by rw [← hS.out.sh.regs, List.getElem?_map, hx]; rfl
        have h1 := HL.out.2 k x.r hr
        have h2 := h8.len
        unfold Reg.len at h1
        omega
      have c1 : wr.cell? ⟨g, k * 3 + 1, none⟩ = some (.slice x.A x.n x.c) := by
        rw [hS.out.sh.row.cellAt _ (by omega), sh_get hx (by omega)]; rfl
      have H2 := fun W hW => Lib.hid (kown9_c x.A x.n x.c x.r.bytes W hW (by omega))
      have H8 := Lib.hid h8
      have HX := Lib.hid hx
      have hgl := (hS.out.sh.row.lt g rfl).2
      clear h8 hne hx hxl
      go_wp2_with fail
      go_at_call 57
      refine (H2 wr H8).out.mono ?_
      rintro e w2 ⟨hb2, g2, c2, rfl, hg2, ho2⟩
      have hS2 := hS.out.kept hb2
      have hgw := (hS.out.sh.row.lt g rfl).1
      have hs2 := hb2.size
      have hws := HW.out.size
      have f1 : w2.frozen? ⟨g, k * 3 + 1, none⟩ = false := hS2.sh.row.frozenAt _
      have d1 : w2.cell? ⟨g, k * 3 + 1, none⟩ = some (.slice x.A x.n x.c) := by rw [hb2.cell (by exact hgl)]; exact c1
      obtain ⟨xs3, hS3⟩ := hS.out.put hb2 hws HX.out hg2 ho2 H8.out.ok
      have HS3 := Lib.hid hS3
      have HW3 := Lib.hid ((HW.out.trans (hb2.mono hws)).setCell (p := ⟨g, k * 3 + 1, none⟩) (show w.heap.size ≤ g by exact hgw) (.slice (some ⟨g2, 0, none⟩) x.r.bytes.length c2))
      clear hS hb2 ho2 hS2 hgw H2 H8 HX c1 hS3
      go_wp2_with fail
      go_roundw
      case rel => exact ⟨k + 1, _, xs3, by omega, by go_num, HS3, HW3⟩
      case measure => (simp [intOf] <;> omega)
    · obtain rfl : k = n' := by omega
      have HA : Hid (OwnR wr w.heap.size (.slice (some ⟨g, 0, none⟩) rs.length c') os ∧ os.map (·.r) = rs) := Lib.hid (by have := hS.out.done; rw [HN.out] at this; exact this)
      clear hS
      go_wp2_with fail
      go_ret
      exact ⟨HW.out, g, c', os, by rw [HN.out]; rfl, HA⟩
end Mm
end Go.Proofs.YtmiphnocgepdgaaGreatDoor
namespace Go.Proofs.YtmiphnocgepdgaaGreatDoor
open Go Go.RowKit
namespace Sp
open Wd Mm Is
set_option linter.unusedVariables false
set_option linter.unusedSimpArgs false
/-! ### memories of the same shape -/
def zr (r : Reg) : Reg := ⟨r.base, List.replicate r.bytes.length 0, r.write⟩
theorem zr_len (r : Reg) : (zr r).len = r.len := by unfold Reg.len zr; rw [List.length_replicate]
def Alike (M N : List Reg) : Prop := M.map zr = N.map zr
theorem Alike.symm {M N : List Reg} (h : Alike M N) : Alike N M := Eq.symm h
theorem Alike.len {M N : List Reg} (h : Alike M N) : M.length = N.length := by
  have := congrArg List.length h
  rwa [List.length_map, List.length_map] at this
theorem Alike.at_ {M N : List Reg} (h : Alike M N) {i : Nat} {r : Reg} (hi : M[i]? = some r) : ∃ s, N[i]? = some s ∧ s.base = r.base ∧ s.write = r.write ∧ s.len = r.len := by
  have e : (M.map zr)[i]? = (N.map zr)[i]? := by rw [h]
  rw [List.getElem?_map, List.getElem?_map, hi] at e
  obtain ⟨s, hs, hz⟩ := Option.map_eq_some_iff.1 e.symm
  have h1 : (zr s).base = (zr r).base := by rw [hz]
  have h2 : (zr s).write = (zr r).write := by rw [hz]
  have h3 : (zr s).len = (zr r).len := by rw [hz]
  rw [zr_len, zr_len] at h3
  exact ⟨s, hs, h1, h2, h3⟩
theorem Alike.hits {M N : List Reg} (h : Alike M N) {p n : Int} {i : Nat} {r : Reg} (hh : Hits M p n i r) : ∃ s, Hits N p n i s ∧ s.write = r.write := by
  obtain ⟨s, hs, hb, hw, hl⟩ := h.at_ hh.1
  obtain ⟨_, h1, h2, h3⟩ := hh
  exact ⟨s, ⟨hs, by omega, by omega, by omega⟩, hw⟩
theorem good_z {rs : List Reg} (h : Mm.Good rs) : Mm.Good (rs.map zr) := by
  have key : ∀ (i : Nat) (r : Reg), (rs.map zr)[i]? = some r → ∃ s, rs[i]? = some s ∧ r.base = s.base ∧ r.len = s.len := by
    intro i r hi
    rw [List.getElem?_map] at hi
    obtain ⟨s, hs, rfl⟩ := Option.map_eq_some_iff.1 hi
    exact ⟨s, hs, rfl, zr_len s⟩
  refine ⟨by rw [List.length_map]; exact h.few, fun i r hi => ?_, fun i r hi => ?_, fun i r hi => ?_, fun i j r s hi hj hn => ?_⟩
  · obtain ⟨s, hs, hb, hl⟩ := key i r hi
    rw [hl]; exact h.pos i s hs
  · obtain ⟨s, hs, hb, hl⟩ := key i r hi
    rw [hl]; exact h.short i s hs
  · obtain ⟨s, hs, hb, hl⟩ := key i r hi
    rw [hl, hb]; exact h.fits i s hs
  · obtain ⟨u, hu, hb, hl⟩ := key i r hi
    obtain ⟨v, hv, hb', hl'⟩ := key j s hj
    rw [hb, hl, hb', hl']; exact h.apart i j u v hu hv hn
theorem rising_z {M : List Reg} (h : Rising M) : Rising (M.map zr) := by
  unfold Rising at h ⊢
  rw [List.pairwise_map]
  exact h
theorem alike_perm {rs rs' M N : List Reg} (h : Alike rs rs') (hg : Mm.Good rs) (p : M.Perm rs) (q : N.Perm rs') (hM : Rising M) (hN : Rising N) : Alike M N :=
  rising_uniq (good_z hg) (p.map zr) (by rw [show rs.map zr = rs'.map zr from h]; exact q.map zr) (rising_z hM) (rising_z hN)
theorem load_alike {M N : List Reg} {p v v' e e' : Int} (h : Alike M N) (hx : LoadO M p v e) (hy : LoadO N p v' e') : e = e' := by
  rcases hx with ⟨i, r, a, _, b⟩ | ⟨a, _, b⟩ <;> rcases hy with ⟨i', r', a', _, b'⟩ | ⟨a', _, b'⟩
  · rw [b, b']
  · obtain ⟨s, hs, _⟩ := h.hits a; exact absurd hs (a' _ _)
  · obtain ⟨s, hs, _⟩ := h.symm.hits a'; exact absurd hs (a _ _)
  · rw [b, b']
theorem store_alike {M N M1 N1 : List Reg} {p v v' e e' : Int} (h : Alike M N) (hx : StoreO M p v M1 e) (hy : StoreO N p v' N1 e') : e = e' := by
  rcases hx with ⟨i, r, a, w, _, b⟩ | ⟨a, _, b⟩ <;> rcases hy with ⟨i', r', a', w', _, b'⟩ | ⟨a', _, b'⟩
  · rw [b, b']
  · obtain ⟨s, hs, hw⟩ := h.hits a
    have := a' _ _ hs
    rw [hw, w] at this; cases this
  · obtain ⟨s, hs, hw⟩ := h.symm.hits a'
    have := a _ _ hs
    rw [hw, w'] at this; cases this
  · rw [b, b']
theorem xch_alike {M N M1 N1 : List Reg} {t : Ev} {x y v v' e e' : Int} (h : Alike M N) (hx : XchO M t x v M1 e) (hy : XchO N t y v' N1 e') : e = e' := by
  rcases hx with ⟨a, b, _⟩ | ⟨a, b, _⟩ | ⟨a, b, _, _, c⟩ <;> rcases hy with ⟨a', b', _⟩ | ⟨a', b', _⟩ | ⟨a', b', _, _, c'⟩
  · exact load_alike h b b'
  · omega
  · exact absurd a a'
  · omega
  · exact store_alike h b b'
  · exact absurd a b'
  · exact absurd a' a
  · exact absurd a' b
  · rw [c, c']

/-! ### states that agree where it is seen -/
structure SeenT (s t : Stt) (i : Ins) : Prop where
  pc : t.pc = s.pc
  cf : t.cf = s.cf
  zf : t.zf = s.zf
  sp : t.r 4 = s.r 4
  b : held t i.b = held s i.b
  x : held t i.x = held s i.x
theorem tch_same {s t : Stt} {i : Ins} (h : SeenT s t i) : tch t i = tch s i := by
  unfold tch atI addr
  rw [h.sp, h.b, h.x]
def nxt (s : Stt) (i : Ins) (size : Int) : Int :=
  if i.op = 30 ∨ (i.op = 31 ∧ s.zf = false) ∨ (i.op = 32 ∧ s.cf = true) then u64 (u64 (s.pc + u64 size) + u64 i.im) else u64 (s.pc + u64 size)
theorem bh_pc {s : Stt} {i : Ins} {size v : Int} (h : i.op ≠ 33) : (bh s i size v).pc = nxt s i size := by
  unfold bh nxt
  by_cases hm : isMv i.op = true
  · rw [if_pos hm]
    unfold mvP
    by_cases h3 : i.op = 3
    · rw [if_pos h3, if_neg (by omega)]; rfl
    rw [if_neg h3]
    by_cases h4 : i.op = 4
    · rw [if_pos h4, if_neg (by omega)]
    rw [if_neg h4]
    by_cases h5 : i.op = 5
    · rw [if_pos h5, if_neg (by omega)]; rfl
    rw [if_neg h5]
    by_cases h19 : i.op = 19
    · rw [if_pos h19, if_neg (by omega)]; rfl
    rw [if_neg h19]
    by_cases h28 : i.op = 28
    · rw [if_pos h28, if_neg (by omega)]; rfl
    rw [if_neg h28]
    by_cases h29 : i.op = 29
    · rw [if_pos h29, if_neg (by omega)]; rfl
    rw [if_neg h29]
    by_cases h30 : i.op = 30
    · rw [if_pos h30, if_pos (.inl h30)]; rfl
    rw [if_neg h30]
    by_cases h31 : i.op = 31
    · rw [if_pos h31]
      cases hz : s.zf
      · rw [if_pos (.inr (.inl ⟨h31, rfl⟩))]; unfold jmpS; simp [hz]
      · rw [if_neg (by rintro (h | ⟨_, h⟩ | ⟨h, _⟩); exact h30 h; cases h; omega)]; unfold jmpS; simp [hz]
    rw [if_neg h31]
    by_cases h32 : i.op = 32
    · rw [if_pos h32]
      cases hz : s.cf
      · rw [if_neg (by rintro (h | ⟨h, _⟩ | ⟨_, h⟩); exact h30 h; exact h31 h; cases h)]; unfold jmpS; simp [hz]
      · rw [if_pos (.inr (.inr ⟨h32, rfl⟩))]; unfold jmpS; simp [hz]
    exfalso
    unfold isMv at hm
    simp only [Bool.or_eq_true, decide_eq_true_eq] at hm
    omega
  · rw [if_neg hm]
    have hn : ¬ (i.op = 30 ∨ (i.op = 31 ∧ s.zf = false) ∨ (i.op = 32 ∧ s.cf = true)) := by
      unfold isMv at hm
      simp only [Bool.or_eq_true, decide_eq_true_eq] at hm
      omega
    rw [if_neg hn]; rfl
theorem nxt_same {s t : Stt} {i : Ins} {size : Int} (h : SeenT s t i) : nxt t i size = nxt s i size := by
  unfold nxt
  rw [h.pc, h.cf, h.zf]
def memB (i : Ins) : Bool := decide (i.op = 3) || decide (i.op = 4) || decide (i.op = 28) || decide (i.op = 29)
/-- all that is seen of an instruction that came off -/
theorem evs_seen {s n : Stt} {i : Ins} (h : i.op ≠ 33) :
    (jmpB i = true ∧ memB i = false ∧ evs s i n = [⟨1, s.pc⟩, ⟨4, n.pc⟩]) ∨ (jmpB i = false ∧ memB i = true ∧ evs s i n = [⟨1, s.pc⟩, tch s i]) ∨ (jmpB i = false ∧ memB i = false ∧ evs s i n = [⟨1, s.pc⟩]) := by
  have e1 : (⟨1, s.pc⟩ : Ev) ≠ ev0 := by unfold ev0; simp
  have e4 : (⟨4, n.pc⟩ : Ev) ≠ ev0 := by unfold ev0; simp
  by_cases hj : jmpB i = true
  · left
    have ho : i.op = 30 ∨ i.op = 31 ∨ i.op = 32 := by
      unfold jmpB at hj
      simp only [Bool.and_eq_true, Bool.or_eq_true, decide_eq_true_eq] at hj
      omega
    have ht : tch s i = ev0 := by
      unfold tch
      rw [if_neg (by omega), if_neg (by omega), if_neg (by omega), if_neg (by omega)]
    have hg : goe i n = ⟨4, n.pc⟩ := by unfold goe; rw [hj]; rfl
    refine ⟨hj, by unfold memB; simp; omega, ?_⟩
    unfold evs
    rw [ht, hg]
    simp [e1, e4]
  · have hj' : jmpB i = false := by simpa using hj
    have hg : goe i n = ev0 := by unfold goe; rw [hj', decide_eq_false h]; rfl
    right
    by_cases hm : memB i = true
    · left
      refine ⟨hj', hm, ?_⟩
      have ht : tch s i ≠ ev0 := by
        unfold memB at hm
        simp only [Bool.or_eq_true, decide_eq_true_eq] at hm
        unfold tch ev0
        split
        · simp
        split
        · simp
        split
        · simp
        split
        · simp
        · omega
      unfold evs
      rw [hg]
      simp [e1, ht]
    · right
      have hm' : memB i = false := by simpa using hm
      refine ⟨hj', hm', ?_⟩
      have ht : tch s i = ev0 := by
        unfold memB at hm
        simp only [Bool.or_eq_true, decide_eq_true_eq] at hm
        unfold tch
        rw [if_neg (by omega), if_neg (by omega), if_neg (by omega), if_neg (by omega)]
      unfold evs
      rw [hg, ht]
      simp [e1]
/-- what both runs show -/
theorem seen_all {s t a b : Stt} {i : Ins} {M N M1 N1 : List Reg} {x y : List Ev} {g h : Int} (h33 : i.op ≠ 33) (hA : Alike M N) (hT : SeenT s t i) (hs : DoO s i 5 M a x M1 g) (ht : DoO t i 5 N b y N1 h) :
    h = g ∧ y = x ∧ ((g ≠ 0 ∧ x = []) ∨ (g = 0 ∧ b.pc = a.pc ∧ ((jmpB i = true ∧ memB i = false ∧ x = [⟨1, s.pc⟩, ⟨4, a.pc⟩]) ∨ (jmpB i = false ∧ memB i = true ∧ x = [⟨1, s.pc⟩, tch s i] ∧ a.pc = u64 (s.pc + 5)) ∨ (jmpB i = false ∧ memB i = false ∧ x = [⟨1, s.pc⟩] ∧ a.pc = u64 (s.pc + 5))))) := by
  rcases hs with ⟨r1, n1, l1, _, e1⟩ | ⟨r1, v, x1, c1⟩ <;> rcases ht with ⟨r2, n2, l2, _, e2⟩ | ⟨r2, v', x2, c2⟩
  · exact ⟨by rw [e1, e2], by rw [l1, l2], .inl ⟨by rw [e1]; exact r1, l1⟩⟩
  · exact absurd r2 r1
  · exact absurd r1 r2
  · rw [tch_same hT] at x2
    obtain rfl : g = h := xch_alike hA x1 x2
    rcases c1 with ⟨q1, n1, l1⟩ | ⟨q1, n1, l1⟩ <;> rcases c2 with ⟨q2, n2, l2⟩ | ⟨q2, n2, l2⟩
    · exact ⟨rfl, by rw [l1, l2], .inl ⟨q1, l1⟩⟩
    · exact absurd q2 q1
    · exact absurd q1 q2
    · have p1 : a.pc = nxt s i 5 := by rw [n1]; exact bh_pc h33
      have p2 : b.pc = nxt s i 5 := by rw [n2, bh_pc h33]; exact nxt_same hT
      have hev : y = x := by
        rw [l1, l2]
        unfold evs
        rw [tch_same hT, hT.pc]
        have : goe i b = goe i a := by unfold goe; rw [p1, p2]
        rw [this]
      refine ⟨rfl, hev, .inr ⟨q1, by rw [p1, p2], ?_⟩⟩
      have h5 : jmpB i = false → okI i = true → a.pc = u64 (s.pc + 5) := by
        intro hj hk
        rw [p1]
        unfold nxt
        rw [if_neg (by
          unfold jmpB at hj
          rw [hk] at hj
          simp only [Bool.true_and, Bool.or_eq_false_iff, decide_eq_false_iff_not] at hj
          omega)]
        rfl
      have hk : okI i = true := by
        unfold refE chk at r1
        by_cases hk : okI i = true
        · exact hk
        · rw [if_neg hk] at r1; simp at r1
      rw [l1]
      rcases evs_seen (s := s) (n := a) (i := i) h33 with ⟨q, q', w⟩ | ⟨q, q', w⟩ | ⟨q, q', w⟩
      · exact .inl ⟨q, q', w⟩
      · exact .inr (.inl ⟨q, q', w, h5 q hk⟩)
      · exact .inr (.inr ⟨q, q', w, h5 q hk⟩)
/-- where an instruction's place may lie -/
theorem ok_place {i : Ins} (h : okI i = true) : (0 ≤ i.b ∧ i.b ≤ 15) ∧ -1 ≤ i.x ∧ i.x ≤ 15 := by
  have key : ∀ f, okF i f = true → plB i = true ∨ plZ i = true := by
    intro f hf
    cases f <;> simp only [okF, Bool.and_eq_true] at hf <;> first | exact .inl hf.1.2 | exact .inr hf.1.2 | exact .inr hf.2 | cases hf
  rcases key _ h with hp | hp
  · unfold plB regB at hp
    simp only [Bool.and_eq_true, decide_eq_true_eq] at hp
    obtain ⟨⟨⟨h1, h2⟩, _⟩, h3⟩ := hp
    by_cases hx : i.x = -1
    · omega
    · rw [if_neg hx] at h3
      simp only [Bool.and_eq_true, decide_eq_true_eq] at h3
      omega
  · unfold plZ at hp
    simp only [Bool.and_eq_true, decide_eq_true_eq] at hp
    omega
end Sp
end Go.Proofs.YtmiphnocgepdgaaGreatDoor
namespace Go.Proofs.YtmiphnocgepdgaaGreatDoor
open Go Go.RowKit
namespace Sp
open Wd Mm Is
set_option linter.unusedVariables false
set_option linter.unusedSimpArgs false
theorem forms {op : Int} (h1 : 1 ≤ op) (h33 : op ≤ 33) :
    (formOf op = .ds ∧ (op = 1 ∨ (6 ≤ op ∧ op ≤ 14) ∨ op = 20 ∨ op = 21 ∨ op = 26 ∨ op = 27)) ∨ (formOf op = .di ∧ op = 2) ∨ (formOf op = .dm ∧ (op = 3 ∨ op = 5)) ∨ (formOf op = .sm ∧ op = 4) ∨
    (formOf op = .dj ∧ 15 ≤ op ∧ op ≤ 18) ∨ (formOf op = .dst ∧ op = 19) ∨ (formOf op = .d ∧ (op = 22 ∨ op = 23 ∨ op = 29)) ∨ (formOf op = .db ∧ (op = 24 ∨ op = 25)) ∨
    (formOf op = .s ∧ op = 28) ∨ (formOf op = .j ∧ (op = 30 ∨ op = 31 ∨ op = 32)) ∨ (formOf op = .r ∧ op = 33) := by
  unfold formOf
  by_cases a1 : op = 1 ∨ (6 ≤ op ∧ op ≤ 14) ∨ op = 20 ∨ op = 21 ∨ op = 26 ∨ op = 27
  · rw [if_pos a1]; exact .inl ⟨rfl, a1⟩
  rw [if_neg a1]; right
  by_cases a2 : op = 2
  · rw [if_pos a2]; exact .inl ⟨rfl, a2⟩
  rw [if_neg a2]; right
  by_cases a3 : op = 3 ∨ op = 5
  · rw [if_pos a3]; exact .inl ⟨rfl, a3⟩
  rw [if_neg a3]; right
  by_cases a4 : op = 4
  · rw [if_pos a4]; exact .inl ⟨rfl, a4⟩
  rw [if_neg a4]; right
  by_cases a5 : 15 ≤ op ∧ op ≤ 18
  · rw [if_pos a5]; exact .inl ⟨rfl, a5⟩
  rw [if_neg a5]; right
  by_cases a6 : op = 19
  · rw [if_pos a6]; exact .inl ⟨rfl, a6⟩
  rw [if_neg a6]; right
  by_cases a7 : op = 22 ∨ op = 23 ∨ op = 29
  · rw [if_pos a7]; exact .inl ⟨rfl, a7⟩
  rw [if_neg a7]; right
  by_cases a8 : op = 24 ∨ op = 25
  · rw [if_pos a8]; exact .inl ⟨rfl, a8⟩
  rw [if_neg a8]; right
  by_cases a9 : op = 28
  · rw [if_pos a9]; exact .inl ⟨rfl, a9⟩
  rw [if_neg a9]; right
  by_cases a10 : op = 30 ∨ op = 31 ∨ op = 32
  · rw [if_pos a10]; exact .inl ⟨rfl, a10⟩
  rw [if_neg a10]; right
  have a11 : op = 33 := by omega
  rw [if_pos a11]; exact ⟨rfl, a11⟩
theorem set_r' (s : Stt) (d : Nat) (v : Int) (k : Nat) : (s.set d v).r k = if k = d then v else s.r k := rfl
theorem set_ne {s : Stt} {d k : Nat} {v : Int} (h : k ≠ d) : (s.set d v).r k = s.r k := by rw [set_r', if_neg h]
theorem setF_r (s : Stt) (f : Fl) (k : Nat) : (s.setF f).r k = s.r k := rfl
theorem isMv_iff {op : Int} : isMv op = true ↔ (op = 3 ∨ op = 4 ∨ op = 5 ∨ op = 19 ∨ (28 ≤ op ∧ op ≤ 33)) := by
  unfold isMv
  simp only [Bool.or_eq_true, decide_eq_true_eq]
  omega
theorem jmpS_r (s : Stt) (i : Ins) (t : Bool) (k : Nat) : (jmpS s i t).r k = s.r k := by unfold jmpS; split <;> rfl
/-- a register that is not made stays -/
theorem bh_stays {s : Stt} {i : Ins} {size v : Int} (hk : okI i = true) (h1 : 1 ≤ i.op ∧ i.op ≤ 33) (hd : (0 ≤ i.d ∧ i.d ≤ 15) ∧ (0 ≤ i.s ∧ i.s ≤ 15)) {k : Nat} (hw : wrF i (k : Int) (formOf i.op) = false) : (bh s i size v).r k = s.r k := by
  unfold bh
  dsimp only
  by_cases hm : isMv i.op = true
  · rw [if_pos hm]
    unfold mvP
    rcases forms h1.1 h1.2 with ⟨hf, ho⟩ | ⟨hf, ho⟩ | ⟨hf, ho⟩ | ⟨hf, ho⟩ | ⟨hf, ho⟩ | ⟨hf, ho⟩ | ⟨hf, ho⟩ | ⟨hf, ho⟩ | ⟨hf, ho⟩ | ⟨hf, ho⟩ | ⟨hf, ho⟩ <;> rw [hf] at hw <;>
      simp only [wrF, Bool.or_eq_false_iff, Bool.and_eq_false_iff, decide_eq_false_iff_not] at hw <;> rw [isMv_iff] at hm
    · omega
    · omega
    · rcases ho with ho | ho
      · rw [if_pos ho, set_ne (by omega)]
      · rw [if_neg (by omega), if_neg (by omega), if_pos ho, set_ne (by omega)]
    · rw [if_neg (by omega), if_pos ho]
    · omega
    · rw [if_neg (by omega), if_neg (by omega), if_neg (by omega), if_pos ho, set_ne (by omega), set_ne (by omega)]
    · have ho : i.op = 29 := by omega
      rw [if_neg (by omega), if_neg (by omega), if_neg (by omega), if_neg (by omega), if_neg (by omega), if_pos ho, set_ne (by omega), set_ne (by omega)]
    · omega
    · rw [if_neg (by omega), if_neg (by omega), if_neg (by omega), if_neg (by omega), if_pos ho, set_ne (by omega)]
    · rw [if_neg (by omega), if_neg (by omega), if_neg (by omega), if_neg (by omega), if_neg (by omega), if_neg (by omega)]
      rcases ho with ho | ho | ho
      · rw [if_pos ho, jmpS_r]
      · rw [if_neg (by omega), if_pos ho, jmpS_r]
      · rw [if_neg (by omega), if_neg (by omega), if_pos ho, jmpS_r]
    · rw [if_neg (by omega), if_neg (by omega), if_neg (by omega), if_neg (by omega), if_neg (by omega), if_neg (by omega), if_neg (by omega), if_neg (by omega), if_neg (by omega)]
      show (Stt.set _ 4 _).r k = _
      rw [set_ne (by omega)]
  · rw [if_neg hm, setF_r, set_r']
    split
    · rename_i e
      rw [isMv_iff] at hm
      have hkd : (k : Int) = i.d := by omega
      have key : i.op = 13 ∨ i.op = 14 ∨ i.op = 18 := by
        rcases forms h1.1 h1.2 with ⟨hf, ho⟩ | ⟨hf, ho⟩ | ⟨hf, ho⟩ | ⟨hf, ho⟩ | ⟨hf, ho⟩ | ⟨hf, ho⟩ | ⟨hf, ho⟩ | ⟨hf, ho⟩ | ⟨hf, ho⟩ | ⟨hf, ho⟩ | ⟨hf, ho⟩ <;> rw [hf] at hw <;>
          simp only [wrF, hkd, decide_true, Bool.true_and, Bool.true_or, Bool.not_eq_false', Bool.or_eq_true, decide_eq_true_eq, reduceCtorEq, Bool.true_eq_false] at hw <;> omega
      have e2 : ∀ a b f, (rkP i.op a b f).1 = a := by
        intro a b f
        unfold rkP
        rcases key with h | h | h <;> simp [h]
      rw [e2, e]
    · rfl
/-- the flags that are not made stay -/
theorem bh_flags {s : Stt} {i : Ins} {size v : Int} (hk : okI i = true) (h1 : 1 ≤ i.op ∧ i.op ≤ 33) :
    (fw i = 0 ∧ (bh s i size v).cf = s.cf ∧ (bh s i size v).ov = s.ov ∧ (bh s i size v).zf = s.zf) ∨ (fw i = 1 ∧ (bh s i size v).ov = s.ov ∧ (bh s i size v).zf = s.zf) ∨
    (fw i = 2 ∧ (bh s i size v).cf = s.cf ∧ (bh s i size v).zf = s.zf) ∨ (fw i = 5 ∧ (bh s i size v).ov = s.ov) ∨ fw i = 7 := by
  have e : fw i = fwO i.op := by unfold fw; rw [hk]; rfl
  rw [e]
  have jc : ∀ (s : Stt) t, (jmpS s i t).cf = s.cf ∧ (jmpS s i t).ov = s.ov ∧ (jmpS s i t).zf = s.zf := by intro s t; unfold jmpS; split <;> exact ⟨rfl, rfl, rfl⟩
  by_cases hm : isMv i.op = true
  · left
    have e0 : fwO i.op = 0 := by
      rw [isMv_iff] at hm
      unfold fwO
      rw [if_neg (by omega), if_neg (by omega), if_neg (by omega), if_neg (by omega)]
    refine ⟨e0, ?_⟩
    unfold bh
    dsimp only
    rw [if_pos hm]
    unfold mvP
    split
    · exact ⟨rfl, rfl, rfl⟩
    split
    · exact ⟨rfl, rfl, rfl⟩
    split
    · exact ⟨rfl, rfl, rfl⟩
    split
    · exact ⟨rfl, rfl, rfl⟩
    split
    · exact ⟨rfl, rfl, rfl⟩
    split
    · exact ⟨rfl, rfl, rfl⟩
    split
    · exact jc _ _
    split
    · exact jc _ _
    split
    · exact jc _ _
    · exact ⟨rfl, rfl, rfl⟩
  · unfold bh
    dsimp only
    rw [if_neg hm]
    rw [isMv_iff] at hm
    show (_ ∧ (rkP _ _ _ _).2.c = _ ∧ (rkP _ _ _ _).2.o = _ ∧ (rkP _ _ _ _).2.z = _) ∨ (_ ∧ (rkP _ _ _ _).2.o = _ ∧ (rkP _ _ _ _).2.z = _) ∨ (_ ∧ (rkP _ _ _ _).2.c = _ ∧ (rkP _ _ _ _).2.z = _) ∨ (_ ∧ (rkP _ _ _ _).2.o = _) ∨ _
    generalize s.r i.d.toNat = a
    generalize secd s i = b
    have hfl : s.fl = ⟨s.cf, s.ov, s.zf⟩ := rfl
    rw [hfl]
    have ho : i.op = 1 ∨ i.op = 2 ∨ i.op = 20 ∨ i.op = 21 ∨ i.op = 23 ∨ i.op = 24 ∨ i.op = 25 ∨ i.op = 26 ∨ i.op = 27 ∨ ((6 ≤ i.op ∧ i.op ≤ 18) ∨ i.op = 22) := by omega
    rcases ho with h | h | h | h | h | h | h | h | h | h
    · left; rw [h]; exact ⟨rfl, rfl, rfl, rfl⟩
    · left; rw [h]; exact ⟨rfl, rfl, rfl, rfl⟩
    · right; left; rw [h]; exact ⟨rfl, rfl, rfl⟩
    · right; right; left; rw [h]; exact ⟨rfl, rfl, rfl⟩
    · left; rw [h]; exact ⟨rfl, rfl, rfl, rfl⟩
    · right; right; right; left; rw [h]; exact ⟨rfl, rfl⟩
    · right; right; right; left; rw [h]; exact ⟨rfl, rfl⟩
    · left; rw [h]; exact ⟨rfl, rfl, rfl, rfl⟩
    · left; rw [h]; exact ⟨rfl, rfl, rfl, rfl⟩
    · right; right; right; right
      unfold fwO
      rw [if_pos h]
/-- with an error nothing has turned -/
theorem DoO.err {s n : Stt} {i : Ins} {size e : Int} {M M' : List Reg} {l : List Ev} (h : DoO s i size M n l M' e) (he : e ≠ 0) : n = s ∧ l = [] ∧ M' = M := by
  rcases h with ⟨_, a, b, c, _⟩ | ⟨_, v, x, ⟨_, a, b⟩ | ⟨a, _⟩⟩
  · exact ⟨a, b, c⟩
  · refine ⟨a, b, ?_⟩
    rcases x with ⟨_, _, q⟩ | ⟨_, q, _⟩ | ⟨_, _, _, q, _⟩
    · exact q
    · rcases q with ⟨_, _, _, _, _, h0⟩ | ⟨_, h0, _⟩
      · exact absurd h0 he
      · exact h0
    · exact q
  · exact absurd a he
theorem DoO.off {s n : Stt} {i : Ins} {size : Int} {M M' : List Reg} {l : List Ev} (h : DoO s i size M n l M' 0) : okI i = true ∧ ∃ v, XchO M (tch s i) (s.r i.s.toNat) v M' 0 ∧ n = bh s i size v ∧ l = evs s i n := by
  rcases h with ⟨a, _, _, _, b⟩ | ⟨r, v, x, ⟨a, _⟩ | ⟨_, a, b⟩⟩
  · exact absurd b.symm a
  · exact absurd rfl a
  · refine ⟨?_, v, x, a, b⟩
    unfold refE chk at r
    by_cases hk : okI i = true
    · exact hk
    · rw [if_neg hk] at r; simp at r
/-! ### a register that is not taken -/
theorem held_set {s : Stt} {r : Nat} {v x : Int} (h : x ≠ (r : Int)) : held (s.set r v) x = held s x := by
  unfold held
  split
  · rw [set_ne (by omega)]
  · rfl
theorem rd_place {i : Ins} {r : Nat} (hr : rdF i (r : Int) .dm = false ∨ rdF i (r : Int) .sm = false) : i.b ≠ (r : Int) ∧ i.x ≠ (r : Int) := by
  rcases hr with hr | hr <;> simp only [rdF, Bool.or_eq_false_iff, Bool.and_eq_false_iff, decide_eq_false_iff_not, Bool.not_eq_false', decide_eq_true_eq] at hr <;> omega
theorem atI_set {s : Stt} {i : Ins} {r : Nat} {v : Int} (hr : rdF i (r : Int) .dm = false ∨ rdF i (r : Int) .sm = false) : atI i (s.set r v) = atI i s := by
  obtain ⟨hb, hx⟩ := rd_place hr
  unfold atI addr
  rw [held_set hb, held_set hx]
theorem tch_set {s : Stt} {i : Ins} {r : Nat} {v : Int} (h1 : 1 ≤ i.op ∧ i.op ≤ 33) (hr : rdF i (r : Int) (formOf i.op) = false) : tch (s.set r v) i = tch s i := by
  unfold tch
  rcases forms h1.1 h1.2 with ⟨hf, ho⟩ | ⟨hf, ho⟩ | ⟨hf, ho⟩ | ⟨hf, ho⟩ | ⟨hf, ho⟩ | ⟨hf, ho⟩ | ⟨hf, ho⟩ | ⟨hf, ho⟩ | ⟨hf, ho⟩ | ⟨hf, ho⟩ | ⟨hf, ho⟩ <;> rw [hf] at hr
  · rw [if_neg (by omega), if_neg (by omega), if_neg (by omega), if_neg (by omega), if_neg (by omega), if_neg (by omega), if_neg (by omega), if_neg (by omega)]
  · rw [if_neg (by omega), if_neg (by omega), if_neg (by omega), if_neg (by omega), if_neg (by omega), if_neg (by omega), if_neg (by omega), if_neg (by omega)]
  · rw [atI_set (.inl hr)]
    rcases ho with ho | ho
    · rw [if_pos ho, if_pos ho]
    · rw [if_neg (by omega), if_neg (by omega), if_neg (by omega), if_neg (by omega), if_neg (by omega), if_neg (by omega), if_neg (by omega), if_neg (by omega)]
  · rw [atI_set (.inr hr), if_neg (by omega), if_pos ho, if_neg (by omega), if_pos ho]
  · rw [if_neg (by omega), if_neg (by omega), if_neg (by omega), if_neg (by omega), if_neg (by omega), if_neg (by omega), if_neg (by omega), if_neg (by omega)]
  · rw [if_neg (by omega), if_neg (by omega), if_neg (by omega), if_neg (by omega), if_neg (by omega), if_neg (by omega), if_neg (by omega), if_neg (by omega)]
  · by_cases h29 : i.op = 29
    · simp only [rdF, h29, if_true, decide_eq_false_iff_not] at hr
      have e4 : (s.set r v).r 4 = s.r 4 := set_ne (by omega)
      rw [e4, if_neg (by omega), if_neg (by omega), if_neg (by omega), if_pos (.inl h29), if_neg (by omega), if_neg (by omega)]
    · rw [if_neg (by omega), if_neg (by omega), if_neg (by omega), if_neg (by omega), if_neg (by omega), if_neg (by omega), if_neg (by omega), if_neg (by omega)]
  · rw [if_neg (by omega), if_neg (by omega), if_neg (by omega), if_neg (by omega), if_neg (by omega), if_neg (by omega), if_neg (by omega), if_neg (by omega)]
  · simp only [rdF, Bool.or_eq_false_iff, decide_eq_false_iff_not] at hr
    have e4 : (s.set r v).r 4 = s.r 4 := set_ne (by omega)
    rw [e4, if_neg (by omega), if_neg (by omega), if_pos ho, if_neg (by omega), if_neg (by omega)]
  · rw [if_neg (by omega), if_neg (by omega), if_neg (by omega), if_neg (by omega), if_neg (by omega), if_neg (by omega), if_neg (by omega), if_neg (by omega)]
  · simp only [rdF, decide_eq_false_iff_not] at hr
    have e4 : (s.set r v).r 4 = s.r 4 := set_ne (by omega)
    rw [e4, if_neg (by omega), if_neg (by omega), if_neg (by omega), if_pos (.inr ho), if_neg (by omega), if_neg (by omega)]
theorem tch_kind {s : Stt} {i : Ins} (h : (tch s i).k = 3) : i.op = 4 ∨ i.op = 28 := by
  unfold tch ev0 at h
  split at h
  · simp at h
  split at h
  · rename_i h4; exact .inl h4
  split at h
  · rename_i h28; exact .inr h28
  split at h <;> simp at h
theorem xch_set {s : Stt} {i : Ins} {r : Nat} {v x e : Int} {M M' : List Reg} (h1 : 1 ≤ i.op ∧ i.op ≤ 33) (hd : 0 ≤ i.s ∧ i.s ≤ 15) (hr : rdF i (r : Int) (formOf i.op) = false) (h : XchO M (tch (s.set r v) i) ((s.set r v).r i.s.toNat) x M' e) : XchO M (tch s i) (s.r i.s.toNat) x M' e := by
  rw [tch_set h1 hr] at h
  rcases h with a | ⟨hk, a⟩ | a
  · exact .inl a
  · refine .inr (.inl ⟨hk, ?_⟩)
    have hne : i.s.toNat ≠ r := by
      rcases tch_kind hk with ho | ho
      · have hf : formOf i.op = .sm := by rw [ho]; decide
        rw [hf] at hr
        simp only [rdF, Bool.or_eq_false_iff, decide_eq_false_iff_not] at hr
        omega
      · have hf : formOf i.op = .s := by rw [ho]; decide
        rw [hf] at hr
        simp only [rdF, Bool.or_eq_false_iff, decide_eq_false_iff_not] at hr
        omega
    rw [set_ne hne] at a
    exact a
  · exact .inr (.inr a)
/-- states that differ in one register alone, unless it is made -/
structure But (a b : Stt) (r : Nat) (v : Int) (p : Prop) : Prop where
  r : ∀ k, (p → k = r → a.r k = v) ∧ (¬ (p ∧ k = r) → a.r k = b.r k)
  pc : a.pc = b.pc
  cf : a.cf = b.cf
  ov : a.ov = b.ov
  zf : a.zf = b.zf
theorem jmpS_set (s : Stt) (i : Ins) (t : Bool) (r : Nat) (v : Int) : jmpS (s.set r v) i t = (jmpS s i t).set r v := by unfold jmpS; split <;> rfl
theorem But.set (s : Stt) (r : Nat) (v : Int) : But (s.set r v) s r v True := ⟨fun k => ⟨fun _ h => by rw [set_r', if_pos h], fun h => set_ne (fun e => h ⟨trivial, e⟩)⟩, rfl, rfl, rfl, rfl⟩
theorem But.iff {a b : Stt} {r : Nat} {v : Int} {p q : Prop} (h : But a b r v p) (e : p ↔ q) : But a b r v q := by
  rw [propext e] at h; exact h
/-- one of both's registers is made the same -/
theorem But.made {a b : Stt} {r : Nat} {v : Int} {p : Prop} (h : But a b r v p) (d : Nat) (x : Int) : But (a.set d x) (b.set d x) r v (p ∧ r ≠ d) := by
  refine ⟨fun k => ⟨fun hp hk => ?_, fun hn => ?_⟩, h.pc, h.cf, h.ov, h.zf⟩
  · rw [set_ne (by rw [hk]; exact hp.2)]
    exact (h.r k).1 hp.1 hk
  · by_cases hkd : k = d
    · rw [set_r', set_r', if_pos hkd, if_pos hkd]
    · rw [set_ne hkd, set_ne hkd]
      exact (h.r k).2 (fun q => hn ⟨⟨q.1, by rw [← q.2]; exact hkd⟩, q.2⟩)
theorem But.setF {a b : Stt} {r : Nat} {v : Int} {p : Prop} (h : But a b r v p) (f : Fl) : But (a.setF f) (b.setF f) r v p := ⟨h.r, h.pc, rfl, rfl, rfl⟩
theorem mv_set {s : Stt} {i : Ins} {x v : Int} {r : Nat} (h1 : 1 ≤ i.op ∧ i.op ≤ 33) (hd : (0 ≤ i.d ∧ i.d ≤ 15) ∧ (0 ≤ i.s ∧ i.s ≤ 15) ∧ (0 ≤ i.t ∧ i.t ≤ 15)) (hm : isMv i.op = true) (hr : rdF i (r : Int) (formOf i.op) = false) :
    But (mvP (s.set r v) i x) (mvP s i x) r v (wrF i (r : Int) (formOf i.op) = false) := by
  rw [isMv_iff] at hm
  rcases forms h1.1 h1.2 with ⟨hf, ho⟩ | ⟨hf, ho⟩ | ⟨hf, ho⟩ | ⟨hf, ho⟩ | ⟨hf, ho⟩ | ⟨hf, ho⟩ | ⟨hf, ho⟩ | ⟨hf, ho⟩ | ⟨hf, ho⟩ | ⟨hf, ho⟩ | ⟨hf, ho⟩ <;> rw [hf] at hr ⊢
  · omega
  · omega
  · have hw : (True ∧ r ≠ i.d.toNat) ↔ wrF i (r : Int) .dm = false := by simp only [wrF, true_and, Bool.or_eq_false_iff, decide_eq_false_iff_not]; omega
    rcases ho with ho | ho
    · have e : ∀ u : Stt, mvP u i x = u.set i.d.toNat x := fun u => by unfold mvP; rw [if_pos ho]
      rw [e, e]
      exact ((But.set s r v).made _ _).iff hw
    · have e : ∀ u : Stt, mvP u i x = u.set i.d.toNat (atI i u) := fun u => by unfold mvP; rw [if_neg (by omega), if_neg (by omega), if_pos ho]
      rw [e, e, atI_set (.inl hr)]
      exact ((But.set s r v).made _ _).iff hw
  · have e : ∀ u : Stt, mvP u i x = u := fun u => by unfold mvP; rw [if_neg (by omega), if_pos ho]
    rw [e, e]
    exact (But.set s r v).iff (by simp [wrF])
  · omega
  · have hw : ((True ∧ r ≠ i.d.toNat) ∧ r ≠ i.s.toNat) ↔ wrF i (r : Int) .dst = false := by simp only [wrF, true_and, Bool.or_eq_false_iff, decide_eq_false_iff_not]; omega
    simp only [rdF, Bool.or_eq_false_iff, decide_eq_false_iff_not] at hr
    have e : ∀ u : Stt, mvP u i x = (u.set i.d.toNat (mulH (u.r i.t.toNat) (u.r 2))).set i.s.toNat (mulL (u.r i.t.toNat) (u.r 2)) := fun u => by unfold mvP; rw [if_neg (by omega), if_neg (by omega), if_neg (by omega), if_pos ho]
    rw [e, e, set_ne (show i.t.toNat ≠ r by omega), set_ne (show (2 : Nat) ≠ r by omega)]
    exact (((But.set s r v).made _ _).made _ _).iff hw
  · have ho : i.op = 29 := by omega
    have hw : ((True ∧ r ≠ 4) ∧ r ≠ i.d.toNat) ↔ wrF i (r : Int) .d = false := by simp only [wrF, true_and, ho, decide_true, Bool.and_true, Bool.or_eq_false_iff, decide_eq_false_iff_not]; omega
    simp only [rdF, ho, if_true, decide_eq_false_iff_not] at hr
    have e : ∀ u : Stt, mvP u i x = (u.set 4 (u64 (u.r 4 + 8))).set i.d.toNat x := fun u => by unfold mvP; rw [if_neg (by omega), if_neg (by omega), if_neg (by omega), if_neg (by omega), if_neg (by omega), if_pos ho]
    rw [e, e, set_ne (show (4 : Nat) ≠ r by omega)]
    exact (((But.set s r v).made _ _).made _ _).iff hw
  · omega
  · have hw : (True ∧ r ≠ 4) ↔ wrF i (r : Int) .s = false := by simp only [wrF, true_and, Bool.or_eq_false_iff, decide_eq_false_iff_not]; omega
    simp only [rdF, Bool.or_eq_false_iff, decide_eq_false_iff_not] at hr
    have e : ∀ u : Stt, mvP u i x = u.set 4 (u64 (u.r 4 - 8)) := fun u => by unfold mvP; rw [if_neg (by omega), if_neg (by omega), if_neg (by omega), if_neg (by omega), if_pos ho]
    rw [e, e, set_ne (show (4 : Nat) ≠ r by omega)]
    exact ((But.set s r v).made _ _).iff hw
  · have hw : True ↔ wrF i (r : Int) .j = false := by simp [wrF]
    rcases ho with ho | ho | ho
    · have e : ∀ u : Stt, mvP u i x = jmpS u i true := fun u => by unfold mvP; rw [if_neg (by omega), if_neg (by omega), if_neg (by omega), if_neg (by omega), if_neg (by omega), if_neg (by omega), if_pos ho]
      rw [e, e, jmpS_set]
      exact (But.set _ r v).iff hw
    · have e : ∀ u : Stt, mvP u i x = jmpS u i (!u.zf) := fun u => by unfold mvP; rw [if_neg (by omega), if_neg (by omega), if_neg (by omega), if_neg (by omega), if_neg (by omega), if_neg (by omega), if_neg (by omega), if_pos ho]
      rw [e, e]
      exact (show But (jmpS (s.set r v) i (!s.zf)) (jmpS s i (!s.zf)) r v _ by rw [jmpS_set]; exact (But.set _ r v).iff hw)
    · have e : ∀ u : Stt, mvP u i x = jmpS u i u.cf := fun u => by unfold mvP; rw [if_neg (by omega), if_neg (by omega), if_neg (by omega), if_neg (by omega), if_neg (by omega), if_neg (by omega), if_neg (by omega), if_neg (by omega), if_pos ho]
      rw [e, e]
      exact (show But (jmpS (s.set r v) i s.cf) (jmpS s i s.cf) r v _ by rw [jmpS_set]; exact (But.set _ r v).iff hw)
  · have hw : (True ∧ r ≠ 4) ↔ wrF i (r : Int) .r = false := by simp only [wrF, true_and, Bool.or_eq_false_iff, decide_eq_false_iff_not]; omega
    simp only [rdF, decide_eq_false_iff_not] at hr
    have e : ∀ u : Stt, mvP u i x = { u.set 4 (u64 (u.r 4 + 8)) with pc := x } := fun u => by unfold mvP; rw [if_neg (by omega), if_neg (by omega), if_neg (by omega), if_neg (by omega), if_neg (by omega), if_neg (by omega), if_neg (by omega), if_neg (by omega), if_neg (by omega)]
    rw [e, e, set_ne (show (4 : Nat) ≠ r by omega)]
    have h := ((But.set s r v).made 4 (u64 (s.r 4 + 8))).iff hw
    exact ⟨h.r, rfl, h.cf, h.ov, h.zf⟩
theorem rk_set {s : Stt} {i : Ins} {v : Int} {r : Nat} {f : Fl} (h1 : 1 ≤ i.op ∧ i.op ≤ 33) (hd : (0 ≤ i.d ∧ i.d ≤ 15) ∧ (0 ≤ i.s ∧ i.s ≤ 15) ∧ (0 ≤ i.t ∧ i.t ≤ 15)) (hm : isMv i.op = false) (hr : rdF i (r : Int) (formOf i.op) = false) :
    rkP i.op ((s.set r v).r i.d.toNat) (secd (s.set r v) i) f = rkP i.op (s.r i.d.toNat) (secd s i) f := by
  have hm' : ¬ (i.op = 3 ∨ i.op = 4 ∨ i.op = 5 ∨ i.op = 19 ∨ (28 ≤ i.op ∧ i.op ≤ 33)) := by rw [← isMv_iff, hm]; decide
  have e1 : i.op = 1 ∨ ∀ a a' b, rkP i.op a b f = rkP i.op a' b f ∨ (s.set r v).r i.d.toNat = s.r i.d.toNat := by
    by_cases h : i.op = 1
    · exact .inl h
    right
    intro a a' b
    by_cases h2 : i.op = 2
    · left; unfold rkP; rw [if_pos (.inr h2), if_pos (.inr h2)]
    · right
      refine set_ne ?_
      rcases forms h1.1 h1.2 with ⟨hf, ho⟩ | ⟨hf, ho⟩ | ⟨hf, ho⟩ | ⟨hf, ho⟩ | ⟨hf, ho⟩ | ⟨hf, ho⟩ | ⟨hf, ho⟩ | ⟨hf, ho⟩ | ⟨hf, ho⟩ | ⟨hf, ho⟩ | ⟨hf, ho⟩ <;> rw [hf] at hr
      · simp only [rdF, Bool.or_eq_false_iff, Bool.and_eq_false_iff, decide_eq_false_iff_not, Bool.not_eq_false', decide_eq_true_eq] at hr; omega
      · omega
      · omega
      · omega
      · simp only [rdF, decide_eq_false_iff_not] at hr; omega
      · omega
      · have hne : i.op ≠ 29 := by omega
        simp only [rdF, if_neg hne, decide_eq_false_iff_not] at hr; omega
      · simp only [rdF, decide_eq_false_iff_not] at hr; omega
      · omega
      · omega
      · omega
  have e2 : ∀ a, rkP i.op a (secd (s.set r v) i) f = rkP i.op a (secd s i) f := by
    intro a
    by_cases h22 : i.op = 22
    · rw [h22]; rfl
    by_cases h23 : i.op = 23
    · rw [h23]; rfl
    have : secd (s.set r v) i = secd s i := by
      unfold secd
      split
      · rfl
      · rename_i hn
        refine set_ne ?_
        rcases forms h1.1 h1.2 with ⟨hf, ho⟩ | ⟨hf, ho⟩ | ⟨hf, ho⟩ | ⟨hf, ho⟩ | ⟨hf, ho⟩ | ⟨hf, ho⟩ | ⟨hf, ho⟩ | ⟨hf, ho⟩ | ⟨hf, ho⟩ | ⟨hf, ho⟩ | ⟨hf, ho⟩ <;> rw [hf] at hr
        · simp only [rdF, Bool.or_eq_false_iff, Bool.and_eq_false_iff, decide_eq_false_iff_not, Bool.not_eq_false', decide_eq_true_eq] at hr; omega
        all_goals omega
    rw [this]
  rw [e2]
  rcases e1 with h | h
  · rw [h]; rfl
  · rcases h ((s.set r v).r i.d.toNat) (s.r i.d.toNat) (secd s i) with h | h
    · exact h
    · rw [h]
theorem bh_set {s : Stt} {i : Ins} {size x v : Int} {r : Nat} (h1 : 1 ≤ i.op ∧ i.op ≤ 33) (hd : (0 ≤ i.d ∧ i.d ≤ 15) ∧ (0 ≤ i.s ∧ i.s ≤ 15) ∧ (0 ≤ i.t ∧ i.t ≤ 15)) (hr : rdF i (r : Int) (formOf i.op) = false) :
    But (bh (s.set r v) i size x) (bh s i size x) r v (wrF i (r : Int) (formOf i.op) = false) := by
  by_cases hm : isMv i.op = true
  · have e : ∀ u : Stt, bh u i size x = mvP { u with pc := u64 (u.pc + u64 size) } i x := fun u => by unfold bh; rw [if_pos hm]
    rw [e, e]
    exact mv_set (s := { s with pc := u64 (s.pc + u64 size) }) h1 hd hm hr
  · have hm' : isMv i.op = false := by simpa using hm
    have e : ∀ u : Stt, bh u i size x = (({ u with pc := u64 (u.pc + u64 size) } : Stt).set i.d.toNat (rkP i.op (u.r i.d.toNat) (secd u i) u.fl).1).setF (rkP i.op (u.r i.d.toNat) (secd u i) u.fl).2 := fun u => by unfold bh; rw [if_neg hm]
    rw [e, e]
    have hfl : (s.set r v).fl = s.fl := rfl
    rw [hfl, rk_set h1 hd hm' hr]
    refine (((But.set ({ s with pc := u64 (s.pc + u64 size) } : Stt) r v).made _ _).iff ?_).setF _
    have hm2 : ¬ (i.op = 3 ∨ i.op = 4 ∨ i.op = 5 ∨ i.op = 19 ∨ (28 ≤ i.op ∧ i.op ≤ 33)) := by rw [← isMv_iff, hm']; decide
    rcases forms h1.1 h1.2 with ⟨hf, ho⟩ | ⟨hf, ho⟩ | ⟨hf, ho⟩ | ⟨hf, ho⟩ | ⟨hf, ho⟩ | ⟨hf, ho⟩ | ⟨hf, ho⟩ | ⟨hf, ho⟩ | ⟨hf, ho⟩ | ⟨hf, ho⟩ | ⟨hf, ho⟩ <;> rw [hf] at hr ⊢ <;>
      simp only [rdF, wrF, true_and, Bool.or_eq_false_iff, Bool.and_eq_false_iff, decide_eq_false_iff_not, Bool.not_eq_false', decide_eq_true_eq, Bool.or_eq_true] at hr ⊢ <;> first | omega | (constructor <;> intro hh <;> omega) | skip
    all_goals (split at hr <;> simp only [decide_eq_false_iff_not] at hr <;> omega)
end Sp
end Go.Proofs.YtmiphnocgepdgaaGreatDoor
namespace Go.Proofs.YtmiphnocgepdgaaGreatDoor
open Go Go.RowKit
namespace Is
open Nt
set_option linter.unusedVariables false
set_option linter.unusedSimpArgs false
theorem mem_nth {xs : List Int} {z : Int} {k : Nat} (hk : k < xs.length) (h : nth xs k = z) : z ∈ xs := by
  have h1 := nth_lt hk
  rw [h] at h1
  exact List.mem_of_getElem? h1
theorem mem_no_nth {xs : List Int} {z : Int} (h : ∀ j, j < xs.length → nth xs j ≠ z) : z ∉ xs := by
  intro hm
  obtain ⟨j, hj, e⟩ := List.getElem_of_mem hm
  refine h j hj ?_
  unfold nth
  rw [List.getElem?_eq_getElem hj, e]; rfl
theorem mem_regL {p : Int → Bool} {z : Int} : z ∈ regL p ↔ 0 ≤ z ∧ z ≤ 15 ∧ p z = true := by
  unfold regL
  rw [List.mem_filter]
  constructor
  · rintro ⟨h1, h2⟩
    obtain ⟨k, hk, rfl⟩ := List.mem_map.1 h1
    have := List.mem_range.1 hk
    exact ⟨by omega, by omega, h2⟩
  · rintro ⟨h0, h1, h2⟩
    exact ⟨List.mem_map.2 ⟨z.toNat, List.mem_range.2 (by omega), by omega⟩, h2⟩
theorem regL_le (p : Int → Bool) : (regL p).length ≤ 16 := by
  unfold regL
  refine Nat.le_trans (List.length_filter_le _ _) ?_
  rw [List.length_map, List.length_range]; exact Nat.le_refl _
theorem rd_le (i : Ins) : (rdL i).length ≤ 16 := by unfold rdL; split; exact regL_le _; simp
theorem wr_le (i : Ins) : (wrL i).length ≤ 16 := by unfold wrL; split; exact regL_le _; simp
theorem wr_iff {i : Ins} (hk : okI i = true) {k : Nat} (h : k < 16) : (k : Int) ∈ wrL i ↔ wrF i (k : Int) (formOf i.op) = true := by
  unfold wrL
  rw [if_pos hk, mem_regL]
  constructor
  · exact fun h => h.2.2
  · exact fun h2 => ⟨by omega, by omega, h2⟩
theorem rd_iff {i : Ins} (hk : okI i = true) {k : Nat} (h : k < 16) : (k : Int) ∈ rdL i ↔ rdF i (k : Int) (formOf i.op) = true := by
  unfold rdL
  rw [if_pos hk, mem_regL]
  constructor
  · exact fun h => h.2.2
  · exact fun h2 => ⟨by omega, by omega, h2⟩
set_option maxRecDepth 100000 in
set_option maxHeartbeats 2000000 in
theorem in_c (A : Option Addr) (n c Ba : Nat) (xs : List Int) (z : Int) (w : World) (ha : RdI w Ba A n xs) (hn : n ≤ 1000000) :
    Calls Tryz.prog 26 #[.slice A n c, .int .i64 z] w fun e w' => e = .returned (.bool (decide (z ∈ xs))) ∧ w' = w := by
  have HA := Lib.hid ha
  have HLN := Lib.hid ha.len
  clear ha
  go_enter Tryz.func26, Tryz.ntmps26
  go_wp2_with fail
  go_loop [5] (fun i => ∃ k : Nat, k ≤ n ∧ i = .int .i64 (k : Int) ∧ Hid (∀ j, j < k → nth xs j ≠ z)) (fun i => n - (intOf i).toNat)
  case atStart => exact ⟨0, Nat.zero_le _, rfl, Lib.hid (fun j hj => absurd hj (by omega))⟩
  case round =>
    obtain ⟨k, hk, rfl, hz⟩ := hrel
    by_cases hlt : k < n
    · obtain ⟨ad, rfl, _, hca⟩ := HA.out.at_ hlt
      have hki : (k : Int) < (n : Int) := by omega
      have hk0 : (0 : Int) ≤ (k : Int) := by omega
      by_cases hx : nth xs k = z
      · have HM := Lib.hid (decide_eq_true (mem_nth (by rw [HLN.out]; exact hlt) hx))
        rw [hx] at hca
        clear hx hz
        go_wp2_with fail
        go_ret
        exact ⟨by rw [HM.out]; rfl, rfl⟩
      · have HZ : Hid (∀ j, j < k + 1 → nth xs j ≠ z) := Lib.hid (fun j hj => by
          rcases Nat.lt_succ_iff_lt_or_eq.1 hj with h | rfl
          · exact hz.out j h
          · exact hx)
        have hxx : (nth xs k == z) = false := by rw [beq_eq_false_iff_ne]; exact hx
        clear hz hx
        generalize nth xs k = y at *
        go_wp2_with fail
        go_round
        case rel => exact ⟨k + 1, by omega, by go_num, HZ⟩
        case measure => (simp [intOf] <;> omega)
    · obtain rfl : k = n := by omega
      have HE := Lib.hid (decide_eq_false (mem_no_nth (fun j hj => hz.out j (by rw [← HLN.out]; exact hj))))
      clear hz
      go_wp2_with fail
      go_ret
      exact ⟨by rw [HE.out]; rfl, rfl⟩
end Is
namespace Sp
open Wd Mm Is
/-- two runs that differ in a register that is not taken -/
theorem stays_two {s n u : Stt} {i : Ins} {r : Nat} {v h : Int} {M M1 M2 : List Reg} {x y : List Ev} (hM : Mm.Good M) (h1 : okI i = true → 1 ≤ i.op ∧ i.op ≤ 33) (hd : okI i = true → (0 ≤ i.d ∧ i.d ≤ 15) ∧ (0 ≤ i.s ∧ i.s ≤ 15) ∧ (0 ≤ i.t ∧ i.t ≤ 15)) (hr16 : r < 16)
    (hs : DoO s i 3 M n x M1 0) (ht : DoO (s.set r v) i 3 M u y M2 h) (hr : (r : Int) ∉ rdL i) :
    h = 0 ∧ y = x ∧ M2 = M1 ∧ (((r : Int) ∈ wrL i ∧ u.vs = n.vs) ∨ ((r : Int) ∉ wrL i ∧ u.vs = (n.set r v).vs)) := by
  obtain ⟨hk, w, hx, rfl, rfl⟩ := hs.off
  have hrf : rdF i (r : Int) (formOf i.op) = false := by
    rw [rd_iff hk hr16] at hr
    simpa using hr
  have hre : refE i 3 = 0 := by unfold refE chk; rw [if_pos hk]; simp
  rcases ht with ⟨a, _⟩ | ⟨_, w2, hx2, hc⟩
  · exact absurd hre a
  · obtain ⟨rfl, rfl, rfl⟩ := hx.uniq hM (xch_set (h1 hk) (hd hk).2.1 hrf hx2)
    rcases hc with ⟨a, _⟩ | ⟨_, rfl, rfl⟩
    · exact absurd rfl a
    · have hb := bh_set (s := s) (size := 3) (x := w) (v := v) (h1 hk) (hd hk) hrf
      refine ⟨rfl, ?_, rfl, ?_⟩
      · unfold evs
        rw [tch_set (h1 hk) hrf]
        have : goe i (bh (s.set r v) i 3 w) = goe i (bh s i 3 w) := by unfold goe; rw [hb.pc]
        rw [this]; rfl
      · by_cases hw : (r : Int) ∈ wrL i
        · left
          refine ⟨hw, Stt.vs_ext (fun k hk16 => ?_) hb.pc hb.cf hb.ov hb.zf⟩
          rw [wr_iff hk hr16] at hw
          exact (hb.r k).2 (fun q => by rw [hw] at q; exact Bool.noConfusion q.1)
        · right
          refine ⟨hw, Stt.vs_ext (fun k hk16 => ?_) hb.pc hb.cf hb.ov hb.zf⟩
          rw [wr_iff hk hr16] at hw
          have hw' : wrF i (r : Int) (formOf i.op) = false := by simpa using hw
          rw [set_r']
          split
          · rename_i e; exact (hb.r k).1 hw' e
          · rename_i e; exact (hb.r k).2 (fun q => e q.2)
end Sp
end Go.Proofs.YtmiphnocgepdgaaGreatDoor
namespace Go.Proofs.YtmiphnocgepdgaaGreatDoor
open Go Go.RowKit
namespace Sp
theorem load_row_w {P : Program} {ops : Array Oper} {rest : List Oper} {o : Oper} {a : Act} {w : World} {Q : Exit → Act → World → Prop} (hw : Region.wanted o (yielded ops a.tmps) = true) (ty : TypeId) (x : Operand) (ho : o.op = .load ty x)
    (g : Nat) (hx : a.eval x = .pointer (some ⟨g, 0, none⟩)) (t : TypeId) (cs : Array Value) (fr : Nat × Nat) (d : TypeDesc) (hg : w.heap[g]? = some (.cells cs t fr))
    (hu : P.underlying ty = some d) (hd : (match d with | .struct _ | .array _ _ => true | _ => false) = true) (hi : (P.info? ty).map (·.size) = some cs.size)
    (h : wpList P ops Q rest (a.put o.dst (.agg cs)) w) : wpList P ops Q (o :: rest) a w := by
  unfold wpList
  rw [if_pos hw]
  exact .inl (wp_load_row ty x ho g hx t cs fr d hg hu hd hi h)
end Sp
end Go.Proofs.YtmiphnocgepdgaaGreatDoor
