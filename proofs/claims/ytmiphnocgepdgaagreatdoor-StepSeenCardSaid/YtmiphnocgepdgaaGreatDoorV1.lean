/- OwnRegions of the statements' kit: every region's bytes are one's own, each in a block of its own. | What is seen of an instruction hangs on no secret: plain reckoning; no program in it. -/
import Derived.Test.YtmiphnocgepdgaaGreatDoorA15
import Derived.Test.YtmiphnocgepdgaaGreatDoorS1
namespace Go.Proofs.YtmiphnocgepdgaaGreatDoor
open Go Go.RowKit
namespace Mm
open Wd Nt
set_option linter.unusedVariables false
def Own9P (bs : List Int) (w : World) (e : Ending) (w' : World) : Prop :=
  Below w.heap.size w w' ∧ ∃ g c, e = .returned (.slice (some ⟨g, 0, none⟩) bs.length c) ∧ w.heap.size ≤ g ∧ w'.ownsRow w.heap.size 5 1 (.slice (some ⟨g, 0, none⟩) bs.length c) bs.length (b8 bs)
theorem kown9_c (A : Option Addr) (n c : Nat) (bs : List Int) (w : World) (h : Hid (Rd8 w w.heap.size A n bs)) (hn : n ≤ 1099511627776) :
    Calls Tryz.prog 57 #[.slice A n c] w (Own9P bs w) := by
  obtain ⟨W2, hW2⟩ : ∃ W2, W2 = w.alloc (.cells #[] 5) := ⟨_, rfl⟩
  have hY : Bk W2 w.heap.size 5 #[] := by rw [hW2]; exact Bk.new _ _ _
  have hb2 : Below w.heap.size w W2 := by rw [hW2]; exact bel_alloc _
  have hlen := h.out.len
  obtain ⟨g, c', w3, hap, hown, hb3, hg3, hgY⟩ := app8 (w := W2) 64 (cc := c) (B := w.heap.size) hY (Nat.le_refl _) ((h.out.keep (fun p hp => hb2.cell hp)).more hb2.size) hn
  have hP : Hid (Own9P bs w (.returned (.slice (some ⟨g, 0, none⟩) n c')) w3) := Lib.hid ⟨hb2.trans hb3, g, c', by rw [hlen], (hown.lt g rfl).1, by rw [hlen]; exact hown⟩
  rw [hW2] at hap
  clear hY hb2 hlen hown hb3 hg3 hgY hW2
  go_enter Tryz.func57, Tryz.ntmps57
  go_wp2_with (at_builtin; refine wpList_app rfl (.tmp 3) (.tmp 4) 64 rfl _ _ rfl rfl _ _ hap ?_)
  go_ret
  exact hP.out
/-! ### a row of regions, the first of which have their bytes for themselves -/
def OReg.sh (o : OReg) : ShR := ⟨o.r, some ⟨o.g, 0, none⟩, o.r.bytes.length, o.c⟩
structure OwnK (w : World) (B g n c : Nat) (rs : List Reg) (k : Nat) (os : List OReg) (xs : List ShR) : Prop where
  sh : ShO w B g n c rs xs
  len : os.length = k
  fst : ∀ (j : Nat) (o : OReg), os[j]? = some o → xs[j]? = some o.sh
  own : ∀ o ∈ os, w.ownsRow B 5 1 o.sl o.r.bytes.length (b8 o.r.bytes)
  nd : (os.map (·.g)).Nodup
theorem OwnK.kept {w w' : World} {B g n c k : Nat} {rs : List Reg} {os : List OReg} {xs : List ShR} (h : OwnK w B g n c rs k os xs) (hb : Below w.heap.size w w') : OwnK w' B g n c rs k os xs :=
  ⟨h.sh.below hb, h.len, h.fst, fun o ho => own_kp (B := w.heap.size) (E := w.heap.size) (Kp.of hb) (h.own o ho) fun j hj => .inl ((h.own o ho).lt j hj).2, h.nd⟩
theorem OwnK.put {w w' : World} {B g n c k g2 c2 : Nat} {rs : List Reg} {os : List OReg} {xs : List ShR} {x : ShR} (h : OwnK w B g n c rs k os xs) (hb : Below w.heap.size w w') (hB : B ≤ w.heap.size) (hx : xs[k]? = some x) (hg : w.heap.size ≤ g2)
    (ho : w'.ownsRow w.heap.size 5 1 (.slice (some ⟨g2, 0, none⟩) x.r.bytes.length c2) x.r.bytes.length (b8 x.r.bytes)) (hok : Bs x.r.bytes) :
    ∃ xs', OwnK (w'.setCell ⟨g, k * 3 + 1, none⟩ (.slice (some ⟨g2, 0, none⟩) x.r.bytes.length c2)) B g n c rs (k + 1) (os ++ [⟨x.r, g2, c2⟩]) xs' := by
  have h1 := h.kept hb
  have hgl := (h.sh.row.lt g rfl).2
  have hne : g2 ≠ g := by omega
  have hrm := own_room ho
  have hkx := (List.getElem?_eq_some_iff.1 hx).1
  refine ⟨_, h1.sh.put hx (own_rd8 ho hok) hne hrm, by rw [List.length_append, h.len]; rfl, fun j o hj => ?_, fun o hmo => ?_, ?_⟩
  · rcases Nat.lt_or_ge j k with hjk | hjk
    · rw [List.getElem?_append_left (by rw [h.len]; exact hjk)] at hj
      rw [List.getElem?_set_ne (by omega)]
      exact h.fst j o hj
    · rw [List.getElem?_append_right (by rw [h.len]; exact hjk), h.len] at hj
      have hj0 : j - k = 0 := by
        rcases Nat.eq_zero_or_pos (j - k) with e | e
        · exact e
        · rw [List.getElem?_eq_none (by show 1 ≤ _; omega)] at hj; cases hj
      rw [hj0] at hj
      obtain rfl : (⟨x.r, g2, c2⟩ : OReg) = o := by simpa using hj
      obtain rfl : j = k := by omega
      rw [List.getElem?_set_self hkx]; rfl
  · have hst := (h1.sh.row.stored (k * 3 + 1) (.slice (some ⟨g2, 0, none⟩) x.r.bytes.length c2)).2
    have key : ∀ {B' : Nat} {v : Value} {m : Nat} {ys : List Value}, w'.ownsRow B' 5 1 v m ys → (v.ownBlock = none ∨ v.ownBlock ≠ some g) → (w'.setCell ⟨g, k * 3 + 1, none⟩ (.slice (some ⟨g2, 0, none⟩) x.r.bytes.length c2)).ownsRow B' 5 1 v m ys := fun h9 h8 => h9.kept hst h8
    rcases List.mem_append.1 hmo with hmo | hmo
    · exact key (h1.own o hmo) (.inr (own_type h1.sh.row (h1.own o hmo) (by decide) rfl))
    · obtain rfl : o = ⟨x.r, g2, c2⟩ := by simpa using hmo
      exact ownsRow_base (key ho (.inr (by show some g2 ≠ some g; simpa using hne))) hB
  · rw [List.map_append, List.nodup_append]
    refine ⟨h.nd, by simp, fun a ha b hb' e => ?_⟩
    obtain ⟨o, ho', rfl⟩ := List.mem_map.1 ha
    have hl := ((h.own o ho').lt o.g rfl).2
    simp at hb'
    omega
theorem OwnK.done {w : World} {B g n c : Nat} {rs : List Reg} {os : List OReg} {xs : List ShR} (h : OwnK w B g n c rs n os xs) : OwnR w B (.slice (some ⟨g, 0, none⟩) n c) os ∧ os.map (·.r) = rs := by
  have hl : xs.length = n := by have := h.sh.row.1; rw [sh_len] at this; omega
  have hxs : xs = os.map OReg.sh := by
    apply List.ext_getElem?
    intro j
    rw [List.getElem?_map]
    rcases Nat.lt_or_ge j n with hj | hj
    · have e := List.getElem?_eq_getElem (l := os) (i := j) (by rw [h.len]; exact hj)
      rw [e, h.fst j _ e]; rfl
    · rw [List.getElem?_eq_none (by omega), List.getElem?_eq_none (by rw [h.len]; exact hj)]; rfl
  have hrow : shCells xs = rowOf os := by
    rw [hxs]; unfold shCells rowOf
    rw [List.flatMap_map]; rfl
  have hrs : os.map (·.r) = rs := by rw [← h.sh.regs, hxs, List.map_map]; rfl
  refine ⟨⟨by have := h.sh.row; rw [hrow] at this; rw [h.len]; exact this, h.own, h.nd, fun o ho => h.sh.oks o.r (by rw [← hrs]; exact List.mem_map_of_mem ho)⟩, hrs⟩
/-- what OwnRegions answers -/
def OwnFP (rs : List Reg) (w : World) (e : Ending) (w' : World) : Prop := Below w.heap.size w w' ∧ ∃ g c os, e = .returned (.slice (some ⟨g, 0, none⟩) rs.length c) ∧ Hid (OwnR w' w.heap.size (.slice (some ⟨g, 0, none⟩) rs.length c) os ∧ os.map (·.r) = rs)
set_option maxRecDepth 100000 in
set_option maxHeartbeats 4000000 in
theorem kregs9_c (A : Option Addr) (n c : Nat) (rs : List Reg) (w : World) (h : Hid (AtR w A n rs)) (hL : Lite rs) :
    Calls Tryz.prog 29 #[.slice A n c] w (OwnFP rs w) := by
  obtain ⟨n', hn'⟩ : ∃ n', n' = rs.length := ⟨_, rfl⟩
  have H1 := Lib.hid (kownR_c A n c rs w h (by have := hL.1; have := h.out.len; omega))
  have HL := Lib.hid hL
  have HN := Lib.hid hn'
  have hn10 : n' ≤ 10 := by rw [hn']; exact hL.1
  clear hL hn'
  go_enter Tryz.func29, Tryz.ntmps29
  go_wp2_with fail
  go_at_call 56
  refine H1.out.mono ?_
  rintro e w1 ⟨hb1, g, c', xs, rfl, hS⟩
  rw [← HN.out] at hS ⊢
  have HB1 := Lib.hid hb1
  have HS0 : Hid (OwnK w1 w.heap.size g n' c' rs 0 [] xs) := Lib.hid ⟨hS.out, rfl, (fun j o hj => by simp at hj), (fun o ho => by cases ho), List.nodup_nil⟩
  clear H1 hb1 hS
  go_wp2_with fail
  go_loopw [4] (fun i W => ∃ (k : Nat) (os : List OReg) (xs : List ShR), k ≤ n' ∧ i = .int .i64 (k : Int) ∧ Hid (OwnK W w.heap.size g n' c' rs k os xs) ∧ Hid (Below w.heap.size w W)) (fun i _ => n' - (intOf i).toNat)
  case atStart => exact ⟨0, [], xs, Nat.zero_le _, rfl, HS0, HB1⟩
  case round =>
    obtain ⟨k, os, xs, hk, rfl, hS, HW⟩ := hrel
    rcases Nat.lt_or_ge k n' with hkn | hkn
    · have hkni : (k : Int) < (n' : Int) := by omega
      have hk0 : (0 : Int) ≤ (k : Int) := by omega
      have hxl : xs.length = n' := by rw [HN.out, ← hS.out.sh.regs, List.length_map]
      obtain ⟨x, hx⟩ : ∃ x, xs[k]? = some x := ⟨_, List.getElem?_eq_getElem (by omega)⟩
      obtain ⟨h8, hne, hxc, hxm⟩ := hS.out.sh.each x (List.mem_of_getElem? hx)
      have hx3 : x.n ≤ 300 := by
        have hr : rs[k]? = some x.r := by rw [← hS.out.sh.regs, List.getElem?_map, hx]; rfl
        have h1 := HL.out.2 k x.r hr
        have h2 := h8.len
        unfold Reg.len at h1
        omega
      have c1 : wr.cell? ⟨g, k * 3 + 1, none⟩ = some (.slice x.A x.n x.c) := by
        rw [hS.out.sh.row.cellAt _ (by omega), sh_get hx (by omega)]; rfl
      have H2 := fun W hW => Lib.hid (kown9_c x.A x.n x.c x.r.bytes W hW (by omega))
      have H8 := Lib.hid h8
      have HX := Lib.hid hx
      have hgl := (hS.out.sh.row.lt g rfl).2
      clear h8 hne hx hxl
      go_wp2_with fail
      go_at_call 57
      refine (H2 wr H8).out.mono ?_
      rintro e w2 ⟨hb2, g2, c2, rfl, hg2, ho2⟩
      have hS2 := hS.out.kept hb2
      have hgw := (hS.out.sh.row.lt g rfl).1
      have hs2 := hb2.size
      have hws := HW.out.size
      have f1 : w2.frozen? ⟨g, k * 3 + 1, none⟩ = false := hS2.sh.row.frozenAt _
      have d1 : w2.cell? ⟨g, k * 3 + 1, none⟩ = some (.slice x.A x.n x.c) := by rw [hb2.cell (by exact hgl)]; exact c1
      obtain ⟨xs3, hS3⟩ := hS.out.put hb2 hws HX.out hg2 ho2 H8.out.ok
      have HS3 := Lib.hid hS3
      have HW3 := Lib.hid ((HW.out.trans (hb2.mono hws)).setCell (p := ⟨g, k * 3 + 1, none⟩) (show w.heap.size ≤ g by exact hgw) (.slice (some ⟨g2, 0, none⟩) x.r.bytes.length c2))
      clear hS hb2 ho2 hS2 hgw H2 H8 HX c1 hS3
      go_wp2_with fail
      go_roundw
      case rel => exact ⟨k + 1, _, xs3, by omega, by go_num, HS3, HW3⟩
      case measure => (simp [intOf] <;> omega)
    · obtain rfl : k = n' := by omega
      have HA : Hid (OwnR wr w.heap.size (.slice (some ⟨g, 0, none⟩) rs.length c') os ∧ os.map (·.r) = rs) := Lib.hid (by have := hS.out.done; rw [HN.out] at this; exact this)
      clear hS
      go_wp2_with fail
      go_ret
      exact ⟨HW.out, g, c', os, by rw [HN.out]; rfl, HA⟩
end Mm
end Go.Proofs.YtmiphnocgepdgaaGreatDoor
namespace Go.Proofs.YtmiphnocgepdgaaGreatDoor
open Go Go.RowKit
namespace Sp
open Wd Mm Is
set_option linter.unusedVariables false
set_option linter.unusedSimpArgs false
/-! ### memories of the same shape -/
def zr (r : Reg) : Reg := ⟨r.base, List.replicate r.bytes.length 0, r.write⟩
theorem zr_len (r : Reg) : (zr r).len = r.len := by unfold Reg.len zr; rw [List.length_replicate]
def Alike (M N : List Reg) : Prop := M.map zr = N.map zr
theorem Alike.symm {M N : List Reg} (h : Alike M N) : Alike N M := Eq.symm h
theorem Alike.len {M N : List Reg} (h : Alike M N) : M.length = N.length := by
  have := congrArg List.length h
  rwa [List.length_map, List.length_map] at this
theorem Alike.at_ {M N : List Reg} (h : Alike M N) {i : Nat} {r : Reg} (hi : M[i]? = some r) : ∃ s, N[i]? = some s ∧ s.base = r.base ∧ s.write = r.write ∧ s.len = r.len := by
  have e : (M.map zr)[i]? = (N.map zr)[i]? := by rw [h]
  rw [List.getElem?_map, List.getElem?_map, hi] at e
  obtain ⟨s, hs, hz⟩ := Option.map_eq_some_iff.1 e.symm
  have h1 : (zr s).base = (zr r).base := by rw [hz]
  have h2 : (zr s).write = (zr r).write := by rw [hz]
  have h3 : (zr s).len = (zr r).len := by rw [hz]
  rw [zr_len, zr_len] at h3
  exact ⟨s, hs, h1, h2, h3⟩
theorem Alike.hits {M N : List Reg} (h : Alike M N) {p n : Int} {i : Nat} {r : Reg} (hh : Hits M p n i r) : ∃ s, Hits N p n i s ∧ s.write = r.write := by
  obtain ⟨s, hs, hb, hw, hl⟩ := h.at_ hh.1
  obtain ⟨_, h1, h2, h3⟩ := hh
  exact ⟨s, ⟨hs, by omega, by omega, by omega⟩, hw⟩
theorem good_z {rs : List Reg} (h : Mm.Good rs) : Mm.Good (rs.map zr) := by
  have key : ∀ (i : Nat) (r : Reg), (rs.map zr)[i]? = some r → ∃ s, rs[i]? = some s ∧ r.base = s.base ∧ r.len = s.len := by
    intro i r hi
    rw [List.getElem?_map] at hi
    obtain ⟨s, hs, rfl⟩ := Option.map_eq_some_iff.1 hi
    exact ⟨s, hs, rfl, zr_len s⟩
  refine ⟨by rw [List.length_map]; exact h.few, fun i r hi => ?_, fun i r hi => ?_, fun i r hi => ?_, fun i j r s hi hj hn => ?_⟩
  · obtain ⟨s, hs, hb, hl⟩ := key i r hi
    rw [hl]; exact h.pos i s hs
  · obtain ⟨s, hs, hb, hl⟩ := key i r hi
    rw [hl]; exact h.short i s hs
  · obtain ⟨s, hs, hb, hl⟩ := key i r hi
    rw [hl, hb]; exact h.fits i s hs
  · obtain ⟨u, hu, hb, hl⟩ := key i r hi
    obtain ⟨v, hv, hb', hl'⟩ := key j s hj
    rw [hb, hl, hb', hl']; exact h.apart i j u v hu hv hn
theorem rising_z {M : List Reg} (h : Rising M) : Rising (M.map zr) := by
  unfold Rising at h ⊢
  rw [List.pairwise_map]
  exact h
theorem alike_perm {rs rs' M N : List Reg} (h : Alike rs rs') (hg : Mm.Good rs) (p : M.Perm rs) (q : N.Perm rs') (hM : Rising M) (hN : Rising N) : Alike M N :=
  rising_uniq (good_z hg) (p.map zr) (by rw [show rs.map zr = rs'.map zr from h]; exact q.map zr) (rising_z hM) (rising_z hN)
theorem load_alike {M N : List Reg} {p v v' e e' : Int} (h : Alike M N) (hx : LoadO M p v e) (hy : LoadO N p v' e') : e = e' := by
  rcases hx with ⟨i, r, a, _, b⟩ | ⟨a, _, b⟩ <;> rcases hy with ⟨i', r', a', _, b'⟩ | ⟨a', _, b'⟩
  · rw [b, b']
  · obtain ⟨s, hs, _⟩ := h.hits a; exact absurd hs (a' _ _)
  · obtain ⟨s, hs, _⟩ := h.symm.hits a'; exact absurd hs (a _ _)
  · rw [b, b']
theorem store_alike {M N M1 N1 : List Reg} {p v v' e e' : Int} (h : Alike M N) (hx : StoreO M p v M1 e) (hy : StoreO N p v' N1 e') : e = e' := by
  rcases hx with ⟨i, r, a, w, _, b⟩ | ⟨a, _, b⟩ <;> rcases hy with ⟨i', r', a', w', _, b'⟩ | ⟨a', _, b'⟩
  · rw [b, b']
  · obtain ⟨s, hs, hw⟩ := h.hits a
    have := a' _ _ hs
    rw [hw, w] at this; cases this
  · obtain ⟨s, hs, hw⟩ := h.symm.hits a'
    have := a _ _ hs
    rw [hw, w'] at this; cases this
  · rw [b, b']
theorem xch_alike {M N M1 N1 : List Reg} {t : Ev} {x y v v' e e' : Int} (h : Alike M N) (hx : XchO M t x v M1 e) (hy : XchO N t y v' N1 e') : e = e' := by
  rcases hx with ⟨a, b, _⟩ | ⟨a, b, _⟩ | ⟨a, b, _, _, c⟩ <;> rcases hy with ⟨a', b', _⟩ | ⟨a', b', _⟩ | ⟨a', b', _, _, c'⟩
  · exact load_alike h b b'
  · omega
  · exact absurd a a'
  · omega
  · exact store_alike h b b'
  · exact absurd a b'
  · exact absurd a' a
  · exact absurd a' b
  · rw [c, c']

/-! ### states that agree where it is seen -/
structure SeenT (s t : Stt) (i : Ins) : Prop where
  pc : t.pc = s.pc
  cf : t.cf = s.cf
  zf : t.zf = s.zf
  sp : t.r 4 = s.r 4
  b : held t i.b = held s i.b
  x : held t i.x = held s i.x
theorem tch_same {s t : Stt} {i : Ins} (h : SeenT s t i) : tch t i = tch s i := by
  unfold tch atI addr
  rw [h.sp, h.b, h.x]
def nxt (s : Stt) (i : Ins) (size : Int) : Int :=
  if i.op = 30 ∨ (i.op = 31 ∧ s.zf = false) ∨ (i.op = 32 ∧ s.cf = true) then u64 (u64 (s.pc + u64 size) + u64 i.im) else u64 (s.pc + u64 size)
theorem bh_pc {s : Stt} {i : Ins} {size v : Int} (h : i.op ≠ 33) : (bh s i size v).pc = nxt s i size := by
  unfold bh nxt
  by_cases hm : isMv i.op = true
  · rw [if_pos hm]
    unfold mvP
    by_cases h3 : i.op = 3
    · rw [if_pos h3, if_neg (by omega)]; rfl
    rw [if_neg h3]
    by_cases h4 : i.op = 4
    · rw [if_pos h4, if_neg (by omega)]
    rw [if_neg h4]
    by_cases h5 : i.op = 5
    · rw [if_pos h5, if_neg (by omega)]; rfl
    rw [if_neg h5]
    by_cases h19 : i.op = 19
    · rw [if_pos h19, if_neg (by omega)]; rfl
    rw [if_neg h19]
    by_cases h28 : i.op = 28
    · rw [if_pos h28, if_neg (by omega)]; rfl
    rw [if_neg h28]
    by_cases h29 : i.op = 29
    · rw [if_pos h29, if_neg (by omega)]; rfl
    rw [if_neg h29]
    by_cases h30 : i.op = 30
    · rw [if_pos h30, if_pos (.inl h30)]; rfl
    rw [if_neg h30]
    by_cases h31 : i.op = 31
    · rw [if_pos h31]
      cases hz : s.zf
      · rw [if_pos (.inr (.inl ⟨h31, rfl⟩))]; unfold jmpS; simp [hz]
      · rw [if_neg (by rintro (h | ⟨_, h⟩ | ⟨h, _⟩); exact h30 h; cases h; omega)]; unfold jmpS; simp [hz]
    rw [if_neg h31]
    by_cases h32 : i.op = 32
    · rw [if_pos h32]
      cases hz : s.cf
      · rw [if_neg (by rintro (h | ⟨h, _⟩ | ⟨_, h⟩); exact h30 h; exact h31 h; cases h)]; unfold jmpS; simp [hz]
      · rw [if_pos (.inr (.inr ⟨h32, rfl⟩))]; unfold jmpS; simp [hz]
    exfalso
    unfold isMv at hm
    simp only [Bool.or_eq_true, decide_eq_true_eq] at hm
    omega
  · rw [if_neg hm]
    have hn : ¬ (i.op = 30 ∨ (i.op = 31 ∧ s.zf = false) ∨ (i.op = 32 ∧ s.cf = true)) := by
      unfold isMv at hm
      simp only [Bool.or_eq_true, decide_eq_true_eq] at hm
      omega
    rw [if_neg hn]; rfl
theorem nxt_same {s t : Stt} {i : Ins} {size : Int} (h : SeenT s t i) : nxt t i size = nxt s i size := by
  unfold nxt
  rw [h.pc, h.cf, h.zf]
def memB (i : Ins) : Bool := decide (i.op = 3) || decide (i.op = 4) || decide (i.op = 28) || decide (i.op = 29)
/-- all that is seen of an instruction that came off -/
theorem evs_seen {s n : Stt} {i : Ins} (h : i.op ≠ 33) :
    (jmpB i = true ∧ memB i = false ∧ evs s i n = [⟨1, s.pc⟩, ⟨4, n.pc⟩]) ∨ (jmpB i = false ∧ memB i = true ∧ evs s i n = [⟨1, s.pc⟩, tch s i]) ∨ (jmpB i = false ∧ memB i = false ∧ evs s i n = [⟨1, s.pc⟩]) := by
  have e1 : (⟨1, s.pc⟩ : Ev) ≠ ev0 := by unfold ev0; simp
  have e4 : (⟨4, n.pc⟩ : Ev) ≠ ev0 := by unfold ev0; simp
  by_cases hj : jmpB i = true
  · left
    have ho : i.op = 30 ∨ i.op = 31 ∨ i.op = 32 := by
      unfold jmpB at hj
      simp only [Bool.and_eq_true, Bool.or_eq_true, decide_eq_true_eq] at hj
      omega
    have ht : tch s i = ev0 := by
      unfold tch
      rw [if_neg (by omega), if_neg (by omega), if_neg (by omega), if_neg (by omega)]
    have hg : goe i n = ⟨4, n.pc⟩ := by unfold goe; rw [hj]; rfl
    refine ⟨hj, by unfold memB; simp; omega, ?_⟩
    unfold evs
    rw [ht, hg]
    simp [e1, e4]
  · have hj' : jmpB i = false := by simpa using hj
    have hg : goe i n = ev0 := by unfold goe; rw [hj', decide_eq_false h]; rfl
    right
    by_cases hm : memB i = true
    · left
      refine ⟨hj', hm, ?_⟩
      have ht : tch s i ≠ ev0 := by
        unfold memB at hm
        simp only [Bool.or_eq_true, decide_eq_true_eq] at hm
        unfold tch ev0
        split
        · simp
        split
        · simp
        split
        · simp
        split
        · simp
        · omega
      unfold evs
      rw [hg]
      simp [e1, ht]
    · right
      have hm' : memB i = false := by simpa using hm
      refine ⟨hj', hm', ?_⟩
      have ht : tch s i = ev0 := by
        unfold memB at hm
        simp only [Bool.or_eq_true, decide_eq_true_eq] at hm
        unfold tch
        rw [if_neg (by omega), if_neg (by omega), if_neg (by omega), if_neg (by omega)]
      unfold evs
      rw [hg, ht]
      simp [e1]
/-- what both runs show -/
theorem seen_all {s t a b : Stt} {i : Ins} {M N M1 N1 : List Reg} {x y : List Ev} {g h : Int} (h33 : i.op ≠ 33) (hA : Alike M N) (hT : SeenT s t i) (hs : DoO s i 5 M a x M1 g) (ht : DoO t i 5 N b y N1 h) :
    h = g ∧ y = x ∧ ((g ≠ 0 ∧ x = []) ∨ (g = 0 ∧ b.pc = a.pc ∧ ((jmpB i = true ∧ memB i = false ∧ x = [⟨1, s.pc⟩, ⟨4, a.pc⟩]) ∨ (jmpB i = false ∧ memB i = true ∧ x = [⟨1, s.pc⟩, tch s i] ∧ a.pc = u64 (s.pc + 5)) ∨ (jmpB i = false ∧ memB i = false ∧ x = [⟨1, s.pc⟩] ∧ a.pc = u64 (s.pc + 5))))) := by
  rcases hs with ⟨r1, n1, l1, _, e1⟩ | ⟨r1, v, x1, c1⟩ <;> rcases ht with ⟨r2, n2, l2, _, e2⟩ | ⟨r2, v', x2, c2⟩
  · exact ⟨by rw [e1, e2], by rw [l1, l2], .inl ⟨by rw [e1]; exact r1, l1⟩⟩
  · exact absurd r2 r1
  · exact absurd r1 r2
  · rw [tch_same hT] at x2
    obtain rfl : g = h := xch_alike hA x1 x2
    rcases c1 with ⟨q1, n1, l1⟩ | ⟨q1, n1, l1⟩ <;> rcases c2 with ⟨q2, n2, l2⟩ | ⟨q2, n2, l2⟩
    · exact ⟨rfl, by rw [l1, l2], .inl ⟨q1, l1⟩⟩
    · exact absurd q2 q1
    · exact absurd q1 q2
    · have p1 : a.pc = nxt s i 5 := by rw [n1]; exact bh_pc h33
      have p2 : b.pc = nxt s i 5 := by rw [n2, bh_pc h33]; exact nxt_same hT
      have hev : y = x := by
        rw [l1, l2]
        unfold evs
        rw [tch_same hT, hT.pc]
        have : goe i b = goe i a := by unfold goe; rw [p1, p2]
        rw [this]
      refine ⟨rfl, hev, .inr ⟨q1, by rw [p1, p2], ?_⟩⟩
      have h5 : jmpB i = false → okI i = true → a.pc = u64 (s.pc + 5) := by
        intro hj hk
        rw [p1]
        unfold nxt
        rw [if_neg (by
          unfold jmpB at hj
          rw [hk] at hj
          simp only [Bool.true_and, Bool.or_eq_false_iff, decide_eq_false_iff_not] at hj
          omega)]
        rfl
      have hk : okI i = true := by
        unfold refE chk at r1
        by_cases hk : okI i = true
        · exact hk
        · rw [if_neg hk] at r1; simp at r1
      rw [l1]
      rcases evs_seen (s := s) (n := a) (i := i) h33 with ⟨q, q', w⟩ | ⟨q, q', w⟩ | ⟨q, q', w⟩
      · exact .inl ⟨q, q', w⟩
      · exact .inr (.inl ⟨q, q', w, h5 q hk⟩)
      · exact .inr (.inr ⟨q, q', w, h5 q hk⟩)
/-- where an instruction's place may lie -/
theorem ok_place {i : Ins} (h : okI i = true) : (0 ≤ i.b ∧ i.b ≤ 15) ∧ -1 ≤ i.x ∧ i.x ≤ 15 := by
  have key : ∀ f, okF i f = true → plB i = true ∨ plZ i = true := by
    intro f hf
    cases f <;> simp only [okF, Bool.and_eq_true] at hf <;> first | exact .inl hf.1.2 | exact .inr hf.1.2 | exact .inr hf.2 | cases hf
  rcases key _ h with hp | hp
  · unfold plB regB at hp
    simp only [Bool.and_eq_true, decide_eq_true_eq] at hp
    obtain ⟨⟨⟨h1, h2⟩, _⟩, h3⟩ := hp
    by_cases hx : i.x = -1
    · omega
    · rw [if_neg hx] at h3
      simp only [Bool.and_eq_true, decide_eq_true_eq] at h3
      omega
  · unfold plZ at hp
    simp only [Bool.and_eq_true, decide_eq_true_eq] at hp
    omega
end Sp
end Go.Proofs.YtmiphnocgepdgaaGreatDoor
