/- The document's own look at a program: the walk. -/
import Derived.Test.YtbdhibgljaelbaaDoorR4
namespace Go.Proofs.YtbdhibgljaelbaaDoor
open Go Go.RowKit Go.Sort Go.Shelf
namespace Lb
open Wd Nt Gr
set_option linter.unusedVariables false
set_option linter.unusedSimpArgs false
theorem ref_3 {p : Pg} (h : 64 < p.rg ∨ 32 < p.bf.length ∨ 65536 < p.op.length ∨ p.bf.any longB = true) : chkP p = (0, 3) := by
  have e : refP p = 3 := by
    unfold refP
    rw [if_pos]
    simp only [Bool.or_eq_true, decide_eq_true_eq]
    rcases h with h | h | h | h
    · exact .inl (.inl (.inl h))
    · exact .inl (.inl (.inr h))
    · exact .inl (.inr h)
    · exact .inr h
  unfold chkP
  rw [e, if_pos (by decide)]
theorem ref_2 {p : Pg} (h1 : ¬ 64 < p.rg) (h2 : ¬ 32 < p.bf.length) (h3 : ¬ 65536 < p.op.length) (h4 : p.bf.any longB = false) (h : p.rg < 0 ∨ p.bf.any wrongB = true) : chkP p = (0, 2) := by
  have e : refP p = 2 := by
    unfold refP
    rw [decide_eq_false h1, decide_eq_false h2, decide_eq_false h3, h4, if_neg (by decide), if_pos]
    simp only [Bool.or_eq_true, decide_eq_true_eq]
    exact h
  unfold chkP
  rw [e, if_pos (by decide)]
theorem ref_0 {p : Pg} (h1 : ¬ 64 < p.rg) (h2 : ¬ 32 < p.bf.length) (h3 : ¬ 65536 < p.op.length) (h4 : p.bf.any longB = false) (h5 : ¬ p.rg < 0) (h6 : p.bf.any wrongB = false) : refP p = 0 := by
  unfold refP
  rw [decide_eq_false h1, decide_eq_false h2, decide_eq_false h3, h4, if_neg (by decide), decide_eq_false h5, h6, if_neg (by decide)]
theorem any_at {f : Bf → Bool} {bs : List Bf} {k : Nat} (hk : k < bs.length) (h : f (bfAt bs (k : Int)) = true) : bs.any f = true := List.any_eq_true.2 ⟨_, List.mem_of_getElem? (bfAt_some hk), h⟩
theorem any_none {f : Bf → Bool} {bs : List Bf} (h : ∀ k, k < bs.length → f (bfAt bs (k : Int)) = false) : bs.any f = false := by
  rw [Bool.eq_false_iff]
  intro hh
  obtain ⟨b, hb, hf⟩ := List.any_eq_true.1 hh
  obtain ⟨k, hk⟩ := List.mem_iff_getElem?.1 hb
  have hl := (List.getElem?_eq_some_iff.1 hk).1
  have h1 := h k hl
  have h2 := bfAt_some hl
  rw [hk] at h2
  rw [← Option.some.inj h2] at h1
  rw [h1] at hf
  cases hf
theorem keep9 {w W W' : World} {g : Nat} {v0 v1 v2 v3 v4 v5 v6 v7 : Value} (h : W.cell? ⟨g, 0, none⟩ = some v0 ∧ W.cell? ⟨g, 1, none⟩ = some v1 ∧ W.cell? ⟨g, 2, none⟩ = some v2 ∧ W.cell? ⟨g, 3, none⟩ = some v3 ∧ W.cell? ⟨g, 4, none⟩ = some v4 ∧ W.cell? ⟨g, 5, none⟩ = some v5 ∧ W.cell? ⟨g, 6, none⟩ = some v6 ∧ W.cell? ⟨g, 7, none⟩ = some v7 ∧ Below w.heap.size w W) (hb : Below W.heap.size W W') :
    W'.cell? ⟨g, 0, none⟩ = some v0 ∧ W'.cell? ⟨g, 1, none⟩ = some v1 ∧ W'.cell? ⟨g, 2, none⟩ = some v2 ∧ W'.cell? ⟨g, 3, none⟩ = some v3 ∧ W'.cell? ⟨g, 4, none⟩ = some v4 ∧ W'.cell? ⟨g, 5, none⟩ = some v5 ∧ W'.cell? ⟨g, 6, none⟩ = some v6 ∧ W'.cell? ⟨g, 7, none⟩ = some v7 ∧ Below w.heap.size w W' := by
  obtain ⟨h0, h1, h2, h3, h4, h5, h6, h7, h8⟩ := h
  have hl : g < W.heap.size := World.block_lt_of_cell? W _ h0
  exact ⟨(hb.cell (p := ⟨g, 0, none⟩) hl).trans h0, (hb.cell (p := ⟨g, 1, none⟩) hl).trans h1, (hb.cell (p := ⟨g, 2, none⟩) hl).trans h2, (hb.cell (p := ⟨g, 3, none⟩) hl).trans h3, (hb.cell (p := ⟨g, 4, none⟩) hl).trans h4, (hb.cell (p := ⟨g, 5, none⟩) hl).trans h5, (hb.cell (p := ⟨g, 6, none⟩) hl).trans h6, (hb.cell (p := ⟨g, 7, none⟩) hl).trans h7, bel_tr h8 hb⟩
theorem mkL_le (o : Op) : (mkL o).length ≤ 2 := by unfold mkL; split; · simp
                                                   split <;> simp
theorem tkL_le (o : Op) : (tkL o).length ≤ 3 := by unfold tkL; repeat' split
                                                   all_goals simp
theorem falses_eq (n : Nat) : falses n = (row (mdR n ah0.md)).toArray := by
  have e : mdR n ah0.md = List.replicate n false := by
    unfold mdR
    show (List.range n).map (fun _ => false) = _
    rw [List.map_const', List.length_range]
  rw [e]; rfl
theorem flt_bad {regs : Int} {bufs : List Bf} {s : Ah} {o : Op} (h : opOk regs bufs o = false) : fltO regs bufs s o = 2 := by unfold fltO; rw [if_pos h]
set_option maxRecDepth 100000 in
set_option maxHeartbeats 16000000 in
theorem check_r (p : Pg) (hp : p.wf) (A X : Option Addr) (c d : Nat) (w : World) (hR : Rdr w w.heap.size A p.bf.length p.bf) (hX : Rdr w w.heap.size X p.op.length p.op) :
    Calls Tryd.prog 23 #[pgV p A c X d] w fun e w' => e = .returned (.tuple #[.int .i64 ((chkP p).1 : Nat), .int .i64 (chkP p).2]) ∧ Below w.heap.size w w' := by
  have H3 := Lib.hid (@ref_3 p)
  have H2 := Lib.hid (@ref_2 p)
  have H0 := Lib.hid (@ref_0 p)
  have HE : Hid (refP p = 0 → chkP p = chkG p.rg p.bf p.op ah0 0) := Lib.hid (fun h => by unfold chkP; rw [if_neg (by simpa using h)])
  have HZ := Lib.hid (fun h => @ref_zero p h)
  generalize chkP p = res at *
  unfold pgV at *
  have HB0 := Lib.hid (bel_al (w := w) (.cells #[.int .i64 p.rg, .slice A p.bf.length c, .slice X p.op.length d] 26))
  have HK0 := Lib.hid (Bk.new w 26 #[.int .i64 p.rg, .slice A p.bf.length c, .slice X p.op.length d])
  have HR := Lib.hid hR
  have HX := Lib.hid hX
  clear hR hX
  obtain ⟨W0, hW0⟩ : ∃ W0, W0 = w.alloc (.cells #[.int .i64 p.rg, .slice A p.bf.length c, .slice X p.op.length d] 26) := ⟨_, rfl⟩
  have HW0 := Lib.hid hW0
  rw [← hW0] at HB0 HK0
  clear hW0
  obtain ⟨a0, a1, a2⟩ := c3 HK0.out
  go_enter Tryd.func23, Tryd.ntmps23
  go_upto_region 1 with fail
  rw [← HW0.out]
  by_cases c1 : 64 < p.rg
  · obtain rfl := H3.out (.inl c1)
    go_wp2_with fail
    go_ret2
    exact ⟨rfl, HB0.out⟩
  by_cases c2 : 32 < p.bf.length
  · obtain rfl := H3.out (.inr (.inl c2))
    have c2' : (32 : Int) < (p.bf.length : Int) := by omega
    go_wp2_with fail
    go_ret2
    exact ⟨rfl, HB0.out⟩
  have c2' : ¬ (32 : Int) < (p.bf.length : Int) := by omega
  by_cases c3' : 65536 < p.op.length
  · obtain rfl := H3.out (.inr (.inr (.inl c3')))
    have c3'' : (65536 : Int) < (p.op.length : Int) := by omega
    go_wp2_with fail
    go_ret2
    exact ⟨rfl, HB0.out⟩
  have c3'' : ¬ (65536 : Int) < (p.op.length : Int) := by omega
  go_wp2_with fail
  go_loopw [4] (fun i W => ∃ k : Nat, k ≤ p.bf.length ∧ i = .int .i64 (k : Int) ∧ Hid (∀ j, j < k → longB (bfAt p.bf (j : Int)) = false) ∧ Hid (W = W0)) (fun i _ => p.bf.length - (intOf i).toNat)
  case atStart => exact ⟨0, Nat.zero_le _, rfl, Lib.hid (fun j h => by omega), Lib.hid rfl⟩
  case round =>
  obtain ⟨k, hk, rfl, HP, HW⟩ := hrel
  rw [HW.out]
  clear HW
  rcases Nat.lt_or_ge k p.bf.length with hlt | hge
  · have hki : (k : Int) < (p.bf.length : Int) := by omega
    have hk0 : (0 : Int) ≤ (k : Int) := by omega
    obtain ⟨bb, bo, rfl, hbb, s0, s1, s2⟩ := bf_at (HR.out.below HB0.out) (bfAt_some hlt)
    have ew : IntKind.i64.wrap ((k : Int) + 1) = ((k + 1 : Nat) : Int) := by rw [show (k : Int) + 1 = ((k + 1 : Nat) : Int) by omega]; exact IntWalk.i64_in _ (by omega)
    have HAN := Lib.hid (fun h => H3.out (.inr (.inr (.inr (any_at (f := longB) hlt h)))))
    have HL : Hid (longB (bfAt p.bf (k : Int)) = decide (65536 < (bfAt p.bf (k : Int)).sz)) := Lib.hid rfl
    by_cases hl : 65536 < (bfAt p.bf (k : Int)).sz
    · obtain rfl := HAN.out (by rw [HL.out, decide_eq_true hl])
      generalize bfAt p.bf (k : Int) = bx at *
      go_wp2_with fail
      go_ret2
      exact ⟨rfl, HB0.out⟩
    · have HP2 : Hid (∀ j, j < k + 1 → longB (bfAt p.bf (j : Int)) = false) := Lib.hid (fun j hj => by
        rcases Nat.lt_or_ge j k with h | h
        · exact HP.out j h
        · obtain rfl : j = k := by omega
          rw [HL.out, decide_eq_false hl])
      generalize bfAt p.bf (k : Int) = bx at *
      go_wp2_with fail
      go_roundw
      case rel => exact ⟨k + 1, by omega, by first | rfl | go_num, HP2, Lib.hid (by first | exact rfl | trivial)⟩
      case measure => (simp [intOf] <;> omega)
  obtain rfl : k = p.bf.length := by omega
  have hki : ¬ (p.bf.length : Int) < (p.bf.length : Int) := by omega
  have HLG := Lib.hid (any_none HP.out)
  clear HP
  by_cases c5 : p.rg < 0
  · obtain rfl := H2.out c1 c2 c3' HLG.out (.inl c5)
    go_wp2_with fail
    go_ret2
    exact ⟨rfl, HB0.out⟩
  go_wp2_with fail
  go_loopw [5] (fun i W => ∃ k : Nat, k ≤ p.bf.length ∧ i = .int .i64 (k : Int) ∧ Hid (∀ j, j < k → wrongB (bfAt p.bf (j : Int)) = false) ∧ Hid (W = W0)) (fun i _ => p.bf.length - (intOf i).toNat)
  case atStart => exact ⟨0, Nat.zero_le _, rfl, Lib.hid (fun j h => by omega), Lib.hid rfl⟩
  case round =>
  obtain ⟨k, hk', rfl, HP, HW⟩ := hrel
  rw [HW.out]
  clear HW
  rcases Nat.lt_or_ge k p.bf.length with hlt | hge
  · have hki : (k : Int) < (p.bf.length : Int) := by omega
    have hk0 : (0 : Int) ≤ (k : Int) := by omega
    obtain ⟨bb, bo, rfl, hbb, s0, s1, s2⟩ := bf_at (HR.out.below HB0.out) (bfAt_some hlt)
    have ew : IntKind.i64.wrap ((k : Int) + 1) = ((k + 1 : Nat) : Int) := by rw [show (k : Int) + 1 = ((k + 1 : Nat) : Int) by omega]; exact IntWalk.i64_in _ (by omega)
    have HAN := Lib.hid (fun h => H2.out c1 c2 c3' HLG.out (.inr (any_at (f := wrongB) hlt h)))
    have HL : Hid (wrongB (bfAt p.bf (k : Int)) = (decide ((bfAt p.bf (k : Int)).sz ≤ 0) || decide ((bfAt p.bf (k : Int)).kd < 1) || decide (3 < (bfAt p.bf (k : Int)).kd))) := Lib.hid rfl
    by_cases h1 : (bfAt p.bf (k : Int)).sz < 1
    · obtain rfl := HAN.out (by rw [HL.out, decide_eq_true (by omega)]; rfl)
      generalize bfAt p.bf (k : Int) = bx at *
      go_wp2_with fail
      go_ret2
      exact ⟨rfl, HB0.out⟩
    by_cases h2 : (bfAt p.bf (k : Int)).kd < 1
    · obtain rfl := HAN.out (by rw [HL.out, decide_eq_true h2]; simp)
      generalize bfAt p.bf (k : Int) = bx at *
      go_wp2_with fail
      go_ret2
      exact ⟨rfl, HB0.out⟩
    by_cases h3 : 3 < (bfAt p.bf (k : Int)).kd
    · obtain rfl := HAN.out (by rw [HL.out, decide_eq_true h3]; simp)
      generalize bfAt p.bf (k : Int) = bx at *
      go_wp2_with fail
      go_ret2
      exact ⟨rfl, HB0.out⟩
    · have HP2 : Hid (∀ j, j < k + 1 → wrongB (bfAt p.bf (j : Int)) = false) := Lib.hid (fun j hj => by
        rcases Nat.lt_or_ge j k with h | h
        · exact HP.out j h
        · obtain rfl : j = k := by omega
          rw [HL.out, decide_eq_false (by omega), decide_eq_false h2, decide_eq_false h3]; rfl)
      generalize bfAt p.bf (k : Int) = bx at *
      go_wp2_with fail
      go_roundw
      case rel => exact ⟨k + 1, by omega, by first | rfl | go_num, HP2, Lib.hid (by first | exact rfl | trivial)⟩
      case measure => (simp [intOf] <;> omega)
  obtain rfl : k = p.bf.length := by omega
  have hki2 : ¬ (p.bf.length : Int) < (p.bf.length : Int) := by omega
  have hz := H0.out c1 c2 c3' HLG.out c5 (any_none HP.out)
  have HEE := Lib.hid (HE.out hz)
  have HZZ := Lib.hid (HZ.out hz)
  clear HP hz H0 H2 H3 HE HZ HLG
  obtain ⟨n, hn⟩ : ∃ n : Nat, p.rg = (n : Int) := ⟨p.rg.toNat, by omega⟩
  have hn64 : n ≤ 64 := by omega
  have hmk := fun W => make_bool n (by omega) W
  have HN := Lib.hid hn
  rw [hn] at a0 HK0 HEE HZZ ⊢
  have HFZ := Lib.hid (falses_eq n)
  have HLN := Lib.hid (show p.op.length ≤ 65536 by omega)
  obtain ⟨L, hL⟩ : ∃ L, p.op.length = L := ⟨_, rfl⟩
  have HLL := Lib.hid hL
  have HM0 : Hid (Bk (W0.alloc (.cells (falses n) 4)) W0.heap.size 4 (row (mdR n ah0.md)).toArray) := Lib.hid (by rw [← HFZ.out]; exact Bk.new _ _ _)
  have HB00 := Lib.hid (bel_al' HB0.out (.cells (falses n) 4))
  have HK00 := Lib.hid (HK0.out.alloc (.cells (falses n) 4))
  have hgM : w.heap.size < W0.heap.size := HK0.out.lt
  generalize falses n = zs at *
  rw [hL] at a2 HK0 HX HLN HK00 ⊢
  clear hL hn c1 c2 c2' c3' c3'' c5 hk hk' HW0
  go_wp2_with fail
  go_loopw [8, 7] (fun i v W => ∃ (k : Nat) (s : Ah), k ≤ L ∧ i = .int .i64 (k : Int) ∧ Hid (res = chkG (n : Int) p.bf (p.op.drop k) s k) ∧ Hid (InvA (n : Int) s) ∧ Hid (Rws 3 w.heap.size v s.lp W) ∧ Hid (Bk W W0.heap.size 4 (row (mdR n s.md)).toArray) ∧ Hid (Below w.heap.size w W) ∧ Hid (Bk W w.heap.size 26 #[.int .i64 (n : Int), .slice A p.bf.length c, .slice X L d])) (fun i _ _ => L - (intOf i).toNat)
  case atStart => exact ⟨0, ah0, Nat.zero_le _, rfl, Lib.hid HEE.out, Lib.hid (invA_0 _), Lib.hid (World.ownsRow_nil _ _ _ _), HM0, HB00, HK00⟩
  case round =>
  obtain ⟨k, s, hk, rfl, HC, HI, HLO, HM, HB, HK⟩ := hrel
  clear HM0 HB00 HK00 a0 a1 a2 hmk
  obtain ⟨a0, a1, a2⟩ := c3 HK.out
  rcases Nat.lt_or_ge k L with hlt | hge
  · have hki : (k : Int) < (L : Int) := by omega
    have hk0 : (0 : Int) ≤ (k : Int) := by omega
    obtain ⟨oo, hoo⟩ : ∃ o, p.op[k]? = some o := ⟨_, List.getElem?_eq_getElem (by rw [HLL.out]; exact hlt)⟩
    have HCH := Lib.hid (HC.out.trans (chkG_at hoo))
    have HWF := Lib.hid (hp.op oo (List.mem_of_getElem? hoo))
    obtain ⟨bx, ox, rfl, hbx, o0, o1, o2, o3, o4, o5, o6, o7⟩ := op_at (HX.out.below HB.out) hoo
    clear hoo HC
    have ew : IntKind.i64.wrap ((k : Int) + 1) = ((k + 1 : Nat) : Int) := by rw [show (k : Int) + 1 = ((k + 1 : Nat) : Int) by omega]; exact IntWalk.i64_in _ (by have := HLN.out; omega)
    have HB1 := Lib.hid (bel_al' HB.out (.cells (Op.vs oo).toArray 33))
    have HO1 := Lib.hid (Bk.new wr 33 (Op.vs oo).toArray)
    have HM1 := Lib.hid (HM.out.alloc (.cells (Op.vs oo).toArray 33))
    have HK1 := Lib.hid (HK.out.alloc (.cells (Op.vs oo).toArray 33))
    have HLO1 := Lib.hid (own_below HLO.out (bel_al (.cells (Op.vs oo).toArray 33)))
    have hgt : w.heap.size < wr.heap.size := World.block_lt_of_cell? wr _ a0
    have hMw : W0.heap.size < wr.heap.size := HM.out.lt
    have hxt : bx < wr.heap.size := World.block_lt_of_cell? wr _ o0
    have HFI := Lib.hid (fields_r (n : Int) A p.bf.length c (some ⟨bx, ox, none⟩) L d p.bf oo (wr.alloc (.cells (Op.vs oo).toArray 33)) ((HR.out.below HB1.out).more HB1.out.size) hp.bf HWF.out (by have := HZZ.out.2.1; omega) (fun b hb => (HZZ.out.2.2.2.2 b hb).1))
    have HG := Lib.hid (fun h => @opOk_g (n : Int) p.bf oo h)
    have HRF := Lib.hid (fun h => @ref_eq (n : Int) p.bf s oo HI.out h)
    have HBD := Lib.hid (fun h => @flt_bad (n : Int) p.bf s oo h)
    have HIN := Lib.hid (fun h1 h2 => @inv_adv (n : Int) p.bf s oo HI.out h1 h2)
    generalize opOk (n : Int) p.bf oo = okv at *
    generalize fltO (n : Int) p.bf s oo = flt at *
    obtain ⟨ok, od, oe, oa, ob, oc, obf, oim⟩ := oo
    unfold Op.vs at HB1 HO1 HM1 HK1 HLO1 HFI
    dsimp only at *
    simp only [List.toArray] at HB1 HO1 HFI
    go_wp2_with fail
    go_at_call 48
    refine HFI.out.mono ?_
    rintro e w2 ⟨rfl, hb⟩
    have HB2 := Lib.hid (bel_tr HB1.out hb)
    have HO2 := Lib.hid (HO1.out.below hb HO1.out.lt)
    have HM2 := Lib.hid (HM1.out.below hb HM1.out.lt)
    have HK2 := Lib.hid (HK1.out.below hb HK1.out.lt)
    have HLO2 := Lib.hid (own_below HLO1.out hb)
    have hw2 : wr.heap.size < w2.heap.size := HO2.out.lt
    clear hb HFI HB1 HO1 HM1 HK1 HLO1 HLO HM HB HK a0 a1 a2 o0 o1 o2 o3 o4 o5 o6 o7 hxt
    obtain ⟨o0, o1, o2, o3, o4, o5, o6, o7⟩ := c8 HO2.out
    obtain ⟨a0, a1, a2⟩ := c3 HK2.out
    cases okv
    · have hf2 := HBD.out rfl
      rw [hf2, if_pos (by decide)] at HCH
      go_wp2_with fail
      go_ret2
      exact ⟨by rw [HCH.out]; rfl, HB2.out⟩
    have HGG := Lib.hid (HG.out (by first | exact rfl | trivial))
    have hf3 := HRF.out (by first | exact rfl | trivial)
    rw [hf3] at HCH
    have HINV := Lib.hid (HIN.out HGG.out)
    clear hf3 HG HRF HBD HIN
    obtain ⟨Al, cl, rfl, hcl⟩ := rws_form HLO2.out
    have HLE := Lib.hid HI.out.le
    by_cases h17 : ok = 17
    · subst h17
      by_cases hlp : s.lp = []
      · have hr9 : refF s ⟨17, od, oe, oa, ob, oc, obf, oim⟩ = 9 := by unfold refF; rw [if_pos rfl, hlp]; rfl
        rw [hr9, if_pos (by decide)] at HCH
        rw [hlp]
        go_wp2_with fail
        go_ret2
        exact ⟨by rw [HCH.out]; rfl, HB2.out⟩
      · have hne : s.lp ≠ [] := hlp
        clear hlp
        have hr0 : refF s ⟨17, od, oe, oa, ob, oc, obf, oim⟩ = 0 := by unfold refF; rw [if_pos rfl, if_neg (by simpa using hne)]
        have HINV2 := Lib.hid (HINV.out hr0)
        rw [hr0, if_neg (by decide)] at HCH
        obtain ⟨l, x, hlx⟩ : ∃ l x, s.lp = l ++ [x] := ⟨_, _, (List.dropLast_concat_getLast hne).symm⟩
        obtain ⟨m, hm⟩ : ∃ m, l.length = m := ⟨_, rfl⟩
        have hlen : s.lp.length = m + 1 := by rw [hlx, List.length_append, hm]; rfl
        obtain ⟨x0, xn0, _⟩ := HI.out.each x (by rw [hlx]; simp)
        obtain ⟨xn, rfl⟩ := Int.eq_ofNat_of_zero_le x0
        have hxn : xn < n := by omega
        have HAD : Hid (adv s ⟨17, od, oe, oa, ob, oc, obf, oim⟩ = ⟨setR s.md (xn : Int) false, l⟩) := Lib.hid (by rw [adv_17 rfl, hlx]; simp)
        have hget : s.lp[m]? = some (xn : Int) := by rw [hlx, List.getElem?_append_right (by omega), hm, Nat.sub_self]; rfl
        obtain ⟨gl, rfl, hgB, hgl, _, _⟩ := own_blk HLO2.out (by rw [hlen]; omega)
        obtain ⟨b1, o1', hbe, hb1, q0⟩ := int_at (rws_rd HLO2.out).2.1 hget
        cases hbe
        rw [Nat.zero_add] at q0
        have HLI := Lib.hid (own_init (m := m) (own_far (i := xn) (u := .bool false) HLO2.out HM2.out (show (3 : TypeId) ≠ 4 by decide)) (by exact hlen))
        rw [show s.lp.dropLast = l by rw [hlx, List.dropLast_concat]] at HLI
        have HMS := Lib.hid (bools_set (v := false) HM2.out hxn)
        have HKS := Lib.hid (HK2.out.far (p := ⟨W0.heap.size, xn, none⟩) (show w.heap.size ≠ W0.heap.size by omega) (.bool false))
        have HBS := Lib.hid (HB2.out.setCell (p := ⟨W0.heap.size, xn, none⟩) (Nat.le_of_lt hgM) (.bool false))
        have hmb := bools_at HM2.out hxn
        have hmf := HM2.out.frozen xn
        have hm64 : m ≤ 64 := by have := HLE.out; omega
        have ew5 : IntKind.i64.wrap (((m + 1 : Nat) : Int) - 1) = (m : Int) := by rw [show ((m + 1 : Nat) : Int) - 1 = (m : Int) by omega]; exact i64n (by omega)
        have ew6 : IntKind.i64.wrap ((m : Int) + 1 - 1) = (m : Int) := by rw [show (m : Int) + 1 - 1 = (m : Int) by omega]; exact i64n (by omega)
        have hxi : (xn : Int) < (n : Int) := by omega
        have hxi0 : (0 : Int) ≤ (xn : Int) := by omega
        have bq1 : (m : Int) < (m : Int) + 1 := by omega
        have bq2 : (0 : Int) ≤ (m : Int) := by omega
        have bq3 : (m : Int) ≤ (cl : Int) := by omega
        rw [hlen]
        generalize s.md xn = bv at *
        clear hne hr0 hget hb1 hcl hlx hlen
        go_wp2_with fail
        go_roundw
        case rel => exact ⟨k + 1, adv s ⟨17, od, oe, oa, ob, oc, obf, oim⟩, by omega, by first | rfl | go_num, HCH, HINV2, Lib.hid (by rw [HAD.out]; exact HLI.out), Lib.hid (by rw [HAD.out]; exact HMS.out), HBS, HKS⟩
        case measure => (simp [intOf] <;> omega)
    · have hne17 : (ok == 17) = false := by rw [beq_eq_false_iff_ne]; exact h17
      have HMKC := Lib.hid (fun (W : World) => makes_r ⟨ok, od, oe, oa, ob, oc, obf, oim⟩ HGG.out.k1 W)
      have HTKC := Lib.hid (fun (W : World) => takes_r ⟨ok, od, oe, oa, ob, oc, obf, oim⟩ HGG.out.k1 W)
      have HMIN := Lib.hid (mkL_in HGG.out h17)
      have HTIN := Lib.hid (tkL_in HGG.out)
      have HAMD := Lib.hid (adv_md (s := s) HGG.out h17)
      have HALP := Lib.hid (show (adv s ⟨ok, od, oe, oa, ob, oc, obf, oim⟩).lp = if ok = 16 then s.lp ++ [od] else s.lp from by
        by_cases h16 : ok = 16
        · rw [adv_16 h16, if_pos h16]
        · rw [adv_pl h16 h17, if_neg h16])
      have HR9 := Lib.hid (fun x => @refF_9 s ⟨ok, od, oe, oa, ob, oc, obf, oim⟩ x h17)
      have HRN := Lib.hid (@refF_no s ⟨ok, od, oe, oa, ob, oc, obf, oim⟩ h17)
      have HDD := Lib.hid (fun (h16 : ok = 16) => (show 0 ≤ od ∧ od < (n : Int) by
        have := HGG.out.d
        rw [show hD ok = true by rw [h16]; rfl, if_pos rfl] at this
        exact this))
      have HMB := Lib.hid (mkL_le ⟨ok, od, oe, oa, ob, oc, obf, oim⟩)
      have HTB := Lib.hid (tkL_le ⟨ok, od, oe, oa, ob, oc, obf, oim⟩)
      unfold Op.vs at HMKC HTKC
      dsimp only at HMKC HTKC HRN
      generalize mkL ⟨ok, od, oe, oa, ob, oc, obf, oim⟩ = mk at *
      generalize tkL ⟨ok, od, oe, oa, ob, oc, obf, oim⟩ = tk at *
      generalize refF s ⟨ok, od, oe, oa, ob, oc, obf, oim⟩ = rf at *
      generalize adv s ⟨ok, od, oe, oa, ob, oc, obf, oim⟩ = s2 at *
      go_wp2_with fail
      go_cut [10, 11] from 99 to 122 (fun v1 v2 W => ∃ (A1 : Option Addr) (n1 c1 : Nat) (A2 : Option Addr) (n2 c2 : Nat), v1 = .slice A1 n1 c1 ∧ v2 = .slice A2 n2 c2 ∧ Hid (Rdr W W.heap.size A1 n1 mk) ∧ Hid (Rdr W W.heap.size A2 n2 tk) ∧ Hid (Below w2.heap.size w2 W))
      case first =>
        have S0 : Hid (w2.drew.cell? ⟨wr.heap.size, 0, none⟩ = some (.int .i64 ok) ∧ w2.drew.cell? ⟨wr.heap.size, 1, none⟩ = some (.int .i64 od) ∧ w2.drew.cell? ⟨wr.heap.size, 2, none⟩ = some (.int .i64 oe) ∧ w2.drew.cell? ⟨wr.heap.size, 3, none⟩ = some (.int .i64 oa) ∧ w2.drew.cell? ⟨wr.heap.size, 4, none⟩ = some (.int .i64 ob) ∧ w2.drew.cell? ⟨wr.heap.size, 5, none⟩ = some (.int .i64 oc) ∧ w2.drew.cell? ⟨wr.heap.size, 6, none⟩ = some (.int .i64 obf) ∧ w2.drew.cell? ⟨wr.heap.size, 7, none⟩ = some (.int .u64 oim) ∧ Below w2.heap.size w2 w2.drew) := Lib.hid ⟨o0, o1, o2, o3, o4, o5, o6, o7, (Below.refl _ _).drew⟩
        clear HCH HINV HR9 HRN HDD HMIN HTIN HAMD HALP
        go_region_held3 (fun w' => w'.cell? ⟨wr.heap.size, 0, none⟩ = some (.int .i64 ok) ∧ w'.cell? ⟨wr.heap.size, 1, none⟩ = some (.int .i64 od) ∧ w'.cell? ⟨wr.heap.size, 2, none⟩ = some (.int .i64 oe) ∧ w'.cell? ⟨wr.heap.size, 3, none⟩ = some (.int .i64 oa) ∧ w'.cell? ⟨wr.heap.size, 4, none⟩ = some (.int .i64 ob) ∧ w'.cell? ⟨wr.heap.size, 5, none⟩ = some (.int .i64 oc) ∧ w'.cell? ⟨wr.heap.size, 6, none⟩ = some (.int .i64 obf) ∧ w'.cell? ⟨wr.heap.size, 7, none⟩ = some (.int .u64 oim) ∧ Below w2.heap.size w2 w')
          (first | exact S0.out | with_reducible exact keep9 (by with_reducible assumption) hbM | with_reducible exact keep9 (by with_reducible assumption) hbT | fail)
          (first | (go_at_call 49; refine (HMKC.out _).mono ?_; rintro e wM ⟨hbM, AM, nM, cM, rfl, hrM⟩; have hSM := keep9 (by with_reducible assumption) hbM) | (go_at_call 50; refine (HTKC.out _).mono ?_; rintro e wT ⟨hbT, AT, nT, cT, rfl, hrT⟩; have hST := keep9 (by with_reducible assumption) hbT) | fail)
        all_goals (
          go_wp2_with fail
          go_meet
          case rel =>
            first
              | exact ⟨_, _, _, _, _, _, rfl, rfl, Lib.hid ((hrM.below hbT).more hbT.size), Lib.hid hrT, Lib.hid hST.2.2.2.2.2.2.2.2⟩
              | exact ⟨_, _, _, _, _, _, rfl, rfl, Lib.hid hrM, Lib.hid ((hrT.below hbM).more hbM.size), Lib.hid hSM.2.2.2.2.2.2.2.2⟩)
      case rest =>
        obtain ⟨A1, n1, c1, A2, n2, c2, rfl, rfl, HR1, HR2, HBC⟩ := hcut
        clear HMKC HTKC o0 o1 o2 o3 o4 o5 o6 o7 a0 a1 a2
        have HB3 := Lib.hid (bel_tr HB2.out HBC.out)
        have HO3 := Lib.hid (HO2.out.below HBC.out HO2.out.lt)
        have HM3 := Lib.hid (HM2.out.below HBC.out HM2.out.lt)
        have HK3 := Lib.hid (HK2.out.below HBC.out HK2.out.lt)
        have HLO3 := Lib.hid (own_below HLO2.out HBC.out)
        have HL1 := Lib.hid HR1.out.len
        have HL2 := Lib.hid HR2.out.len
        have hn1 : n1 ≤ 2 := by rw [← HL1.out]; exact HMB.out
        have hn2 : n2 ≤ 3 := by rw [← HL2.out]; exact HTB.out
        have HIR := Lib.hid (fun x => in_r Al s.lp.length cl s.lp x wc (rws_rd HLO3.out).2.1 (by have := HLE.out; omega))
        have hM3 : W0.heap.size < wc.heap.size := HM3.out.lt
        have hO3 : wr.heap.size < wc.heap.size := HO3.out.lt
        have hne23 : wr.heap.size ≠ W0.heap.size := by omega
        clear HB2 HO2 HM2 HK2 HLO2 HBC hw2
        generalize wr.heap.size = gO at *
        obtain ⟨o0, o1, o2, o3, o4, o5, o6, o7⟩ := c8 HO3.out
        go_wp2_with fail
        go_loopw [12] (fun i W => ∃ j : Nat, j ≤ n1 ∧ i = .int .i64 (j : Int) ∧ Hid (∀ (q : Nat) (x : Int), q < j → mk[q]? = some x → s.lp.contains x = false) ∧ Hid (W = wc)) (fun i _ => n1 - (intOf i).toNat)
        case atStart => exact ⟨0, Nat.zero_le _, rfl, Lib.hid (fun q x h => by omega), Lib.hid rfl⟩
        case round =>
        obtain ⟨j, hj, rfl, HP, HW⟩ := hrel
        rw [HW.out]
        clear HW
        rcases Nat.lt_or_ge j n1 with hjl | hjg
        · have hji : (j : Int) < (n1 : Int) := by omega
          have hj0 : (0 : Int) ≤ (j : Int) := by omega
          obtain ⟨x, hx⟩ : ∃ x, mk[j]? = some x := ⟨_, List.getElem?_eq_getElem (by rw [HL1.out]; exact hjl)⟩
          obtain ⟨b1, ob1, rfl, hb1, q0⟩ := int_at HR1.out hx
          have HIX := Lib.hid (HIR.out x)
          have HX9 := Lib.hid (HR9.out x (List.mem_of_getElem? hx))
          have ewj : IntKind.i64.wrap ((j : Int) + 1) = ((j + 1 : Nat) : Int) := by rw [show (j : Int) + 1 = ((j + 1 : Nat) : Int) by omega]; exact IntWalk.i64_in _ (by omega)
          have HPX := Lib.hid (fun (h : s.lp.contains x = false) (q : Nat) (y : Int) (hq : q < j + 1) (hy : mk[q]? = some y) => (show s.lp.contains y = false from by
            rcases Nat.lt_or_ge q j with h2 | h2
            · exact HP.out q y h2 hy
            · obtain rfl : q = j := by omega
              rw [hx] at hy
              cases hy
              exact h))
          generalize s.lp.contains x = cb at *
          cases cb
          · go_wp2_with fail
            go_at_call 51
            refine HIX.out.mono ?_
            rintro e w9 ⟨rfl, rfl⟩
            go_wp2_with fail
            go_roundw
            case rel => exact ⟨j + 1, by omega, by first | rfl | go_num, Lib.hid (HPX.out (by first | exact rfl | trivial)), Lib.hid (by first | exact rfl | trivial)⟩
            case measure => (simp [intOf] <;> omega)
          · have hr9 := HX9.out (by first | exact rfl | trivial)
            rw [hr9, if_pos (by decide)] at HCH
            go_wp2_with fail
            go_at_call 51
            refine HIX.out.mono ?_
            rintro e w9 ⟨rfl, rfl⟩
            go_wp2_with fail
            go_ret2
            exact ⟨by rw [HCH.out]; rfl, HB3.out⟩
        obtain rfl : n1 = j := by omega
        have hji : ¬ (n1 : Int) < (n1 : Int) := by omega
        have hrn := HRN.out (fun x hx => by
          obtain ⟨q, hq⟩ := List.mem_iff_getElem?.1 hx
          exact HP.out q x (by rw [← HL1.out]; exact (List.getElem?_eq_some_iff.1 hq).1) hq)
        rw [hrn] at HCH HINV
        clear hrn HR9 HRN HP HIR
        by_cases h16 : ok = 16
        · subst h16
          obtain ⟨d0, dn0⟩ := HDD.out rfl
          obtain ⟨dn, rfl⟩ := Int.eq_ofNat_of_zero_le d0
          have hdn : dn < n := by omega
          have hdi : (dn : Int) < (n : Int) := by omega
          have hdi0 : (0 : Int) ≤ (dn : Int) := by omega
          have hmb := bools_at HM3.out hdn
          rw [Int.toNat_natCast] at HCH HINV
          clear HDD
          cases hmd : s.md dn
          · rw [hmd] at hmb HCH HINV
            rw [if_neg (show ¬ ((16 : Int) = 16 ∧ false = true) by decide)] at HCH HINV
            clear hmd
            by_cases h8 : s.lp.length = 8
            · rw [if_pos (show (16 : Int) = 16 ∧ s.lp.length = 8 from ⟨rfl, h8⟩), if_pos (show (10 : Int) ≠ 0 by decide)] at HCH
              have h8i : (s.lp.length : Int) = 8 := by omega
              rw [h8]
              go_wp2_with fail
              go_ret2
              exact ⟨by rw [HCH.out]; rfl, HB3.out⟩
            · rw [if_neg (show ¬ ((16 : Int) = 16 ∧ s.lp.length = 8) from fun h => h8 h.2)] at HCH HINV
              have h8b : ((s.lp.length : Int) == 8) = false := by rw [beq_eq_false_iff_ne]; omega
              go_wp2_with fail
              go_loopw [13] (fun i W => ∃ j : Nat, j ≤ n2 ∧ i = .int .i64 (j : Int) ∧ Hid (∀ (q : Nat) (x : Int), q < j → tk[q]? = some x → s.md x.toNat = true) ∧ Hid (W = wc)) (fun i _ => n2 - (intOf i).toNat)
              case atStart => exact ⟨0, Nat.zero_le _, rfl, Lib.hid (fun q x h => by omega), Lib.hid rfl⟩
              case round =>
              obtain ⟨j, hj, rfl, HP, HW⟩ := hrel
              rw [HW.out]
              clear HW
              rcases Nat.lt_or_ge j n2 with hjl | hjg
              · have hji : (j : Int) < (n2 : Int) := by omega
                have hj0 : (0 : Int) ≤ (j : Int) := by omega
                obtain ⟨x, hx⟩ : ∃ x, tk[j]? = some x := ⟨_, List.getElem?_eq_getElem (by rw [HL2.out]; exact hjl)⟩
                obtain ⟨b1, ob1, rfl, hb1, q0⟩ := int_at HR2.out hx
                have hxm := List.mem_of_getElem? hx
                obtain ⟨x0, x1⟩ := HTIN.out x hxm
                obtain ⟨xn, rfl⟩ := Int.eq_ofNat_of_zero_le x0
                have hxn : xn < n := by omega
                have hxi : (xn : Int) < (n : Int) := by omega
                have hxi0 : (0 : Int) ≤ (xn : Int) := by omega
                have hmc := bools_at HM3.out hxn
                have ewj : IntKind.i64.wrap ((j : Int) + 1) = ((j + 1 : Nat) : Int) := by rw [show (j : Int) + 1 = ((j + 1 : Nat) : Int) by omega]; exact IntWalk.i64_in _ (by omega)
                have HAN := Lib.hid (fun h => @all_no s tk (xn : Int) hxm h)
                have HPX := Lib.hid (fun (h : s.md xn = true) (q : Nat) (y : Int) (hq : q < j + 1) (hy : tk[q]? = some y) => (show s.md y.toNat = true from by
                  rcases Nat.lt_or_ge q j with h2 | h2
                  · exact HP.out q y h2 hy
                  · obtain rfl : q = j := by omega
                    rw [hx] at hy
                    cases hy
                    exact h))
                rw [Int.toNat_natCast] at HAN
                clear hx hxm hb1 x0 x1
                generalize s.md xn = cb at *
                cases cb
                · have han := HAN.out (by first | exact rfl | trivial)
                  rw [han, if_neg (show ¬ (false = true) by decide), if_pos (show (5 : Int) ≠ 0 by decide)] at HCH
                  go_wp2_with fail
                  go_ret2
                  exact ⟨by rw [HCH.out]; rfl, HB3.out⟩
                · go_wp2_with fail
                  go_roundw
                  case rel => exact ⟨j + 1, by omega, by first | rfl | go_num, Lib.hid (HPX.out (by first | exact rfl | trivial)), Lib.hid (by first | exact rfl | trivial)⟩
                  case measure => (simp [intOf] <;> omega)
              obtain rfl : n2 = j := by omega
              have hji2 : ¬ (n2 : Int) < (n2 : Int) := by omega
              have hay := all_yes (s := s) (l := tk) (fun x hx => by
                obtain ⟨q, hq⟩ := List.mem_iff_getElem?.1 hx
                exact HP.out q x (by rw [← HL2.out]; exact (List.getElem?_eq_some_iff.1 hq).1) hq)
              rw [hay, if_pos (show true = true from rfl)] at HCH HINV
              try rw [if_neg (show ¬ (0 : Int) ≠ 0 by decide)] at HCH
              have HINV2 := Lib.hid (HINV.out (by first | exact rfl | trivial))
              clear hay HP HINV
              have H60 : Hid (Bk wc W0.heap.size 4 (row (mdR n (mkS s.md (mk.take 0)))).toArray) := Lib.hid HM3.out
              go_wp2_with fail
              go_loopw [14] (fun i W => ∃ j : Nat, j ≤ n1 ∧ i = .int .i64 (j : Int) ∧ Hid (Bk W W0.heap.size 4 (row (mdR n (mkS s.md (mk.take j)))).toArray) ∧ Hid (Rws 3 w.heap.size (.slice Al s.lp.length cl) s.lp W) ∧ Hid (Rdr W wc.heap.size A1 n1 mk) ∧ Hid (Below w.heap.size w W) ∧ Hid (Bk W w.heap.size 26 #[.int .i64 (n : Int), .slice A p.bf.length c, .slice (some ⟨bx, ox, none⟩) L d]) ∧ Hid (Bk W gO 33 #[.int .i64 16, .int .i64 (dn : Int), .int .i64 oe, .int .i64 oa, .int .i64 ob, .int .i64 oc, .int .i64 obf, .int .u64 oim])) (fun i _ => n1 - (intOf i).toNat)
              case atStart => exact ⟨0, Nat.zero_le _, rfl, H60, HLO3, HR1, HB3, HK3, HO3⟩
              case round =>
              clear H60 o0 o1 o2 o3 o4 o5 o6 o7
              obtain ⟨j6, hj6, rfl, HM6, HLO6, HR6, HB6, HK6, HO6⟩ := hrel
              rcases Nat.lt_or_ge j6 n1 with hjl6 | hjg6
              · have hji6 : (j6 : Int) < (n1 : Int) := by omega
                have hj06 : (0 : Int) ≤ (j6 : Int) := by omega
                obtain ⟨x, hx⟩ : ∃ x, mk[j6]? = some x := ⟨_, List.getElem?_eq_getElem (by rw [HL1.out]; exact hjl6)⟩
                have HTS := Lib.hid (take_snoc hx)
                obtain ⟨b1, ob1, hA1, hb1, q0⟩ := int_at HR6.out hx
                subst hA1
                obtain ⟨x0, x1⟩ := HMIN.out x (List.mem_of_getElem? hx)
                obtain ⟨xn, rfl⟩ := Int.eq_ofNat_of_zero_le x0
                have hxn : xn < n := by omega
                have hxi : (xn : Int) < (n : Int) := by omega
                have hxi0 : (0 : Int) ≤ (xn : Int) := by omega
                have hmc := bools_at HM6.out hxn
                have hmf := HM6.out.frozen xn
                have HMN : Hid (Bk (wr.setCell ⟨W0.heap.size, xn, none⟩ (.bool true)) W0.heap.size 4 (row (mdR n (mkS s.md (mk.take (j6 + 1))))).toArray) := Lib.hid (by rw [HTS.out, mkS_snoc]; exact bools_set HM6.out hxn)
                have HLN6 := Lib.hid (own_far (i := xn) (u := .bool true) HLO6.out HM6.out (show (3 : TypeId) ≠ 4 by decide))
                have HRN6 := Lib.hid (rdr_far (i := xn) (v := .bool true) HR6.out HM6.out)
                have HBN6 := Lib.hid (HB6.out.setCell (p := ⟨W0.heap.size, xn, none⟩) (Nat.le_of_lt hgM) (.bool true))
                have HKN6 := Lib.hid (HK6.out.far (p := ⟨W0.heap.size, xn, none⟩) (show w.heap.size ≠ W0.heap.size by omega) (.bool true))
                have HON6 := Lib.hid (HO6.out.far (p := ⟨W0.heap.size, xn, none⟩) hne23 (.bool true))
                have ewj : IntKind.i64.wrap ((j6 : Int) + 1) = ((j6 + 1 : Nat) : Int) := by rw [show (j6 : Int) + 1 = ((j6 + 1 : Nat) : Int) by omega]; exact IntWalk.i64_in _ (by omega)
                clear hx hb1 x0 x1
                generalize mkS s.md (mk.take j6) xn = cb at *
                go_wp2_with fail
                go_roundw
                case rel => exact ⟨j6 + 1, by omega, by first | rfl | go_num, HMN, HLN6, HRN6, HBN6, HKN6, HON6⟩
                case measure => (simp [intOf] <;> omega)
              obtain rfl : n1 = j6 := by omega
              have hji6 : ¬ (n1 : Int) < (n1 : Int) := by omega
              have HM7 : Hid (Bk wr W0.heap.size 4 (row (mdR n s2.md)).toArray) := Lib.hid (by
                have h := HM6.out
                rw [List.take_of_length_le (by rw [HL1.out]; exact Nat.le_refl _)] at h
                rw [HAMD.out]
                exact h)
              obtain ⟨o0, o1, o2, o3, o4, o5, o6, o7⟩ := c8 HO6.out
              have hzw : w.heap.size ≤ wr.heap.size := HB6.out.size
              obtain ⟨v7, w7, hap, hown7, hgr7⟩ := appI (W := wr.alloc (.cells #[.int .i64 (dn : Int)] 3)) (B := w.heap.size) (g2 := wr.heap.size) (z := (dn : Int)) (own_below HLO6.out (bel_al (.cells #[.int .i64 (dn : Int)] 3))) (Bk.new _ _ _) (by have := HLE.out; omega) (by rw [World.size_alloc]; omega)
              have HB7 : Hid (Below w.heap.size w w7) := Lib.hid (own_grown (own_below HLO6.out (bel_al (.cells #[.int .i64 (dn : Int)] 3))) hgr7 (bel_al' HB6.out _) (Nat.le_refl _) (by rw [World.size_alloc]; omega))
              have HM8 := Lib.hid (own_other (own_below HLO6.out (bel_al (.cells #[.int .i64 (dn : Int)] 3))) (HM7.out.alloc (.cells #[.int .i64 (dn : Int)] 3)) (show (3 : TypeId) ≠ 4 by decide) hgr7)
              have HK8 := Lib.hid (own_other (own_below HLO6.out (bel_al (.cells #[.int .i64 (dn : Int)] 3))) (HK6.out.alloc (.cells #[.int .i64 (dn : Int)] 3)) (show (3 : TypeId) ≠ 26 by decide) hgr7)
              have HL8 : Hid (Rws 3 w.heap.size v7 s2.lp w7) := Lib.hid (by
                have h := HALP.out
                simp only [if_true] at h
                rw [h]
                exact hown7)
              obtain ⟨A8, c8', hv8, _⟩ := rws_form HL8.out
              subst hv8
              clear hown7 hgr7
              go_wp2_with (first | (at_builtin; refine wpList_append_eq rfl _ _ 49 rfl _ _ rfl rfl _ _ hap ?_) | fail)
              go_roundw
              case rel => exact ⟨k + 1, s2, by omega, by first | rfl | go_num, HCH, HINV2, HL8, HM8, HB7, HK8⟩
              case measure => (simp [intOf] <;> omega)
          · rw [hmd] at hmb HCH
            rw [if_pos (show (16 : Int) = 16 ∧ true = true from ⟨rfl, rfl⟩), if_pos (show (9 : Int) ≠ 0 by decide)] at HCH
            clear hmd
            go_wp2_with fail
            go_ret2
            exact ⟨by rw [HCH.out]; rfl, HB3.out⟩
        · have hn16 : (ok == 16) = false := by rw [beq_eq_false_iff_ne]; exact h16
          rw [if_neg (show ¬ (ok = 16 ∧ s.md od.toNat = true) from fun h => h16 h.1), if_neg (show ¬ (ok = 16 ∧ s.lp.length = 8) from fun h => h16 h.1)] at HCH HINV
          go_wp2_with fail
          go_loopw [13] (fun i W => ∃ j : Nat, j ≤ n2 ∧ i = .int .i64 (j : Int) ∧ Hid (∀ (q : Nat) (x : Int), q < j → tk[q]? = some x → s.md x.toNat = true) ∧ Hid (W = wc)) (fun i _ => n2 - (intOf i).toNat)
          case atStart => exact ⟨0, Nat.zero_le _, rfl, Lib.hid (fun q x h => by omega), Lib.hid rfl⟩
          case round =>
          obtain ⟨j, hj, rfl, HP, HW⟩ := hrel
          rw [HW.out]
          clear HW
          rcases Nat.lt_or_ge j n2 with hjl | hjg
          · have hji : (j : Int) < (n2 : Int) := by omega
            have hj0 : (0 : Int) ≤ (j : Int) := by omega
            obtain ⟨x, hx⟩ : ∃ x, tk[j]? = some x := ⟨_, List.getElem?_eq_getElem (by rw [HL2.out]; exact hjl)⟩
            obtain ⟨b1, ob1, rfl, hb1, q0⟩ := int_at HR2.out hx
            have hxm := List.mem_of_getElem? hx
            obtain ⟨x0, x1⟩ := HTIN.out x hxm
            obtain ⟨xn, rfl⟩ := Int.eq_ofNat_of_zero_le x0
            have hxn : xn < n := by omega
            have hxi : (xn : Int) < (n : Int) := by omega
            have hxi0 : (0 : Int) ≤ (xn : Int) := by omega
            have hmc := bools_at HM3.out hxn
            have ewj : IntKind.i64.wrap ((j : Int) + 1) = ((j + 1 : Nat) : Int) := by rw [show (j : Int) + 1 = ((j + 1 : Nat) : Int) by omega]; exact IntWalk.i64_in _ (by omega)
            have HAN := Lib.hid (fun h => @all_no s tk (xn : Int) hxm h)
            have HPX := Lib.hid (fun (h : s.md xn = true) (q : Nat) (y : Int) (hq : q < j + 1) (hy : tk[q]? = some y) => (show s.md y.toNat = true from by
              rcases Nat.lt_or_ge q j with h2 | h2
              · exact HP.out q y h2 hy
              · obtain rfl : q = j := by omega
                rw [hx] at hy
                cases hy
                exact h))
            rw [Int.toNat_natCast] at HAN
            clear hx hxm hb1 x0 x1
            generalize s.md xn = cb at *
            cases cb
            · have han := HAN.out (by first | exact rfl | trivial)
              rw [han, if_neg (show ¬ (false = true) by decide), if_pos (show (5 : Int) ≠ 0 by decide)] at HCH
              go_wp2_with fail
              go_ret2
              exact ⟨by rw [HCH.out]; rfl, HB3.out⟩
            · go_wp2_with fail
              go_roundw
              case rel => exact ⟨j + 1, by omega, by first | rfl | go_num, Lib.hid (HPX.out (by first | exact rfl | trivial)), Lib.hid (by first | exact rfl | trivial)⟩
              case measure => (simp [intOf] <;> omega)
          obtain rfl : n2 = j := by omega
          have hji2 : ¬ (n2 : Int) < (n2 : Int) := by omega
          have hay := all_yes (s := s) (l := tk) (fun x hx => by
            obtain ⟨q, hq⟩ := List.mem_iff_getElem?.1 hx
            exact HP.out q x (by rw [← HL2.out]; exact (List.getElem?_eq_some_iff.1 hq).1) hq)
          rw [hay, if_pos (show true = true from rfl)] at HCH HINV
          try rw [if_neg (show ¬ (0 : Int) ≠ 0 by decide)] at HCH
          have HINV2 := Lib.hid (HINV.out (by first | exact rfl | trivial))
          clear hay HP HINV
          have H60 : Hid (Bk wc W0.heap.size 4 (row (mdR n (mkS s.md (mk.take 0)))).toArray) := Lib.hid HM3.out
          go_wp2_with fail
          go_loopw [14] (fun i W => ∃ j : Nat, j ≤ n1 ∧ i = .int .i64 (j : Int) ∧ Hid (Bk W W0.heap.size 4 (row (mdR n (mkS s.md (mk.take j)))).toArray) ∧ Hid (Rws 3 w.heap.size (.slice Al s.lp.length cl) s.lp W) ∧ Hid (Rdr W wc.heap.size A1 n1 mk) ∧ Hid (Below w.heap.size w W) ∧ Hid (Bk W w.heap.size 26 #[.int .i64 (n : Int), .slice A p.bf.length c, .slice (some ⟨bx, ox, none⟩) L d]) ∧ Hid (Bk W gO 33 #[.int .i64 ok, .int .i64 od, .int .i64 oe, .int .i64 oa, .int .i64 ob, .int .i64 oc, .int .i64 obf, .int .u64 oim])) (fun i _ => n1 - (intOf i).toNat)
          case atStart => exact ⟨0, Nat.zero_le _, rfl, H60, HLO3, HR1, HB3, HK3, HO3⟩
          case round =>
          clear H60 o0 o1 o2 o3 o4 o5 o6 o7
          obtain ⟨j6, hj6, rfl, HM6, HLO6, HR6, HB6, HK6, HO6⟩ := hrel
          rcases Nat.lt_or_ge j6 n1 with hjl6 | hjg6
          · have hji6 : (j6 : Int) < (n1 : Int) := by omega
            have hj06 : (0 : Int) ≤ (j6 : Int) := by omega
            obtain ⟨x, hx⟩ : ∃ x, mk[j6]? = some x := ⟨_, List.getElem?_eq_getElem (by rw [HL1.out]; exact hjl6)⟩
            have HTS := Lib.hid (take_snoc hx)
            obtain ⟨b1, ob1, hA1, hb1, q0⟩ := int_at HR6.out hx
            subst hA1
            obtain ⟨x0, x1⟩ := HMIN.out x (List.mem_of_getElem? hx)
            obtain ⟨xn, rfl⟩ := Int.eq_ofNat_of_zero_le x0
            have hxn : xn < n := by omega
            have hxi : (xn : Int) < (n : Int) := by omega
            have hxi0 : (0 : Int) ≤ (xn : Int) := by omega
            have hmc := bools_at HM6.out hxn
            have hmf := HM6.out.frozen xn
            have HMN : Hid (Bk (wr.setCell ⟨W0.heap.size, xn, none⟩ (.bool true)) W0.heap.size 4 (row (mdR n (mkS s.md (mk.take (j6 + 1))))).toArray) := Lib.hid (by rw [HTS.out, mkS_snoc]; exact bools_set HM6.out hxn)
            have HLN6 := Lib.hid (own_far (i := xn) (u := .bool true) HLO6.out HM6.out (show (3 : TypeId) ≠ 4 by decide))
            have HRN6 := Lib.hid (rdr_far (i := xn) (v := .bool true) HR6.out HM6.out)
            have HBN6 := Lib.hid (HB6.out.setCell (p := ⟨W0.heap.size, xn, none⟩) (Nat.le_of_lt hgM) (.bool true))
            have HKN6 := Lib.hid (HK6.out.far (p := ⟨W0.heap.size, xn, none⟩) (show w.heap.size ≠ W0.heap.size by omega) (.bool true))
            have HON6 := Lib.hid (HO6.out.far (p := ⟨W0.heap.size, xn, none⟩) hne23 (.bool true))
            have ewj : IntKind.i64.wrap ((j6 : Int) + 1) = ((j6 + 1 : Nat) : Int) := by rw [show (j6 : Int) + 1 = ((j6 + 1 : Nat) : Int) by omega]; exact IntWalk.i64_in _ (by omega)
            clear hx hb1 x0 x1
            generalize mkS s.md (mk.take j6) xn = cb at *
            go_wp2_with fail
            go_roundw
            case rel => exact ⟨j6 + 1, by omega, by first | rfl | go_num, HMN, HLN6, HRN6, HBN6, HKN6, HON6⟩
            case measure => (simp [intOf] <;> omega)
          obtain rfl : n1 = j6 := by omega
          have hji6 : ¬ (n1 : Int) < (n1 : Int) := by omega
          have HM7 : Hid (Bk wr W0.heap.size 4 (row (mdR n s2.md)).toArray) := Lib.hid (by
            have h := HM6.out
            rw [List.take_of_length_le (by rw [HL1.out]; exact Nat.le_refl _)] at h
            rw [HAMD.out]
            exact h)
          obtain ⟨o0, o1, o2, o3, o4, o5, o6, o7⟩ := c8 HO6.out
          have HL7 : Hid (Rws 3 w.heap.size (.slice Al s.lp.length cl) s2.lp wr) := Lib.hid (by
            have h := HALP.out
            rw [if_neg h16] at h
            rw [h]
            exact HLO6.out)
          have hn16 : (ok == 16) = false := by rw [beq_eq_false_iff_ne]; exact h16
          go_wp2_with fail
          go_roundw
          case rel => exact ⟨k + 1, s2, by omega, by first | rfl | go_num, HCH, HINV2, HL7, HM7, HB6, HK6⟩
          case measure => (simp [intOf] <;> omega)
  · obtain rfl : k = L := by omega
    have hki3 : ¬ (k : Int) < (k : Int) := by omega
    have HRES : Hid (res = (k, if s.lp.isEmpty then 0 else 9)) := Lib.hid (by rw [HC.out, List.drop_of_length_le (by rw [HLL.out]; exact Nat.le_refl _)]; rfl)
    obtain ⟨Al, cl, rfl, hcl⟩ := rws_form HLO.out
    by_cases he : s.lp = []
    · rw [he] at HRES ⊢
      go_wp2_with fail
      go_ret2
      exact ⟨by rw [HRES.out]; rfl, HB.out⟩
    · have hpos : 0 < s.lp.length := List.length_pos_iff.2 he
      have hpos4 : (0 : Int) < (s.lp.length : Int) := by omega
      have hie : s.lp.isEmpty = false := by simpa using he
      rw [hie] at HRES
      clear he hie
      generalize s.lp.length = ln at *
      go_wp2_with fail
      go_ret2
      exact ⟨by rw [HRES.out]; rfl, HB.out⟩
end Lb
end Go.Proofs.YtbdhibgljaelbaaDoor
