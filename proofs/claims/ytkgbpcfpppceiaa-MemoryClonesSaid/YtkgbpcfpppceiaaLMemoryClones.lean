/- The walk of MemoryClones. -/
import Derived.Test.YtkgbpcfpppceiaaA13
namespace Go.Proofs.Ytkgbpcfpppceiaa
open Go Go.RowKit
namespace memoryClones
open Wd Nt Mm
set_option linter.unusedVariables false
theorem rev_take {rs : List Reg} {k : Nat} {r : Reg} (h : rs[rs.length - 1 - k]? = some r) (hk : k < rs.length) : rs.reverse.take (k + 1) = rs.reverse.take k ++ [r] := by
  rw [List.take_add_one, List.getElem?_reverse hk, h]; rfl
set_option maxRecDepth 100000 in
set_option maxHeartbeats 16000000 in
theorem walk_ {R : World → Nat → Nat → Value → List Reg → Prop} (mc : MemC R) (w : World) (A0 : Option Addr) (n0 c0 : Nat) (rs : List Reg) (a1 a2 a3 : Int) (hr0 : RdR w w.heap.size A0 n0 rs) (hn0 : n0 ≤ c0) (hm0 : c0 ≤ 9223372036854775807)
    (w1 : (Lit.int .u64 a1).wf = true) (w2 : (Lit.int .u64 a2).wf = true) (w3 : (Lit.int .u64 a3).wf = true) :
    Calls Try.prog 8 #[.slice A0 n0 c0, .int .u64 a1, .int .u64 a2, .int .u64 a3] w fun e w' => e = .returned (.bool true) ∧ Below w.heap.size w w' := by
  have L1 := Lib.hid (lives_c mc w)
  have HA0 : Hid (AtR w A0 n0 rs) := Lib.hid hr0
  have HLN := Lib.hid hr0.len
  have W1 := Lib.hid (u64_W w1)
  have W2 := Lib.hid (u64_W w2)
  have W3 := Lib.hid (u64_W w3)
  have hn0' : n0 ≤ 9223372036854775807 := by omega
  clear hr0 w1 w2 w3
  go_enter Try.func8, Try.ntmps8
  try simp only [List.append]
  go_wp2_with fail
  go_at_call 9
  refine L1.out.mono ?_
  rintro e x1 ⟨rfl, hb⟩
  have HB := Lib.hid hb
  replace HA0 := AtR.step HA0 hb
  clear hb L1
  by_cases hlt : Lite rs
  case neg =>
    have L2 := Lib.hid (lightN_c A0 n0 c0 rs x1 HA0 hn0' hlt)
    clear hlt
    go_wp2_with fail
    go_at_call 17
    refine L2.out.mono ?_
    rintro e x2 ⟨rfl, rfl⟩
    clear L2
    go_wp2_with fail
    go_ret
    exact ⟨rfl, HB.out⟩
  case pos =>
    have L2 := Lib.hid (light_c A0 n0 c0 rs x1 HA0 hn0' (by rw [← HLN.out]; exact hlt.1) hlt.2)
    have hn10 : n0 ≤ 10 := by rw [← HLN.out]; exact hlt.1
    have L3 := Lib.hid (mc.new A0 n0 c0 rs x1 HA0 hn0')
    clear hlt
    go_wp2_with fail
    go_at_call 17
    refine L2.out.mono ?_
    rintro e x2 ⟨rfl, rfl⟩
    clear L2
    go_wp2_with fail
    go_at_call 11
    refine L3.out.mono ?_
    rintro e x3 ⟨hb, x, hx, hcase⟩
    have HX := Lib.hid hx
    have HB3 := Lib.hid (bel_trans HB.out hb)
    have HA3 := AtR.step HA0 hb
    have HBx := Lib.hid hb
    have hout : ∃ pv, e = .returned (.tuple #[pv, .int .i64 x]) ∧ ((x ≠ 0 ∧ pv = .pointer none) ∨ (x = 0 ∧ ∃ M, M.Perm rs ∧ R x3 x2.heap.size x3.heap.size pv M)) := by
      rcases hcase with ⟨h0, rfl⟩ | ⟨rfl, p, M, rfl, hp, hr⟩
      · exact ⟨_, rfl, .inl ⟨h0, rfl⟩⟩
      · exact ⟨_, rfl, .inr ⟨rfl, M, hp, hr⟩⟩
    obtain ⟨pv, rfl, hpv⟩ := hout
    obtain ⟨Dm, rfl⟩ : ∃ D, pv = .pointer D := by
      rcases hpv with ⟨_, rfl⟩ | ⟨_, M, _, hr⟩
      · exact ⟨_, rfl⟩
      · obtain ⟨⟨D, rfl⟩, _⟩ := mc.shape hr; exact ⟨_, rfl⟩
    have HPV := Lib.hid hpv
    clear hb hx hcase hpv L3 HA0 HB
    go_wp2_with fail
    go_loopw [11, 12] (fun v i W => ∃ (k : Nat) (A : Option Addr) (c : Nat), k ≤ n0 ∧ v = .slice A k c ∧ i = .int .i64 ((n0 : Int) - 1 - (k : Int)) ∧ Hid (RowR W x3.heap.size (.slice A k c) (rs.reverse.take k)) ∧ Hid (Below x3.heap.size x3 W)) (fun _ i _ => (intOf i + 1).toNat)
    case atStart => exact ⟨0, none, 0, Nat.zero_le _, rfl, by simp, Lib.hid ⟨[], World.ownsRow_nil _ _ _ _, fun j r hj => by simp at hj⟩, Lib.hid (Below.refl _ _)⟩
    case round =>
      obtain ⟨k, A, c, hk, rfl, rfl, hrow, HW⟩ := hrel
      rcases Nat.lt_or_ge k n0 with hkn | hkn
      · obtain ⟨j, hj⟩ : ∃ j : Nat, (n0 : Int) - 1 - (k : Int) = (j : Int) := ⟨n0 - 1 - k, by omega⟩
        have hj' : j = n0 - 1 - k := by omega
        have hjn : j < n0 := by omega
        rw [hj]
        obtain ⟨r, hr⟩ := get_lt (rs := rs) (j := j) (by rw [HLN.out]; exact hjn)
        obtain ⟨ad, rfl, _, A1, n1, c1, k1, k2, k3, k4, k5, k6⟩ := (AtR.step HA3 HW.out).out.at_ hr
        obtain ⟨xs, hown, hcells⟩ := hrow.out
        have hjni : (j : Int) < (n0 : Int) := by omega
        have hj0 : (0 : Int) ≤ (j : Int) := by omega
        have hlk : (rs.reverse.take k).length = k := by rw [List.length_take, List.length_reverse, HLN.out]; omega
        rw [hlk] at hown
        have hbz : Below wr.heap.size wr (wr.alloc (.cells #[.int .u64 r.base, .slice A1 n1 c1, .bool r.write] 31)) := bel_alloc _
        have hZ : Bk (wr.alloc (.cells #[.int .u64 r.base, .slice A1 n1 c1, .bool r.write] 31)) wr.heap.size 31 #[.int .u64 r.base, .slice A1 n1 c1, .bool r.write] := Bk.new _ _ _
        have hown' := hown.alloc (.cells #[.int .u64 r.base, .slice A1 n1 c1, .bool r.write] 31)
        have hs3 := HW.out.size
        obtain ⟨v2, w6, hap, hrow6, hk6, hv6⟩ := appR (w := wr.alloc (.cells #[.int .u64 r.base, .slice A1 n1 c1, .bool r.write] 31)) 32 hZ hown' ⟨rfl, rfl, rfl⟩ (by omega) (by have := hbz.size; omega)
        have hB6 : Below x3.heap.size x3 w6 := ((HW.out.trans (hbz.mono hs3))).grown hk6 (by have := hbz.size; omega) (fun y hy => (hown'.lt y hy).1)
        obtain ⟨ad0, e0, _, A1', n1', c1', m1, m2, m3, m4, m5, m6⟩ := HA3.out.at_ hr
        cases e0
        have e1 : A1' = A1 ∧ n1' = n1 ∧ c1' = c1 := by
          have h1 := (AtR.step HA3 HW.out).out.at_ hr
          have : wr.cell? ⟨(ad.add (j * 3)).block, (ad.add (j * 3)).off + 1, none⟩ = x3.cell? ⟨(ad.add (j * 3)).block, (ad.add (j * 3)).off + 1, none⟩ := HW.out.cell (by rw [show (⟨(ad.add (j * 3)).block, (ad.add (j * 3)).off + 1, none⟩ : Addr).block = ad.block from Nt.block_add ad (j * 3)]; obtain ⟨a, ea, hb, _⟩ := HA3.out.at_ hr; cases ea; exact hb)
          rw [k2, m2] at this
          simpa [eq_comm] using this
        obtain ⟨rfl, rfl, rfl⟩ := e1
        have hrow' : RowR w6 x3.heap.size v2 (rs.reverse.take (k + 1)) := by
          rw [rev_take (k := k) (r := r) (by rw [HLN.out, ← hj']; exact hr) (by rw [HLN.out]; exact hkn)]
          exact RowR.more (w := x3) (by rw [hlk]; exact hown) (fun j s hs => by
            obtain ⟨ok, A', n', c', z1, z2, z3, z4, z5, z6⟩ := hcells j s hs
            exact ⟨ok, A', n', c', z1, z2, z3, z4.keep (fun p hp => (HW.out.cell hp).symm), z5, z6⟩) (by rw [hlk]; exact hrow6) hB6 m4 m5 m6 (HA3.out.oks r (List.mem_of_getElem? hr))
        obtain ⟨A2, c2, rfl⟩ : ∃ A2 c2, v2 = .slice A2 (k + 1) c2 := by
          rcases hrow6.2 with ⟨_, h⟩ | ⟨g, c, cur, e, _⟩
          · omega
          · exact ⟨_, _, e⟩
        have HROW := Lib.hid hrow'
        have HB6 := Lib.hid hB6
        clear hrow hown hcells hZ hbz hown' hrow6 hk6 hv6 hB6 hrow' hlk m1 m2 m3 m4 m5 m6 k4 hr hj'
        go_wp2_with (at_builtin; refine wpList_app rfl (.tmp 41) (.tmp 46) 32 rfl _ _ rfl rfl _ _ hap ?_)
        go_roundw
        case rel => exact ⟨k + 1, _, _, by omega, rfl, by rw [← hj]; congr 1; omega, HROW, HB6⟩
        case measure => (simp [intOf] <;> omega)
      · obtain rfl : k = n0 := by omega
        have hrev : rs.reverse.take k = rs.reverse := List.take_of_length_le (by rw [List.length_reverse, HLN.out]; exact Nat.le_refl _)
        rw [hrev] at hrow
        have hbk := HW.out.size
        obtain ⟨A', k', c', e0, hrd, hkc, hcm⟩ := hrow.out.rdR hbk
        cases e0
        have L4 := Lib.hid (mc.new A k c rs.reverse wr (Lib.hid hrd) hn0')
        have HBW := Lib.hid (bel_trans HB3.out HW.out)
        have HWx := HW
        clear hrow hrd hrev hkc HA3
        go_wp2_with fail
        go_at_call 11
        refine L4.out.mono ?_
        rintro e x4 ⟨hb4, y, hy, hcase⟩
        obtain rfl : x = y := (chk_perm (List.reverse_perm rs).symm HX.out).uniq hy
        have HB4 := Lib.hid (bel_trans HBW.out hb4)
        clear L4 hy
        rcases hcase with ⟨h0, rfl⟩ | ⟨rfl, o, M', rfl, hp', ho⟩
        · have hx23 : x = 2 ∨ x = 3 := by rcases chk_num HX.out with h | h | h; exact absurd h h0; exact .inl h; exact .inr h
          clear h0 hb4
          rcases hx23 with rfl | rfl
          all_goals
            go_wp2_with fail
            go_ret
            exact ⟨rfl, HB4.out⟩
        · obtain ⟨M, hp, hm⟩ : ∃ M, M.Perm rs ∧ R x3 x2.heap.size x3.heap.size (.pointer Dm) M := by
            rcases HPV.out with ⟨h, _⟩ | ⟨_, h⟩
            · exact absurd rfl h
            · exact h
          obtain ⟨⟨Dp, hD⟩, hG, hRi, hOk, hmBE, hmE⟩ := mc.shape hm
          cases hD
          obtain ⟨⟨Do, rfl⟩, _, hRi', _, hoBE, hoE⟩ := mc.shape ho
          obtain rfl : M = M' := rising_uniq (HX.out.good) hp (hp'.trans (List.reverse_perm rs)) hRi hRi'
          have HG := Lib.hid hG
          have HM : Hid (R x4 x2.heap.size x3.heap.size (.pointer (some Dp)) M) := mc.below (mc.below (Lib.hid hm) HW.out) hb4
          have HO : Hid (R x4 wr.heap.size x4.heap.size (.pointer (some Do)) M) := Lib.hid ho
          have hs4 := hb4.size
          have hsz := HB3.out.size
          clear hb4 hm ho hp hp' hG hRi hRi' hOk hmBE hmE hoBE hoE HPV
          have K5 := Lib.hid (mc.clone HM)
          go_wp2_with fail
          go_at_call 15
          refine K5.out.mono ?_
          rintro e x5 ⟨hb, cc, rfl, hc⟩
          replace HB4 := Lib.hid (bel_trans HB4.out hb)
          have hz1 := hb.size
          replace HM := mc.below HM hb
          replace HO := mc.below HO hb
          obtain ⟨⟨Dc, rfl⟩, _⟩ := mc.shape hc
          have HC := Lib.hid hc
          have hsC := hb.size
          clear hc hb
          clear K5
          have K6 := Lib.hid (mc.regions HM)
          go_wp2_with fail
          go_at_call 16
          refine K6.out.mono ?_
          rintro e x6 ⟨hb, vp, osp, rfl, hp, ep⟩
          replace HB4 := Lib.hid (bel_trans HB4.out hb)
          have hz2 := hb.size
          replace HM := mc.below HM hb
          replace HO := mc.below HO hb
          replace HC := mc.below HC hb
          have Hp := hp
          have Ep := Lib.hid ep
          obtain ⟨Ap, np, cp, rfl, _, _⟩ := hp.out.own.rdR
          clear hp ep
          clear K6
          clear hb
          have K7 := Lib.hid (mc.regions HO)
          go_wp2_with fail
          go_at_call 16
          refine K7.out.mono ?_
          rintro e x7 ⟨hb, vq, osq, rfl, hq, eq⟩
          replace HB4 := Lib.hid (bel_trans HB4.out hb)
          have hz3 := hb.size
          replace HM := mc.below HM hb
          replace HO := mc.below HO hb
          replace HC := mc.below HC hb
          have Hq := hq
          have Eq := Lib.hid eq
          obtain ⟨Aq, nq, cq, rfl, _, _⟩ := hq.out.own.rdR
          clear hq eq
          clear K7
          replace Hp := Lib.hid (Hp.out.below hb)
          clear hb
          have K8 := Lib.hid (same_t Hp.out Hq.out Ep.out Eq.out HG.out)
          go_wp2_with fail
          go_at_call 26
          refine K8.out.mono ?_
          rintro e x8 ⟨rfl, hb⟩
          replace HB4 := Lib.hid (bel_trans HB4.out hb)
          have hz4 := hb.size
          replace HM := mc.below HM hb
          replace HO := mc.below HO hb
          replace HC := mc.below HC hb
          clear K8
          clear hb Hp Hq Ep Eq
          have K9 := Lib.hid (mc.regions HM)
          go_wp2_with fail
          go_at_call 16
          refine K9.out.mono ?_
          rintro e x9 ⟨hb, vr, osr, rfl, hr, er⟩
          replace HB4 := Lib.hid (bel_trans HB4.out hb)
          have hz5 := hb.size
          replace HM := mc.below HM hb
          replace HO := mc.below HO hb
          replace HC := mc.below HC hb
          have Hr := hr
          have Er := Lib.hid er
          obtain ⟨Ar, nr, cr, rfl, _, _⟩ := hr.out.own.rdR
          clear hr er
          clear K9
          clear hb
          have K10 := Lib.hid (mc.regions HC)
          go_wp2_with fail
          go_at_call 16
          refine K10.out.mono ?_
          rintro e x10 ⟨hb, vs, oss, rfl, hs, es⟩
          replace HB4 := Lib.hid (bel_trans HB4.out hb)
          have hz6 := hb.size
          replace HM := mc.below HM hb
          replace HO := mc.below HO hb
          replace HC := mc.below HC hb
          have Hs := hs
          have Es := Lib.hid es
          obtain ⟨As, ns, cs, rfl, _, _⟩ := hs.out.own.rdR
          clear hs es
          clear K10
          replace Hr := Lib.hid (Hr.out.below hb)
          clear hb
          have K11 := Lib.hid (same_t Hr.out Hs.out Er.out Es.out HG.out)
          go_wp2_with fail
          go_at_call 26
          refine K11.out.mono ?_
          rintro e x11 ⟨rfl, hb⟩
          replace HB4 := Lib.hid (bel_trans HB4.out hb)
          have hz7 := hb.size
          replace HM := mc.below HM hb
          replace HO := mc.below HO hb
          replace HC := mc.below HC hb
          clear K11
          clear hb Hr Hs Er Es
          have K12 := Lib.hid (mc.regions HM)
          go_wp2_with fail
          go_at_call 16
          refine K12.out.mono ?_
          rintro e x12 ⟨hb, vt, ost, rfl, ht, et⟩
          replace HB4 := Lib.hid (bel_trans HB4.out hb)
          have hz8 := hb.size
          replace HM := mc.below HM hb
          replace HO := mc.below HO hb
          replace HC := mc.below HC hb
          have Ht := ht
          have Et := Lib.hid et
          obtain ⟨At, nt, ct, rfl, _, _⟩ := ht.out.own.rdR
          clear ht et
          clear K12
          clear hb
          have K13 := Lib.hid (mc.store a1 a3 HC W1.out W3.out)
          go_wp2_with fail
          go_at_call 12
          refine K13.out.mono ?_
          rintro e x13 ⟨hk, M1, f1, rfl, hst, hc'⟩
          have HST1 := Lib.hid hst
          have hks := hk.size
          have HM' := Lib.hid (mc.keep HM.out hk (.inl (by omega)))
          have HO' := Lib.hid (mc.keep HO.out hk (.inl (by omega)))
          have Ht' := Lib.hid (Ht.out.keep hk (.inr (by omega)))
          replace HB4 : Hid (Below w.heap.size w x13) := Lib.hid (HB4.out.trans ((hk.wide (show w.heap.size ≤ _ by omega) (Nat.le_refl _)).below (by omega)))
          clear hk hst HM HO Ht HC
          clear K13
          have HC := Lib.hid hc'
          clear hc'
          have K14 := Lib.hid (mc.store a1 a3 HO' W1.out W3.out)
          go_wp2_with fail
          go_at_call 12
          refine K14.out.mono ?_
          rintro e x14 ⟨hk, M2, f2, rfl, hst, ho'⟩
          obtain ⟨rfl, rfl⟩ := StoreO.uniq HG.out HST1.out hst
          have hks2 := hk.size
          have HM := Lib.hid (mc.keep HM'.out hk (.inl (by omega)))
          have HCC := Lib.hid (mc.keep HC.out hk (.inr (by omega)))
          have Ht := Lib.hid (Ht'.out.keep hk (.inr (by omega)))
          replace HB4 : Hid (Below w.heap.size w x14) := Lib.hid (HB4.out.trans ((hk.wide (show w.heap.size ≤ _ by omega) (Nat.le_refl _)).below (by omega)))
          have HG1 := Lib.hid (hst.good HG.out)
          clear hk hst HM' HO' Ht' HC
          clear K14
          have HO := Lib.hid ho'
          have HC := HCC
          clear ho' HCC
          have K15 := Lib.hid (mc.regions HM)
          go_wp2_with fail
          go_at_call 16
          refine K15.out.mono ?_
          rintro e x15 ⟨hb, vu, osu, rfl, hu, eu⟩
          replace HB4 := Lib.hid (bel_trans HB4.out hb)
          have hz9 := hb.size
          replace HM := mc.below HM hb
          replace HO := mc.below HO hb
          replace HC := mc.below HC hb
          have Hu := hu
          have Eu := Lib.hid eu
          obtain ⟨Au, nu, cu, rfl, _, _⟩ := hu.out.own.rdR
          clear hu eu
          clear K15
          replace Ht := Lib.hid (Ht.out.below hb)
          clear hb
          have K16 := Lib.hid (same_t Hu.out Ht.out Eu.out Et.out HG.out)
          go_wp2_with fail
          go_at_call 26
          refine K16.out.mono ?_
          rintro e x16 ⟨rfl, hb⟩
          replace HB4 := Lib.hid (bel_trans HB4.out hb)
          have hz10 := hb.size
          replace HM := mc.below HM hb
          replace HO := mc.below HO hb
          replace HC := mc.below HC hb
          clear K16
          clear hb Hu Ht Eu Et
          have K17 := Lib.hid (mc.load a2 HC W2.out)
          go_wp2_with fail
          go_at_call 13
          refine K17.out.mono ?_
          rintro e x17 ⟨hb, z1, g1, rfl, hl1⟩
          replace HB4 := Lib.hid (bel_trans HB4.out hb)
          have hz11 := hb.size
          replace HM := mc.below HM hb
          replace HO := mc.below HO hb
          replace HC := mc.below HC hb
          have HL1 := Lib.hid hl1
          clear hb hl1
          clear K17
          have K18 := Lib.hid (mc.load a2 HO W2.out)
          go_wp2_with fail
          go_at_call 13
          refine K18.out.mono ?_
          rintro e x18 ⟨hb, z2, g2, rfl, hl2⟩
          replace HB4 := Lib.hid (bel_trans HB4.out hb)
          have hz12 := hb.size
          replace HM := mc.below HM hb
          replace HO := mc.below HO hb
          replace HC := mc.below HC hb
          obtain ⟨rfl, rfl⟩ := LoadO.uniq HG1.out HL1.out hl2
          clear hb hl2
          have t1 : (f1 == f1) = true := beq_self_eq_true _
          have t2 : (z1 == z1) = true := beq_self_eq_true _
          have t3 : (g1 == g1) = true := beq_self_eq_true _
          clear K18
          have K19 := Lib.hid (mc.regions HC)
          go_wp2_with fail
          go_at_call 16
          refine K19.out.mono ?_
          rintro e x19 ⟨hb, vjj, osjj, rfl, hjj, ejj⟩
          replace HB4 := Lib.hid (bel_trans HB4.out hb)
          have hz13 := hb.size
          replace HM := mc.below HM hb
          replace HO := mc.below HO hb
          replace HC := mc.below HC hb
          have Hjj := hjj
          have Ejj := Lib.hid ejj
          obtain ⟨Ajj, njj, cjj, rfl, _, _⟩ := hjj.out.own.rdR
          clear hjj ejj
          clear K19
          clear hb
          have K20 := Lib.hid (mc.regions HO)
          go_wp2_with fail
          go_at_call 16
          refine K20.out.mono ?_
          rintro e x20 ⟨hb, vll, osll, rfl, hll, ell⟩
          replace HB4 := Lib.hid (bel_trans HB4.out hb)
          have hz14 := hb.size
          replace HM := mc.below HM hb
          replace HO := mc.below HO hb
          replace HC := mc.below HC hb
          have Hll := hll
          have Ell := Lib.hid ell
          obtain ⟨All, nll, cll, rfl, _, _⟩ := hll.out.own.rdR
          clear hll ell
          clear K20
          replace Hjj := Lib.hid (Hjj.out.below hb)
          clear hb
          have K21 := Lib.hid (same_t Hjj.out Hll.out Ejj.out Ell.out HG1.out)
          go_wp2_with fail
          go_at_call 26
          refine K21.out.mono ?_
          rintro e x21 ⟨rfl, hb⟩
          replace HB4 := Lib.hid (bel_trans HB4.out hb)
          have hz15 := hb.size
          replace HM := mc.below HM hb
          replace HO := mc.below HO hb
          replace HC := mc.below HC hb
          clear K21
          clear hb Hjj Hll Ejj Ell
          go_wp2_with fail
          go_ret
          exact ⟨rfl, HB4.out⟩
end memoryClones
end Go.Proofs.Ytkgbpcfpppceiaa
