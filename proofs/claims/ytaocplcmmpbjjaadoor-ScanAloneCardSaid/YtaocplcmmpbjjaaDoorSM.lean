/- What a reading tells . -/
import Derived.Test.YtaocplcmmpbjjaaDoorSL
import Derived.Deep.RegionHeld3
import Derived.BigQuiet
namespace Go.Proofs.YtaocplcmmpbjjaaDoor
open Go Go.RowKit Go.Maps Go.Shelf
namespace Sn
open Nt
set_option linter.unusedVariables false
set_option linter.unusedSimpArgs false
theorem ipos {w : World} {I pos : Nat} {s : ByteArray} (h : w.heap[I]? = some (.stringIter s pos)) : w.iterPos I = pos := by
  unfold World.iterPos
  rw [h]
theorem goF_l (k c : Nat) (h1 : 1 ≤ k) (h5 : k ≤ 5) (hc : c ≤ 2147483647) (w : World) : Calls Tryd.prog (goF k) #[.int .i32 (c : Int)] w fun e w' => e = .returned (.bool (goR k c)) ∧ w' = w := by
  have hk : k = 1 ∨ k = 2 ∨ k = 3 ∨ k = 4 ∨ k = 5 := by omega
  rcases hk with rfl | rfl | rfl | rfl | rfl
  · exact going1_l c hc w
  · exact (isDigit_l c hc w).mono (fun e w' h => h)
  · exact going2_l c w
  · exact isWhite_l c hc w
  · exact going3_l c w
theorem goF_e (k : Nat) (h1 : 1 ≤ k) (h5 : k ≤ 5) : ∀ args w, (callFunc (goF k) args).run Tryd.prog w = .ok (.enter (goF k) args) w := by
  have hk : k = 1 ∨ k = 2 ∨ k = 3 ∨ k = 4 ∨ k = 5 := by omega
  rcases hk with rfl | rfl | rfl | rfl | rfl
  · exact enters_of Tryd.func32 (by kernel_rfl) rfl
  · exact enters_of Tryd.func22 (by kernel_rfl) rfl
  · exact enters_of Tryd.func33 (by kernel_rfl) rfl
  · exact enters_of Tryd.func34 (by kernel_rfl) rfl
  · exact enters_of Tryd.func35 (by kernel_rfl) rfl
theorem tl_end (s : ByteArray) (f pos p k : Nat) (h : ¬ pos < s.size) : tl s f pos p k = finS s p pos k := by
  cases f with
  | zero => rfl
  | succ f =>
    show (if pos < s.size then _ else _) = _
    rw [if_neg h]
/-- the machine where a part ends ahead of a rune -/
def tlN (s : ByteArray) (f pos p k : Nat) : List Tok × Option (Nat × Nat) := match finS s p pos k with
  | (ts, some e) => (ts, some e)
  | (ts, none) =>
    if okR s pos = false then (ts, some (pos, 4))
    else if kndR (Utf8.decode s pos).1 = 0 ∨ (kndR (Utf8.decode s pos).1 = 1 ∧ k = 2) then (ts, some (pos, 7))
    else (ts ++ (tl s f (pos + (Utf8.decode s pos).2) pos (kndR (Utf8.decode s pos).1)).1, (tl s f (pos + (Utf8.decode s pos).2) pos (kndR (Utf8.decode s pos).1)).2)
theorem tl_stop (s : ByteArray) (f pos p k : Nat) (h : pos < s.size) (hf : s.size ≤ pos + f) (hn : (okR s pos && goR k (Utf8.decode s pos).1) = false) : ∃ f', f = f' + 1 ∧ tl s f pos p k = tlN s f' pos p k := by
  cases f with
  | zero => omega
  | succ f =>
    refine ⟨f, rfl, ?_⟩
    show (if pos < s.size then _ else _) = _
    rw [if_pos h, hn]
    rfl
theorem tlN_err {s : ByteArray} {f pos p k : Nat} {e : Nat × Nat} (h : finS s p pos k = ([], some e)) : tlN s f pos p k = ([], some e) := by unfold tlN; rw [h]
theorem tlN_bad {s : ByteArray} {f pos p k : Nat} {ts : List Tok} (h : finS s p pos k = (ts, none)) (hb : okR s pos = false) : tlN s f pos p k = (ts, some (pos, 4)) := by
  unfold tlN
  rw [h]
  dsimp only
  rw [if_pos hb]
theorem tlN_text {s : ByteArray} {f pos p k : Nat} {ts : List Tok} (h : finS s p pos k = (ts, none)) (hb : okR s pos = true) (hk : kndR (Utf8.decode s pos).1 = 0 ∨ (kndR (Utf8.decode s pos).1 = 1 ∧ k = 2)) : tlN s f pos p k = (ts, some (pos, 7)) := by
  unfold tlN
  rw [h]
  dsimp only
  rw [if_neg (by rw [hb]; decide), if_pos hk]
theorem tlN_on {s : ByteArray} {f pos p k : Nat} {ts : List Tok} (h : finS s p pos k = (ts, none)) (hb : okR s pos = true) (hk : ¬ (kndR (Utf8.decode s pos).1 = 0 ∨ (kndR (Utf8.decode s pos).1 = 1 ∧ k = 2))) :
    tlN s f pos p k = (ts ++ (tl s f (pos + (Utf8.decode s pos).2) pos (kndR (Utf8.decode s pos).1)).1, (tl s f (pos + (Utf8.decode s pos).2) pos (kndR (Utf8.decode s pos).1)).2) := by
  unfold tlN
  rw [h]
  dsimp only
  rw [if_neg (by rw [hb]; decide), if_neg hk]
theorem tlN_pre {s : ByteArray} {f pos p k : Nat} {ts : List Tok} (h : finS s p pos k = (ts, none)) : ts <+: (tlN s f pos p k).1 := by
  unfold tlN
  rw [h]
  dsimp only
  split
  · exact List.prefix_refl _
  · split
    · exact List.prefix_refl _
    · exact ⟨_, rfl⟩
theorem kndR_le (c : Nat) : kndR c ≤ 5 := by
  unfold kndR
  repeat' split
  all_goals omega
theorem EndQ.ways {n₀ R M I : Nat} {s : ByteArray} {pos p k b : Nat} {J Jx : List Tok → World → Prop} {pre : List Tok} {e : Ending} {w' : World} (h : EndQ n₀ R M I s pos p k b J Jx pre e w') :
    (∃ ts, finS s p b k = (ts, none) ∧ e = .returned (.bool true) ∧ J (pre ++ ts) w' ∧ StT n₀ R M I s pos p k w') ∨
    (finS s p b k = ([], some (p, 3)) ∧ e = .returned (.bool false) ∧ J pre w' ∧ Rdg w' R s (telF R) (.map (some M)) (k : Int) (p : Int) (p : Int) 3) ∨
    (∃ t, finS s p b k = ([t], none) ∧ e = .returned (.bool false) ∧ Jx (pre ++ [t]) w') := by
  rcases h with ⟨hf, he, hj, hst⟩ | ⟨hf, he, hj, hr⟩ | ⟨hf, ⟨he, hj, hst⟩ | ⟨he, hj⟩⟩
  · exact .inl ⟨[], hf, he, by rw [List.append_nil]; exact hj, hst⟩
  · exact .inr (.inl ⟨hf, he, hj, hr⟩)
  · exact .inl ⟨_, hf, he, hj, hst⟩
  · exact .inr (.inr ⟨_, hf, he, hj⟩)
/-- how it ends: all told, and where and why it stopped; or left -/
def TelP (R M : Nat) (s : ByteArray) (J Jx : List Tok → World → Prop) (q : List Tok × Option (Nat × Nat)) (e : Ending) (w' : World) : Prop :=
  (∃ v, e = .returned v) ∧
  ((J q.1 w' ∧ ∃ k p a y : Int, Rdg w' R s (telF R) (.map (some M)) k p a y ∧ (match q.2 with | none => y = 0 | some er => a = (er.1 : Int) ∧ y = (er.2 : Int))) ∨ (∃ pre, pre <+: q.1 ∧ Jx pre w'))
set_option maxRecDepth 100000 in
set_option maxHeartbeats 2000000 in
theorem tell_in (n : Nat) (hn : 3 ≤ n) (l n₀ b₀ R M : Nat) (s : ByteArray) (hs : s.size ≤ 100000) (W : World) (hb₀ : b₀ ≤ W.heap.size) (J Jx : List Tok → World → Prop)
    (hJ : ∀ t X Y row, J t X → X.grownBy Y row → AbR R b₀ X row → J t Y)
    (hY : ∀ pre x X, J pre X → (pre ++ [x]) <+: (tl s s.size 0 0 4).1 → YieldAt Fence.wide (n - 1) Tryd.prog l #[tokV s x] X fun e Y => (e = .returned (.bool true) ∧ J (pre ++ [x]) Y ∧ Kps n₀ R X Y) ∨ (e = .returned (.bool false) ∧ Jx (pre ++ [x]) Y))
    (hR : Rdg W R s (telF R) (.map (some M)) 4 0 0 0) (hM : GoM W M) (hT : Lib.Utf8Tabs 0 1 W) (hne : M ≠ R ∧ 0 ≠ R ∧ 1 ≠ R) (hlo : 0 < n₀ ∧ 1 < n₀ ∧ n₀ ≤ W.heap.size) (h0 : J [] W) :
    CallsIn Fence.wide n Tryd.prog 29 #[.pointer (some ⟨R, 0, none⟩), .func (.yield l) #[] #[]] W (TelP R M s J Jx (tl s s.size 0 0 4)) := by
  have hmix : Tryd.prog.follows .mixedOrders = true := by kernel_rfl
  have hn1 : 1 ≤ n := by omega
  have H := Lib.hid hR
  obtain ⟨c0, c1, c2, c3, c4, c5, c6⟩ := hR.cells
  have hs1 : (s.size : Int) ≤ 100000 := by omega
  have HM := Lib.hid hM
  have HT := Lib.hid hT
  have HNE := Lib.hid hne
  have HLO := Lib.hid hlo
  have HB0 := Lib.hid hb₀
  have HY := Lib.hid hY
  have HJ := Lib.hid hJ
  have HJ0 := Lib.hid h0
  clear hR hM hT hne hY hJ h0 hlo hb₀
  refine callsIn_of_wp Tryd.func29 rfl trivial ?_ rfl
  simp only [Tryd.ntmps29, List.size_toArray, List.length_cons, List.length_nil, Nat.reduceAdd, Nat.reduceSub, Array.replicate_succ, Array.replicate_zero, List.push_toArray, List.append_toArray, List.nil_append, List.cons_append]
  gi_wp2
  gi_loopw [12] (fun _ wr => ∃ (f pos p k : Nat) (pre : List Tok), Hid (StT n₀ R M W.heap.size s pos p k wr) ∧ Hid (J pre wr) ∧ Hid (pre ++ (tl s f pos p k).1 = (tl s s.size 0 0 4).1 ∧ (tl s f pos p k).2 = (tl s s.size 0 0 4).2) ∧ Hid (s.size ≤ pos + f ∧ p ≤ pos ∧ pos ≤ s.size ∧ 1 ≤ k ∧ k ≤ 5)) (fun _ wr => s.size - wr.iterPos W.heap.size)
  case atStart =>
    have hRl : R < W.heap.size := Bk.lt H.out
    have hMl : M < W.heap.size := HM.out.lt
    have hl0 : 0 < W.heap.size := World.block_lt_of_cell? W _ (HT.out.1 0 (by omega))
    have hl1 : 1 < W.heap.size := World.block_lt_of_cell? W _ (HT.out.2 0 (by omega)).1
    obtain ⟨m1, m2, m3⟩ := HNE.out
    refine ⟨s.size, 0, 0, 4, [], Lib.hid ?_, Lib.hid ?_, Lib.hid ⟨rfl, rfl⟩, Lib.hid (by omega)⟩
    · exact ⟨Bk.alloc H.out _, HM.out.kept (World.grownBy_alloc W _ none) (by simp), World.iter_heap W s 0, tabs_eq HT.out (Below.heap_alloc W _ _ hl0) (Below.heap_alloc W _ _ hl1), ⟨by omega, by omega, m1, m2, by omega, m3, by omega⟩, HLO.out.1, HLO.out.2.1, by show n₀ ≤ (W.heap.push _).size; rw [Array.size_push]; have := HLO.out.2.2; omega⟩
    · exact HJ.out [] W _ none HJ0.out (World.grownBy_alloc W _ none) (fun r e => by cases e)
  case round =>
    obtain ⟨f, pos, p, k, pre, HS, HP, HQ, HB⟩ := hrel
    obtain ⟨c0, c1, c2, c3, c4, c5, c6⟩ := HS.out.r.cells
    by_cases hp : pos < s.size
    · have hnx : ∀ ty, (Instr.next (.pointer (some ⟨W.heap.size, 0, none⟩)) true ty).run Tryd.prog wr = _ := fun ty => next_at wr W.heap.size s pos ty HS.out.it hp
      have HS1 := Lib.hid (HS.out.next (pos + (Utf8.decode s pos).2))
      have HP1 := Lib.hid (HJ.out pre wr (wr.putObj W.heap.size (.stringIter s (pos + (Utf8.decode s pos).2))) (some W.heap.size) HP.out (grownBy_putObj' _ _ _) (fun r e => by cases e; exact .inr ⟨HB0.out, _, HS.out.it, rfl⟩))
      have HRT := Lib.hid (fun k p X h hT => right_l R s (telF R) (.map (some M)) k p 0 0 pos hp hs X h hT)
      have HHP := Lib.hid hp
      have hrl := Lib.rune_le s pos
      have HIP := Lib.hid (ipos HS.out.it)
      have HWI : Hid (1 ≤ (Utf8.decode s pos).2 ∧ pos + (Utf8.decode s pos).2 ≤ s.size) := Lib.hid ⟨Lib.width_pos s pos, width_le s pos hp⟩
      have hent := goF_e k HB.out.2.2.2.1 HB.out.2.2.2.2
      have HGF := Lib.hid (fun X => goF_l k (Utf8.decode s pos).1 HB.out.2.2.2.1 HB.out.2.2.2.2 (by omega) X)
      clear hp
      gi_wp2
      refine ⟨trivial, ?_⟩
      gi_at_call 36
      refine (callsIn_wide.2 (HRT.out _ _ _ HS1.out.r HS1.out.tb)).mono ?_
      rintro e w1 ⟨rfl, hb⟩
      have HS2 := Lib.hid (HS1.out.below hb)
      have HP2 := Lib.hid (HJ.out pre _ w1 none HP1.out (below_grown hb) (fun r e => by cases e))
      obtain ⟨d0, d1, d2, d3, d4, d5, d6⟩ := HS2.out.r.cells
      have hlk := GoM.look (w := w1.drew) HS2.out.m k HB.out.2.2.2.1 HB.out.2.2.2.2
      clear hb hnx HRT HS1 HP1 HS HP c0 c1 c2 c3 c4 c5 c6
      have HLT := Lib.hid (letR_high s pos)
      generalize hcq : (Utf8.decode s pos).1 = c at *
      generalize hwq : (Utf8.decode s pos).2 = wd at *
      have HCQ := Lib.hid hcq
      have HWQ := Lib.hid hwq
      clear hcq hwq
      by_cases hok : okR s pos = true
      · rw [hok]
        have HOK := Lib.hid hok
        clear hok
        gi_wp2
        refine wpIn_wide.2 ?_
        go_region_held3 (fun w' => w'.cell? ⟨R, 2, none⟩ = some (.map (some M)) ∧ w'.cell? ⟨R, 3, none⟩ = some (.int .i64 (k : Int)) ∧ (Instr.lookup 50 (.map (some M)) (.int .i64 (k : Int)) false).run Tryd.prog w' = .ok (.func (.func (goF k)) #[] #[]) w') (go_keep) ((refine (HGF.out _).mono ?_; rintro e w2 ⟨rfl, rfl⟩))
        have HS3 : Hid (StT n₀ R M W.heap.size s (pos + wd) p k w1.drew) := Lib.hid (HS2.out.below (bel_drN w1 1))
        have HP3 := Lib.hid (HJ.out pre _ w1.drew none HP2.out (below_grown (bel_drN w1 1)) (fun r e => by cases e))
        clear HS2 HP2 d0 d1 d2 d3 d4 d5 d6 hlk hent HGF
        cases hg : goR k c with
        | true =>
          have HG := Lib.hid hg
          clear hg
          gi_wp2
          go_roundw
          case rel =>
            obtain ⟨b1, b2, b3, b4, b5⟩ := HB.out
            have hpp := HHP.out
            cases f with
            | zero => omega
            | succ f =>
              have ht : tl s (f + 1) pos p k = tl s f (pos + wd) p k := by
                show (if pos < s.size then _ else _) = _
                rw [if_pos hpp, HCQ.out, HWQ.out, if_pos (by rw [HOK.out, HG.out]; rfl)]
              rw [ht] at HQ
              exact ⟨f, pos + wd, p, k, pre, HS3, HP3, HQ, Lib.hid (by have := HWI.out; omega)⟩
          case measure =>
            have h1 := HIP.out
            have h2 := ipos HS3.out.it
            have h3 := HWI.out
            have h4 := HHP.out
            rw [h1, h2]
            omega
        | false =>
          have HTL := Lib.hid (tl_stop s f pos p k HHP.out HB.out.1 (by rw [HCQ.out, hg]; exact Bool.and_false _))
          clear hg
          obtain ⟨f', hf', htl⟩ := HTL.out
          have HFF := Lib.hid hf'
          have HT2 := Lib.hid htl
          clear hf' htl HTL
          have HEQ := Lib.hid (endq_in (n - 1) (n - 1) l n₀ b₀ R M W.heap.size (by omega) s (pos + wd) p k pos HB.out.2.1 HB.out.2.2.1 hs _ J Jx pre HJ.out (fun hf X hj => HY.out pre _ X hj (by rw [← HQ.out.1, HT2.out]; exact (List.prefix_append_right_inj pre).2 (tlN_pre hf))) HS3.out HP3.out)
          gi_wp2
          refine ⟨trivial, ?_⟩
          gi_at_call 37
          refine HEQ.out.mono ?_
          rintro e w2 h
          clear HEQ HS3 HP3
          rcases h.ways with ⟨ts, hf, rfl, hj, hst⟩ | ⟨hf, rfl, hj, hr⟩ | ⟨t, hf, rfl, hj⟩
          · have HF := Lib.hid hf
            have HP4 := Lib.hid hj
            have HS4 := Lib.hid hst
            have HSTA := Lib.hid (start_l R s (telF R) (.map (some M)) (k : Int) (p : Int) 0 0 (pos : Int) c true (by omega) (fun _ h => HLT.out h) w2 hst.r)
            clear h hf hj hst
            gi_wp2
            refine ⟨trivial, ?_⟩
            gi_at_call 38
            refine (callsIn_wide.2 HSTA.out).mono ?_
            rintro e w3 h
            clear HSTA
            rcases h with ⟨hg, ⟨hc, _⟩ | ⟨_, hk, rfl, hr⟩ | ⟨_, hk, rfl, hr⟩⟩
            · exact absurd hc (by decide)
            · have HR5 := Lib.hid hr
              have HP5 := Lib.hid (HJ.out _ w2 w3 (some R) HP4.out hg (fun r e => by cases e; exact .inl rfl))
              have hk2 : kndR c = 0 ∨ (kndR c = 1 ∧ k = 2) := by omega
              obtain ⟨q1, q2⟩ := HQ.out
              rw [HT2.out, tlN_text HF.out HOK.out (by rw [HCQ.out]; exact hk2)] at q1 q2
              have HZ := Lib.hid (show J (tl s s.size 0 0 4).1 w3 from (by rw [← q1]; exact HP5.out))
              have HE := Lib.hid q2
              clear q1 q2 hr hg hk hk2
              gi_wp2
              refine bodyPost_end (results_none rfl _ _ _) rfl ⟨⟨_, rfl⟩, .inl ⟨HZ.out, k, p, pos, 7, HR5.out, ?_⟩⟩
              rw [← HE.out]
              exact ⟨rfl, rfl⟩
            · have HP5 := Lib.hid (HJ.out _ w2 w3 (some R) HP4.out hg (fun r e => by cases e; exact .inl rfl))
              have HS5 := Lib.hid (HS4.out.turn hg hr)
              have HK := Lib.hid (show ¬ (kndR c = 0 ∨ (kndR c = 1 ∧ k = 2)) by omega)
              clear hr hg hk HS4 HP4
              gi_wp2
              go_roundw
              case rel =>
                have hk := HK.out
                obtain ⟨b1, b2, b3, b4, b5⟩ := HB.out
                obtain ⟨q1, q2⟩ := HQ.out
                rw [HT2.out, tlN_on HF.out HOK.out (by rw [HCQ.out]; exact hk), HCQ.out, HWQ.out] at q1 q2
                exact ⟨f', pos + wd, pos, kndR c, pre ++ ts, HS5, HP5, Lib.hid ⟨by rw [List.append_assoc]; exact q1, q2⟩, Lib.hid ⟨by have := HWI.out; have := HFF.out; omega, by omega, HWI.out.2, by omega, kndR_le c⟩⟩
              case measure =>
                have h1 := HIP.out
                have h2 := ipos HS5.out.it
                have h3 := HWI.out
                have h4 := HHP.out
                rw [h1, h2]
                omega
          · obtain ⟨q1, q2⟩ := HQ.out
            rw [HT2.out, tlN_err hf, List.append_nil] at q1
            rw [HT2.out, tlN_err hf] at q2
            have HZ := Lib.hid (show J (tl s s.size 0 0 4).1 w2 from (by rw [← q1]; exact hj))
            have HX := Lib.hid hr
            have HE := Lib.hid q2
            clear h hj hr hf q1 q2
            gi_wp2
            refine ⟨trivial, ?_⟩
            gi_wp2
            refine bodyPost_end (results_none rfl _ _ _) rfl ⟨⟨_, rfl⟩, .inl ⟨HZ.out, k, p, p, 3, HX.out, ?_⟩⟩
            rw [← HE.out]
            exact ⟨rfl, rfl⟩
          · obtain ⟨q1, _⟩ := HQ.out
            rw [HT2.out] at q1
            have HZ := Lib.hid (show ∃ pre', pre' <+: (tl s s.size 0 0 4).1 ∧ Jx pre' w2 from ⟨_, by rw [← q1]; exact (List.prefix_append_right_inj pre).2 (tlN_pre hf), hj⟩)
            clear h hj hf q1
            gi_wp2
            refine ⟨trivial, ?_⟩
            gi_wp2
            exact bodyPost_end (results_none rfl _ _ _) rfl ⟨⟨_, rfl⟩, .inr HZ.out⟩
      · replace hok : okR s pos = false := by simpa using hok
        have HTL := Lib.hid (tl_stop s f pos p k HHP.out HB.out.1 (by rw [hok]; rfl))
        rw [hok]
        have HOK := Lib.hid hok
        clear hok hlk hent HGF
        obtain ⟨f', hf', htl⟩ := HTL.out
        have HFF := Lib.hid hf'
        have HT2 := Lib.hid htl
        clear hf' htl HTL
        gi_wp2
        refine wpIn_wide.2 ?_
        go_quiet (fail)
        have HS3 : Hid (StT n₀ R M W.heap.size s (pos + wd) p k (w1.drewN nq)) := Lib.hid (HS2.out.below (bel_drN w1 nq))
        have HP3 := Lib.hid (HJ.out pre _ (w1.drewN nq) none HP2.out (below_grown (bel_drN w1 nq)) (fun r e => by cases e))
        have HEQ := Lib.hid (endq_in (n - 1) (n - 1) l n₀ b₀ R M W.heap.size (by omega) s (pos + wd) p k pos HB.out.2.1 HB.out.2.2.1 hs _ J Jx pre HJ.out (fun hf X hj => HY.out pre _ X hj (by rw [← HQ.out.1, HT2.out]; exact (List.prefix_append_right_inj pre).2 (tlN_pre hf))) HS3.out HP3.out)
        clear HS2 HP2
        gi_wp2
        refine ⟨trivial, ?_⟩
        gi_at_call 37
        refine HEQ.out.mono ?_
        rintro e w2 h
        clear HEQ HS3 HP3
        rcases h.ways with ⟨ts, hf, rfl, hj, hst⟩ | ⟨hf, rfl, hj, hr⟩ | ⟨t, hf, rfl, hj⟩
        · have HF := Lib.hid hf
          have HP4 := Lib.hid hj
          have HS4 := Lib.hid hst
          have HSTA := Lib.hid (start_l R s (telF R) (.map (some M)) (k : Int) (p : Int) 0 0 (pos : Int) c false (by omega) (fun h => by cases h) w2 hst.r)
          clear h hf hj hst
          gi_wp2
          refine ⟨trivial, ?_⟩
          gi_at_call 38
          refine (callsIn_wide.2 HSTA.out).mono ?_
          rintro e w3 h
          clear HSTA
          rcases h with ⟨hg, ⟨_, rfl, hr⟩ | ⟨hc, _⟩ | ⟨hc, _⟩⟩
          · have HR5 := Lib.hid hr
            have HP5 := Lib.hid (HJ.out _ w2 w3 (some R) HP4.out hg (fun r e => by cases e; exact .inl rfl))
            clear hr hg
            obtain ⟨q1, q2⟩ := HQ.out
            rw [HT2.out, tlN_bad HF.out HOK.out] at q1 q2
            have HZ := Lib.hid (show J (tl s s.size 0 0 4).1 w3 from (by rw [← q1]; exact HP5.out))
            have HE := Lib.hid q2
            clear q1 q2
            gi_wp2
            refine bodyPost_end (results_none rfl _ _ _) rfl ⟨⟨_, rfl⟩, .inl ⟨HZ.out, k, p, pos, 4, HR5.out, ?_⟩⟩
            rw [← HE.out]
            exact ⟨rfl, rfl⟩
          · exact absurd hc (by decide)
          · exact absurd hc (by decide)
        · obtain ⟨q1, q2⟩ := HQ.out
          rw [HT2.out, tlN_err hf, List.append_nil] at q1
          rw [HT2.out, tlN_err hf] at q2
          have HZ := Lib.hid (show J (tl s s.size 0 0 4).1 w2 from (by rw [← q1]; exact hj))
          have HX := Lib.hid hr
          have HE := Lib.hid q2
          clear h hj hr hf q1 q2
          gi_wp2
          refine ⟨trivial, ?_⟩
          gi_wp2
          refine bodyPost_end (results_none rfl _ _ _) rfl ⟨⟨_, rfl⟩, .inl ⟨HZ.out, k, p, p, 3, HX.out, ?_⟩⟩
          rw [← HE.out]
          exact ⟨rfl, rfl⟩
        · obtain ⟨q1, _⟩ := HQ.out
          rw [HT2.out] at q1
          have HZ := Lib.hid (show ∃ pre', pre' <+: (tl s s.size 0 0 4).1 ∧ Jx pre' w2 from ⟨_, by rw [← q1]; exact (List.prefix_append_right_inj pre).2 (tlN_pre hf), hj⟩)
          clear h hj hf q1
          gi_wp2
          refine ⟨trivial, ?_⟩
          gi_wp2
          exact bodyPost_end (results_none rfl _ _ _) rfl ⟨⟨_, rfl⟩, .inr HZ.out⟩
    · have hnx : ∀ ty, (Instr.next (.pointer (some ⟨W.heap.size, 0, none⟩)) true ty).run Tryd.prog wr = _ := fun ty => next_done wr W.heap.size s pos ty HS.out.it hp
      obtain ⟨b1, b2, b3, b4, b5⟩ := HB.out
      obtain rfl : pos = s.size := by omega
      have HEQ := Lib.hid (endq_in (n - 1) (n - 1) l n₀ b₀ R M W.heap.size (by omega) s s.size p k s.size b2 (Nat.le_refl _) hs wr J Jx pre HJ.out (fun hf X hj => HY.out pre _ X hj (by rw [← HQ.out.1, tl_end s f s.size p k hp, hf]; exact List.prefix_refl _)) HS.out HP.out)
      have HF := Lib.hid (tl_end s f s.size p k hp)
      clear hp b1 b2 b3 b4 b5
      gi_wp2
      refine ⟨trivial, ?_⟩
      gi_at_call 37
      refine HEQ.out.mono ?_
      rintro e w2 h
      obtain ⟨q1, q2⟩ := HQ.out
      rw [HF.out] at q1 q2
      rcases h with ⟨hf, rfl, hj, hst⟩ | ⟨hf, rfl, hj, hr⟩ | ⟨hf, ⟨rfl, hj, hst⟩ | ⟨rfl, hj⟩⟩
      · rw [hf] at q1 q2
        rw [List.append_nil] at q1
        have HZ := Lib.hid (show J (tl s s.size 0 0 4).1 w2 from (by rw [← q1]; exact hj))
        have HX := Lib.hid hst.r
        have HE := Lib.hid q2
        clear hj hst hf q1 q2
        gi_wp2
        refine bodyPost_end (results_none rfl _ _ _) rfl ⟨⟨_, rfl⟩, .inl ⟨HZ.out, k, p, 0, 0, HX.out, ?_⟩⟩
        rw [← HE.out]
      · rw [hf] at q1 q2
        rw [List.append_nil] at q1
        have HZ := Lib.hid (show J (tl s s.size 0 0 4).1 w2 from (by rw [← q1]; exact hj))
        have HX := Lib.hid hr
        have HE := Lib.hid q2
        clear hj hr hf q1 q2
        gi_wp2
        refine bodyPost_end (results_none rfl _ _ _) rfl ⟨⟨_, rfl⟩, .inl ⟨HZ.out, k, p, p, 3, HX.out, ?_⟩⟩
        rw [← HE.out]
        exact ⟨rfl, rfl⟩
      · rw [hf] at q1 q2
        have HZ := Lib.hid (show J (tl s s.size 0 0 4).1 w2 from (by rw [← q1]; exact hj))
        have HX := Lib.hid hst.r
        have HE := Lib.hid q2
        clear hj hst hf q1 q2
        gi_wp2
        refine bodyPost_end (results_none rfl _ _ _) rfl ⟨⟨_, rfl⟩, .inl ⟨HZ.out, k, p, 0, 0, HX.out, ?_⟩⟩
        rw [← HE.out]
      · rw [hf] at q1
        have HZ := Lib.hid (show ∃ pre', pre' <+: (tl s s.size 0 0 4).1 ∧ Jx pre' w2 from ⟨_, by rw [← q1]; exact List.prefix_refl _, hj⟩)
        clear hj hf q1 q2
        gi_wp2
        exact bodyPost_end (results_none rfl _ _ _) rfl ⟨⟨_, rfl⟩, .inr HZ.out⟩
end Sn
end Go.Proofs.YtaocplcmmpbjjaaDoor
