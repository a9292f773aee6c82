/- The landed package step: which function moves, which one reckons. -/
import Derived.Test.YtikbnfhnimjmmaaGreatDoorS9
namespace Go.Proofs.YtikbnfhnimjmmaaGreatDoor
open Go Go.RowKit Go.Shelf
namespace Sp
open Wd Nt Mm Is
set_option linter.unusedVariables false
set_option linter.unusedSimpArgs false
def mvF (op : Int) : Nat :=
  if op = 3 then 189 else
  if op = 4 then 190 else
  if op = 5 then 191 else
  if op = 19 then 192 else
  if op = 28 then 194 else
  if op = 29 then 195 else
  if op = 30 then 196 else
  if op = 31 then 198 else
  if op = 32 then 199 else
  200
def rkF (op : Int) : Nat :=
  if op = 1 then 201 else
  if op = 2 then 201 else
  if op = 6 then 205 else
  if op = 7 then 207 else
  if op = 8 then 210 else
  if op = 9 then 212 else
  if op = 10 then 259 else
  if op = 11 then 261 else
  if op = 12 then 262 else
  if op = 13 then 213 else
  if op = 14 then 263 else
  if op = 15 then 205 else
  if op = 16 then 259 else
  if op = 17 then 210 else
  if op = 18 then 213 else
  if op = 20 then 208 else
  if op = 21 then 209 else
  if op = 22 then 215 else
  if op = 24 then 264 else
  if op = 25 then 266 else
  if op = 26 then 202 else
  if op = 27 then 204 else
  267
theorem mv_cases {op : Int} (h : isMv op = true) : op = 3 ∨ op = 4 ∨ op = 5 ∨ op = 19 ∨ op = 28 ∨ op = 29 ∨ op = 30 ∨ op = 31 ∨ op = 32 ∨ op = 33 := by
  unfold isMv at h
  simp only [Bool.or_eq_true, decide_eq_true_eq] at h
  omega
theorem mv_not {op : Int} (h : isMv op = false) : (op == 3) = false ∧ (op == 4) = false ∧ (op == 5) = false ∧ (op == 19) = false ∧ (op == 28) = false ∧ (op == 29) = false ∧ (op == 30) = false ∧ (op == 31) = false ∧ (op == 32) = false ∧ (op == 33) = false := by
  unfold isMv at h
  simp only [Bool.or_eq_false_iff, decide_eq_false_iff_not] at h
  refine ⟨?_, ?_, ?_, ?_, ?_, ?_, ?_, ?_, ?_, ?_⟩ <;> (rw [beq_eq_false_iff_ne]; omega)
theorem rk_cases {op : Int} (h : isMv op = false) (h1 : 1 ≤ op) (h33 : op ≤ 33) : op = 1 ∨ op = 2 ∨ op = 6 ∨ op = 7 ∨ op = 8 ∨ op = 9 ∨ op = 10 ∨ op = 11 ∨ op = 12 ∨ op = 13 ∨ op = 14 ∨ op = 15 ∨ op = 16 ∨ op = 17 ∨ op = 18 ∨ op = 20 ∨ op = 21 ∨ op = 22 ∨ op = 23 ∨ op = 24 ∨ op = 25 ∨ op = 26 ∨ op = 27 := by
  unfold isMv at h
  simp only [Bool.or_eq_false_iff, decide_eq_false_iff_not] at h
  omega
set_option maxRecDepth 100000 in
set_option maxHeartbeats 1000000 in
theorem moving_l (op : Int) (h : isMv op = true) (w : World) : Calls Tryz.prog 117 #[.int .i64 op] w fun e w' => e = .returned (.func (.func (mvF op)) #[] #[]) ∧ w' = w := by
  rcases mv_cases h with rfl | rfl | rfl | rfl | rfl | rfl | rfl | rfl | rfl | rfl
  all_goals
    go_enter Tryz.func117, Tryz.ntmps117
    go_wp2_with fail
    go_ret
    exact ⟨rfl, rfl⟩
set_option maxRecDepth 100000 in
theorem moving_n (op : Int) (h : isMv op = false) (w : World) : Calls Tryz.prog 117 #[.int .i64 op] w fun e w' => e = .returned .nilFunc ∧ w' = w := by
  obtain ⟨n0, n1, n2, n3, n4, n5, n6, n7, n8, n9⟩ := mv_not h
  clear h
  go_enter Tryz.func117, Tryz.ntmps117
  go_wp2_with fail
  go_ret
  exact ⟨rfl, rfl⟩
set_option maxRecDepth 100000 in
set_option maxHeartbeats 2000000 in
theorem reckB_l (op : Int) (h : op = 10 ∨ op = 11 ∨ op = 12 ∨ op = 14 ∨ op = 16 ∨ op = 23 ∨ op = 24 ∨ op = 25) (w : World) : Calls Tryz.prog 216 #[.int .i64 op] w fun e w' => e = .returned (.func (.func (rkF op)) #[] #[]) ∧ w' = w := by
  rcases h with rfl | rfl | rfl | rfl | rfl | rfl | rfl | rfl
  all_goals
    go_enter Tryz.func216, Tryz.ntmps216
    go_wp2_with fail
    go_ret
    exact ⟨rfl, rfl⟩
set_option maxRecDepth 100000 in
set_option maxHeartbeats 2000000 in
theorem reck_l (op : Int) (h : isMv op = false) (h1 : 1 ≤ op) (h33 : op ≤ 33) (w : World) : Calls Tryz.prog 118 #[.int .i64 op] w fun e w' => e = .returned (.func (.func (rkF op)) #[] #[]) ∧ w' = w := by
  rcases rk_cases h h1 h33 with rfl | rfl | rfl | rfl | rfl | rfl | rfl | rfl | rfl | rfl | rfl | rfl | rfl | rfl | rfl | rfl | rfl | rfl | rfl | rfl | rfl | rfl | rfl
  all_goals
    go_enter Tryz.func118, Tryz.ntmps118
    go_wp2_with (first | (go_at_call 216; refine (reckB_l _ (by decide) _).mono ?_; rintro e w' ⟨rfl, rfl⟩) | fail)
    go_ret
    exact ⟨rfl, rfl⟩
theorem mv_enters (op : Int) (h : isMv op = true) : ∀ args w, (callFunc (mvF op) args).run Tryz.prog w = .ok (.enter (mvF op) args) w := by
  rcases mv_cases h with rfl | rfl | rfl | rfl | rfl | rfl | rfl | rfl | rfl | rfl
  · exact enters_of Tryz.func189 (by kernel_rfl) rfl
  · exact enters_of Tryz.func190 (by kernel_rfl) rfl
  · exact enters_of Tryz.func191 (by kernel_rfl) rfl
  · exact enters_of Tryz.func192 (by kernel_rfl) rfl
  · exact enters_of Tryz.func194 (by kernel_rfl) rfl
  · exact enters_of Tryz.func195 (by kernel_rfl) rfl
  · exact enters_of Tryz.func196 (by kernel_rfl) rfl
  · exact enters_of Tryz.func198 (by kernel_rfl) rfl
  · exact enters_of Tryz.func199 (by kernel_rfl) rfl
  · exact enters_of Tryz.func200 (by kernel_rfl) rfl
theorem rk_enters (op : Int) (h : isMv op = false) (h1 : 1 ≤ op) (h33 : op ≤ 33) : ∀ args w, (callFunc (rkF op) args).run Tryz.prog w = .ok (.enter (rkF op) args) w := by
  rcases rk_cases h h1 h33 with rfl | rfl | rfl | rfl | rfl | rfl | rfl | rfl | rfl | rfl | rfl | rfl | rfl | rfl | rfl | rfl | rfl | rfl | rfl | rfl | rfl | rfl | rfl
  · exact enters_of Tryz.func201 (by kernel_rfl) rfl
  · exact enters_of Tryz.func201 (by kernel_rfl) rfl
  · exact enters_of Tryz.func205 (by kernel_rfl) rfl
  · exact enters_of Tryz.func207 (by kernel_rfl) rfl
  · exact enters_of Tryz.func210 (by kernel_rfl) rfl
  · exact enters_of Tryz.func212 (by kernel_rfl) rfl
  · exact enters_of Tryz.func259 (by kernel_rfl) rfl
  · exact enters_of Tryz.func261 (by kernel_rfl) rfl
  · exact enters_of Tryz.func262 (by kernel_rfl) rfl
  · exact enters_of Tryz.func213 (by kernel_rfl) rfl
  · exact enters_of Tryz.func263 (by kernel_rfl) rfl
  · exact enters_of Tryz.func205 (by kernel_rfl) rfl
  · exact enters_of Tryz.func259 (by kernel_rfl) rfl
  · exact enters_of Tryz.func210 (by kernel_rfl) rfl
  · exact enters_of Tryz.func213 (by kernel_rfl) rfl
  · exact enters_of Tryz.func208 (by kernel_rfl) rfl
  · exact enters_of Tryz.func209 (by kernel_rfl) rfl
  · exact enters_of Tryz.func215 (by kernel_rfl) rfl
  · exact enters_of Tryz.func267 (by kernel_rfl) rfl
  · exact enters_of Tryz.func264 (by kernel_rfl) rfl
  · exact enters_of Tryz.func266 (by kernel_rfl) rfl
  · exact enters_of Tryz.func202 (by kernel_rfl) rfl
  · exact enters_of Tryz.func204 (by kernel_rfl) rfl
/-! ### registers of an instruction that may be -/
theorem regB_in {r : Int} (h : regB r = true) : 0 ≤ r ∧ r ≤ 15 := by unfold regB at h; simp only [Bool.and_eq_true, decide_eq_true_eq] at h; exact h
theorem zB_in {r : Int} (h : zB r = true) : 0 ≤ r ∧ r ≤ 15 := by unfold zB at h; simp only [decide_eq_true_eq] at h; omega
theorem ok_regs {i : Ins} (h : okI i = true) : (0 ≤ i.d ∧ i.d ≤ 15) ∧ (0 ≤ i.s ∧ i.s ≤ 15) ∧ (0 ≤ i.t ∧ i.t ≤ 15) := by
  unfold okI at h
  generalize formOf i.op = f at h
  cases f <;> simp only [okF, Bool.and_eq_true] at h <;>
    first
    | exact ⟨by first | exact regB_in (by simp only [h]) | exact zB_in (by simp only [h]), by first | exact regB_in (by simp only [h]) | exact zB_in (by simp only [h]), by first | exact regB_in (by simp only [h]) | exact zB_in (by simp only [h])⟩
    | (cases h; done)
theorem ok_mulx {i : Ins} (h : okI i = true) (ho : i.op = 19) : i.d ≠ i.s := by
  unfold okI at h
  have e : formOf i.op = .dst := by rw [ho]; rfl
  rw [e] at h
  simp only [okF, Bool.and_eq_true, decide_eq_true_eq] at h
  exact h.1.1.2.2
theorem ok_shift {i : Ins} (h : okI i = true) (ho : i.op = 24 ∨ i.op = 25) : 1 ≤ i.im ∧ i.im ≤ 63 := by
  unfold okI at h
  have e : formOf i.op = .db := by rcases ho with h | h <;> rw [h] <;> rfl
  rw [e] at h
  simp only [okF, Bool.and_eq_true, decide_eq_true_eq] at h
  exact h.2
theorem nat_of {r : Int} (h : 0 ≤ r ∧ r ≤ 15) : ∃ d : Nat, r = (d : Int) ∧ d < 16 := ⟨r.toNat, by omega, by omega⟩
set_option maxRecDepth 100000 in
set_option maxHeartbeats 1000000 in
theorem mvf_l (s : Stt) (hs : s.wf) (i : Ins) (hi : okI i = true) (h : isMv i.op = true) (v : Int) (w : World) : Calls Tryz.prog (mvF i.op) #[.agg s.vs, .agg i.vs, .int .u64 v] w fun e w' => e = .returned (.agg (mvP s i v).vs) ∧ Below w.heap.size w w' := by
  obtain ⟨h1, h2, h3⟩ := ok_regs hi
  obtain ⟨d, hd, hdl⟩ := nat_of h1
  obtain ⟨c, hc, hcl⟩ := nat_of h2
  obtain ⟨f, hf, hfl⟩ := nat_of h3
  have td : i.d.toNat = d := by omega
  have tc : i.s.toNat = c := by omega
  have tf : i.t.toNat = f := by omega
  rcases mv_cases h with h | h | h | h | h | h | h | h | h | h
  · have e : mvP s i v = s.set d v := by unfold mvP; rw [if_pos h, td]
    rw [e, h]; exact mv1_l s i d hdl hd v w
  · have e : mvP s i v = s := by unfold mvP; rw [if_neg (by omega), if_pos h]
    rw [e, h]; exact mv2_l s i v w
  · have e : mvP s i v = s.set d (atI i s) := by unfold mvP; rw [if_neg (by omega), if_neg (by omega), if_pos h, td]
    rw [e, h]; exact mv3_l s i d hdl hd v w
  · have hne := ok_mulx hi h
    have e : mvP s i v = (s.set d (mulH (s.r f) (s.r 2))).set c (mulL (s.r f) (s.r 2)) := by unfold mvP; rw [if_neg (by omega), if_neg (by omega), if_neg (by omega), if_pos h, td, tc, tf]
    rw [e, h]; exact mv4_l s i hs d c f hdl hcl hfl (by omega) hd hc hf v w
  · have e : mvP s i v = s.set 4 (u64 (s.r 4 - 8)) := by unfold mvP; rw [if_neg (by omega), if_neg (by omega), if_neg (by omega), if_neg (by omega), if_pos h]
    rw [e, h]; exact mv5_l s i v w
  · have e : mvP s i v = (s.set 4 (u64 (s.r 4 + 8))).set d v := by unfold mvP; rw [if_neg (by omega), if_neg (by omega), if_neg (by omega), if_neg (by omega), if_neg (by omega), if_pos h, td]
    rw [e, h]; exact mv6_l s i d hdl hd v w
  · have e : mvP s i v = jmpS s i true := by unfold mvP; rw [if_neg (by omega), if_neg (by omega), if_neg (by omega), if_neg (by omega), if_neg (by omega), if_neg (by omega), if_pos h]
    rw [e, h]; exact mv7_l s i v w
  · have e : mvP s i v = jmpS s i (!s.zf) := by unfold mvP; rw [if_neg (by omega), if_neg (by omega), if_neg (by omega), if_neg (by omega), if_neg (by omega), if_neg (by omega), if_neg (by omega), if_pos h]
    rw [e, h]
    cases hz : s.zf with
    | true => exact mv8t s i hz v w
    | false => exact mv8f s i hz v w
  · have e : mvP s i v = jmpS s i s.cf := by unfold mvP; rw [if_neg (by omega), if_neg (by omega), if_neg (by omega), if_neg (by omega), if_neg (by omega), if_neg (by omega), if_neg (by omega), if_neg (by omega), if_pos h]
    rw [e, h]
    cases hz : s.cf with
    | true => exact mv9t s i hz v w
    | false => exact mv9f s i hz v w
  · have e : mvP s i v = { s.set 4 (u64 (s.r 4 + 8)) with pc := v } := by unfold mvP; rw [if_neg (by omega), if_neg (by omega), if_neg (by omega), if_neg (by omega), if_neg (by omega), if_neg (by omega), if_neg (by omega), if_neg (by omega), if_neg (by omega)]
    rw [e, h]; exact mv10_l s i v w
set_option maxRecDepth 100000 in
theorem rkf_l (op : Int) (h : isMv op = false) (h1 : 1 ≤ op) (h33 : op ≤ 33) (a b : Int) (ha : W a) (hb : W b) (hsh : op = 24 ∨ op = 25 → 1 ≤ b ∧ b ≤ 63) (f : Fl) (w : World) :
    Calls Tryz.prog (rkF op) #[.int .u64 a, .int .u64 b, .agg f.vs] w fun e w' => e = .returned (.tuple #[.int .u64 (rkP op a b f).1, .agg (rkP op a b f).2.vs]) ∧ Below w.heap.size w w' := by
  obtain ⟨fc, fo, fz⟩ := f
  rcases rk_cases h h1 h33 with rfl | rfl | rfl | rfl | rfl | rfl | rfl | rfl | rfl | rfl | rfl | rfl | rfl | rfl | rfl | rfl | rfl | rfl | rfl | rfl | rfl | rfl | rfl
  · exact rk1_l a b ha hb fc fo fz w
  · exact rk1_l a b ha hb fc fo fz w
  · exact rk4_l a b ha hb fc fo fz w
  · exact rk5_l a b ha hb fc fo fz w
  · exact rk8_l a b ha hb fc fo fz w
  · exact rk9_l a b ha hb fc fo fz w
  · exact rb1_l a b ha hb fc fo fz w
  · exact rb2_l a b ha hb fc fo fz w
  · exact rb3_l a b ha hb fc fo fz w
  · exact rk10_l a b ha hb fc fo fz w
  · exact rb4_l a b ha hb fc fo fz w
  · exact rk4_l a b ha hb fc fo fz w
  · exact rb1_l a b ha hb fc fo fz w
  · exact rk8_l a b ha hb fc fo fz w
  · exact rk10_l a b ha hb fc fo fz w
  · exact rk6_l a b ha hb fc fo fz w
  · exact rk7_l a b ha hb fc fo fz w
  · exact rk11_l a b ha hb fc fo fz w
  · exact rb7_l a b ha hb fc fo fz w
  · exact rb5_l a b ha hb (hsh (by omega)).1 (hsh (by omega)).2 fc fo fz w
  · exact rb6_l a b ha hb (hsh (by omega)).1 (hsh (by omega)).2 fc fo fz w
  · exact rk2_l a b ha hb fc fo fz w
  · exact rk3_l a b ha hb fc fo fz w
theorem rk_W (op a b : Int) (f : Fl) (ha : W a) (hb : W b) : W (rkP op a b f).1 := by
  have hn : W (notI a) := (xor_W (a := IntKind.u64.max) ⟨by decide, by decide⟩ ha).1
  have hsl : W (shlI a b) := W_mod _
  have hsr : W (shrI a b) := shrI_W ha b
  unfold rkP
  by_cases c0 : op = 1 ∨ op = 2
  · rw [if_pos c0]; exact hb
  rw [if_neg c0]
  by_cases c1 : op = 26
  · rw [if_pos c1]; dsimp only; split <;> assumption
  rw [if_neg c1]
  by_cases c2 : op = 27
  · rw [if_pos c2]; dsimp only; split <;> assumption
  rw [if_neg c2]
  by_cases c3 : op = 6 ∨ op = 15
  · rw [if_pos c3]; exact W_add _ _ _
  rw [if_neg c3]
  by_cases c4 : op = 7
  · rw [if_pos c4]; exact W_add _ _ _
  rw [if_neg c4]
  by_cases c5 : op = 20
  · rw [if_pos c5]; exact W_add _ _ _
  rw [if_neg c5]
  by_cases c6 : op = 21
  · rw [if_pos c6]; exact W_add _ _ _
  rw [if_neg c6]
  by_cases c7 : op = 8 ∨ op = 17
  · rw [if_pos c7]; exact W_sub _ _ _
  rw [if_neg c7]
  by_cases c8 : op = 9
  · rw [if_pos c8]; exact W_sub _ _ _
  rw [if_neg c8]
  by_cases c9 : op = 13 ∨ op = 18
  · rw [if_pos c9]; exact ha
  rw [if_neg c9]
  by_cases c10 : op = 22
  · rw [if_pos c10]; exact W_sub _ _ _
  rw [if_neg c10]
  by_cases c11 : op = 10 ∨ op = 16
  · rw [if_pos c11]; exact (and_W ha hb).1
  rw [if_neg c11]
  by_cases c12 : op = 11
  · rw [if_pos c12]; exact (or_W ha hb).1
  rw [if_neg c12]
  by_cases c13 : op = 12
  · rw [if_pos c13]; exact (xor_W ha hb).1
  rw [if_neg c13]
  by_cases c14 : op = 14
  · rw [if_pos c14]; exact ha
  rw [if_neg c14]
  by_cases c15 : op = 24
  · rw [if_pos c15]; exact hsl
  rw [if_neg c15]
  by_cases c16 : op = 25
  · rw [if_pos c16]; exact hsr
  rw [if_neg c16]
  exact hn
end Sp
end Go.Proofs.YtikbnfhnimjmmaaGreatDoor
