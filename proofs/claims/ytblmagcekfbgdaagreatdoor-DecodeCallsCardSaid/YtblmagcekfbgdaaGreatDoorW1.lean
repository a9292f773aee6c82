/- The document's own first look (layer 7): its cursor, a byte. | The document's own first look (layer 7): rr, a place. | The document's own first look (layer 7): behind a REX. -/
import Derived.Test.YtblmagcekfbgdaaGreatDoorS11
import Derived.Deep.Cut
import Derived.Deep.CutRange
namespace Go.Proofs.YtblmagcekfbgdaaGreatDoor
open Go Go.RowKit
namespace Is
open Nt
set_option linter.unusedVariables false
set_option linter.unusedSimpArgs false
/-- the document's cursor behind j bytes: how many were taken; whether there were enough -/
abbrev Cr (w : World) (C : Nat) (s : ByteArray) (j : Nat) : Prop := Bk w C 47 #[.string s, .int .i64 ((min j s.size : Nat) : Int), .bool (decide (j ≤ s.size))]
set_option maxRecDepth 100000 in
set_option maxHeartbeats 2000000 in
theorem rbyte_c (C j : Nat) (s : ByteArray) (w : World) (hC : Cr w C s j) (hs : s.size ≤ 1000000) :
    Calls Tryz.prog 29 #[.pointer (some ⟨C, 0, none⟩)] w fun e w' =>
      e = .returned (.int .i64 (bA s j)) ∧ Cr w' C s (j + 1) ∧ Mu [C] w w' := by
  unfold Cr at hC ⊢
  rcases Nat.lt_or_ge j s.size with hlt | hge
  · have e1 : (min j s.size : Nat) = j := by omega
    have e2 : (min (j + 1) s.size : Nat) = j + 1 := by omega
    have e3 : decide (j ≤ s.size) = true := by simp; omega
    have e4 : decide (j + 1 ≤ s.size) = true := by simp; omega
    rw [e1, e3] at hC
    rw [e2, e4]
    have HC := Lib.hid hC
    have HV := Lib.hid (bA_at hlt)
    have hj : (j : Int) < (s.size : Int) := by omega
    have hj0 : (0 : Int) ≤ (j : Int) := by omega
    have hs1 : (s.size : Int) ≤ 1000000 := by omega
    have c0 : w.cell? ⟨C, 0, none⟩ = some (.string s) := HC.out.cell 0
    have c1 : w.cell? ⟨C, 1, none⟩ = some (.int .i64 (j : Int)) := HC.out.cell 1
    have f1 : w.frozen? ⟨C, 1, none⟩ = false := HC.out.frozen 1
    clear hC e1 e2 e3 e4
    go_enter Tryz.func29, Tryz.ntmps29
    go_wp2_with fail
    go_quiet (fail)
    go_wp2_with fail
    generalize hW : World.setCell _ _ _ = W2
    have HC2 : Hid (Bk W2 C 47 #[.string s, .int .i64 ((j : Int) + 1), .bool true]) := Lib.hid (by rw [← hW]; exact Bk.set_ (HC.out.drewN _) 1 _)
    have HM2 : Hid (Mu [C] w W2) := Lib.hid (by rw [← hW]; exact ((Mu.refl _ w).drewN _).set_ _ (fun _ => by simp) _)
    clear hW c0 c1 f1
    have d0 : W2.cell? ⟨C, 0, none⟩ = some (.string s) := HC2.out.cell 0
    have d1 : W2.cell? ⟨C, 1, none⟩ = some (.int .i64 ((j : Int) + 1)) := HC2.out.cell 1
    have ej : (j : Int) + 1 - 1 = (j : Int) := by omega
    go_quiet (fail)
    go_wp2_with fail
    have hbb := bA_bb s j
    have ew : wrap64 (((s[j]'hlt).toNat : Nat) : Int) = bA s j := by rw [HV.out]; exact w64i (by omega) (by omega)
    rw [ew]
    go_ret
    exact ⟨rfl, by push_cast; exact HC2.out.drewN _, HM2.out.drewN _⟩
  · have e1 : (min j s.size : Nat) = s.size := by omega
    have e2 : (min (j + 1) s.size : Nat) = s.size := by omega
    have e4 : decide (j + 1 ≤ s.size) = false := by simp; omega
    rw [e1] at hC
    rw [e2, e4, bA_ge hge]
    generalize decide (j ≤ s.size) = ok at hC
    have HC := Lib.hid hC
    have c0 : w.cell? ⟨C, 0, none⟩ = some (.string s) := HC.out.cell 0
    have c1 : w.cell? ⟨C, 1, none⟩ = some (.int .i64 (s.size : Int)) := HC.out.cell 1
    have c2 : w.cell? ⟨C, 2, none⟩ = some (.bool ok) := HC.out.cell 2
    have f1 : w.frozen? ⟨C, 1, none⟩ = false := HC.out.frozen 1
    have f2 : w.frozen? ⟨C, 2, none⟩ = false := HC.out.frozen 2
    clear hC e1 e2 e4
    go_enter Tryz.func29, Tryz.ntmps29
    go_wp2_with fail
    go_quiet (fail)
    go_wp2_with fail
    go_ret
    exact ⟨rfl, Bk.set_ (HC.out.drewN _) 2 _, ((Mu.refl _ w).drewN _).set_ _ (fun _ => by simp) _⟩
theorem u64w (z : Int) : IntKind.u64.wrap z = z % 18446744073709551616 := by simp [IntKind.wrap, IntKind.bits, IntKind.signed]
theorem or_u64 (m n i : Nat) (hm : m < 2 ^ i) (hn : n % 2 ^ i = 0) (hs : m + n < 18446744073709551616) : bits .or .u64 (m : Int) (n : Int) = (m : Int) + (n : Int) := by
  show IntKind.u64.wrap ((BitVec.ofInt 64 (m : Int) ||| BitVec.ofInt 64 (n : Int)).toNat : Int) = _
  rw [BitVec.toNat_or, ofInt_u64 m (by omega), ofInt_u64 n (by omega), Nat.or_comm, nat_join i n m hn hm, u64w]
  omega
theorem step_u64 {B : Nat → Int} (h : BB B) (k j : Nat) (hj : j ≤ 7) : bits .or .u64 (lowB B k j) (IntKind.u64.wrap (B (k + j) * 2 ^ (8 * j))) = lowB B k (j + 1) := by
  have hl := low_b h k j
  have hb := h (k + j)
  have h7 : (256 : Nat) ^ j ≤ 256 ^ 7 := Nat.pow_le_pow_right (by decide) hj
  have h7' : (256 : Nat) ^ 7 = 72057594037927936 := by decide
  have hc : ((256 ^ j : Nat) : Int) = (256 : Int) ^ j := Int.natCast_pow 256 j
  obtain ⟨m, hm⟩ := Int.eq_ofNat_of_zero_le hl.1
  obtain ⟨b, hbb⟩ := Int.eq_ofNat_of_zero_le hb.1
  have hm1 : m < 256 ^ j := by rw [← hc, hm] at hl; omega
  have hb1 : b ≤ 255 := by omega
  have hbp : b * 256 ^ j ≤ 255 * 256 ^ j := Nat.mul_le_mul_right _ hb1
  have e2 : B (k + j) * 2 ^ (8 * j) = ((b * 256 ^ j : Nat) : Int) := by rw [pow256i, hbb, ← hc, ← Int.natCast_mul]
  have e3 : lowB B k (j + 1) = (m : Int) + ((b * 256 ^ j : Nat) : Int) := by
    show lowB B k j + B (k + j) * 256 ^ j = _
    rw [hm, hbb, ← hc, ← Int.natCast_mul]
  have e4 : IntKind.u64.wrap ((b * 256 ^ j : Nat) : Int) = ((b * 256 ^ j : Nat) : Int) := by rw [u64w]; omega
  rw [e2, e3, e4, hm]
  exact or_u64 m (b * 256 ^ j) (8 * j) (by rw [pow256]; exact hm1) (by rw [pow256]; exact Nat.mul_mod_left _ _) (by omega)
set_option maxRecDepth 100000 in
theorem num_shift_u {B : Nat → Int} (h : BB B) (k n : Nat) (hn : n = 0 ∨ n = 1 ∨ n = 4 ∨ n = 8) : wrap64 (IntKind.u64.wrap (lowB B k n * 2 ^ (64 - 8 * n))) / 2 ^ (64 - 8 * n) = numB B k n := by
  have hl := low_b h k n
  unfold numB sgnB
  rw [u64w]
  generalize lowB B k n = z at *
  rcases hn with rfl | rfl | rfl | rfl
  · have e : (256 : Int) ^ 0 = 1 := rfl
    rw [e] at hl ⊢
    obtain rfl : z = 0 := by omega
    rw [Int.zero_mul, Int.zero_emod, w64i (z := 0) (by decide) (by decide), if_pos (by decide), Int.zero_ediv]
  · have e1 : (2 : Int) ^ (64 - 8 * 1) = 72057594037927936 := by decide
    rw [p1] at hl ⊢
    rw [e1]
    unfold wrap64
    split <;> omega
  · have e1 : (2 : Int) ^ (64 - 8 * 4) = 4294967296 := by decide
    rw [p4] at hl ⊢
    rw [e1]
    unfold wrap64
    split <;> omega
  · have e1 : (2 : Int) ^ (64 - 8 * 8) = 1 := by decide
    rw [p8] at hl ⊢
    rw [e1]
    unfold wrap64
    split <;> omega
set_option maxRecDepth 100000 in
set_option maxHeartbeats 4000000 in
theorem rnumber_c (C k n : Nat) (s : ByteArray) (w : World) (hC : Cr w C s k) (hs : s.size ≤ 1000000) (hn : n = 0 ∨ n = 1 ∨ n = 4 ∨ n = 8) :
    Calls Tryz.prog 30 #[.pointer (some ⟨C, 0, none⟩), .int .i64 (n : Int)] w fun e w' =>
      e = .returned (.int .i64 (numB (bA s) k n)) ∧ Cr w' C s (k + n) ∧ Mu [C] w w' := by
  have HC := Lib.hid hC
  have HN := Lib.hid hn
  have hn8 : (n : Int) ≤ 8 := by omega
  have hn0 : (0 : Int) ≤ (n : Int) := by omega
  clear hC hn
  go_enter Tryz.func30, Tryz.ntmps30
  go_wp2_with fail
  go_loopw [5, 6] (fun v i W => ∃ (j : Nat), j ≤ n ∧ v = .int .u64 (lowB (bA s) k j) ∧ i = .int .i64 (j : Int) ∧ Hid (Cr W C s (k + j)) ∧ Hid (Mu [C] w W)) (fun _ i _ => n - (intOf i).toNat)
  case atStart => exact ⟨0, by omega, rfl, rfl, HC, Lib.hid (Mu.refl _ _)⟩
  case round =>
    obtain ⟨j, hj, rfl, rfl, H1, H4⟩ := hrel
    rcases Nat.lt_or_ge j n with hjn | hjn
    · have e1 : (j : Int) < (n : Int) := by omega
      have e0 : (0 : Int) ≤ (j : Int) := by omega
      have e8 : (j : Int) ≤ 7 := by omega
      have HB := Lib.hid (rbyte_c C (k + j) s wr H1.out hs)
      have hbb := bA_bb s (k + j)
      have b0 := hbb.1
      have b1 := hbb.2
      have hlo := low_b (bA_bb s) k j
      generalize hbe : bA s (k + j) = b at *
      generalize hle : lowB (bA s) k j = lw at *
      go_wp2_with fail
      go_at_call 29
      refine HB.out.mono ?_
      rintro e w2 ⟨rfl, h1, h3⟩
      have HCw := Lib.hid h1
      have HMw := Lib.hid h3
      clear h1 h3 HB hbb
      go_wp2_with fail
      refine ⟨⟨j + 1, by omega, ?_, by push_cast; rfl, by rw [← Nat.add_assoc]; exact HCw, Lib.hid (H4.out.trans HMw.out (fun x hx _ => hx))⟩, by simp [intOf]; omega⟩
      rw [← hle, ← hbe, step_u64 (bA_bb s) k j (by omega)]
    · have hje : j = n := by omega
      subst hje
      have HSH := Lib.hid (num_shift_u (bA_bb s) k j HN.out)
      go_wp2_with fail
      rw [HSH.out]
      go_ret
      exact ⟨rfl, H1.out, H4.out⟩
end Is
end Go.Proofs.YtblmagcekfbgdaaGreatDoor
namespace Go.Proofs.YtblmagcekfbgdaaGreatDoor
open Go Go.RowKit
namespace Is
open Nt
set_option linter.unusedVariables false
set_option linter.unusedSimpArgs false
set_option maxRecDepth 100000 in
set_option maxHeartbeats 2000000 in
theorem rr_c (b : Int) (w : World) : Calls Tryz.prog 48 #[.int .i64 b] w fun e w' => e = .returned (.int .i64 (rrO b)) ∧ w' = w := by
  go_enter Tryz.func48, Tryz.ntmps48
  go_wp2_with fail
  all_goals go_ret
  all_goals refine ⟨?_, rfl⟩
  all_goals first | rfl | (simp_all [rrO]; done) | (unfold rrO; simp_all; done)
/-- place's own blocks: its answer, the place -/
structure Pk (C : Nat) (s : ByteArray) (w : World) (j : Nat) (b x sc di : Int) (W : World) : Prop where
  c : Cr W C s j
  r : Bk W w.heap.size 24 #[.int .i64 0, .int .i64 0, .int .i64 0, .int .i64 0]
  p : Bk W (w.heap.size + 1) 24 #[.int .i64 b, .int .i64 x, .int .i64 sc, .int .i64 di]
  m : Mu [C] w W
  l : C < w.heap.size
theorem Pk.new {C j : Nat} {s : ByteArray} {w : World} {b : Int} (h : Cr w C s j) : Pk C s w j b (-1) 1 0 ((w.alloc (.cells #[.int .i64 0, .int .i64 0, .int .i64 0, .int .i64 0] 24)).alloc (.cells #[.int .i64 b, .int .i64 (-1), .int .i64 1, .int .i64 0] 24)) :=
  ⟨(h.alloc _).alloc _, (Bk.new _ _ _).alloc _, Bk.new' (by simp), ((Mu.refl _ w).alloc _).alloc _, h.lt⟩
theorem Pk.go {C j j' : Nat} {s : ByteArray} {w W X : World} {b x sc di : Int} (h : Pk C s w j b x sc di W) (hc : Cr X C s j') (hm : Mu [C] W X) : Pk C s w j' b x sc di X :=
  ⟨hc, hm.bk h.r (by have := h.l; simp; omega), hm.bk h.p (by have := h.l; simp; omega), h.m.trans hm (fun q hq _ => hq), h.l⟩
theorem Pk.base {C j : Nat} {s : ByteArray} {w W : World} {b x sc di : Int} (h : Pk C s w j b x sc di W) (v : Int) : Pk C s w j v x sc di (W.setCell ⟨w.heap.size + 1, 0, none⟩ (.int .i64 v)) :=
  ⟨h.c.far (show C ≠ w.heap.size + 1 from by have := h.l; omega) _, h.r.far (show w.heap.size ≠ w.heap.size + 1 from by omega) _, h.p.set_ 0 _, h.m.set_ _ (fun h' => by have h2 : w.heap.size + 1 < w.heap.size := h'; omega) _, h.l⟩
theorem Pk.idx {C j : Nat} {s : ByteArray} {w W : World} {b x sc di : Int} (h : Pk C s w j b x sc di W) (v u : Int) : Pk C s w j b v u di ((W.setCell ⟨w.heap.size + 1, 1, none⟩ (.int .i64 v)).setCell ⟨w.heap.size + 1, 2, none⟩ (.int .i64 u)) :=
  ⟨(h.c.far (show C ≠ w.heap.size + 1 from by have := h.l; omega) _).far (show C ≠ w.heap.size + 1 from by have := h.l; omega) _, (h.r.far (show w.heap.size ≠ w.heap.size + 1 from by omega) _).far (show w.heap.size ≠ w.heap.size + 1 from by omega) _, (h.p.set_ 1 _).set_ 2 _, (h.m.set_ _ (fun h' => by have h2 : w.heap.size + 1 < w.heap.size := h'; omega) _).set_ _ (fun h' => by have h2 : w.heap.size + 1 < w.heap.size := h'; omega) _, h.l⟩
theorem Pk.disp {C j : Nat} {s : ByteArray} {w W : World} {b x sc di : Int} (h : Pk C s w j b x sc di W) (v : Int) : Pk C s w j b x sc v (W.setCell ⟨w.heap.size + 1, 3, none⟩ (.int .i64 v)) :=
  ⟨h.c.far (show C ≠ w.heap.size + 1 from by have := h.l; omega) _, h.r.far (show w.heap.size ≠ w.heap.size + 1 from by omega) _, h.p.set_ 3 _, h.m.set_ _ (fun h' => by have h2 : w.heap.size + 1 < w.heap.size := h'; omega) _, h.l⟩
theorem Pk.ret {C j : Nat} {s : ByteArray} {w W : World} {b x sc di : Int} (h : Pk C s w j b x sc di W) {fn : Func} {p : Tmp} {a : Act} {E : Nat} {X : Array Value} (hf : fn.results = #[.cell p 24]) (hp : a.tmps.getD p undef = .pointer (some ⟨w.heap.size, 0, none⟩)) (hd : a.defers = []) (hX : X = #[.int .i64 b, .int .i64 x, .int .i64 sc, .int .i64 di]) (hE : E = j) :
    bodyPost Tryz.prog fn (fun e w' => e = .returned (.agg X) ∧ Cr w' C s E ∧ Mu [C] w w') .ret a ((((W.setCell ⟨w.heap.size, 0, none⟩ (.int .i64 b)).setCell ⟨w.heap.size, 1, none⟩ (.int .i64 x)).setCell ⟨w.heap.size, 2, none⟩ (.int .i64 sc)).setCell ⟨w.heap.size, 3, none⟩ (.int .i64 di)) := by
  subst hX hE
  have hl := h.l
  have hn : C ≠ w.heap.size := by omega
  have ha : ∀ q : Addr, q.block = w.heap.size → q.block < w.heap.size → q.block ∈ [C] := fun q h1 h2 => by omega
  exact bodyPost_ret (results_cell_row hf _ _ w.heap.size 24 #[.int .i64 b, .int .i64 x, .int .i64 sc, .int .i64 di] (0, 0) _ hp ((((h.r.set_ 0 _).set_ 1 _).set_ 2 _).set_ 3 _) Tryz.underlying24 rfl (by kernel_rfl)) hd ⟨rfl, (((h.c.far hn _).far hn _).far hn _).far hn _, (((h.m.set_ _ (ha _ rfl) _).set_ _ (ha _ rfl) _).set_ _ (ha _ rfl) _).set_ _ (ha _ rfl) _⟩
set_option maxRecDepth 100000 in
set_option maxHeartbeats 4000000 in
theorem rplace_c (C k : Nat) (r : Int) (s : ByteArray) (w : World) (hC : Cr w C s (k + 1)) (hs : s.size ≤ 1000000) (hr : 0 ≤ r ∧ r ≤ 255) :
    Calls Tryz.prog 47 #[.pointer (some ⟨C, 0, none⟩), .int .i64 r, .int .i64 (bA s k)] w fun e w' =>
      e = .returned (.agg #[.int .i64 (plBase (bA s) k + rxL r), .int .i64 (rpX (bA s) k r), .int .i64 (rpS (bA s) k r), .int .i64 (rpD (bA s) k)]) ∧ Cr w' C s (rpE (bA s) k) ∧ Mu [C] w w' := by
  have hbb := bA_bb s k
  have b0 := hbb.1
  have b1 := hbb.2
  have r0 := hr.1
  have r1 := hr.2
  have HC := Lib.hid hC
  have HBY := Lib.hid (fun W (h : Cr W C s (k + 1)) => rbyte_c C (k + 1) s W h hs)
  clear hC hbb hr
  by_cases h4 : bA s k % 8 = 4
  · have e4 : sibN (bA s k) = 1 := by unfold sibN; rw [if_pos h4]
    have HP0 := Lib.hid (Pk.new HC.out (b := 4 + r % 2 * 8))
    have HNU := Lib.hid (fun n W (h : Cr W C s (k + 2)) hn => rnumber_c C (k + 2) n s W h hs hn)
    have HBP : Hid (plBase (bA s) k + rxL r = bA s (k + 1) % 8 + r % 2 * 8) := Lib.hid (by unfold plBase rxL; rw [if_pos h4])
    have HXP : Hid (rpX (bA s) k r = if bA s (k + 1) / 8 % 8 ≠ 4 ∨ r / 2 % 2 = 1 then bA s (k + 1) / 8 % 8 + r / 2 % 2 * 8 else -1) := Lib.hid (by unfold rpX rxX; rw [if_pos h4])
    have HSP : Hid (rpS (bA s) k r = if bA s (k + 1) / 8 % 8 ≠ 4 ∨ r / 2 % 2 = 1 then 2 ^ (bA s (k + 1) / 64).toNat else 1) := Lib.hid (by unfold rpS; rw [if_pos h4])
    rw [HBP.out, HXP.out, HSP.out]
    unfold rpD rpE
    rw [e4]
    clear HBP HXP HSP e4
    have hcc := bA_bb s (k + 1)
    have c0 := hcc.1
    have c1 := hcc.2
    obtain ⟨cb, hcb⟩ : ∃ c, bA s (k + 1) = c := ⟨_, rfl⟩
    rw [hcb] at c0 c1 ⊢
    have HCB := Lib.hid hcb
    clear hcb hcc
    generalize bA s k = b at *
    have c64 : cb / 64 ≤ 3 := by omega
    have hsh : (cb / 64).toNat ≤ 3 := by omega
    obtain ⟨X, hX⟩ : ∃ X : Int, (if cb / 8 % 8 ≠ 4 ∨ r / 2 % 2 = 1 then cb / 8 % 8 + r / 2 % 2 * 8 else -1) = X := ⟨_, rfl⟩
    obtain ⟨S, hS⟩ : ∃ S : Int, (if cb / 8 % 8 ≠ 4 ∨ r / 2 % 2 = 1 then 2 ^ (cb / 64).toNat else 1) = S := ⟨_, rfl⟩
    rw [hX, hS]
    have HX := Lib.hid hX
    have HSS := Lib.hid hS
    clear hX hS
    have HW2 : Hid (wrap64 (2 ^ (cb / 64).toNat) = 2 ^ (cb / 64).toNat) := Lib.hid (by rcases (show (cb / 64).toNat = 0 ∨ (cb / 64).toNat = 1 ∨ (cb / 64).toNat = 2 ∨ (cb / 64).toNat = 3 from by omega) with h | h | h | h <;> rw [h] <;> exact w64i (by decide) (by decide))
    by_cases d1 : b / 64 = 1
    · rw [show rdN b = 1 from by unfold rdN; rw [if_pos d1]]
      by_cases q1 : cb / 8 % 8 = 4
      · have HQ1 := Lib.hid q1
        by_cases q2 : r / 2 % 2 = 1
        · have HQ2 := Lib.hid q2
          have q2b : (r / 2 % 2 == 1) = true := by rw [beq_iff_eq]; exact q2
          go_enter Tryz.func47, Tryz.ntmps47
          go_wp2_with fail
          go_at_call 29
          refine (HBY.out _ HP0.out.c).mono ?_
          rintro e w1 ⟨rfl, h1, h3⟩
          rw [HCB.out]
          have HP1 := Lib.hid (HP0.out.go h1 h3)
          clear h1 h3 HP0
          have p0 : w1.cell? ⟨w.heap.size + 1, 0, none⟩ = some (.int .i64 (4 + r % 2 * 8)) := HP1.out.p.cell 0
          have f0 := HP1.out.p.frozen 0
          go_upto_region 5 with fail
          have HP2 := Lib.hid (HP1.out.base (cb % 8 + r % 2 * 8))
          generalize World.setCell _ _ _ = w2 at *
          clear HP1 p0 f0
          have p1 : w2.cell? ⟨w.heap.size + 1, 1, none⟩ = some (.int .i64 (-1)) := HP2.out.p.cell 1
          have p2 : w2.cell? ⟨w.heap.size + 1, 2, none⟩ = some (.int .i64 1) := HP2.out.p.cell 2
          have f1 := HP2.out.p.frozen 1
          have f2 := HP2.out.p.frozen 2
          go_upto_region 7 with fail
          have HP3 : Hid (Pk C s w (k + 2) (cb % 8 + r % 2 * 8) X S 0 _) := Lib.hid (by have h := HP2.out.idx 12 (wrap64 (2 ^ (cb / 64).toNat)); rw [← HX.out, ← HSS.out, if_pos (.inr HQ2.out), if_pos (.inr HQ2.out), HQ1.out, HQ2.out, show (4 : Int) + 1 * 8 = 12 from rfl, ← HW2.out]; exact h)
          generalize World.setCell (World.setCell _ _ _) _ _ = w3 at *
          clear HP2 p1 p2 f1 f2
          clear HX HSS
          go_wp2_with fail
          go_at_call 30
          refine (HNU.out 1 _ HP3.out.c (by omega)).mono ?_
          rintro e w4 ⟨rfl, h1, h3⟩
          have HP4 := Lib.hid (HP3.out.go h1 h3)
          clear h1 h3 HP3 HNU HBY
          generalize hnb : numB (bA s) (k + 2) 1 = nb at *
          have m0 : w4.cell? ⟨w.heap.size + 1, 0, none⟩ = some (.int .i64 (cb % 8 + r % 2 * 8)) := HP4.out.p.cell 0
          have ro0 : w4.cell? ⟨w.heap.size, 0, none⟩ = some (.int .i64 0) := HP4.out.r.cell 0
          have rf0 := HP4.out.r.frozen 0
          have m1 : w4.cell? ⟨w.heap.size + 1, 1, none⟩ = some (.int .i64 (X)) := HP4.out.p.cell 1
          have ro1 : w4.cell? ⟨w.heap.size, 1, none⟩ = some (.int .i64 0) := HP4.out.r.cell 1
          have rf1 := HP4.out.r.frozen 1
          have m2 : w4.cell? ⟨w.heap.size + 1, 2, none⟩ = some (.int .i64 (S)) := HP4.out.p.cell 2
          have ro2 : w4.cell? ⟨w.heap.size, 2, none⟩ = some (.int .i64 0) := HP4.out.r.cell 2
          have rf2 := HP4.out.r.frozen 2
          have m3 : w4.cell? ⟨w.heap.size + 1, 3, none⟩ = some (.int .i64 (0)) := HP4.out.p.cell 3
          have ro3 : w4.cell? ⟨w.heap.size, 3, none⟩ = some (.int .i64 0) := HP4.out.r.cell 3
          have rf3 := HP4.out.r.frozen 3
          have f3 := HP4.out.p.frozen 3
          go_wp2_with fail
          exact (HP4.out.disp nb).ret rfl rfl rfl (by rw [show k + 1 + 1 = k + 2 from rfl, hnb]) (by omega)
        · have HQ2 := Lib.hid q2
          have q2b : (r / 2 % 2 == 1) = false := by rw [beq_eq_false_iff_ne]; exact q2
          go_enter Tryz.func47, Tryz.ntmps47
          go_wp2_with fail
          go_at_call 29
          refine (HBY.out _ HP0.out.c).mono ?_
          rintro e w1 ⟨rfl, h1, h3⟩
          rw [HCB.out]
          have HP1 := Lib.hid (HP0.out.go h1 h3)
          clear h1 h3 HP0
          have p0 : w1.cell? ⟨w.heap.size + 1, 0, none⟩ = some (.int .i64 (4 + r % 2 * 8)) := HP1.out.p.cell 0
          have f0 := HP1.out.p.frozen 0
          go_upto_region 5 with fail
          have HP2 := Lib.hid (HP1.out.base (cb % 8 + r % 2 * 8))
          generalize World.setCell _ _ _ = w2 at *
          clear HP1 p0 f0
          go_upto_region 7 with fail
          have HP3 : Hid (Pk C s w (k + 2) (cb % 8 + r % 2 * 8) X S 0 w2) := Lib.hid (by rw [← HX.out, ← HSS.out, if_neg (fun h => h.elim (fun e => e HQ1.out) HQ2.out), if_neg (fun h => h.elim (fun e => e HQ1.out) HQ2.out)]; exact HP2.out)
          clear HP2
          clear HX HSS
          go_wp2_with fail
          go_at_call 30
          refine (HNU.out 1 _ HP3.out.c (by omega)).mono ?_
          rintro e w4 ⟨rfl, h1, h3⟩
          have HP4 := Lib.hid (HP3.out.go h1 h3)
          clear h1 h3 HP3 HNU HBY
          generalize hnb : numB (bA s) (k + 2) 1 = nb at *
          have m0 : w4.cell? ⟨w.heap.size + 1, 0, none⟩ = some (.int .i64 (cb % 8 + r % 2 * 8)) := HP4.out.p.cell 0
          have ro0 : w4.cell? ⟨w.heap.size, 0, none⟩ = some (.int .i64 0) := HP4.out.r.cell 0
          have rf0 := HP4.out.r.frozen 0
          have m1 : w4.cell? ⟨w.heap.size + 1, 1, none⟩ = some (.int .i64 (X)) := HP4.out.p.cell 1
          have ro1 : w4.cell? ⟨w.heap.size, 1, none⟩ = some (.int .i64 0) := HP4.out.r.cell 1
          have rf1 := HP4.out.r.frozen 1
          have m2 : w4.cell? ⟨w.heap.size + 1, 2, none⟩ = some (.int .i64 (S)) := HP4.out.p.cell 2
          have ro2 : w4.cell? ⟨w.heap.size, 2, none⟩ = some (.int .i64 0) := HP4.out.r.cell 2
          have rf2 := HP4.out.r.frozen 2
          have m3 : w4.cell? ⟨w.heap.size + 1, 3, none⟩ = some (.int .i64 (0)) := HP4.out.p.cell 3
          have ro3 : w4.cell? ⟨w.heap.size, 3, none⟩ = some (.int .i64 0) := HP4.out.r.cell 3
          have rf3 := HP4.out.r.frozen 3
          have f3 := HP4.out.p.frozen 3
          go_wp2_with fail
          exact (HP4.out.disp nb).ret rfl rfl rfl (by rw [show k + 1 + 1 = k + 2 from rfl, hnb]) (by omega)
      · have HQ1 := Lib.hid q1
        go_enter Tryz.func47, Tryz.ntmps47
        go_wp2_with fail
        go_at_call 29
        refine (HBY.out _ HP0.out.c).mono ?_
        rintro e w1 ⟨rfl, h1, h3⟩
        rw [HCB.out]
        have HP1 := Lib.hid (HP0.out.go h1 h3)
        clear h1 h3 HP0
        have p0 : w1.cell? ⟨w.heap.size + 1, 0, none⟩ = some (.int .i64 (4 + r % 2 * 8)) := HP1.out.p.cell 0
        have f0 := HP1.out.p.frozen 0
        go_upto_region 5 with fail
        have HP2 := Lib.hid (HP1.out.base (cb % 8 + r % 2 * 8))
        generalize World.setCell _ _ _ = w2 at *
        clear HP1 p0 f0
        have p1 : w2.cell? ⟨w.heap.size + 1, 1, none⟩ = some (.int .i64 (-1)) := HP2.out.p.cell 1
        have p2 : w2.cell? ⟨w.heap.size + 1, 2, none⟩ = some (.int .i64 1) := HP2.out.p.cell 2
        have f1 := HP2.out.p.frozen 1
        have f2 := HP2.out.p.frozen 2
        go_upto_region 7 with fail
        have HP3 : Hid (Pk C s w (k + 2) (cb % 8 + r % 2 * 8) X S 0 _) := Lib.hid (by have h := HP2.out.idx (cb / 8 % 8 + r / 2 % 2 * 8) (wrap64 (2 ^ (cb / 64).toNat)); rw [← HX.out, ← HSS.out, if_pos (.inl HQ1.out), if_pos (.inl HQ1.out), ← HW2.out]; exact h)
        generalize World.setCell (World.setCell _ _ _) _ _ = w3 at *
        clear HP2 p1 p2 f1 f2
        clear HX HSS
        go_wp2_with fail
        go_at_call 30
        refine (HNU.out 1 _ HP3.out.c (by omega)).mono ?_
        rintro e w4 ⟨rfl, h1, h3⟩
        have HP4 := Lib.hid (HP3.out.go h1 h3)
        clear h1 h3 HP3 HNU HBY
        generalize hnb : numB (bA s) (k + 2) 1 = nb at *
        have m0 : w4.cell? ⟨w.heap.size + 1, 0, none⟩ = some (.int .i64 (cb % 8 + r % 2 * 8)) := HP4.out.p.cell 0
        have ro0 : w4.cell? ⟨w.heap.size, 0, none⟩ = some (.int .i64 0) := HP4.out.r.cell 0
        have rf0 := HP4.out.r.frozen 0
        have m1 : w4.cell? ⟨w.heap.size + 1, 1, none⟩ = some (.int .i64 (X)) := HP4.out.p.cell 1
        have ro1 : w4.cell? ⟨w.heap.size, 1, none⟩ = some (.int .i64 0) := HP4.out.r.cell 1
        have rf1 := HP4.out.r.frozen 1
        have m2 : w4.cell? ⟨w.heap.size + 1, 2, none⟩ = some (.int .i64 (S)) := HP4.out.p.cell 2
        have ro2 : w4.cell? ⟨w.heap.size, 2, none⟩ = some (.int .i64 0) := HP4.out.r.cell 2
        have rf2 := HP4.out.r.frozen 2
        have m3 : w4.cell? ⟨w.heap.size + 1, 3, none⟩ = some (.int .i64 (0)) := HP4.out.p.cell 3
        have ro3 : w4.cell? ⟨w.heap.size, 3, none⟩ = some (.int .i64 0) := HP4.out.r.cell 3
        have rf3 := HP4.out.r.frozen 3
        have f3 := HP4.out.p.frozen 3
        go_wp2_with fail
        exact (HP4.out.disp nb).ret rfl rfl rfl (by rw [show k + 1 + 1 = k + 2 from rfl, hnb]) (by omega)
    · by_cases d2 : b / 64 = 2
      · rw [show rdN b = 4 from by unfold rdN; rw [if_neg d1, if_pos d2]]
        by_cases q1 : cb / 8 % 8 = 4
        · have HQ1 := Lib.hid q1
          by_cases q2 : r / 2 % 2 = 1
          · have HQ2 := Lib.hid q2
            have q2b : (r / 2 % 2 == 1) = true := by rw [beq_iff_eq]; exact q2
            go_enter Tryz.func47, Tryz.ntmps47
            go_wp2_with fail
            go_at_call 29
            refine (HBY.out _ HP0.out.c).mono ?_
            rintro e w1 ⟨rfl, h1, h3⟩
            rw [HCB.out]
            have HP1 := Lib.hid (HP0.out.go h1 h3)
            clear h1 h3 HP0
            have p0 : w1.cell? ⟨w.heap.size + 1, 0, none⟩ = some (.int .i64 (4 + r % 2 * 8)) := HP1.out.p.cell 0
            have f0 := HP1.out.p.frozen 0
            go_upto_region 5 with fail
            have HP2 := Lib.hid (HP1.out.base (cb % 8 + r % 2 * 8))
            generalize World.setCell _ _ _ = w2 at *
            clear HP1 p0 f0
            have p1 : w2.cell? ⟨w.heap.size + 1, 1, none⟩ = some (.int .i64 (-1)) := HP2.out.p.cell 1
            have p2 : w2.cell? ⟨w.heap.size + 1, 2, none⟩ = some (.int .i64 1) := HP2.out.p.cell 2
            have f1 := HP2.out.p.frozen 1
            have f2 := HP2.out.p.frozen 2
            go_upto_region 7 with fail
            have HP3 : Hid (Pk C s w (k + 2) (cb % 8 + r % 2 * 8) X S 0 _) := Lib.hid (by have h := HP2.out.idx 12 (wrap64 (2 ^ (cb / 64).toNat)); rw [← HX.out, ← HSS.out, if_pos (.inr HQ2.out), if_pos (.inr HQ2.out), HQ1.out, HQ2.out, show (4 : Int) + 1 * 8 = 12 from rfl, ← HW2.out]; exact h)
            generalize World.setCell (World.setCell _ _ _) _ _ = w3 at *
            clear HP2 p1 p2 f1 f2
            clear HX HSS
            go_wp2_with fail
            go_at_call 30
            refine (HNU.out 4 _ HP3.out.c (by omega)).mono ?_
            rintro e w4 ⟨rfl, h1, h3⟩
            have HP4 := Lib.hid (HP3.out.go h1 h3)
            clear h1 h3 HP3 HNU HBY
            generalize hnb : numB (bA s) (k + 2) 4 = nb at *
            have m0 : w4.cell? ⟨w.heap.size + 1, 0, none⟩ = some (.int .i64 (cb % 8 + r % 2 * 8)) := HP4.out.p.cell 0
            have ro0 : w4.cell? ⟨w.heap.size, 0, none⟩ = some (.int .i64 0) := HP4.out.r.cell 0
            have rf0 := HP4.out.r.frozen 0
            have m1 : w4.cell? ⟨w.heap.size + 1, 1, none⟩ = some (.int .i64 (X)) := HP4.out.p.cell 1
            have ro1 : w4.cell? ⟨w.heap.size, 1, none⟩ = some (.int .i64 0) := HP4.out.r.cell 1
            have rf1 := HP4.out.r.frozen 1
            have m2 : w4.cell? ⟨w.heap.size + 1, 2, none⟩ = some (.int .i64 (S)) := HP4.out.p.cell 2
            have ro2 : w4.cell? ⟨w.heap.size, 2, none⟩ = some (.int .i64 0) := HP4.out.r.cell 2
            have rf2 := HP4.out.r.frozen 2
            have m3 : w4.cell? ⟨w.heap.size + 1, 3, none⟩ = some (.int .i64 (0)) := HP4.out.p.cell 3
            have ro3 : w4.cell? ⟨w.heap.size, 3, none⟩ = some (.int .i64 0) := HP4.out.r.cell 3
            have rf3 := HP4.out.r.frozen 3
            have f3 := HP4.out.p.frozen 3
            go_wp2_with fail
            exact (HP4.out.disp nb).ret rfl rfl rfl (by rw [show k + 1 + 1 = k + 2 from rfl, hnb]) (by omega)
          · have HQ2 := Lib.hid q2
            have q2b : (r / 2 % 2 == 1) = false := by rw [beq_eq_false_iff_ne]; exact q2
            go_enter Tryz.func47, Tryz.ntmps47
            go_wp2_with fail
            go_at_call 29
            refine (HBY.out _ HP0.out.c).mono ?_
            rintro e w1 ⟨rfl, h1, h3⟩
            rw [HCB.out]
            have HP1 := Lib.hid (HP0.out.go h1 h3)
            clear h1 h3 HP0
            have p0 : w1.cell? ⟨w.heap.size + 1, 0, none⟩ = some (.int .i64 (4 + r % 2 * 8)) := HP1.out.p.cell 0
            have f0 := HP1.out.p.frozen 0
            go_upto_region 5 with fail
            have HP2 := Lib.hid (HP1.out.base (cb % 8 + r % 2 * 8))
            generalize World.setCell _ _ _ = w2 at *
            clear HP1 p0 f0
            go_upto_region 7 with fail
            have HP3 : Hid (Pk C s w (k + 2) (cb % 8 + r % 2 * 8) X S 0 w2) := Lib.hid (by rw [← HX.out, ← HSS.out, if_neg (fun h => h.elim (fun e => e HQ1.out) HQ2.out), if_neg (fun h => h.elim (fun e => e HQ1.out) HQ2.out)]; exact HP2.out)
            clear HP2
            clear HX HSS
            go_wp2_with fail
            go_at_call 30
            refine (HNU.out 4 _ HP3.out.c (by omega)).mono ?_
            rintro e w4 ⟨rfl, h1, h3⟩
            have HP4 := Lib.hid (HP3.out.go h1 h3)
            clear h1 h3 HP3 HNU HBY
            generalize hnb : numB (bA s) (k + 2) 4 = nb at *
            have m0 : w4.cell? ⟨w.heap.size + 1, 0, none⟩ = some (.int .i64 (cb % 8 + r % 2 * 8)) := HP4.out.p.cell 0
            have ro0 : w4.cell? ⟨w.heap.size, 0, none⟩ = some (.int .i64 0) := HP4.out.r.cell 0
            have rf0 := HP4.out.r.frozen 0
            have m1 : w4.cell? ⟨w.heap.size + 1, 1, none⟩ = some (.int .i64 (X)) := HP4.out.p.cell 1
            have ro1 : w4.cell? ⟨w.heap.size, 1, none⟩ = some (.int .i64 0) := HP4.out.r.cell 1
            have rf1 := HP4.out.r.frozen 1
            have m2 : w4.cell? ⟨w.heap.size + 1, 2, none⟩ = some (.int .i64 (S)) := HP4.out.p.cell 2
            have ro2 : w4.cell? ⟨w.heap.size, 2, none⟩ = some (.int .i64 0) := HP4.out.r.cell 2
            have rf2 := HP4.out.r.frozen 2
            have m3 : w4.cell? ⟨w.heap.size + 1, 3, none⟩ = some (.int .i64 (0)) := HP4.out.p.cell 3
            have ro3 : w4.cell? ⟨w.heap.size, 3, none⟩ = some (.int .i64 0) := HP4.out.r.cell 3
            have rf3 := HP4.out.r.frozen 3
            have f3 := HP4.out.p.frozen 3
            go_wp2_with fail
            exact (HP4.out.disp nb).ret rfl rfl rfl (by rw [show k + 1 + 1 = k + 2 from rfl, hnb]) (by omega)
        · have HQ1 := Lib.hid q1
          go_enter Tryz.func47, Tryz.ntmps47
          go_wp2_with fail
          go_at_call 29
          refine (HBY.out _ HP0.out.c).mono ?_
          rintro e w1 ⟨rfl, h1, h3⟩
          rw [HCB.out]
          have HP1 := Lib.hid (HP0.out.go h1 h3)
          clear h1 h3 HP0
          have p0 : w1.cell? ⟨w.heap.size + 1, 0, none⟩ = some (.int .i64 (4 + r % 2 * 8)) := HP1.out.p.cell 0
          have f0 := HP1.out.p.frozen 0
          go_upto_region 5 with fail
          have HP2 := Lib.hid (HP1.out.base (cb % 8 + r % 2 * 8))
          generalize World.setCell _ _ _ = w2 at *
          clear HP1 p0 f0
          have p1 : w2.cell? ⟨w.heap.size + 1, 1, none⟩ = some (.int .i64 (-1)) := HP2.out.p.cell 1
          have p2 : w2.cell? ⟨w.heap.size + 1, 2, none⟩ = some (.int .i64 1) := HP2.out.p.cell 2
          have f1 := HP2.out.p.frozen 1
          have f2 := HP2.out.p.frozen 2
          go_upto_region 7 with fail
          have HP3 : Hid (Pk C s w (k + 2) (cb % 8 + r % 2 * 8) X S 0 _) := Lib.hid (by have h := HP2.out.idx (cb / 8 % 8 + r / 2 % 2 * 8) (wrap64 (2 ^ (cb / 64).toNat)); rw [← HX.out, ← HSS.out, if_pos (.inl HQ1.out), if_pos (.inl HQ1.out), ← HW2.out]; exact h)
          generalize World.setCell (World.setCell _ _ _) _ _ = w3 at *
          clear HP2 p1 p2 f1 f2
          clear HX HSS
          go_wp2_with fail
          go_at_call 30
          refine (HNU.out 4 _ HP3.out.c (by omega)).mono ?_
          rintro e w4 ⟨rfl, h1, h3⟩
          have HP4 := Lib.hid (HP3.out.go h1 h3)
          clear h1 h3 HP3 HNU HBY
          generalize hnb : numB (bA s) (k + 2) 4 = nb at *
          have m0 : w4.cell? ⟨w.heap.size + 1, 0, none⟩ = some (.int .i64 (cb % 8 + r % 2 * 8)) := HP4.out.p.cell 0
          have ro0 : w4.cell? ⟨w.heap.size, 0, none⟩ = some (.int .i64 0) := HP4.out.r.cell 0
          have rf0 := HP4.out.r.frozen 0
          have m1 : w4.cell? ⟨w.heap.size + 1, 1, none⟩ = some (.int .i64 (X)) := HP4.out.p.cell 1
          have ro1 : w4.cell? ⟨w.heap.size, 1, none⟩ = some (.int .i64 0) := HP4.out.r.cell 1
          have rf1 := HP4.out.r.frozen 1
          have m2 : w4.cell? ⟨w.heap.size + 1, 2, none⟩ = some (.int .i64 (S)) := HP4.out.p.cell 2
          have ro2 : w4.cell? ⟨w.heap.size, 2, none⟩ = some (.int .i64 0) := HP4.out.r.cell 2
          have rf2 := HP4.out.r.frozen 2
          have m3 : w4.cell? ⟨w.heap.size + 1, 3, none⟩ = some (.int .i64 (0)) := HP4.out.p.cell 3
          have ro3 : w4.cell? ⟨w.heap.size, 3, none⟩ = some (.int .i64 0) := HP4.out.r.cell 3
          have rf3 := HP4.out.r.frozen 3
          have f3 := HP4.out.p.frozen 3
          go_wp2_with fail
          exact (HP4.out.disp nb).ret rfl rfl rfl (by rw [show k + 1 + 1 = k + 2 from rfl, hnb]) (by omega)
      · rw [show rdN b = 0 from by unfold rdN; rw [if_neg d1, if_neg d2]]
        by_cases q1 : cb / 8 % 8 = 4
        · have HQ1 := Lib.hid q1
          by_cases q2 : r / 2 % 2 = 1
          · have HQ2 := Lib.hid q2
            have q2b : (r / 2 % 2 == 1) = true := by rw [beq_iff_eq]; exact q2
            go_enter Tryz.func47, Tryz.ntmps47
            go_wp2_with fail
            go_at_call 29
            refine (HBY.out _ HP0.out.c).mono ?_
            rintro e w1 ⟨rfl, h1, h3⟩
            rw [HCB.out]
            have HP1 := Lib.hid (HP0.out.go h1 h3)
            clear h1 h3 HP0
            have p0 : w1.cell? ⟨w.heap.size + 1, 0, none⟩ = some (.int .i64 (4 + r % 2 * 8)) := HP1.out.p.cell 0
            have f0 := HP1.out.p.frozen 0
            go_upto_region 5 with fail
            have HP2 := Lib.hid (HP1.out.base (cb % 8 + r % 2 * 8))
            generalize World.setCell _ _ _ = w2 at *
            clear HP1 p0 f0
            have p1 : w2.cell? ⟨w.heap.size + 1, 1, none⟩ = some (.int .i64 (-1)) := HP2.out.p.cell 1
            have p2 : w2.cell? ⟨w.heap.size + 1, 2, none⟩ = some (.int .i64 1) := HP2.out.p.cell 2
            have f1 := HP2.out.p.frozen 1
            have f2 := HP2.out.p.frozen 2
            go_upto_region 7 with fail
            have HP3 : Hid (Pk C s w (k + 2) (cb % 8 + r % 2 * 8) X S 0 _) := Lib.hid (by have h := HP2.out.idx 12 (wrap64 (2 ^ (cb / 64).toNat)); rw [← HX.out, ← HSS.out, if_pos (.inr HQ2.out), if_pos (.inr HQ2.out), HQ1.out, HQ2.out, show (4 : Int) + 1 * 8 = 12 from rfl, ← HW2.out]; exact h)
            generalize World.setCell (World.setCell _ _ _) _ _ = w3 at *
            clear HP2 p1 p2 f1 f2
            clear HX HSS
            have m0 : w3.cell? ⟨w.heap.size + 1, 0, none⟩ = some (.int .i64 (cb % 8 + r % 2 * 8)) := HP3.out.p.cell 0
            have ro0 : w3.cell? ⟨w.heap.size, 0, none⟩ = some (.int .i64 0) := HP3.out.r.cell 0
            have rf0 := HP3.out.r.frozen 0
            have m1 : w3.cell? ⟨w.heap.size + 1, 1, none⟩ = some (.int .i64 (X)) := HP3.out.p.cell 1
            have ro1 : w3.cell? ⟨w.heap.size, 1, none⟩ = some (.int .i64 0) := HP3.out.r.cell 1
            have rf1 := HP3.out.r.frozen 1
            have m2 : w3.cell? ⟨w.heap.size + 1, 2, none⟩ = some (.int .i64 (S)) := HP3.out.p.cell 2
            have ro2 : w3.cell? ⟨w.heap.size, 2, none⟩ = some (.int .i64 0) := HP3.out.r.cell 2
            have rf2 := HP3.out.r.frozen 2
            have m3 : w3.cell? ⟨w.heap.size + 1, 3, none⟩ = some (.int .i64 (0)) := HP3.out.p.cell 3
            have ro3 : w3.cell? ⟨w.heap.size, 3, none⟩ = some (.int .i64 0) := HP3.out.r.cell 3
            have rf3 := HP3.out.r.frozen 3
            have f3 := HP3.out.p.frozen 3
            go_wp2_with fail
            exact HP3.out.ret rfl rfl rfl (by rw [show numB (bA s) (k + 1 + 1) 0 = 0 from by unfold numB sgnB lowB; simp]) (by omega)
          · have HQ2 := Lib.hid q2
            have q2b : (r / 2 % 2 == 1) = false := by rw [beq_eq_false_iff_ne]; exact q2
            go_enter Tryz.func47, Tryz.ntmps47
            go_wp2_with fail
            go_at_call 29
            refine (HBY.out _ HP0.out.c).mono ?_
            rintro e w1 ⟨rfl, h1, h3⟩
            rw [HCB.out]
            have HP1 := Lib.hid (HP0.out.go h1 h3)
            clear h1 h3 HP0
            have p0 : w1.cell? ⟨w.heap.size + 1, 0, none⟩ = some (.int .i64 (4 + r % 2 * 8)) := HP1.out.p.cell 0
            have f0 := HP1.out.p.frozen 0
            go_upto_region 5 with fail
            have HP2 := Lib.hid (HP1.out.base (cb % 8 + r % 2 * 8))
            generalize World.setCell _ _ _ = w2 at *
            clear HP1 p0 f0
            go_upto_region 7 with fail
            have HP3 : Hid (Pk C s w (k + 2) (cb % 8 + r % 2 * 8) X S 0 w2) := Lib.hid (by rw [← HX.out, ← HSS.out, if_neg (fun h => h.elim (fun e => e HQ1.out) HQ2.out), if_neg (fun h => h.elim (fun e => e HQ1.out) HQ2.out)]; exact HP2.out)
            clear HP2
            clear HX HSS
            have m0 : w2.cell? ⟨w.heap.size + 1, 0, none⟩ = some (.int .i64 (cb % 8 + r % 2 * 8)) := HP3.out.p.cell 0
            have ro0 : w2.cell? ⟨w.heap.size, 0, none⟩ = some (.int .i64 0) := HP3.out.r.cell 0
            have rf0 := HP3.out.r.frozen 0
            have m1 : w2.cell? ⟨w.heap.size + 1, 1, none⟩ = some (.int .i64 (X)) := HP3.out.p.cell 1
            have ro1 : w2.cell? ⟨w.heap.size, 1, none⟩ = some (.int .i64 0) := HP3.out.r.cell 1
            have rf1 := HP3.out.r.frozen 1
            have m2 : w2.cell? ⟨w.heap.size + 1, 2, none⟩ = some (.int .i64 (S)) := HP3.out.p.cell 2
            have ro2 : w2.cell? ⟨w.heap.size, 2, none⟩ = some (.int .i64 0) := HP3.out.r.cell 2
            have rf2 := HP3.out.r.frozen 2
            have m3 : w2.cell? ⟨w.heap.size + 1, 3, none⟩ = some (.int .i64 (0)) := HP3.out.p.cell 3
            have ro3 : w2.cell? ⟨w.heap.size, 3, none⟩ = some (.int .i64 0) := HP3.out.r.cell 3
            have rf3 := HP3.out.r.frozen 3
            have f3 := HP3.out.p.frozen 3
            go_wp2_with fail
            exact HP3.out.ret rfl rfl rfl (by rw [show numB (bA s) (k + 1 + 1) 0 = 0 from by unfold numB sgnB lowB; simp]) (by omega)
        · have HQ1 := Lib.hid q1
          go_enter Tryz.func47, Tryz.ntmps47
          go_wp2_with fail
          go_at_call 29
          refine (HBY.out _ HP0.out.c).mono ?_
          rintro e w1 ⟨rfl, h1, h3⟩
          rw [HCB.out]
          have HP1 := Lib.hid (HP0.out.go h1 h3)
          clear h1 h3 HP0
          have p0 : w1.cell? ⟨w.heap.size + 1, 0, none⟩ = some (.int .i64 (4 + r % 2 * 8)) := HP1.out.p.cell 0
          have f0 := HP1.out.p.frozen 0
          go_upto_region 5 with fail
          have HP2 := Lib.hid (HP1.out.base (cb % 8 + r % 2 * 8))
          generalize World.setCell _ _ _ = w2 at *
          clear HP1 p0 f0
          have p1 : w2.cell? ⟨w.heap.size + 1, 1, none⟩ = some (.int .i64 (-1)) := HP2.out.p.cell 1
          have p2 : w2.cell? ⟨w.heap.size + 1, 2, none⟩ = some (.int .i64 1) := HP2.out.p.cell 2
          have f1 := HP2.out.p.frozen 1
          have f2 := HP2.out.p.frozen 2
          go_upto_region 7 with fail
          have HP3 : Hid (Pk C s w (k + 2) (cb % 8 + r % 2 * 8) X S 0 _) := Lib.hid (by have h := HP2.out.idx (cb / 8 % 8 + r / 2 % 2 * 8) (wrap64 (2 ^ (cb / 64).toNat)); rw [← HX.out, ← HSS.out, if_pos (.inl HQ1.out), if_pos (.inl HQ1.out), ← HW2.out]; exact h)
          generalize World.setCell (World.setCell _ _ _) _ _ = w3 at *
          clear HP2 p1 p2 f1 f2
          clear HX HSS
          have m0 : w3.cell? ⟨w.heap.size + 1, 0, none⟩ = some (.int .i64 (cb % 8 + r % 2 * 8)) := HP3.out.p.cell 0
          have ro0 : w3.cell? ⟨w.heap.size, 0, none⟩ = some (.int .i64 0) := HP3.out.r.cell 0
          have rf0 := HP3.out.r.frozen 0
          have m1 : w3.cell? ⟨w.heap.size + 1, 1, none⟩ = some (.int .i64 (X)) := HP3.out.p.cell 1
          have ro1 : w3.cell? ⟨w.heap.size, 1, none⟩ = some (.int .i64 0) := HP3.out.r.cell 1
          have rf1 := HP3.out.r.frozen 1
          have m2 : w3.cell? ⟨w.heap.size + 1, 2, none⟩ = some (.int .i64 (S)) := HP3.out.p.cell 2
          have ro2 : w3.cell? ⟨w.heap.size, 2, none⟩ = some (.int .i64 0) := HP3.out.r.cell 2
          have rf2 := HP3.out.r.frozen 2
          have m3 : w3.cell? ⟨w.heap.size + 1, 3, none⟩ = some (.int .i64 (0)) := HP3.out.p.cell 3
          have ro3 : w3.cell? ⟨w.heap.size, 3, none⟩ = some (.int .i64 0) := HP3.out.r.cell 3
          have rf3 := HP3.out.r.frozen 3
          have f3 := HP3.out.p.frozen 3
          go_wp2_with fail
          exact HP3.out.ret rfl rfl rfl (by rw [show numB (bA s) (k + 1 + 1) 0 = 0 from by unfold numB sgnB lowB; simp]) (by omega)
  · have e1 : plBase (bA s) k = bA s k % 8 := by unfold plBase; rw [if_neg h4]
    have e2 : rpX (bA s) k r = -1 := by unfold rpX; rw [if_neg h4]
    have e3 : rpS (bA s) k r = 1 := by unfold rpS; rw [if_neg h4]
    have e4 : sibN (bA s k) = 0 := by unfold sibN; rw [if_neg h4]
    have HNU := Lib.hid (fun n W (h : Cr W C s (k + 1)) hn => rnumber_c C (k + 1) n s W h hs hn)
    rw [e1, e2, e3]
    unfold rpD rpE rxL
    rw [e4, Nat.add_zero]
    clear e1 e2 e3 e4
    generalize bA s k = b at *
    by_cases d1 : b / 64 = 1
    · rw [show rdN b = 1 from by unfold rdN; rw [if_pos d1]]
      go_enter Tryz.func47, Tryz.ntmps47
      go_wp2_with fail
      go_at_call 30
      refine (HNU.out 1 _ ((HC.out.alloc _).alloc _) (by omega)).mono ?_
      rintro e w2 ⟨rfl, h1, h3⟩
      have HM : Hid (Bk w2 (w.heap.size + 1) 24 #[.int .i64 (b % 8 + r % 2 * 8), .int .i64 (-1), .int .i64 1, .int .i64 0]) := Lib.hid (h3.bk (Bk.new' (by simp)) (by have := HC.out.lt; simp; omega))
      have HMu : Hid (Mu [C] w w2) := Lib.hid ((((Mu.refl _ w).alloc _).alloc _).trans h3 (fun x hx _ => hx))
      have HC2 := Lib.hid h1
      have HR : Hid (Bk w2 w.heap.size 24 #[.int .i64 0, .int .i64 0, .int .i64 0, .int .i64 0]) := Lib.hid (h3.bk ((Bk.new _ _ _).alloc _) (by have := HC.out.lt; simp; omega))
      have ro0 := HR.out.cell 0
      have rf0 := HR.out.frozen 0
      have ro1 := HR.out.cell 1
      have rf1 := HR.out.frozen 1
      have ro2 := HR.out.cell 2
      have rf2 := HR.out.frozen 2
      have ro3 := HR.out.cell 3
      have rf3 := HR.out.frozen 3
      dsimp at ro0 ro1 ro2 ro3
      have m0 := HM.out.cell 0
      have m1 := HM.out.cell 1
      have m2 := HM.out.cell 2
      have m3 := HM.out.cell 3
      have f3 := HM.out.frozen 3
      dsimp at m0 m1 m2 m3
      clear h1 h3
      generalize hnb : numB (bA s) (k + 1) 1 = nb at *
      go_wp2_with fail
      refine bodyPost_ret (results_cell_row rfl _ _ w.heap.size 24 #[.int .i64 (b % 8 + r % 2 * 8), .int .i64 (-1), .int .i64 1, .int .i64 nb] (0, 0) _ rfl (((((HR.out.far (show w.heap.size ≠ w.heap.size + 1 from by omega) _).set_ 0 _).set_ 1 _).set_ 2 _).set_ 3 _) Tryz.underlying24 rfl (by kernel_rfl)) rfl ⟨by rw [hnb], ?_, ?_⟩
      · have hlt := HC.out.lt
        exact (((((HC2.out.far (show C ≠ w.heap.size + 1 from by omega) _).far (show C ≠ w.heap.size from by omega) _).far (show C ≠ w.heap.size from by omega) _).far (show C ≠ w.heap.size from by omega) _).far (show C ≠ w.heap.size from by omega) _)
      · have ha : ∀ p : Addr, w.heap.size ≤ p.block → p.block < w.heap.size → p.block ∈ [C] := fun p h h' => by omega
        exact ((((HMu.out.set_ _ (ha ⟨w.heap.size + 1, 3, none⟩ (Nat.le_succ _)) _).set_ _ (ha ⟨w.heap.size, 0, none⟩ (Nat.le_refl _)) _).set_ _ (ha ⟨w.heap.size, 1, none⟩ (Nat.le_refl _)) _).set_ _ (ha ⟨w.heap.size, 2, none⟩ (Nat.le_refl _)) _).set_ _ (ha ⟨w.heap.size, 3, none⟩ (Nat.le_refl _)) _
    · by_cases d2 : b / 64 = 2
      · rw [show rdN b = 4 from by unfold rdN; rw [if_neg d1, if_pos d2]]
        go_enter Tryz.func47, Tryz.ntmps47
        go_wp2_with fail
        go_at_call 30
        refine (HNU.out 4 _ ((HC.out.alloc _).alloc _) (by omega)).mono ?_
        rintro e w2 ⟨rfl, h1, h3⟩
        have HM : Hid (Bk w2 (w.heap.size + 1) 24 #[.int .i64 (b % 8 + r % 2 * 8), .int .i64 (-1), .int .i64 1, .int .i64 0]) := Lib.hid (h3.bk (Bk.new' (by simp)) (by have := HC.out.lt; simp; omega))
        have HMu : Hid (Mu [C] w w2) := Lib.hid ((((Mu.refl _ w).alloc _).alloc _).trans h3 (fun x hx _ => hx))
        have HC2 := Lib.hid h1
        have HR : Hid (Bk w2 w.heap.size 24 #[.int .i64 0, .int .i64 0, .int .i64 0, .int .i64 0]) := Lib.hid (h3.bk ((Bk.new _ _ _).alloc _) (by have := HC.out.lt; simp; omega))
        have ro0 := HR.out.cell 0
        have rf0 := HR.out.frozen 0
        have ro1 := HR.out.cell 1
        have rf1 := HR.out.frozen 1
        have ro2 := HR.out.cell 2
        have rf2 := HR.out.frozen 2
        have ro3 := HR.out.cell 3
        have rf3 := HR.out.frozen 3
        dsimp at ro0 ro1 ro2 ro3
        have m0 := HM.out.cell 0
        have m1 := HM.out.cell 1
        have m2 := HM.out.cell 2
        have m3 := HM.out.cell 3
        have f3 := HM.out.frozen 3
        dsimp at m0 m1 m2 m3
        clear h1 h3
        generalize hnb : numB (bA s) (k + 1) 4 = nb at *
        go_wp2_with fail
        refine bodyPost_ret (results_cell_row rfl _ _ w.heap.size 24 #[.int .i64 (b % 8 + r % 2 * 8), .int .i64 (-1), .int .i64 1, .int .i64 nb] (0, 0) _ rfl (((((HR.out.far (show w.heap.size ≠ w.heap.size + 1 from by omega) _).set_ 0 _).set_ 1 _).set_ 2 _).set_ 3 _) Tryz.underlying24 rfl (by kernel_rfl)) rfl ⟨by rw [hnb], ?_, ?_⟩
        · have hlt := HC.out.lt
          exact (((((HC2.out.far (show C ≠ w.heap.size + 1 from by omega) _).far (show C ≠ w.heap.size from by omega) _).far (show C ≠ w.heap.size from by omega) _).far (show C ≠ w.heap.size from by omega) _).far (show C ≠ w.heap.size from by omega) _)
        · have ha : ∀ p : Addr, w.heap.size ≤ p.block → p.block < w.heap.size → p.block ∈ [C] := fun p h h' => by omega
          exact ((((HMu.out.set_ _ (ha ⟨w.heap.size + 1, 3, none⟩ (Nat.le_succ _)) _).set_ _ (ha ⟨w.heap.size, 0, none⟩ (Nat.le_refl _)) _).set_ _ (ha ⟨w.heap.size, 1, none⟩ (Nat.le_refl _)) _).set_ _ (ha ⟨w.heap.size, 2, none⟩ (Nat.le_refl _)) _).set_ _ (ha ⟨w.heap.size, 3, none⟩ (Nat.le_refl _)) _
      · rw [show rdN b = 0 from by unfold rdN; rw [if_neg d1, if_neg d2], Nat.add_zero]
        go_enter Tryz.func47, Tryz.ntmps47
        go_wp2_with fail
        refine bodyPost_ret (results_cell_row rfl _ _ w.heap.size 24 #[.int .i64 (b % 8 + r % 2 * 8), .int .i64 (-1), .int .i64 1, .int .i64 0] (0, 0) _ rfl ((Bk.new _ _ _).alloc _) Tryz.underlying24 rfl (by kernel_rfl)) rfl ?_
        exact ⟨by rw [show numB (bA s) (k + 1) 0 = 0 from by unfold numB sgnB lowB; simp], (HC.out.alloc _).alloc _, ((Mu.refl _ w).alloc _).alloc _⟩
end Is
end Go.Proofs.YtblmagcekfbgdaaGreatDoor
namespace Go.Proofs.YtblmagcekfbgdaaGreatDoor
open Go Go.RowKit
namespace Is
open Nt
set_option linter.unusedVariables false
set_option linter.unusedSimpArgs false
/-- a look's own block (its answer) beside the cursor -/
structure Wk (C : Nat) (s : ByteArray) (w : World) (j : Nat) (W : World) : Prop where
  c : Cr W C s j
  r : Bk W w.heap.size 26 #[.int .i64 0, .int .i64 0, .int .i64 0, .int .i64 0, .int .i64 0, .int .i64 0, .int .i64 0, .int .i64 0, .int .i64 0]
  m : Mu [C] w W
  l : C < w.heap.size
theorem Wk.new {C j : Nat} {s : ByteArray} {w : World} (h : Cr w C s j) : Wk C s w j (w.alloc (.cells #[.int .i64 0, .int .i64 0, .int .i64 0, .int .i64 0, .int .i64 0, .int .i64 0, .int .i64 0, .int .i64 0, .int .i64 0] 26)) := ⟨h.alloc _, Bk.new _ _ _, (Mu.refl _ w).alloc _, h.lt⟩
theorem Wk.go {C j j' : Nat} {s : ByteArray} {w W X : World} (h : Wk C s w j W) (hc : Cr X C s j') (hm : Mu [C] W X) : Wk C s w j' X :=
  ⟨hc, hm.bk h.r (by have := h.l; simp; omega), h.m.trans hm (fun q hq _ => hq), h.l⟩
theorem Wk.alloc {C j : Nat} {s : ByteArray} {w W : World} (h : Wk C s w j W) (o : Obj) : Wk C s w j (W.alloc o) := ⟨h.c.alloc _, h.r.alloc _, h.m.alloc _, h.l⟩
theorem Wk.ret {C j : Nat} {s : ByteArray} {w W : World} (h : Wk C s w j W) {fn : Func} {p : Tmp} {a : Act} {E : Nat} {X : Array Value} {c0 c1 c2 c3 c4 c5 c6 c7 c8 : Value} (hf : fn.results = #[.cell p 26]) (hp : a.tmps.getD p undef = .pointer (some ⟨w.heap.size, 0, none⟩)) (hd : a.defers = []) (hX : X = #[c0, c1, c2, c3, c4, c5, c6, c7, c8]) (hE : E = j) :
    bodyPost Tryz.prog fn (fun e w' => e = .returned (.agg X) ∧ Cr w' C s E ∧ Mu [C] w w') .ret a (put9 W w.heap.size c0 c1 c2 c3 c4 c5 c6 c7 c8) := by
  subst hX hE
  have hl := h.l
  exact ret_put hf hp hd h.r ⟨rfl, put9_far h.c (by omega), put9_mu h.m (fun h' => by omega)⟩
set_option maxRecDepth 100000 in
set_option maxHeartbeats 4000000 in
theorem rw_184 (C k : Nat) (r : Int) (s : ByteArray) (w : World) (hC : Cr w C s k) (hs : s.size ≤ 1000000) (hr : 0 ≤ r ∧ r ≤ 255) (b : Int) (hb : Hid (bA s k = b)) (h1 : 184 ≤ b) (h2 : b < 192) : Calls Tryz.prog 31 #[.pointer (some ⟨C, 0, none⟩), .int .i64 r] w fun e w' =>
    e = .returned (.agg (⟨2, b % 8 + rxL r, 0, 0, 0, 0, 0, 0, numB (bA s) (k + 1) 8⟩ : Ins).vs) ∧ Cr w' C s (k + 9) ∧ Mu [C] w w' := by
  have r0 := hr.1
  have r1 := hr.2
  have HW0 := Lib.hid (Wk.new hC)
  clear hC hr
  unfold Ins.vs
  try unfold midR
  try unfold lstR
  try unfold rxM
  try unfold rxL
  dsimp only
  go_enter Tryz.func31, Tryz.ntmps31
  go_wp2_with fail
  go_at_call 29
  refine (rbyte_c C (k) s _ HW0.out.c hs).mono ?_
  rintro e w1 ⟨rfl, h1, h3⟩
  rw [hb.out]
  have HW1 := Lib.hid (HW0.out.go h1 h3)
  clear h1 h3 HW0
  go_wp2_with fail
  go_at_call 30
  refine (rnumber_c C (k + 1) 8 s _ HW1.out.c hs (by omega)).mono ?_
  rintro e w2 ⟨rfl, h1, h3⟩
  have HW2 := Lib.hid (HW1.out.go h1 h3)
  clear h1 h3 HW1
  generalize hnb : numB (bA s) (k + 1) 8 = nb at *
  obtain ⟨b0, b1, b2, b3, b4, b5, b6, b7, b8⟩ := c9 HW2.out.r
  have ff : ∀ i, w2.frozen? ⟨w.heap.size, i, none⟩ = false := fun i => HW2.out.r.frozen i
  go_wp2_with fail
  exact HW2.out.ret rfl rfl rfl (by rw [hnb]) (by omega)
set_option maxRecDepth 100000 in
set_option maxHeartbeats 4000000 in
theorem rw_15_66 (C k : Nat) (r : Int) (s : ByteArray) (w : World) (hC : Cr w C s k) (hs : s.size ≤ 1000000) (hr : 0 ≤ r ∧ r ≤ 255) (hb : Hid (bA s k = 15)) (hq : Hid (bA s (k + 1) = 66)) (m : Int) (hm : Hid (bA s (k + 2) = m)) (m0 : 0 ≤ m) (m1 : m ≤ 255) : Calls Tryz.prog 31 #[.pointer (some ⟨C, 0, none⟩), .int .i64 r] w fun e w' =>
    e = .returned (.agg (⟨26, midR m r, lstR m r, 0, 0, 0, 0, 0, 0⟩ : Ins).vs) ∧ Cr w' C s (k + 3) ∧ Mu [C] w w' := by
  have r0 := hr.1
  have r1 := hr.2
  have HW0 := Lib.hid (Wk.new hC)
  clear hC hr
  unfold Ins.vs
  try unfold midR
  try unfold lstR
  try unfold rxM
  try unfold rxL
  dsimp only
  go_enter Tryz.func31, Tryz.ntmps31
  go_wp2_with fail
  go_at_call 29
  refine (rbyte_c C (k) s _ HW0.out.c hs).mono ?_
  rintro e w1 ⟨rfl, h1, h3⟩
  rw [hb.out]
  have HW1 := Lib.hid (HW0.out.go h1 h3)
  clear h1 h3 HW0
  go_wp2_with fail
  go_at_call 29
  refine (rbyte_c C (k + 1) s _ HW1.out.c hs).mono ?_
  rintro e w2 ⟨rfl, h1, h3⟩
  rw [hq.out]
  have HW2 := Lib.hid (HW1.out.go h1 h3)
  clear h1 h3 HW1
  go_wp2_with fail
  go_at_call 29
  refine (rbyte_c C (k + 2) s _ HW2.out.c hs).mono ?_
  rintro e w3 ⟨rfl, h1, h3⟩
  rw [hm.out]
  have HW3 := Lib.hid (HW2.out.go h1 h3)
  clear h1 h3 HW2
  obtain ⟨b0, b1, b2, b3, b4, b5, b6, b7, b8⟩ := c9 HW3.out.r
  have ff : ∀ i, w3.frozen? ⟨w.heap.size, i, none⟩ = false := fun i => HW3.out.r.frozen i
  go_wp2_with fail
  exact HW3.out.ret rfl rfl rfl (rfl) (by omega)
set_option maxRecDepth 100000 in
set_option maxHeartbeats 4000000 in
theorem rw_15_69 (C k : Nat) (r : Int) (s : ByteArray) (w : World) (hC : Cr w C s k) (hs : s.size ≤ 1000000) (hr : 0 ≤ r ∧ r ≤ 255) (hb : Hid (bA s k = 15)) (hq : Hid (bA s (k + 1) = 69)) (m : Int) (hm : Hid (bA s (k + 2) = m)) (m0 : 0 ≤ m) (m1 : m ≤ 255) : Calls Tryz.prog 31 #[.pointer (some ⟨C, 0, none⟩), .int .i64 r] w fun e w' =>
    e = .returned (.agg (⟨27, midR m r, lstR m r, 0, 0, 0, 0, 0, 0⟩ : Ins).vs) ∧ Cr w' C s (k + 3) ∧ Mu [C] w w' := by
  have r0 := hr.1
  have r1 := hr.2
  have HW0 := Lib.hid (Wk.new hC)
  clear hC hr
  unfold Ins.vs
  try unfold midR
  try unfold lstR
  try unfold rxM
  try unfold rxL
  dsimp only
  go_enter Tryz.func31, Tryz.ntmps31
  go_wp2_with fail
  go_at_call 29
  refine (rbyte_c C (k) s _ HW0.out.c hs).mono ?_
  rintro e w1 ⟨rfl, h1, h3⟩
  rw [hb.out]
  have HW1 := Lib.hid (HW0.out.go h1 h3)
  clear h1 h3 HW0
  go_wp2_with fail
  go_at_call 29
  refine (rbyte_c C (k + 1) s _ HW1.out.c hs).mono ?_
  rintro e w2 ⟨rfl, h1, h3⟩
  rw [hq.out]
  have HW2 := Lib.hid (HW1.out.go h1 h3)
  clear h1 h3 HW1
  go_wp2_with fail
  go_at_call 29
  refine (rbyte_c C (k + 2) s _ HW2.out.c hs).mono ?_
  rintro e w3 ⟨rfl, h1, h3⟩
  rw [hm.out]
  have HW3 := Lib.hid (HW2.out.go h1 h3)
  clear h1 h3 HW2
  obtain ⟨b0, b1, b2, b3, b4, b5, b6, b7, b8⟩ := c9 HW3.out.r
  have ff : ∀ i, w3.frozen? ⟨w.heap.size, i, none⟩ = false := fun i => HW3.out.r.frozen i
  go_wp2_with fail
  exact HW3.out.ret rfl rfl rfl (rfl) (by omega)
set_option maxRecDepth 100000 in
set_option maxHeartbeats 4000000 in
theorem rw_15_no (C k : Nat) (r : Int) (s : ByteArray) (w : World) (hC : Cr w C s k) (hs : s.size ≤ 1000000) (hr : 0 ≤ r ∧ r ≤ 255) (hb : Hid (bA s k = 15)) (q : Int) (hq : Hid (bA s (k + 1) = q)) (q1 : (q == 66) = false) (q2 : (q == 69) = false) (m : Int) (hm : Hid (bA s (k + 2) = m)) (m0 : 0 ≤ m) (m1 : m ≤ 255) : Calls Tryz.prog 31 #[.pointer (some ⟨C, 0, none⟩), .int .i64 r] w fun e w' =>
    e = .returned (.agg (⟨0, midR m r, lstR m r, 0, 0, 0, 0, 0, 0⟩ : Ins).vs) ∧ Cr w' C s (k + 3) ∧ Mu [C] w w' := by
  have r0 := hr.1
  have r1 := hr.2
  have HW0 := Lib.hid (Wk.new hC)
  clear hC hr
  unfold Ins.vs
  try unfold midR
  try unfold lstR
  try unfold rxM
  try unfold rxL
  dsimp only
  go_enter Tryz.func31, Tryz.ntmps31
  go_wp2_with fail
  go_at_call 29
  refine (rbyte_c C (k) s _ HW0.out.c hs).mono ?_
  rintro e w1 ⟨rfl, h1, h3⟩
  rw [hb.out]
  have HW1 := Lib.hid (HW0.out.go h1 h3)
  clear h1 h3 HW0
  go_wp2_with fail
  go_at_call 29
  refine (rbyte_c C (k + 1) s _ HW1.out.c hs).mono ?_
  rintro e w2 ⟨rfl, h1, h3⟩
  rw [hq.out]
  have HW2 := Lib.hid (HW1.out.go h1 h3)
  clear h1 h3 HW1
  go_wp2_with fail
  go_at_call 29
  refine (rbyte_c C (k + 2) s _ HW2.out.c hs).mono ?_
  rintro e w3 ⟨rfl, h1, h3⟩
  rw [hm.out]
  have HW3 := Lib.hid (HW2.out.go h1 h3)
  clear h1 h3 HW2
  obtain ⟨b0, b1, b2, b3, b4, b5, b6, b7, b8⟩ := c9 HW3.out.r
  have ff : ∀ i, w3.frozen? ⟨w.heap.size, i, none⟩ = false := fun i => HW3.out.r.frozen i
  go_wp2_with fail
  exact HW3.out.ret rfl rfl rfl (rfl) (by omega)
set_option maxRecDepth 100000 in
set_option maxHeartbeats 4000000 in
theorem rw_129_0 (C k : Nat) (r : Int) (s : ByteArray) (w : World) (hC : Cr w C s k) (hs : s.size ≤ 1000000) (hr : 0 ≤ r ∧ r ≤ 255) (hb : Hid (bA s k = 129)) (m : Int) (hm : Hid (bA s (k + 1) = m)) (m0 : 0 ≤ m) (m1 : m ≤ 255) (he : m / 8 % 8 + r / 4 % 2 * 8 = 0) : Calls Tryz.prog 31 #[.pointer (some ⟨C, 0, none⟩), .int .i64 r] w fun e w' =>
    e = .returned (.agg (⟨15, lstR m r, 0, 0, 0, 0, 0, 0, numB (bA s) (k + 2) 4⟩ : Ins).vs) ∧ Cr w' C s (k + 6) ∧ Mu [C] w w' := by
  have r0 := hr.1
  have r1 := hr.2
  have HW0 := Lib.hid (Wk.new hC)
  clear hC hr
  unfold Ins.vs
  try unfold midR
  try unfold lstR
  try unfold rxM
  try unfold rxL
  dsimp only
  go_enter Tryz.func31, Tryz.ntmps31
  go_wp2_with fail
  go_at_call 29
  refine (rbyte_c C (k) s _ HW0.out.c hs).mono ?_
  rintro e w1 ⟨rfl, h1, h3⟩
  rw [hb.out]
  have HW1 := Lib.hid (HW0.out.go h1 h3)
  clear h1 h3 HW0
  go_wp2_with fail
  go_at_call 29
  refine (rbyte_c C (k + 1) s _ HW1.out.c hs).mono ?_
  rintro e w2 ⟨rfl, h1, h3⟩
  rw [hm.out]
  have HW2 := Lib.hid (HW1.out.go h1 h3)
  clear h1 h3 HW1
  go_wp2_with fail
  go_at_call 30
  refine (rnumber_c C (k + 2) 4 s _ HW2.out.c hs (by omega)).mono ?_
  rintro e w3 ⟨rfl, h1, h3⟩
  have HW3 := Lib.hid (HW2.out.go h1 h3)
  clear h1 h3 HW2
  generalize hnb : numB (bA s) (k + 2) 4 = nb at *
  obtain ⟨b0, b1, b2, b3, b4, b5, b6, b7, b8⟩ := c9 HW3.out.r
  have ff : ∀ i, w3.frozen? ⟨w.heap.size, i, none⟩ = false := fun i => HW3.out.r.frozen i
  go_wp2_with fail
  exact HW3.out.ret rfl rfl rfl (by rw [hnb]) (by omega)
set_option maxRecDepth 100000 in
set_option maxHeartbeats 4000000 in
theorem rw_129_4 (C k : Nat) (r : Int) (s : ByteArray) (w : World) (hC : Cr w C s k) (hs : s.size ≤ 1000000) (hr : 0 ≤ r ∧ r ≤ 255) (hb : Hid (bA s k = 129)) (m : Int) (hm : Hid (bA s (k + 1) = m)) (m0 : 0 ≤ m) (m1 : m ≤ 255) (he : m / 8 % 8 + r / 4 % 2 * 8 = 4) : Calls Tryz.prog 31 #[.pointer (some ⟨C, 0, none⟩), .int .i64 r] w fun e w' =>
    e = .returned (.agg (⟨16, lstR m r, 0, 0, 0, 0, 0, 0, numB (bA s) (k + 2) 4⟩ : Ins).vs) ∧ Cr w' C s (k + 6) ∧ Mu [C] w w' := by
  have r0 := hr.1
  have r1 := hr.2
  have HW0 := Lib.hid (Wk.new hC)
  clear hC hr
  unfold Ins.vs
  try unfold midR
  try unfold lstR
  try unfold rxM
  try unfold rxL
  dsimp only
  go_enter Tryz.func31, Tryz.ntmps31
  go_wp2_with fail
  go_at_call 29
  refine (rbyte_c C (k) s _ HW0.out.c hs).mono ?_
  rintro e w1 ⟨rfl, h1, h3⟩
  rw [hb.out]
  have HW1 := Lib.hid (HW0.out.go h1 h3)
  clear h1 h3 HW0
  go_wp2_with fail
  go_at_call 29
  refine (rbyte_c C (k + 1) s _ HW1.out.c hs).mono ?_
  rintro e w2 ⟨rfl, h1, h3⟩
  rw [hm.out]
  have HW2 := Lib.hid (HW1.out.go h1 h3)
  clear h1 h3 HW1
  go_wp2_with fail
  go_at_call 30
  refine (rnumber_c C (k + 2) 4 s _ HW2.out.c hs (by omega)).mono ?_
  rintro e w3 ⟨rfl, h1, h3⟩
  have HW3 := Lib.hid (HW2.out.go h1 h3)
  clear h1 h3 HW2
  generalize hnb : numB (bA s) (k + 2) 4 = nb at *
  obtain ⟨b0, b1, b2, b3, b4, b5, b6, b7, b8⟩ := c9 HW3.out.r
  have ff : ∀ i, w3.frozen? ⟨w.heap.size, i, none⟩ = false := fun i => HW3.out.r.frozen i
  go_wp2_with fail
  exact HW3.out.ret rfl rfl rfl (by rw [hnb]) (by omega)
set_option maxRecDepth 100000 in
set_option maxHeartbeats 4000000 in
theorem rw_129_5 (C k : Nat) (r : Int) (s : ByteArray) (w : World) (hC : Cr w C s k) (hs : s.size ≤ 1000000) (hr : 0 ≤ r ∧ r ≤ 255) (hb : Hid (bA s k = 129)) (m : Int) (hm : Hid (bA s (k + 1) = m)) (m0 : 0 ≤ m) (m1 : m ≤ 255) (he : m / 8 % 8 + r / 4 % 2 * 8 = 5) : Calls Tryz.prog 31 #[.pointer (some ⟨C, 0, none⟩), .int .i64 r] w fun e w' =>
    e = .returned (.agg (⟨17, lstR m r, 0, 0, 0, 0, 0, 0, numB (bA s) (k + 2) 4⟩ : Ins).vs) ∧ Cr w' C s (k + 6) ∧ Mu [C] w w' := by
  have r0 := hr.1
  have r1 := hr.2
  have HW0 := Lib.hid (Wk.new hC)
  clear hC hr
  unfold Ins.vs
  try unfold midR
  try unfold lstR
  try unfold rxM
  try unfold rxL
  dsimp only
  go_enter Tryz.func31, Tryz.ntmps31
  go_wp2_with fail
  go_at_call 29
  refine (rbyte_c C (k) s _ HW0.out.c hs).mono ?_
  rintro e w1 ⟨rfl, h1, h3⟩
  rw [hb.out]
  have HW1 := Lib.hid (HW0.out.go h1 h3)
  clear h1 h3 HW0
  go_wp2_with fail
  go_at_call 29
  refine (rbyte_c C (k + 1) s _ HW1.out.c hs).mono ?_
  rintro e w2 ⟨rfl, h1, h3⟩
  rw [hm.out]
  have HW2 := Lib.hid (HW1.out.go h1 h3)
  clear h1 h3 HW1
  go_wp2_with fail
  go_at_call 30
  refine (rnumber_c C (k + 2) 4 s _ HW2.out.c hs (by omega)).mono ?_
  rintro e w3 ⟨rfl, h1, h3⟩
  have HW3 := Lib.hid (HW2.out.go h1 h3)
  clear h1 h3 HW2
  generalize hnb : numB (bA s) (k + 2) 4 = nb at *
  obtain ⟨b0, b1, b2, b3, b4, b5, b6, b7, b8⟩ := c9 HW3.out.r
  have ff : ∀ i, w3.frozen? ⟨w.heap.size, i, none⟩ = false := fun i => HW3.out.r.frozen i
  go_wp2_with fail
  exact HW3.out.ret rfl rfl rfl (by rw [hnb]) (by omega)
set_option maxRecDepth 100000 in
set_option maxHeartbeats 4000000 in
theorem rw_129_7 (C k : Nat) (r : Int) (s : ByteArray) (w : World) (hC : Cr w C s k) (hs : s.size ≤ 1000000) (hr : 0 ≤ r ∧ r ≤ 255) (hb : Hid (bA s k = 129)) (m : Int) (hm : Hid (bA s (k + 1) = m)) (m0 : 0 ≤ m) (m1 : m ≤ 255) (he : m / 8 % 8 + r / 4 % 2 * 8 = 7) : Calls Tryz.prog 31 #[.pointer (some ⟨C, 0, none⟩), .int .i64 r] w fun e w' =>
    e = .returned (.agg (⟨18, lstR m r, 0, 0, 0, 0, 0, 0, numB (bA s) (k + 2) 4⟩ : Ins).vs) ∧ Cr w' C s (k + 6) ∧ Mu [C] w w' := by
  have r0 := hr.1
  have r1 := hr.2
  have HW0 := Lib.hid (Wk.new hC)
  clear hC hr
  unfold Ins.vs
  try unfold midR
  try unfold lstR
  try unfold rxM
  try unfold rxL
  dsimp only
  go_enter Tryz.func31, Tryz.ntmps31
  go_wp2_with fail
  go_at_call 29
  refine (rbyte_c C (k) s _ HW0.out.c hs).mono ?_
  rintro e w1 ⟨rfl, h1, h3⟩
  rw [hb.out]
  have HW1 := Lib.hid (HW0.out.go h1 h3)
  clear h1 h3 HW0
  go_wp2_with fail
  go_at_call 29
  refine (rbyte_c C (k + 1) s _ HW1.out.c hs).mono ?_
  rintro e w2 ⟨rfl, h1, h3⟩
  rw [hm.out]
  have HW2 := Lib.hid (HW1.out.go h1 h3)
  clear h1 h3 HW1
  go_wp2_with fail
  go_at_call 30
  refine (rnumber_c C (k + 2) 4 s _ HW2.out.c hs (by omega)).mono ?_
  rintro e w3 ⟨rfl, h1, h3⟩
  have HW3 := Lib.hid (HW2.out.go h1 h3)
  clear h1 h3 HW2
  generalize hnb : numB (bA s) (k + 2) 4 = nb at *
  obtain ⟨b0, b1, b2, b3, b4, b5, b6, b7, b8⟩ := c9 HW3.out.r
  have ff : ∀ i, w3.frozen? ⟨w.heap.size, i, none⟩ = false := fun i => HW3.out.r.frozen i
  go_wp2_with fail
  exact HW3.out.ret rfl rfl rfl (by rw [hnb]) (by omega)
set_option maxRecDepth 100000 in
set_option maxHeartbeats 4000000 in
theorem rw_129_no (C k : Nat) (r : Int) (s : ByteArray) (w : World) (hC : Cr w C s k) (hs : s.size ≤ 1000000) (hr : 0 ≤ r ∧ r ≤ 255) (hb : Hid (bA s k = 129)) (m : Int) (hm : Hid (bA s (k + 1) = m)) (m0 : 0 ≤ m) (m1 : m ≤ 255) (n0 : (m / 8 % 8 + r / 4 % 2 * 8 == 0) = false) (n4 : (m / 8 % 8 + r / 4 % 2 * 8 == 4) = false) (n5 : (m / 8 % 8 + r / 4 % 2 * 8 == 5) = false) (n7 : (m / 8 % 8 + r / 4 % 2 * 8 == 7) = false) : Calls Tryz.prog 31 #[.pointer (some ⟨C, 0, none⟩), .int .i64 r] w fun e w' =>
    e = .returned (.agg (⟨0, lstR m r, 0, 0, 0, 0, 0, 0, numB (bA s) (k + 2) 4⟩ : Ins).vs) ∧ Cr w' C s (k + 6) ∧ Mu [C] w w' := by
  have r0 := hr.1
  have r1 := hr.2
  have HW0 := Lib.hid (Wk.new hC)
  clear hC hr
  unfold Ins.vs
  try unfold midR
  try unfold lstR
  try unfold rxM
  try unfold rxL
  dsimp only
  go_enter Tryz.func31, Tryz.ntmps31
  go_wp2_with fail
  go_at_call 29
  refine (rbyte_c C (k) s _ HW0.out.c hs).mono ?_
  rintro e w1 ⟨rfl, h1, h3⟩
  rw [hb.out]
  have HW1 := Lib.hid (HW0.out.go h1 h3)
  clear h1 h3 HW0
  go_wp2_with fail
  go_at_call 29
  refine (rbyte_c C (k + 1) s _ HW1.out.c hs).mono ?_
  rintro e w2 ⟨rfl, h1, h3⟩
  rw [hm.out]
  have HW2 := Lib.hid (HW1.out.go h1 h3)
  clear h1 h3 HW1
  go_wp2_with fail
  go_at_call 30
  refine (rnumber_c C (k + 2) 4 s _ HW2.out.c hs (by omega)).mono ?_
  rintro e w3 ⟨rfl, h1, h3⟩
  have HW3 := Lib.hid (HW2.out.go h1 h3)
  clear h1 h3 HW2
  generalize hnb : numB (bA s) (k + 2) 4 = nb at *
  obtain ⟨b0, b1, b2, b3, b4, b5, b6, b7, b8⟩ := c9 HW3.out.r
  have ff : ∀ i, w3.frozen? ⟨w.heap.size, i, none⟩ = false := fun i => HW3.out.r.frozen i
  go_wp2_with fail
  exact HW3.out.ret rfl rfl rfl (by rw [hnb]) (by omega)
set_option maxRecDepth 100000 in
set_option maxHeartbeats 4000000 in
theorem rw_247_3 (C k : Nat) (r : Int) (s : ByteArray) (w : World) (hC : Cr w C s k) (hs : s.size ≤ 1000000) (hr : 0 ≤ r ∧ r ≤ 255) (hb : Hid (bA s k = 247)) (m : Int) (hm : Hid (bA s (k + 1) = m)) (m0 : 0 ≤ m) (m1 : m ≤ 255) (he : m / 8 % 8 + r / 4 % 2 * 8 = 3) : Calls Tryz.prog 31 #[.pointer (some ⟨C, 0, none⟩), .int .i64 r] w fun e w' =>
    e = .returned (.agg (⟨22, lstR m r, 0, 0, 0, 0, 0, 0, 0⟩ : Ins).vs) ∧ Cr w' C s (k + 2) ∧ Mu [C] w w' := by
  have r0 := hr.1
  have r1 := hr.2
  have HW0 := Lib.hid (Wk.new hC)
  clear hC hr
  unfold Ins.vs
  try unfold midR
  try unfold lstR
  try unfold rxM
  try unfold rxL
  dsimp only
  go_enter Tryz.func31, Tryz.ntmps31
  go_wp2_with fail
  go_at_call 29
  refine (rbyte_c C (k) s _ HW0.out.c hs).mono ?_
  rintro e w1 ⟨rfl, h1, h3⟩
  rw [hb.out]
  have HW1 := Lib.hid (HW0.out.go h1 h3)
  clear h1 h3 HW0
  go_wp2_with fail
  go_at_call 29
  refine (rbyte_c C (k + 1) s _ HW1.out.c hs).mono ?_
  rintro e w2 ⟨rfl, h1, h3⟩
  rw [hm.out]
  have HW2 := Lib.hid (HW1.out.go h1 h3)
  clear h1 h3 HW1
  obtain ⟨b0, b1, b2, b3, b4, b5, b6, b7, b8⟩ := c9 HW2.out.r
  have ff : ∀ i, w2.frozen? ⟨w.heap.size, i, none⟩ = false := fun i => HW2.out.r.frozen i
  go_wp2_with fail
  exact HW2.out.ret rfl rfl rfl (rfl) (by omega)
set_option maxRecDepth 100000 in
set_option maxHeartbeats 4000000 in
theorem rw_247_2 (C k : Nat) (r : Int) (s : ByteArray) (w : World) (hC : Cr w C s k) (hs : s.size ≤ 1000000) (hr : 0 ≤ r ∧ r ≤ 255) (hb : Hid (bA s k = 247)) (m : Int) (hm : Hid (bA s (k + 1) = m)) (m0 : 0 ≤ m) (m1 : m ≤ 255) (he : m / 8 % 8 + r / 4 % 2 * 8 = 2) : Calls Tryz.prog 31 #[.pointer (some ⟨C, 0, none⟩), .int .i64 r] w fun e w' =>
    e = .returned (.agg (⟨23, lstR m r, 0, 0, 0, 0, 0, 0, 0⟩ : Ins).vs) ∧ Cr w' C s (k + 2) ∧ Mu [C] w w' := by
  have r0 := hr.1
  have r1 := hr.2
  have HW0 := Lib.hid (Wk.new hC)
  clear hC hr
  unfold Ins.vs
  try unfold midR
  try unfold lstR
  try unfold rxM
  try unfold rxL
  dsimp only
  go_enter Tryz.func31, Tryz.ntmps31
  go_wp2_with fail
  go_at_call 29
  refine (rbyte_c C (k) s _ HW0.out.c hs).mono ?_
  rintro e w1 ⟨rfl, h1, h3⟩
  rw [hb.out]
  have HW1 := Lib.hid (HW0.out.go h1 h3)
  clear h1 h3 HW0
  go_wp2_with fail
  go_at_call 29
  refine (rbyte_c C (k + 1) s _ HW1.out.c hs).mono ?_
  rintro e w2 ⟨rfl, h1, h3⟩
  rw [hm.out]
  have HW2 := Lib.hid (HW1.out.go h1 h3)
  clear h1 h3 HW1
  obtain ⟨b0, b1, b2, b3, b4, b5, b6, b7, b8⟩ := c9 HW2.out.r
  have ff : ∀ i, w2.frozen? ⟨w.heap.size, i, none⟩ = false := fun i => HW2.out.r.frozen i
  go_wp2_with fail
  exact HW2.out.ret rfl rfl rfl (rfl) (by omega)
set_option maxRecDepth 100000 in
set_option maxHeartbeats 4000000 in
theorem rw_193_4 (C k : Nat) (r : Int) (s : ByteArray) (w : World) (hC : Cr w C s k) (hs : s.size ≤ 1000000) (hr : 0 ≤ r ∧ r ≤ 255) (hb : Hid (bA s k = 193)) (m : Int) (hm : Hid (bA s (k + 1) = m)) (m0 : 0 ≤ m) (m1 : m ≤ 255) (he : m / 8 % 8 + r / 4 % 2 * 8 = 4) : Calls Tryz.prog 31 #[.pointer (some ⟨C, 0, none⟩), .int .i64 r] w fun e w' =>
    e = .returned (.agg (⟨24, lstR m r, 0, 0, 0, 0, 0, 0, numB (bA s) (k + 2) 1⟩ : Ins).vs) ∧ Cr w' C s (k + 3) ∧ Mu [C] w w' := by
  have r0 := hr.1
  have r1 := hr.2
  have HW0 := Lib.hid (Wk.new hC)
  clear hC hr
  unfold Ins.vs
  try unfold midR
  try unfold lstR
  try unfold rxM
  try unfold rxL
  dsimp only
  go_enter Tryz.func31, Tryz.ntmps31
  go_wp2_with fail
  go_at_call 29
  refine (rbyte_c C (k) s _ HW0.out.c hs).mono ?_
  rintro e w1 ⟨rfl, h1, h3⟩
  rw [hb.out]
  have HW1 := Lib.hid (HW0.out.go h1 h3)
  clear h1 h3 HW0
  go_wp2_with fail
  go_at_call 29
  refine (rbyte_c C (k + 1) s _ HW1.out.c hs).mono ?_
  rintro e w2 ⟨rfl, h1, h3⟩
  rw [hm.out]
  have HW2 := Lib.hid (HW1.out.go h1 h3)
  clear h1 h3 HW1
  go_wp2_with fail
  go_at_call 30
  refine (rnumber_c C (k + 2) 1 s _ HW2.out.c hs (by omega)).mono ?_
  rintro e w3 ⟨rfl, h1, h3⟩
  have HW3 := Lib.hid (HW2.out.go h1 h3)
  clear h1 h3 HW2
  generalize hnb : numB (bA s) (k + 2) 1 = nb at *
  obtain ⟨b0, b1, b2, b3, b4, b5, b6, b7, b8⟩ := c9 HW3.out.r
  have ff : ∀ i, w3.frozen? ⟨w.heap.size, i, none⟩ = false := fun i => HW3.out.r.frozen i
  go_wp2_with fail
  exact HW3.out.ret rfl rfl rfl (by rw [hnb]) (by omega)
set_option maxRecDepth 100000 in
set_option maxHeartbeats 4000000 in
theorem rw_193_5 (C k : Nat) (r : Int) (s : ByteArray) (w : World) (hC : Cr w C s k) (hs : s.size ≤ 1000000) (hr : 0 ≤ r ∧ r ≤ 255) (hb : Hid (bA s k = 193)) (m : Int) (hm : Hid (bA s (k + 1) = m)) (m0 : 0 ≤ m) (m1 : m ≤ 255) (he : m / 8 % 8 + r / 4 % 2 * 8 = 5) : Calls Tryz.prog 31 #[.pointer (some ⟨C, 0, none⟩), .int .i64 r] w fun e w' =>
    e = .returned (.agg (⟨25, lstR m r, 0, 0, 0, 0, 0, 0, numB (bA s) (k + 2) 1⟩ : Ins).vs) ∧ Cr w' C s (k + 3) ∧ Mu [C] w w' := by
  have r0 := hr.1
  have r1 := hr.2
  have HW0 := Lib.hid (Wk.new hC)
  clear hC hr
  unfold Ins.vs
  try unfold midR
  try unfold lstR
  try unfold rxM
  try unfold rxL
  dsimp only
  go_enter Tryz.func31, Tryz.ntmps31
  go_wp2_with fail
  go_at_call 29
  refine (rbyte_c C (k) s _ HW0.out.c hs).mono ?_
  rintro e w1 ⟨rfl, h1, h3⟩
  rw [hb.out]
  have HW1 := Lib.hid (HW0.out.go h1 h3)
  clear h1 h3 HW0
  go_wp2_with fail
  go_at_call 29
  refine (rbyte_c C (k + 1) s _ HW1.out.c hs).mono ?_
  rintro e w2 ⟨rfl, h1, h3⟩
  rw [hm.out]
  have HW2 := Lib.hid (HW1.out.go h1 h3)
  clear h1 h3 HW1
  go_wp2_with fail
  go_at_call 30
  refine (rnumber_c C (k + 2) 1 s _ HW2.out.c hs (by omega)).mono ?_
  rintro e w3 ⟨rfl, h1, h3⟩
  have HW3 := Lib.hid (HW2.out.go h1 h3)
  clear h1 h3 HW2
  generalize hnb : numB (bA s) (k + 2) 1 = nb at *
  obtain ⟨b0, b1, b2, b3, b4, b5, b6, b7, b8⟩ := c9 HW3.out.r
  have ff : ∀ i, w3.frozen? ⟨w.heap.size, i, none⟩ = false := fun i => HW3.out.r.frozen i
  go_wp2_with fail
  exact HW3.out.ret rfl rfl rfl (by rw [hnb]) (by omega)
set_option maxRecDepth 100000 in
set_option maxHeartbeats 4000000 in
theorem rw_247_no (C k : Nat) (r : Int) (s : ByteArray) (w : World) (hC : Cr w C s k) (hs : s.size ≤ 1000000) (hr : 0 ≤ r ∧ r ≤ 255) (hb : Hid (bA s k = 247)) (m : Int) (hm : Hid (bA s (k + 1) = m)) (m0 : 0 ≤ m) (m1 : m ≤ 255) (n3 : (m / 8 % 8 + r / 4 % 2 * 8 == 3) = false) (n2 : (m / 8 % 8 + r / 4 % 2 * 8 == 2) = false) : Calls Tryz.prog 31 #[.pointer (some ⟨C, 0, none⟩), .int .i64 r] w fun e w' =>
    e = .returned (.agg (⟨rrO 247, lstR m r, midR m r, 0, 0, 0, 0, 0, 0⟩ : Ins).vs) ∧ Cr w' C s (k + 2) ∧ Mu [C] w w' := by
  have r0 := hr.1
  have r1 := hr.2
  have HW0 := Lib.hid (Wk.new hC)
  clear hC hr
  have KR := Lib.hid (fun W => rr_c 247 W)
  obtain ⟨q, hq⟩ : ∃ q, rrO 247 = q := ⟨_, rfl⟩
  rw [hq] at KR ⊢
  clear hq
  unfold Ins.vs
  try unfold midR
  try unfold lstR
  try unfold rxM
  try unfold rxL
  dsimp only
  go_enter Tryz.func31, Tryz.ntmps31
  go_wp2_with fail
  go_at_call 29
  refine (rbyte_c C (k) s _ HW0.out.c hs).mono ?_
  rintro e w1 ⟨rfl, h1, h3⟩
  rw [hb.out]
  have HW1 := Lib.hid (HW0.out.go h1 h3)
  clear h1 h3 HW0
  go_wp2_with fail
  go_at_call 29
  refine (rbyte_c C (k + 1) s _ HW1.out.c hs).mono ?_
  rintro e w2 ⟨rfl, h1, h3⟩
  rw [hm.out]
  have HW2 := Lib.hid (HW1.out.go h1 h3)
  clear h1 h3 HW1
  go_wp2_with fail
  go_at_call 48
  refine (KR.out _).mono ?_
  rintro e w3 ⟨rfl, hy⟩
  obtain rfl := hy.symm
  obtain ⟨b0, b1, b2, b3, b4, b5, b6, b7, b8⟩ := c9 HW2.out.r
  have ff : ∀ i, w2.frozen? ⟨w.heap.size, i, none⟩ = false := fun i => HW2.out.r.frozen i
  go_wp2_with fail
  exact HW2.out.ret rfl rfl rfl (rfl) (by omega)
set_option maxRecDepth 100000 in
set_option maxHeartbeats 4000000 in
theorem rw_193_no (C k : Nat) (r : Int) (s : ByteArray) (w : World) (hC : Cr w C s k) (hs : s.size ≤ 1000000) (hr : 0 ≤ r ∧ r ≤ 255) (hb : Hid (bA s k = 193)) (m : Int) (hm : Hid (bA s (k + 1) = m)) (m0 : 0 ≤ m) (m1 : m ≤ 255) (n4 : (m / 8 % 8 + r / 4 % 2 * 8 == 4) = false) (n5 : (m / 8 % 8 + r / 4 % 2 * 8 == 5) = false) : Calls Tryz.prog 31 #[.pointer (some ⟨C, 0, none⟩), .int .i64 r] w fun e w' =>
    e = .returned (.agg (⟨rrO 193, lstR m r, midR m r, 0, 0, 0, 0, 0, 0⟩ : Ins).vs) ∧ Cr w' C s (k + 2) ∧ Mu [C] w w' := by
  have r0 := hr.1
  have r1 := hr.2
  have HW0 := Lib.hid (Wk.new hC)
  clear hC hr
  have KR := Lib.hid (fun W => rr_c 193 W)
  obtain ⟨q, hq⟩ : ∃ q, rrO 193 = q := ⟨_, rfl⟩
  rw [hq] at KR ⊢
  clear hq
  unfold Ins.vs
  try unfold midR
  try unfold lstR
  try unfold rxM
  try unfold rxL
  dsimp only
  go_enter Tryz.func31, Tryz.ntmps31
  go_wp2_with fail
  go_at_call 29
  refine (rbyte_c C (k) s _ HW0.out.c hs).mono ?_
  rintro e w1 ⟨rfl, h1, h3⟩
  rw [hb.out]
  have HW1 := Lib.hid (HW0.out.go h1 h3)
  clear h1 h3 HW0
  go_wp2_with fail
  go_at_call 29
  refine (rbyte_c C (k + 1) s _ HW1.out.c hs).mono ?_
  rintro e w2 ⟨rfl, h1, h3⟩
  rw [hm.out]
  have HW2 := Lib.hid (HW1.out.go h1 h3)
  clear h1 h3 HW1
  go_wp2_with fail
  go_at_call 48
  refine (KR.out _).mono ?_
  rintro e w3 ⟨rfl, hy⟩
  obtain rfl := hy.symm
  obtain ⟨b0, b1, b2, b3, b4, b5, b6, b7, b8⟩ := c9 HW2.out.r
  have ff : ∀ i, w2.frozen? ⟨w.heap.size, i, none⟩ = false := fun i => HW2.out.r.frozen i
  go_wp2_with fail
  exact HW2.out.ret rfl rfl rfl (rfl) (by omega)
set_option maxRecDepth 100000 in
set_option maxHeartbeats 4000000 in
theorem rw_137_no (C k : Nat) (r : Int) (s : ByteArray) (w : World) (hC : Cr w C s k) (hs : s.size ≤ 1000000) (hr : 0 ≤ r ∧ r ≤ 255) (hb : Hid (bA s k = 137)) (m : Int) (hm : Hid (bA s (k + 1) = m)) (m0 : 0 ≤ m) (m1 : m ≤ 255) (hge : 192 ≤ m) : Calls Tryz.prog 31 #[.pointer (some ⟨C, 0, none⟩), .int .i64 r] w fun e w' =>
    e = .returned (.agg (⟨rrO 137, lstR m r, midR m r, 0, 0, 0, 0, 0, 0⟩ : Ins).vs) ∧ Cr w' C s (k + 2) ∧ Mu [C] w w' := by
  have r0 := hr.1
  have r1 := hr.2
  have HW0 := Lib.hid (Wk.new hC)
  clear hC hr
  have KR := Lib.hid (fun W => rr_c 137 W)
  obtain ⟨q, hq⟩ : ∃ q, rrO 137 = q := ⟨_, rfl⟩
  rw [hq] at KR ⊢
  clear hq
  unfold Ins.vs
  try unfold midR
  try unfold lstR
  try unfold rxM
  try unfold rxL
  dsimp only
  go_enter Tryz.func31, Tryz.ntmps31
  go_wp2_with fail
  go_at_call 29
  refine (rbyte_c C (k) s _ HW0.out.c hs).mono ?_
  rintro e w1 ⟨rfl, h1, h3⟩
  rw [hb.out]
  have HW1 := Lib.hid (HW0.out.go h1 h3)
  clear h1 h3 HW0
  go_wp2_with fail
  go_at_call 29
  refine (rbyte_c C (k + 1) s _ HW1.out.c hs).mono ?_
  rintro e w2 ⟨rfl, h1, h3⟩
  rw [hm.out]
  have HW2 := Lib.hid (HW1.out.go h1 h3)
  clear h1 h3 HW1
  go_wp2_with fail
  go_at_call 48
  refine (KR.out _).mono ?_
  rintro e w3 ⟨rfl, hy⟩
  obtain rfl := hy.symm
  obtain ⟨b0, b1, b2, b3, b4, b5, b6, b7, b8⟩ := c9 HW2.out.r
  have ff : ∀ i, w2.frozen? ⟨w.heap.size, i, none⟩ = false := fun i => HW2.out.r.frozen i
  go_wp2_with fail
  exact HW2.out.ret rfl rfl rfl (rfl) (by omega)
set_option maxRecDepth 100000 in
set_option maxHeartbeats 4000000 in
theorem rw_rest_lo (C k : Nat) (r : Int) (s : ByteArray) (w : World) (hC : Cr w C s k) (hs : s.size ≤ 1000000) (hr : 0 ≤ r ∧ r ≤ 255) (b : Int) (hb : Hid (bA s k = b)) (hlo : b < 184) (x15 : (b == 15) = false) (x139 : (b == 139) = false) (x137 : (b == 137) = false) (x141 : (b == 141) = false) (x129 : (b == 129) = false) (x247 : (b == 247) = false) (x193 : (b == 193) = false) (m : Int) (hm : Hid (bA s (k + 1) = m)) (m0 : 0 ≤ m) (m1 : m ≤ 255) : Calls Tryz.prog 31 #[.pointer (some ⟨C, 0, none⟩), .int .i64 r] w fun e w' =>
    e = .returned (.agg (⟨rrO b, lstR m r, midR m r, 0, 0, 0, 0, 0, 0⟩ : Ins).vs) ∧ Cr w' C s (k + 2) ∧ Mu [C] w w' := by
  have r0 := hr.1
  have r1 := hr.2
  have HW0 := Lib.hid (Wk.new hC)
  clear hC hr
  have KR := Lib.hid (fun W => rr_c b W)
  obtain ⟨q, hq⟩ : ∃ q, rrO b = q := ⟨_, rfl⟩
  rw [hq] at KR ⊢
  clear hq
  unfold Ins.vs
  try unfold midR
  try unfold lstR
  try unfold rxM
  try unfold rxL
  dsimp only
  go_enter Tryz.func31, Tryz.ntmps31
  go_wp2_with fail
  go_at_call 29
  refine (rbyte_c C (k) s _ HW0.out.c hs).mono ?_
  rintro e w1 ⟨rfl, h1, h3⟩
  rw [hb.out]
  have HW1 := Lib.hid (HW0.out.go h1 h3)
  clear h1 h3 HW0
  go_wp2_with fail
  go_at_call 29
  refine (rbyte_c C (k + 1) s _ HW1.out.c hs).mono ?_
  rintro e w2 ⟨rfl, h1, h3⟩
  rw [hm.out]
  have HW2 := Lib.hid (HW1.out.go h1 h3)
  clear h1 h3 HW1
  go_wp2_with fail
  go_at_call 48
  refine (KR.out _).mono ?_
  rintro e w3 ⟨rfl, hy⟩
  obtain rfl := hy.symm
  obtain ⟨b0, b1, b2, b3, b4, b5, b6, b7, b8⟩ := c9 HW2.out.r
  have ff : ∀ i, w2.frozen? ⟨w.heap.size, i, none⟩ = false := fun i => HW2.out.r.frozen i
  go_wp2_with fail
  exact HW2.out.ret rfl rfl rfl (rfl) (by omega)
set_option maxRecDepth 100000 in
set_option maxHeartbeats 4000000 in
theorem rw_rest_hi (C k : Nat) (r : Int) (s : ByteArray) (w : World) (hC : Cr w C s k) (hs : s.size ≤ 1000000) (hr : 0 ≤ r ∧ r ≤ 255) (b : Int) (hb : Hid (bA s k = b)) (hhi : 192 ≤ b) (x15 : (b == 15) = false) (x139 : (b == 139) = false) (x137 : (b == 137) = false) (x141 : (b == 141) = false) (x129 : (b == 129) = false) (x247 : (b == 247) = false) (x193 : (b == 193) = false) (m : Int) (hm : Hid (bA s (k + 1) = m)) (m0 : 0 ≤ m) (m1 : m ≤ 255) : Calls Tryz.prog 31 #[.pointer (some ⟨C, 0, none⟩), .int .i64 r] w fun e w' =>
    e = .returned (.agg (⟨rrO b, lstR m r, midR m r, 0, 0, 0, 0, 0, 0⟩ : Ins).vs) ∧ Cr w' C s (k + 2) ∧ Mu [C] w w' := by
  have r0 := hr.1
  have r1 := hr.2
  have HW0 := Lib.hid (Wk.new hC)
  clear hC hr
  have KR := Lib.hid (fun W => rr_c b W)
  obtain ⟨q, hq⟩ : ∃ q, rrO b = q := ⟨_, rfl⟩
  rw [hq] at KR ⊢
  clear hq
  unfold Ins.vs
  try unfold midR
  try unfold lstR
  try unfold rxM
  try unfold rxL
  dsimp only
  go_enter Tryz.func31, Tryz.ntmps31
  go_wp2_with fail
  go_at_call 29
  refine (rbyte_c C (k) s _ HW0.out.c hs).mono ?_
  rintro e w1 ⟨rfl, h1, h3⟩
  rw [hb.out]
  have HW1 := Lib.hid (HW0.out.go h1 h3)
  clear h1 h3 HW0
  go_wp2_with fail
  go_at_call 29
  refine (rbyte_c C (k + 1) s _ HW1.out.c hs).mono ?_
  rintro e w2 ⟨rfl, h1, h3⟩
  rw [hm.out]
  have HW2 := Lib.hid (HW1.out.go h1 h3)
  clear h1 h3 HW1
  go_wp2_with fail
  go_at_call 48
  refine (KR.out _).mono ?_
  rintro e w3 ⟨rfl, hy⟩
  obtain rfl := hy.symm
  obtain ⟨b0, b1, b2, b3, b4, b5, b6, b7, b8⟩ := c9 HW2.out.r
  have ff : ∀ i, w2.frozen? ⟨w.heap.size, i, none⟩ = false := fun i => HW2.out.r.frozen i
  go_wp2_with fail
  exact HW2.out.ret rfl rfl rfl (rfl) (by omega)
end Is
end Go.Proofs.YtblmagcekfbgdaaGreatDoor
