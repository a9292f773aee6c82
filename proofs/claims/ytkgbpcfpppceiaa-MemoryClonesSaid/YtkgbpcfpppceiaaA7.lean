/- Memories that lie between two blocks; the document's own New, and where an address lies. -/
import Derived.Test.YtkgbpcfpppceiaaA6
namespace Go.Proofs.Ytkgbpcfpppceiaa
open Go Go.RowKit
namespace Mm
open Wd Nt
set_option linter.unusedVariables false
theorem bel_trans {a b c : World} (h : Below a.heap.size a b) (k : Below b.heap.size b c) : Below a.heap.size a c := h.trans (k.mono h.size)
theorem bel_alloc {w : World} (o : Obj) : Below w.heap.size w (w.alloc o) := (Below.refl _ w).alloc (Nat.le_refl _) o
/-- nothing has turned but blocks from B on, ahead of E -/
structure Kp (B E : Nat) (w w' : World) : Prop where
  os : w'.os = w.os
  tape : w'.tape = w.tape
  output : w'.output = w.output
  size : w.heap.size ≤ w'.heap.size
  blk : ∀ i, i < w.heap.size → (i < B ∨ E ≤ i) → w'.heap[i]? = w.heap[i]?
theorem Kp.of {B E : Nat} {w w' : World} (h : Below w.heap.size w w') : Kp B E w w' := ⟨h.os, h.tape, h.output, h.size, fun i hi _ => h.block i hi⟩
theorem Kp.trans {B E : Nat} {a b c : World} (h : Kp B E a b) (g : Kp B E b c) : Kp B E a c :=
  ⟨g.os.trans h.os, g.tape.trans h.tape, g.output.trans h.output, Nat.le_trans h.size g.size, fun i hi ho => (g.blk i (Nat.lt_of_lt_of_le hi h.size) ho).trans (h.blk i hi ho)⟩
theorem Kp.grown {B E g : Nat} {w w' : World} (h : w.grownBy w' (some g)) (hB : B ≤ g) (hE : g < E) : Kp B E w w' :=
  ⟨h.os, h.tape, h.output, h.size, fun i hi ho => h.block i hi (by intro e; cases e; omega)⟩
theorem Kp.below {B E : Nat} {w w' : World} (h : Kp B E w w') (hB : B ≤ w.heap.size) : Below B w w' := ⟨h.os, h.tape, h.output, h.size, fun i hi => h.blk i (by omega) (.inl hi)⟩
theorem Kp.wide {B E B' E' : Nat} {w w' : World} (h : Kp B E w w') (hB : B' ≤ B) (hE : E ≤ E') : Kp B' E' w w' := ⟨h.os, h.tape, h.output, h.size, fun i hi ho => h.blk i hi (by omega)⟩
theorem Kp.bk {B E g : Nat} {w w' : World} {t : TypeId} {cs : Array Value} (h : Kp B E w w') (hb : Bk w g t cs) (ho : g < B ∨ E ≤ g) : Bk w' g t cs := (h.blk g hb.lt ho).trans hb
theorem own_kp {B E B' e s n : Nat} {w w' : World} {v : Value} {xs : List Value} (hk : Kp B E w w') (h : w.ownsRow B' e s v n xs) (ho : ∀ g, v.ownBlock = some g → g < B ∨ E ≤ g) : w'.ownsRow B' e s v n xs := by
  refine ⟨h.1, ?_⟩
  rcases h.2 with h1 | ⟨g, c, cur, rfl, h2, hh, h3⟩
  · exact .inl h1
  · exact .inr ⟨g, c, cur, rfl, h2, (hk.blk g (Array.getElem?_eq_some_iff.1 hh).1 (ho g rfl)).trans hh, h3⟩
/-- regions of one's own, all of them between two blocks -/
structure OwnI (w : World) (B E : Nat) (v : Value) (os : List OReg) : Prop where
  own : OwnR w B v os
  hi : ∀ g, v.ownBlock = some g → g < E
  each : ∀ o ∈ os, o.g < E
  top : E ≤ w.heap.size
theorem OwnI.keep {w w' : World} {B E B' E' : Nat} {v : Value} {os : List OReg} (h : OwnI w B E v os) (hk : Kp B' E' w w') (ho : E ≤ B' ∨ E' ≤ B) : OwnI w' B E v os := by
  refine ⟨⟨own_kp hk h.own.row fun g hg => ?_, fun o hO => own_kp hk (h.own.each o hO) fun g hg => ?_, h.own.apart, h.own.oks⟩, h.hi, h.each, Nat.le_trans h.top hk.size⟩
  · have := h.hi g hg; have := (h.own.rowlt hg).1; omega
  · have := h.each o hO; have := (h.own.lt hO).1
    have e : g = o.g := by unfold OReg.sl Value.ownBlock at hg; simpa using hg.symm
    omega
theorem OwnI.below {w w' : World} {B E : Nat} {v : Value} {os : List OReg} (h : OwnI w B E v os) (hb : Below w.heap.size w w') : OwnI w' B E v os :=
  h.keep (B' := E) (E' := E) (Kp.of hb) (.inl (Nat.le_refl _))
theorem OwnR.toI {w : World} {B : Nat} {v : Value} {os : List OReg} (h : OwnR w B v os) : OwnI w B w.heap.size v os :=
  ⟨h, fun g hg => (h.rowlt hg).2, fun o ho => (h.lt ho).2, Nat.le_refl _⟩
/-- a memory of the document's own -/
structure RefM (w : World) (B E : Nat) (p : Value) (M : List Reg) : Prop where
  ex : ∃ D v os, p = .pointer (some ⟨D, 0, none⟩) ∧ Bk w D 52 #[v] ∧ B ≤ D ∧ D < E ∧ OwnI w B E v os ∧ os.map (·.r) = M
  good : Good M
  rise : Rising M
theorem RefM.keep {w w' : World} {B E B' E' : Nat} {p : Value} {M : List Reg} (h : RefM w B E p M) (hk : Kp B' E' w w') (ho : E ≤ B' ∨ E' ≤ B) : RefM w' B E p M := by
  obtain ⟨D, v, os, h1, h2, h3, h4, h5, h6⟩ := h.ex
  exact ⟨⟨D, v, os, h1, hk.bk h2 (by omega), h3, h4, h5.keep hk ho, h6⟩, h.good, h.rise⟩
theorem RefM.below {w w' : World} {B E : Nat} {p : Value} {M : List Reg} (h : RefM w B E p M) (hb : Below w.heap.size w w') : RefM w' B E p M :=
  h.keep (B' := E) (E' := E) (Kp.of hb) (.inl (Nat.le_refl _))

/-! ### New -/
theorem rcheck_u (A : Option Addr) (n c : Nat) (rs : List Reg) (w : World) (h : Hid (AtR w A n rs)) (hc : n ≤ 9223372036854775807) (x : Int) (hx : ChkO rs x) :
    Calls Try.prog 21 #[.slice A n c] w fun e w' => e = .returned (.int .i64 x) ∧ Below w.heap.size w w' :=
  (rcheck_c A n c rs w h hc).mono fun e w' ⟨y, h1, h2, m, h3⟩ => ⟨by rw [h1, h2.uniq hx], by rw [h3]; exact below_drewN (Below.refl _ _) m⟩
theorem chk_ex (rs : List Reg) : ∃ x, ChkO rs x := by
  by_cases h1 : 8 < rs.length ∨ Long rs
  · exact ⟨3, .inl ⟨h1, rfl⟩⟩
  · have h2 : rs.length ≤ 8 := by
      rcases Nat.lt_or_ge 8 rs.length with h | h
      · exact absurd (.inl h) h1
      · exact h
    by_cases h3 : Bad rs
    · exact ⟨2, .inr (.inl ⟨h2, fun h => h1 (.inr h), h3, rfl⟩)⟩
    · exact ⟨0, .inr (.inr ⟨h2, fun h => h1 (.inr h), h3, rfl⟩)⟩
theorem chk_num {rs : List Reg} {x : Int} (h : ChkO rs x) : x = 0 ∨ x = 2 ∨ x = 3 := by
  rcases h with ⟨_, h⟩ | ⟨_, _, _, h⟩ | ⟨_, _, _, h⟩ <;> omega
/-- a memory that has been made, or an error -/
def NewO (R : World → Nat → Nat → Value → List Reg → Prop) (rs : List Reg) (w : World) (e : Ending) (w' : World) : Prop :=
  Below w.heap.size w w' ∧ ∃ x, ChkO rs x ∧ ((x ≠ 0 ∧ e = .returned (.tuple #[.pointer none, .int .i64 x])) ∨ (x = 0 ∧ ∃ p M, e = .returned (.tuple #[p, .int .i64 0]) ∧ M.Perm rs ∧ R w' w.heap.size w'.heap.size p M))
theorem new_e {R : World → Nat → Nat → Value → List Reg → Prop} {rs : List Reg} {w w' : World} {x : Int} (hb : Below w.heap.size w w') (h : ChkO rs x) (h0 : x ≠ 0) : NewO R rs w (.returned (.tuple #[.pointer none, .int .i64 x])) w' :=
  ⟨hb, x, h, .inl ⟨h0, rfl⟩⟩
theorem rnew_c (A : Option Addr) (n c : Nat) (rs : List Reg) (w : World) (h : Hid (AtR w A n rs)) (hc : n ≤ 9223372036854775807) :
    Calls Try.prog 19 #[.slice A n c] w (NewO RefM rs w) := by
  obtain ⟨x, hx⟩ := chk_ex rs
  have HX := Lib.hid hx
  have H1 := Lib.hid (rcheck_u A n c rs w h hc x hx)
  by_cases h0 : x = 0
  · subst h0
    have HG := Lib.hid hx.good
    clear hx
    go_enter Try.func19, Try.ntmps19
    go_wp2_with fail
    go_at_call 21
    refine H1.out.mono ?_
    rintro e w1 ⟨rfl, hb1⟩
    have H2 := Lib.hid (own_c A n c rs w1 (AtR.step h hb1) hc HG.out)
    have HB1 := Lib.hid hb1
    clear H1 hb1
    go_wp2_with fail
    go_at_call 34
    refine H2.out.mono ?_
    rintro e w2 ⟨v, os, rfl, ho, hp, hb2⟩
    have HB2 := Lib.hid (bel_trans HB1.out hb2)
    have HR : Hid (RefM (w2.alloc (.cells #[v] 52)) w.heap.size (w2.alloc (.cells #[v] 52)).heap.size (.pointer (some ⟨w2.heap.size, 0, none⟩)) (os.map (·.r))) := by
      have hsz : (w2.alloc (.cells #[v] 52)).heap.size = w2.heap.size + 1 := by simp
      have h1 := ((ho.out.below (bel_alloc (.cells #[v] 52))).base HB1.out.size)
      exact Lib.hid ⟨⟨w2.heap.size, v, os, rfl, Bk.new _ _ _, HB2.out.size, by omega, h1.toI, rfl⟩, HG.out.perm hp.out.1.symm, hp.out.2⟩
    have HB3 := Lib.hid (HB2.out.alloc HB2.out.size (.cells #[v] 52))
    have HP := Lib.hid hp.out.1
    obtain ⟨A0, n0, c0, rfl⟩ : ∃ A0 n0 c0, v = .slice A0 n0 c0 := by
      obtain ⟨A0, n0, c0, e, _⟩ := ho.out.rdR; exact ⟨A0, n0, c0, e⟩
    clear H2 ho hp hb2
    go_wp2_with fail
    go_ret2
    exact ⟨HB3.out, 0, HX.out, .inr ⟨rfl, _, _, rfl, HP.out, HR.out⟩⟩
  · have hx0 : (x != 0) = true := by simpa using h0
    have HX0 := Lib.hid h0
    clear hx h0
    go_enter Try.func19, Try.ntmps19
    go_wp2_with fail
    go_at_call 21
    refine H1.out.mono ?_
    rintro e w1 ⟨rfl, hb1⟩
    have HB1 := Lib.hid hb1
    clear H1 hb1
    go_wp2_with fail
    go_ret2
    exact new_e HB1.out HX.out HX0.out

/-! ### place -/
/-- where it lies, or nowhere -/
def PlaceO (M : List Reg) (p n : Int) (w : World) (e : Ending) (w' : World) : Prop :=
  (∃ m, w' = w.drewN m) ∧ ((∃ i r, Hits M p n i r ∧ e = .returned (.tuple #[.int .i64 ((i : Nat) : Int), .int .i64 (p - r.base)])) ∨ ((∀ i r, ¬ Hits M p n i r) ∧ e = .returned (.tuple #[.int .i64 (-1), .int .i64 0])))
set_option maxRecDepth 100000 in
set_option maxHeartbeats 4000000 in
theorem place_c {w : World} {B E : Nat} {P : Value} {M : List Reg} (h : RefM w B E P M) (p n : Int) (hp : W p) (hn : 0 ≤ n) (hn' : n ≤ 9223372036854775807) :
    Calls Try.prog 40 #[P, .int .u64 p, .int .i64 n] w (PlaceO M p n w) := by
  obtain ⟨D, v, os, rfl, hD, hB, hE, hO, hM⟩ := h.ex
  obtain ⟨A, m, c, rfl, hR, hmc, hcm⟩ := hO.own.rdR
  rw [hM] at hR
  have HR := Lib.hid hR
  have HG := Lib.hid h.good
  have HLM := Lib.hid hR.len
  have cD : w.cell? ⟨D, 0, none⟩ = some (.slice A m c) := hD.cell 0
  have hm8 : m ≤ 8 := by rw [← hR.len]; exact h.good.few
  unfold W at hp
  obtain ⟨hp0, hp1⟩ := hp
  clear h hD hB hE hO hM hR
  go_enter Try.func40, Try.ntmps40
  try simp only [List.append]
  go_wp2_with fail
  go_loopw [8] (fun i W => ∃ k q : Nat, k ≤ m ∧ i = .int .i64 (k : Int) ∧ W = w.drewN q ∧ Hid (∀ (j : Nat) (r : Reg), j < k → ¬ Hits M p n j r)) (fun i _ => m - (intOf i).toNat)
  case atStart => exact ⟨0, 0, Nat.zero_le _, rfl, rfl, Lib.hid (fun j r hj => absurd hj (by omega))⟩
  case round =>
    obtain ⟨k, q, hk, rfl, rfl, hI⟩ := hrel
    rcases Nat.lt_or_ge k m with hkm | hkm
    · obtain ⟨r, hr⟩ := get_lt (rs := M) (j := k) (by rw [HLM.out]; exact hkm)
      have hrb := (HR.out.oks r (List.mem_of_getElem? hr)).base
      obtain ⟨ad, rfl, _, A1, n1, c1, h1, h2, h3, h4, h5, h6⟩ := HR.out.at_ hr
      have hkmi : (k : Int) < (m : Int) := by omega
      have hrs := HG.out.short k r hr
      have hrf := HG.out.fits k r hr
      have HLEN := Lib.hid (show r.len = n1 by unfold Reg.len; rw [h4.len])
      rw [HLEN.out] at hrs hrf
      have HRk := Lib.hid hr
      obtain ⟨b, hbb⟩ : ∃ b, b = r.base := ⟨_, rfl⟩
      rw [← hbb] at h1 hrb hrf
      have HBB := Lib.hid hbb
      unfold W at hrb
      obtain ⟨hb0, hb1⟩ := hrb
      clear hbb hr h3 h4
      have hnohit : ¬ (b ≤ p ∧ p < b + n1 ∧ n ≤ n1 - (p - b)) → Hid (∀ (j : Nat) (s : Reg), j < k + 1 → ¬ Hits M p n j s) := fun hno => Lib.hid (fun j s hj hh => by
        by_cases e : j = k
        · subst e
          obtain ⟨g1, g2, g3, g4⟩ := hh
          rw [HRk.out] at g1
          cases g1
          rw [HLEN.out, ← HBB.out] at g3 g4
          exact hno ⟨by rw [HBB.out]; exact g2, g3, g4⟩
        · exact hI.out j s (by omega) hh)
      by_cases q1 : b ≤ p
      · by_cases q2 : p - b < n1
        · by_cases q3 : n ≤ n1 - (p - b)
          · have HH : Hid (Hits M p n k r) := Lib.hid ⟨HRk.out, by rw [← HBB.out]; exact q1, by rw [HLEN.out, ← HBB.out]; omega, by rw [HLEN.out, ← HBB.out]; exact q3⟩
            clear hnohit hI
            have hpb : 0 ≤ p - b := by omega
            have hpb2 : p - b ≤ 1048576 := by omega
            have hw1 : IntKind.u64.wrap (p - b) = p - b := by rw [IntKind.wrap_u64]; omega
            have hw2 : IntKind.i64.wrap (p - b) = p - b := IntWalk.i64_in _ (by omega)
            have HW1 := Lib.hid hw1
            have HW2 := Lib.hid hw2
            clear hw1 hw2
            go_wp2_with fail
            have hw1 := HW1.out
            have hw2 := HW2.out
            go_quiet (fail)
            clear hw1 hw2
            go_wp2_with fail
            go_ret2
            exact ⟨⟨_, World.drewN_drewN _ _ _⟩, .inl ⟨k, r, HH.out, by rw [← HBB.out]; rfl⟩⟩
          · have hI' := hnohit (fun hh => q3 hh.2.2)
            have q3' : n1 - (p - b) < n := by omega
            have hpb : 0 ≤ p - b := by omega
            have hpb2 : p - b ≤ 1048576 := by omega
            have hpb3 : 0 ≤ (n1 : Int) - (p - b) := by omega
            clear hnohit hI q3
            go_wp2_with fail
            go_roundw
            case rel => exact ⟨k + 1, q, by omega, by go_num, rfl, hI'⟩
            case measure => (simp [intOf] <;> omega)
        · have hI' := hnohit (fun hh => q2 (by omega))
          have q2' : (n1 : Int) ≤ p - b := by omega
          have hpb : 0 ≤ p - b := by omega
          clear hnohit hI q2
          go_wp2_with fail
          go_roundw
          case rel => exact ⟨k + 1, q, by omega, by go_num, rfl, hI'⟩
          case measure => (simp [intOf] <;> omega)
      · have hI' := hnohit (fun hh => q1 hh.1)
        have q1' : p < b := by omega
        clear hnohit hI q1
        go_wp2_with fail
        go_roundw
        case rel => exact ⟨k + 1, q, by omega, by go_num, rfl, hI'⟩
        case measure => (simp [intOf] <;> omega)
    · obtain rfl : k = m := by omega
      have HN : Hid (∀ i r, ¬ Hits M p n i r) := Lib.hid (fun i r hh => hI.out i r (by rw [← HLM.out]; exact (List.getElem?_eq_some_iff.1 hh.1).1) hh)
      clear hI
      go_wp2_with fail
      go_ret2
      exact ⟨⟨q, rfl⟩, .inr ⟨HN.out, rfl⟩⟩
end Mm
end Go.Proofs.Ytkgbpcfpppceiaa
