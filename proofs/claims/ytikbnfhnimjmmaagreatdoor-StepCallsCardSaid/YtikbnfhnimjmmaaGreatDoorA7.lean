/- Memories that lie between two blocks; the document's own New, and where an address lies. | The document's own Load, Store, Bytes of a memory; Same of regions. -/
import Derived.Test.YtikbnfhnimjmmaaGreatDoorA6
import Derived.Test.YtikbnfhnimjmmaaGreatDoorA1
namespace Go.Proofs.YtikbnfhnimjmmaaGreatDoor
open Go Go.RowKit
namespace Mm
open Wd Nt
set_option linter.unusedVariables false
theorem bel_trans {a b c : World} (h : Below a.heap.size a b) (k : Below b.heap.size b c) : Below a.heap.size a c := h.trans (k.mono h.size)
theorem bel_alloc {w : World} (o : Obj) : Below w.heap.size w (w.alloc o) := (Below.refl _ w).alloc (Nat.le_refl _) o
/-- nothing has turned but blocks from B on, ahead of E -/
structure Kp (B E : Nat) (w w' : World) : Prop where
  os : w'.os = w.os
  tape : w'.tape = w.tape
  output : w'.output = w.output
  size : w.heap.size ≤ w'.heap.size
  blk : ∀ i, i < w.heap.size → (i < B ∨ E ≤ i) → w'.heap[i]? = w.heap[i]?
theorem Kp.of {B E : Nat} {w w' : World} (h : Below w.heap.size w w') : Kp B E w w' := ⟨h.os, h.tape, h.output, h.size, fun i hi _ => h.block i hi⟩
theorem Kp.trans {B E : Nat} {a b c : World} (h : Kp B E a b) (g : Kp B E b c) : Kp B E a c :=
  ⟨g.os.trans h.os, g.tape.trans h.tape, g.output.trans h.output, Nat.le_trans h.size g.size, fun i hi ho => (g.blk i (Nat.lt_of_lt_of_le hi h.size) ho).trans (h.blk i hi ho)⟩
theorem Kp.grown {B E g : Nat} {w w' : World} (h : w.grownBy w' (some g)) (hB : B ≤ g) (hE : g < E) : Kp B E w w' :=
  ⟨h.os, h.tape, h.output, h.size, fun i hi ho => h.block i hi (by intro e; cases e; omega)⟩
theorem Kp.below {B E : Nat} {w w' : World} (h : Kp B E w w') (hB : B ≤ w.heap.size) : Below B w w' := ⟨h.os, h.tape, h.output, h.size, fun i hi => h.blk i (by omega) (.inl hi)⟩
theorem Kp.wide {B E B' E' : Nat} {w w' : World} (h : Kp B E w w') (hB : B' ≤ B) (hE : E ≤ E') : Kp B' E' w w' := ⟨h.os, h.tape, h.output, h.size, fun i hi ho => h.blk i hi (by omega)⟩
theorem Kp.bk {B E g : Nat} {w w' : World} {t : TypeId} {cs : Array Value} (h : Kp B E w w') (hb : Bk w g t cs) (ho : g < B ∨ E ≤ g) : Bk w' g t cs := (h.blk g hb.lt ho).trans hb
theorem own_kp {B E B' e s n : Nat} {w w' : World} {v : Value} {xs : List Value} (hk : Kp B E w w') (h : w.ownsRow B' e s v n xs) (ho : ∀ g, v.ownBlock = some g → g < B ∨ E ≤ g) : w'.ownsRow B' e s v n xs := by
  refine ⟨h.1, ?_⟩
  rcases h.2 with h1 | ⟨g, c, cur, rfl, h2, hh, h3⟩
  · exact .inl h1
  · exact .inr ⟨g, c, cur, rfl, h2, (hk.blk g (Array.getElem?_eq_some_iff.1 hh).1 (ho g rfl)).trans hh, h3⟩
/-- regions of one's own, all of them between two blocks -/
structure OwnI (w : World) (B E : Nat) (v : Value) (os : List OReg) : Prop where
  own : OwnR w B v os
  hi : ∀ g, v.ownBlock = some g → g < E
  each : ∀ o ∈ os, o.g < E
  top : E ≤ w.heap.size
theorem OwnI.keep {w w' : World} {B E B' E' : Nat} {v : Value} {os : List OReg} (h : OwnI w B E v os) (hk : Kp B' E' w w') (ho : E ≤ B' ∨ E' ≤ B) : OwnI w' B E v os := by
  refine ⟨⟨own_kp hk h.own.row fun g hg => ?_, fun o hO => own_kp hk (h.own.each o hO) fun g hg => ?_, h.own.apart, h.own.oks⟩, h.hi, h.each, Nat.le_trans h.top hk.size⟩
  · have := h.hi g hg; have := (h.own.rowlt hg).1; omega
  · have := h.each o hO; have := (h.own.lt hO).1
    have e : g = o.g := by unfold OReg.sl Value.ownBlock at hg; simpa using hg.symm
    omega
theorem OwnI.below {w w' : World} {B E : Nat} {v : Value} {os : List OReg} (h : OwnI w B E v os) (hb : Below w.heap.size w w') : OwnI w' B E v os :=
  h.keep (B' := E) (E' := E) (Kp.of hb) (.inl (Nat.le_refl _))
theorem OwnR.toI {w : World} {B : Nat} {v : Value} {os : List OReg} (h : OwnR w B v os) : OwnI w B w.heap.size v os :=
  ⟨h, fun g hg => (h.rowlt hg).2, fun o ho => (h.lt ho).2, Nat.le_refl _⟩
/-- a memory of the document's own -/
structure RefM (w : World) (B E : Nat) (p : Value) (M : List Reg) : Prop where
  ex : ∃ D v os, p = .pointer (some ⟨D, 0, none⟩) ∧ Bk w D 64 #[v] ∧ B ≤ D ∧ D < E ∧ OwnI w B E v os ∧ os.map (·.r) = M
  good : Good M
  rise : Rising M
theorem RefM.keep {w w' : World} {B E B' E' : Nat} {p : Value} {M : List Reg} (h : RefM w B E p M) (hk : Kp B' E' w w') (ho : E ≤ B' ∨ E' ≤ B) : RefM w' B E p M := by
  obtain ⟨D, v, os, h1, h2, h3, h4, h5, h6⟩ := h.ex
  exact ⟨⟨D, v, os, h1, hk.bk h2 (by omega), h3, h4, h5.keep hk ho, h6⟩, h.good, h.rise⟩
theorem RefM.below {w w' : World} {B E : Nat} {p : Value} {M : List Reg} (h : RefM w B E p M) (hb : Below w.heap.size w w') : RefM w' B E p M :=
  h.keep (B' := E) (E' := E) (Kp.of hb) (.inl (Nat.le_refl _))

/-! ### New -/
theorem rcheck_u (A : Option Addr) (n c : Nat) (rs : List Reg) (w : World) (h : Hid (AtR w A n rs)) (hc : n ≤ 9223372036854775807) (x : Int) (hx : ChkO rs x) :
    Calls Tryz.prog 71 #[.slice A n c] w fun e w' => e = .returned (.int .i64 x) ∧ Below w.heap.size w w' :=
  (rcheck_c A n c rs w h hc).mono fun e w' ⟨y, h1, h2, m, h3⟩ => ⟨by rw [h1, h2.uniq hx], by rw [h3]; exact below_drewN (Below.refl _ _) m⟩
theorem chk_ex (rs : List Reg) : ∃ x, ChkO rs x := by
  by_cases h1 : 8 < rs.length ∨ Long rs
  · exact ⟨3, .inl ⟨h1, rfl⟩⟩
  · have h2 : rs.length ≤ 8 := by
      rcases Nat.lt_or_ge 8 rs.length with h | h
      · exact absurd (.inl h) h1
      · exact h
    by_cases h3 : Bad rs
    · exact ⟨2, .inr (.inl ⟨h2, fun h => h1 (.inr h), h3, rfl⟩)⟩
    · exact ⟨0, .inr (.inr ⟨h2, fun h => h1 (.inr h), h3, rfl⟩)⟩
theorem chk_num {rs : List Reg} {x : Int} (h : ChkO rs x) : x = 0 ∨ x = 2 ∨ x = 3 := by
  rcases h with ⟨_, h⟩ | ⟨_, _, _, h⟩ | ⟨_, _, _, h⟩ <;> omega
/-- a memory that has been made, or an error -/
def NewO (R : World → Nat → Nat → Value → List Reg → Prop) (rs : List Reg) (w : World) (e : Ending) (w' : World) : Prop :=
  Below w.heap.size w w' ∧ ∃ x, ChkO rs x ∧ ((x ≠ 0 ∧ e = .returned (.tuple #[.pointer none, .int .i64 x])) ∨ (x = 0 ∧ ∃ p M, e = .returned (.tuple #[p, .int .i64 0]) ∧ M.Perm rs ∧ R w' w.heap.size w'.heap.size p M))
theorem new_e {R : World → Nat → Nat → Value → List Reg → Prop} {rs : List Reg} {w w' : World} {x : Int} (hb : Below w.heap.size w w') (h : ChkO rs x) (h0 : x ≠ 0) : NewO R rs w (.returned (.tuple #[.pointer none, .int .i64 x])) w' :=
  ⟨hb, x, h, .inl ⟨h0, rfl⟩⟩
theorem rnew_c (A : Option Addr) (n c : Nat) (rs : List Reg) (w : World) (h : Hid (AtR w A n rs)) (hc : n ≤ 9223372036854775807) :
    Calls Tryz.prog 28 #[.slice A n c] w (NewO RefM rs w) := by
  obtain ⟨x, hx⟩ := chk_ex rs
  have HX := Lib.hid hx
  have H1 := Lib.hid (rcheck_u A n c rs w h hc x hx)
  by_cases h0 : x = 0
  · subst h0
    have HG := Lib.hid hx.good
    clear hx
    go_enter Tryz.func28, Tryz.ntmps28
    go_wp2_with fail
    go_at_call 71
    refine H1.out.mono ?_
    rintro e w1 ⟨rfl, hb1⟩
    have H2 := Lib.hid (own_c A n c rs w1 (AtR.step h hb1) hc HG.out)
    have HB1 := Lib.hid hb1
    clear H1 hb1
    go_wp2_with fail
    go_at_call 72
    refine H2.out.mono ?_
    rintro e w2 ⟨v, os, rfl, ho, hp, hb2⟩
    have HB2 := Lib.hid (bel_trans HB1.out hb2)
    have HR : Hid (RefM (w2.alloc (.cells #[v] 64)) w.heap.size (w2.alloc (.cells #[v] 64)).heap.size (.pointer (some ⟨w2.heap.size, 0, none⟩)) (os.map (·.r))) := by
      have hsz : (w2.alloc (.cells #[v] 64)).heap.size = w2.heap.size + 1 := by simp
      have h1 := ((ho.out.below (bel_alloc (.cells #[v] 64))).base HB1.out.size)
      exact Lib.hid ⟨⟨w2.heap.size, v, os, rfl, Bk.new _ _ _, HB2.out.size, by omega, h1.toI, rfl⟩, HG.out.perm hp.out.1.symm, hp.out.2⟩
    have HB3 := Lib.hid (HB2.out.alloc HB2.out.size (.cells #[v] 64))
    have HP := Lib.hid hp.out.1
    obtain ⟨A0, n0, c0, rfl⟩ : ∃ A0 n0 c0, v = .slice A0 n0 c0 := by
      obtain ⟨A0, n0, c0, e, _⟩ := ho.out.rdR; exact ⟨A0, n0, c0, e⟩
    clear H2 ho hp hb2
    go_wp2_with fail
    go_ret2
    exact ⟨HB3.out, 0, HX.out, .inr ⟨rfl, _, _, rfl, HP.out, HR.out⟩⟩
  · have hx0 : (x != 0) = true := by simpa using h0
    have HX0 := Lib.hid h0
    clear hx h0
    go_enter Tryz.func28, Tryz.ntmps28
    go_wp2_with fail
    go_at_call 71
    refine H1.out.mono ?_
    rintro e w1 ⟨rfl, hb1⟩
    have HB1 := Lib.hid hb1
    clear H1 hb1
    go_wp2_with fail
    go_ret2
    exact new_e HB1.out HX.out HX0.out

/-! ### place -/
/-- where it lies, or nowhere -/
def PlaceO (M : List Reg) (p n : Int) (w : World) (e : Ending) (w' : World) : Prop :=
  (∃ m, w' = w.drewN m) ∧ ((∃ i r, Hits M p n i r ∧ e = .returned (.tuple #[.int .i64 ((i : Nat) : Int), .int .i64 (p - r.base)])) ∨ ((∀ i r, ¬ Hits M p n i r) ∧ e = .returned (.tuple #[.int .i64 (-1), .int .i64 0])))
set_option maxRecDepth 100000 in
set_option maxHeartbeats 4000000 in
theorem place_c {w : World} {B E : Nat} {P : Value} {M : List Reg} (h : RefM w B E P M) (p n : Int) (hp : W p) (hn : 0 ≤ n) (hn' : n ≤ 9223372036854775807) :
    Calls Tryz.prog 136 #[P, .int .u64 p, .int .i64 n] w (PlaceO M p n w) := by
  obtain ⟨D, v, os, rfl, hD, hB, hE, hO, hM⟩ := h.ex
  obtain ⟨A, m, c, rfl, hR, hmc, hcm⟩ := hO.own.rdR
  rw [hM] at hR
  have HR := Lib.hid hR
  have HG := Lib.hid h.good
  have HLM := Lib.hid hR.len
  have cD : w.cell? ⟨D, 0, none⟩ = some (.slice A m c) := hD.cell 0
  have hm8 : m ≤ 8 := by rw [← hR.len]; exact h.good.few
  unfold W at hp
  obtain ⟨hp0, hp1⟩ := hp
  clear h hD hB hE hO hM hR
  go_enter Tryz.func136, Tryz.ntmps136
  try simp only [List.append]
  go_wp2_with fail
  go_loopw [8] (fun i W => ∃ k q : Nat, k ≤ m ∧ i = .int .i64 (k : Int) ∧ W = w.drewN q ∧ Hid (∀ (j : Nat) (r : Reg), j < k → ¬ Hits M p n j r)) (fun i _ => m - (intOf i).toNat)
  case atStart => exact ⟨0, 0, Nat.zero_le _, rfl, rfl, Lib.hid (fun j r hj => absurd hj (by omega))⟩
  case round =>
    obtain ⟨k, q, hk, rfl, rfl, hI⟩ := hrel
    rcases Nat.lt_or_ge k m with hkm | hkm
    · obtain ⟨r, hr⟩ := get_lt (rs := M) (j := k) (by rw [HLM.out]; exact hkm)
      have hrb := (HR.out.oks r (List.mem_of_getElem? hr)).base
      obtain ⟨ad, rfl, _, A1, n1, c1, h1, h2, h3, h4, h5, h6⟩ := HR.out.at_ hr
      have hkmi : (k : Int) < (m : Int) := by omega
      have hrs := HG.out.short k r hr
      have hrf := HG.out.fits k r hr
      have HLEN := Lib.hid (show r.len = n1 by unfold Reg.len; rw [h4.len])
      rw [HLEN.out] at hrs hrf
      have HRk := Lib.hid hr
      obtain ⟨b, hbb⟩ : ∃ b, b = r.base := ⟨_, rfl⟩
      rw [← hbb] at h1 hrb hrf
      have HBB := Lib.hid hbb
      unfold W at hrb
      obtain ⟨hb0, hb1⟩ := hrb
      clear hbb hr h3 h4
      have hnohit : ¬ (b ≤ p ∧ p < b + n1 ∧ n ≤ n1 - (p - b)) → Hid (∀ (j : Nat) (s : Reg), j < k + 1 → ¬ Hits M p n j s) := fun hno => Lib.hid (fun j s hj hh => by
        by_cases e : j = k
        · subst e
          obtain ⟨g1, g2, g3, g4⟩ := hh
          rw [HRk.out] at g1
          cases g1
          rw [HLEN.out, ← HBB.out] at g3 g4
          exact hno ⟨by rw [HBB.out]; exact g2, g3, g4⟩
        · exact hI.out j s (by omega) hh)
      by_cases q1 : b ≤ p
      · by_cases q2 : p - b < n1
        · by_cases q3 : n ≤ n1 - (p - b)
          · have HH : Hid (Hits M p n k r) := Lib.hid ⟨HRk.out, by rw [← HBB.out]; exact q1, by rw [HLEN.out, ← HBB.out]; omega, by rw [HLEN.out, ← HBB.out]; exact q3⟩
            clear hnohit hI
            have hpb : 0 ≤ p - b := by omega
            have hpb2 : p - b ≤ 1048576 := by omega
            have hw1 : IntKind.u64.wrap (p - b) = p - b := by rw [IntKind.wrap_u64]; omega
            have hw2 : IntKind.i64.wrap (p - b) = p - b := IntWalk.i64_in _ (by omega)
            have HW1 := Lib.hid hw1
            have HW2 := Lib.hid hw2
            clear hw1 hw2
            go_wp2_with fail
            have hw1 := HW1.out
            have hw2 := HW2.out
            go_quiet (fail)
            clear hw1 hw2
            go_wp2_with fail
            go_ret2
            exact ⟨⟨_, World.drewN_drewN _ _ _⟩, .inl ⟨k, r, HH.out, by rw [← HBB.out]; rfl⟩⟩
          · have hI' := hnohit (fun hh => q3 hh.2.2)
            have q3' : n1 - (p - b) < n := by omega
            have hpb : 0 ≤ p - b := by omega
            have hpb2 : p - b ≤ 1048576 := by omega
            have hpb3 : 0 ≤ (n1 : Int) - (p - b) := by omega
            clear hnohit hI q3
            go_wp2_with fail
            go_roundw
            case rel => exact ⟨k + 1, q, by omega, by go_num, rfl, hI'⟩
            case measure => (simp [intOf] <;> omega)
        · have hI' := hnohit (fun hh => q2 (by omega))
          have q2' : (n1 : Int) ≤ p - b := by omega
          have hpb : 0 ≤ p - b := by omega
          clear hnohit hI q2
          go_wp2_with fail
          go_roundw
          case rel => exact ⟨k + 1, q, by omega, by go_num, rfl, hI'⟩
          case measure => (simp [intOf] <;> omega)
      · have hI' := hnohit (fun hh => q1 hh.1)
        have q1' : p < b := by omega
        clear hnohit hI q1
        go_wp2_with fail
        go_roundw
        case rel => exact ⟨k + 1, q, by omega, by go_num, rfl, hI'⟩
        case measure => (simp [intOf] <;> omega)
    · obtain rfl : k = m := by omega
      have HN : Hid (∀ i r, ¬ Hits M p n i r) := Lib.hid (fun i r hh => hI.out i r (by rw [← HLM.out]; exact (List.getElem?_eq_some_iff.1 hh.1).1) hh)
      clear hI
      go_wp2_with fail
      go_ret2
      exact ⟨⟨q, rfl⟩, .inr ⟨HN.out, rfl⟩⟩
end Mm
end Go.Proofs.YtikbnfhnimjmmaaGreatDoor
namespace Go.Proofs.YtikbnfhnimjmmaaGreatDoor
open Go Go.RowKit
namespace Mm
open Wd Nt
set_option linter.unusedVariables false
/-- what is told of a word -/
def LoadP (M : List Reg) (p : Int) (w : World) (e : Ending) (w' : World) : Prop := Below w.heap.size w w' ∧ ∃ v x, e = .returned (.tuple #[.int .u64 v, .int .i64 x]) ∧ LoadO M p v x
theorem shl_or {v b : Int} (hv : 0 ≤ v) (hv' : v < 72057594037927936) (hb : 0 ≤ b) (hb' : b ≤ 255) : bits .or .u64 (v * 256) b = v * 256 + b :=
  or_add _ _ 8 (by omega) (by omega) (by omega) hb (by omega) (by omega)
theorem B256_7 : B256 7 = 72057594037927936 := rfl
theorem B256_le {m n : Nat} (h : m ≤ n) : B256 m ≤ B256 n := by
  induction n with
  | zero => obtain rfl : m = 0 := by omega
            exact Int.le_refl _
  | succ n ih =>
    rcases Nat.eq_or_lt_of_le h with rfl | h
    · exact Int.le_refl _
    · have := ih (by omega); have := B256_pos n; show _ ≤ 256 * B256 n; omega
set_option maxRecDepth 100000 in
set_option maxHeartbeats 4000000 in
theorem rload_c {w : World} {B E : Nat} {P : Value} {M : List Reg} (h : Hid (RefM w B E P M)) (p : Int) (hp : W p) :
    Calls Tryz.prog 78 #[P, .int .u64 p] w (LoadP M p w) := by
  have H1 := Lib.hid (place_c h.out p 8 hp (by omega) (by omega))
  obtain ⟨D, v, os, rfl, hD, hB, hE, hO, hM⟩ := h.out.ex
  obtain ⟨A, m, c, rfl, hR, hmc, hcm⟩ := hO.own.rdR
  rw [hM] at hR
  have HR := Lib.hid hR
  have HG := Lib.hid h.out.good
  have HLM := Lib.hid hR.len
  have cD : w.cell? ⟨D, 0, none⟩ = some (.slice A m c) := hD.cell 0
  have hm8 : m ≤ 8 := by rw [← hR.len]; exact h.out.good.few
  clear h hD hB hE hO hM hR hp
  go_enter Tryz.func78, Tryz.ntmps78
  try simp only [List.append]
  go_wp2_with fail
  go_at_call 136
  refine H1.out.mono ?_
  rintro e w1 ⟨⟨q, rfl⟩, ⟨i, r, hh, rfl⟩ | ⟨hno, rfl⟩⟩
  · have HH := Lib.hid hh
    obtain ⟨hr, h1, h2, h3⟩ := hh
    obtain ⟨ad, rfl, _, A1, n1, c1, k1, k2, k3, k4, k5, k6⟩ := HR.out.at_ hr
    have hil : i < m := by rw [← HLM.out]; exact (List.getElem?_eq_some_iff.1 hr).1
    have hii : (i : Int) < (m : Int) := by omega
    have hi0 : (0 : Int) ≤ (i : Int) := by omega
    have hrs := HG.out.short i r hr
    obtain ⟨d, hd⟩ : ∃ d : Nat, p - r.base = (d : Int) := ⟨(p - r.base).toNat, by omega⟩
    have hlen : r.len = n1 := by unfold Reg.len; rw [k4.len]
    rw [hlen] at h2 h3 hrs
    have hdn : d + 8 ≤ n1 := by omega
    have hdn' : n1 ≤ 1048576 := by omega
    rw [hd]
    have HD := Lib.hid hd
    have K4 := Lib.hid k4
    clear H1 k1 k3 k4 hr h1 h2 h3 hrs hlen hd hil
    go_wp2_with fail
    go_loopw [8, 9] (fun v j W => ∃ (t : Nat), t ≤ 8 ∧ v = .int .u64 (wordN r.bytes (d + t) (8 - t)) ∧ j = .int .i64 ((t : Int) - 1) ∧ W = w.drewN q) (fun _ j _ => (intOf j + 1).toNat)
    case atStart => exact ⟨8, Nat.le_refl _, rfl, rfl, rfl⟩
    case round =>
      obtain ⟨t, ht, rfl, rfl, rfl⟩ := hrel
      rcases Nat.eq_zero_or_pos t with rfl | ht0
      · have HV : Hid (LoadO M p (wordN r.bytes (d + 0) (8 - 0)) 0) := Lib.hid (.inl ⟨i, r, HH.out, by rw [HD.out]; rfl, rfl⟩)
        go_wp2_with fail
        go_ret2
        exact ⟨below_drewN (Below.refl _ _) _, _, _, rfl, HV.out⟩
      · obtain ⟨s, rfl⟩ : ∃ s, t = s + 1 := ⟨t - 1, by omega⟩
        have hi : ((s + 1 : Nat) : Int) - 1 = (s : Int) := by omega
        rw [hi]
        clear hi
        have hds : d + s < n1 := by omega
        obtain ⟨ad1, rfl, _, hb⟩ := K4.out.at_ hds
        have hbt := K4.out.ok.bt (d + s)
        have hwd := wordN_bd K4.out.ok (d + (s + 1)) (8 - (s + 1))
        have h7 := B256_le (show 8 - (s + 1) ≤ 7 by omega)
        rw [B256_7] at h7
        have hw1 : wordN r.bytes (d + s) (8 - s) = wordN r.bytes (d + (s + 1)) (8 - (s + 1)) * 256 + bt r.bytes (d + s) := by
          rw [show 8 - s = (8 - (s + 1)) + 1 by omega]
          show bt r.bytes (d + s) + 256 * wordN r.bytes (d + s + 1) (8 - (s + 1)) = _
          rw [show d + s + 1 = d + (s + 1) by omega]; omega
        have HW1 := Lib.hid hw1
        generalize wordN r.bytes (d + (s + 1)) (8 - (s + 1)) = v at *
        obtain ⟨x, hx⟩ : ∃ x, x = bt r.bytes (d + s) := ⟨_, rfl⟩
        rw [← hx] at hb hbt
        have HX := Lib.hid hx
        obtain ⟨hx0, hx1⟩ := hbt
        obtain ⟨hv0, hv1⟩ := hwd
        have hv2 : v < 72057594037927936 := by omega
        have hor := shl_or hv0 hv2 hx0 hx1
        have hdsi : (d : Int) + (s : Int) < (n1 : Int) := by omega
        have hs0 : (0 : Int) ≤ (s : Int) := by omega
        have hdt : ((d : Int) + (s : Int)).toNat = d + s := by omega
        clear hw1 hx h7 hv1 ht0
        go_wp2_with fail
        go_roundw
        case rel => exact ⟨s, by omega, by rw [HW1.out, ← HX.out], rfl, trivial⟩
        case measure => (simp [intOf] <;> omega)
  · have HNO := Lib.hid hno
    clear hno H1
    go_wp2_with fail
    go_ret2
    exact ⟨below_drewN (Below.refl _ _) _, _, _, rfl, .inr ⟨HNO.out, rfl, rfl⟩⟩

/-! ### Store -/
theorem two_B256 (n : Nat) : (2 : Int) ^ (8 * n) = B256 n := by
  induction n with
  | zero => rfl
  | succ n ih => rw [show 8 * (n + 1) = 8 * n + 8 by omega, Int.pow_add, ih]; show B256 n * 256 = 256 * B256 n; omega
theorem byte_at (v : Int) (n : Nat) : v / 2 ^ (8 * n) % 256 = byteOf v n := by rw [two_B256]; rfl
theorem bk_ne {w : World} {B D g s n : Nat} {e t : TypeId} {cs : Array Value} {v : Value} {xs : List Value} (h : Bk w D t cs) (ho : w.ownsRow B e s v n xs) (hv : v.ownBlock = some g) (hne : e ≠ t) : D ≠ g := by
  rintro rfl
  rcases ho.2 with ⟨rfl, _⟩ | ⟨g', c, cur, rfl, _, hh, _⟩
  · cases hv
  · obtain rfl : g' = D := by simpa [Value.ownBlock] using hv
    unfold Bk at h
    rw [h] at hh
    simp only [Option.some.injEq, Obj.cells.injEq] at hh
    exact hne hh.2.1.symm
/-- the bytes of one region are others, as many -/
theorem OwnI.turn {w w' : World} {B E : Nat} {v : Value} {os : List OReg} {i : Nat} {o : OReg} {bs : List Int} (h : OwnI w B E v os) (hi : os[i]? = some o) (hl : bs.length = o.r.bytes.length) (hb : Bs bs)
    (ho : w'.ownsRow B 5 1 o.sl o.r.bytes.length (b8 bs)) (hk : w.grownBy w' (some o.g)) : OwnI w' B E v (os.set i ⟨{ o.r with bytes := bs }, o.g, o.c⟩) := by
  have hm : o ∈ os := List.mem_of_getElem? hi
  have hil := (List.getElem?_eq_some_iff.1 hi).1
  have hcs : (⟨{ o.r with bytes := bs }, o.g, o.c⟩ : OReg).sl = o.sl := by unfold OReg.sl; rw [hl]
  have hrow : rowOf (os.set i ⟨{ o.r with bytes := bs }, o.g, o.c⟩) = rowOf os := by
    apply List.ext_getElem?
    intro j
    rcases Nat.lt_or_ge j (os.length * 3) with hj | hj
    · have hq : j / 3 < os.length := by omega
      obtain ⟨x, hx⟩ : ∃ x, os[j / 3]? = some x := ⟨_, List.getElem?_eq_getElem hq⟩
      have e : j = j / 3 * 3 + j % 3 := by omega
      have h1 := rowOf_get (d := j % 3) hx (by omega)
      by_cases hji : j / 3 = i
      · have hx' : x = o := by rw [hji, hi] at hx; exact (Option.some.inj hx).symm
        subst hx'
        have h2 : (os.set i ⟨{ x.r with bytes := bs }, x.g, x.c⟩)[j / 3]? = some ⟨{ x.r with bytes := bs }, x.g, x.c⟩ := by rw [hji, List.getElem?_set_self hil]
        have h3 := rowOf_get (d := j % 3) h2 (by omega)
        rw [← e] at h1 h3
        rw [h1, h3]
        unfold OReg.cells
        rw [hcs]
      · have h2 : (os.set i ⟨{ o.r with bytes := bs }, o.g, o.c⟩)[j / 3]? = some x := by rw [List.getElem?_set_ne (fun e => hji e.symm)]; exact hx
        have h3 := rowOf_get (d := j % 3) h2 (by omega)
        rw [← e] at h1 h3
        rw [h1, h3]
    · rw [List.getElem?_eq_none (by rw [rowOf_len, List.length_set]; exact hj), List.getElem?_eq_none (by rw [rowOf_len]; exact hj)]
  have hmem : ∀ x ∈ os.set i ⟨{ o.r with bytes := bs }, o.g, o.c⟩, (x ∈ os ∧ x.g ≠ o.g) ∨ x = ⟨{ o.r with bytes := bs }, o.g, o.c⟩ := by
    intro x hx
    obtain ⟨j, hj⟩ := List.mem_iff_getElem?.1 hx
    by_cases hji : j = i
    · subst hji
      rw [List.getElem?_set_self hil] at hj
      exact .inr (Option.some.inj hj).symm
    · rw [List.getElem?_set_ne (fun e => hji e.symm)] at hj
      refine .inl ⟨List.mem_of_getElem? hj, fun e => ?_⟩
      have hn := h.own.apart
      rw [List.nodup_iff_pairwise_ne, List.pairwise_iff_getElem] at hn
      obtain ⟨hjl, hje⟩ := List.getElem?_eq_some_iff.1 hj
      obtain ⟨_, hie⟩ := List.getElem?_eq_some_iff.1 hi
      rcases Nat.lt_or_ge j i with h1 | h1
      · exact hn j i (by simpa using hjl) (by simpa using hil) h1 (by simp [hje, hie, e])
      · exact hn i j (by simpa using hil) (by simpa using hjl) (by omega) (by simp [hje, hie, e])
  refine ⟨⟨?_, fun x hx => ?_, ?_, fun x hx => ?_⟩, h.hi, fun x hx => ?_, Nat.le_trans h.top hk.size⟩
  · rw [List.length_set, hrow]
    exact h.own.row.kept hk (.inr (fun e => own_type (h.own.each o hm) h.own.row (by decide) (k := o.g) rfl e))
  · rcases hmem x hx with ⟨hx, hne⟩ | rfl
    · exact (h.own.each x hx).kept hk (.inr (by unfold OReg.sl Value.ownBlock; simpa using hne))
    · rw [hcs]
      show w'.ownsRow B _ 1 o.sl bs.length (b8 bs)
      rw [hl]; exact ho
  · rw [List.map_set]
    have : (os.map (·.g)).set i o.g = os.map (·.g) := by
      apply List.ext_getElem?
      intro j
      by_cases hji : j = i
      · subst hji; rw [List.getElem?_set_self (by simpa using hil), List.getElem?_map, hi]; rfl
      · rw [List.getElem?_set_ne (fun e => hji e.symm)]
    show ((os.map (·.g)).set i o.g).Nodup
    rw [this]; exact h.own.apart
  · rcases hmem x hx with ⟨hx, _⟩ | rfl
    · exact h.own.oks x hx
    · exact ⟨(h.own.oks o hm).base, hb⟩
  · rcases hmem x hx with ⟨hx, _⟩ | rfl
    · exact h.each x hx
    · exact h.each o hm
/-- what has become of a word that is laid -/
def StoreP (R : World → Nat → Nat → Value → List Reg → Prop) (B E : Nat) (P : Value) (M : List Reg) (p v : Int) (w : World) (e : Ending) (w' : World) : Prop :=
  Kp B E w w' ∧ ∃ M' x, e = .returned (.int .i64 x) ∧ StoreO M p v M' x ∧ R w' B E P M'
set_option maxRecDepth 100000 in
set_option maxHeartbeats 4000000 in
theorem rstore_c {w : World} {B E : Nat} {P : Value} {M : List Reg} (h : Hid (RefM w B E P M)) (p v : Int) (hp : W p) (hv : W v) :
    Calls Tryz.prog 79 #[P, .int .u64 p, .int .u64 v] w (StoreP RefM B E P M p v w) := by
  have H1 := Lib.hid (place_c h.out p 8 hp (by omega) (by omega))
  have HRM := Lib.hid h.out
  have hrise := Lib.hid h.out.rise
  obtain ⟨D, vl, os, rfl, hD, hB, hE, hO, hM⟩ := h.out.ex
  have HO := Lib.hid hO
  have HM := Lib.hid hM
  have HDD := Lib.hid (show Bk w D 64 #[vl] ∧ B ≤ D ∧ D < E from ⟨hD, hB, hE⟩)
  obtain ⟨A, m, c, rfl, hR, hmc, hcm⟩ := hO.own.rdR
  rw [hM] at hR
  have HR := Lib.hid hR
  have HG := Lib.hid h.out.good
  have HLM := Lib.hid hR.len
  have cD : w.cell? ⟨D, 0, none⟩ = some (.slice A m c) := hD.cell 0
  have hm8 : m ≤ 8 := by rw [← hR.len]; exact h.out.good.few
  unfold W at hv
  obtain ⟨hv0, hv1⟩ := hv
  clear h hD hB hE hO hM hR hp
  go_enter Tryz.func79, Tryz.ntmps79
  try simp only [List.append]
  go_wp2_with fail
  go_at_call 136
  refine H1.out.mono ?_
  rintro e w1 ⟨⟨q, rfl⟩, ⟨i, r, hh, rfl⟩ | ⟨hno, rfl⟩⟩
  · have HH := Lib.hid hh
    obtain ⟨hr, h1, h2, h3⟩ := hh
    obtain ⟨ad, rfl, _, A1, n1, c1, k1, k2, k3, k4, k5, k6⟩ := HR.out.at_ hr
    have hil : i < m := by rw [← HLM.out]; exact (List.getElem?_eq_some_iff.1 hr).1
    have hii : (i : Int) < (m : Int) := by omega
    have hi0 : (0 : Int) ≤ (i : Int) := by omega
    have hrs := HG.out.short i r hr
    obtain ⟨d, hd⟩ : ∃ d : Nat, p - r.base = (d : Int) := ⟨(p - r.base).toNat, by omega⟩
    have HD := Lib.hid hd
    have HRi := Lib.hid hr
    rw [hd]
    cases hwr : r.write with
    | false =>
      rw [hwr] at k3
      have HN : Hid (∀ j s, Hits M p 8 j s → s.write = false) := Lib.hid (fun j s hs => by
        obtain ⟨_, rfl⟩ := HH.out.uniq HG.out hs; exact hwr)
      have HKP : Hid (Below w.heap.size w (w.drewN q)) := Lib.hid (below_drewN (Below.refl _ _) _)
      clear H1 k1 k2 k4 hr h1 h2 h3 hrs hd hil hwr
      go_wp2_with fail
      go_ret
      exact ⟨Kp.of HKP.out, M, 11, rfl, .inr ⟨HN.out, rfl, rfl⟩, HRM.out.below HKP.out⟩
    | true =>
      rw [hwr] at k3
      have HWR := Lib.hid hwr
      have hrr := hr
      rw [← HM.out, List.getElem?_map] at hrr
      obtain ⟨o, ho, hor⟩ := Option.map_eq_some_iff.1 hrr
      subst hor
      have hlen : o.r.bytes.length = n1 := k4.len
      have hlr : o.r.len = n1 := by unfold Reg.len; rw [hlen]
      rw [hlr] at h2 h3 hrs
      have hdn : d + 8 ≤ n1 := by omega
      have hdn' : n1 ≤ 1048576 := by omega
      obtain ⟨gl, rfl⟩ : ∃ gl, ad = ⟨gl, 0, none⟩ := by
        rcases HO.out.own.shape with ⟨e1, _⟩ | ⟨g, c', e1, _⟩
        · cases e1
        · simp only [Value.slice.injEq, Option.some.injEq] at e1; exact ⟨g, e1.1⟩
      have HOi := Lib.hid ho
      have HLEN := Lib.hid hlen
      have cw0 := HO.out.own.cell (g := gl) rfl ho (d := 2) (by omega)
      have cw : w.cell? ⟨gl, i * 3 + 2, none⟩ = some (.bool true) := by rw [cw0]; show some (Value.bool o.r.write) = _; rw [hwr]
      clear cw0 k3
      clear H1 k1 k2 k4 hr h1 h2 h3 hrs hd hil hwr hrr ho hlen hlr
      go_wp2_with fail
      go_loopw [9] (fun j W => ∃ (t : Nat), t ≤ 8 ∧ j = .int .i64 (t : Int) ∧ Hid (OwnI W B E (.slice (some ⟨gl, 0, none⟩) m c) (os.set i ⟨{ o.r with bytes := putN o.r.bytes d v t }, o.g, o.c⟩)) ∧ Hid (Bk W D 64 #[.slice (some ⟨gl, 0, none⟩) m c]) ∧ Hid (Kp B E w W)) (fun j _ => 8 - (intOf j).toNat)
      case atStart =>
        have hb := below_drewN (Below.refl w.heap.size w) q
        refine ⟨0, by omega, rfl, Lib.hid ?_, Lib.hid (HDD.out.1.below hb HDD.out.1.lt), Lib.hid (Kp.of hb)⟩
        have hs : os.set i ⟨{ o.r with bytes := putN o.r.bytes d v 0 }, o.g, o.c⟩ = os := by
          apply List.ext_getElem?
          intro j
          by_cases hji : j = i
          · subst hji
            rw [List.getElem?_set_self (List.getElem?_eq_some_iff.1 HOi.out).1]; exact HOi.out.symm
          · rw [List.getElem?_set_ne (fun e => hji e.symm)]
        rw [hs]
        exact HO.out.below hb
      case round =>
        obtain ⟨t, ht, rfl, hO, hDW, HK⟩ := hrel
        have hil2 := (List.getElem?_eq_some_iff.1 HOi.out).1
        have hoi : (os.set i ⟨{ o.r with bytes := putN o.r.bytes d v t }, o.g, o.c⟩)[i]? = some ⟨{ o.r with bytes := putN o.r.bytes d v t }, o.g, o.c⟩ := List.getElem?_set_self hil2
        have cDr : wr.cell? ⟨D, 0, none⟩ = some (.slice (some ⟨gl, 0, none⟩) m c) := hDW.out.cell 0
        rcases Nat.lt_or_ge t 8 with h8 | h8
        · have cs0 := hO.out.own.cell (g := gl) rfl hoi (d := 1) (by omega)
          have cs : wr.cell? ⟨gl, i * 3 + 1, none⟩ = some (.slice (some ⟨o.g, 0, none⟩) n1 o.c) := by
            rw [cs0]
            show some (Value.slice (some ⟨o.g, 0, none⟩) (putN o.r.bytes d v t).length o.c) = _
            rw [putN_len, HLEN.out]
          have hrow := hO.out.own.each _ (List.mem_of_getElem? hoi)
          have hrow' : wr.ownsRow B 5 1 (.slice (some ⟨o.g, 0, none⟩) n1 o.c) n1 (b8 (putN o.r.bytes d v t)) := by
            have e : (putN o.r.bytes d v t).length = n1 := by rw [putN_len, HLEN.out]
            unfold OReg.sl at hrow
            rw [e] at hrow; exact hrow
          have cb : wr.cell? ⟨o.g, d + t, none⟩ = some (.int .u8 (bt (putN o.r.bytes d v t) (d + t))) := by
            rw [hrow'.cellAt (d + t) (by omega)]
            exact b8_get (by rw [putN_len, HLEN.out]; omega)
          have fb : wr.frozen? ⟨o.g, d + t, none⟩ = false := hrow'.frozenAt (d + t)
          have h8i : (t : Int) < 8 := by omega
          have ht0 : (0 : Int) ≤ (t : Int) := by omega
          have hdt : (d : Int) + (t : Int) < (n1 : Int) := by omega
          have hdn2 : ((d : Int) + (t : Int)).toNat = d + t := by omega
          have hmo := List.mem_of_getElem? hoi
          obtain ⟨hst, hgr⟩ := hrow'.stored (d + t) (.int .u8 (v / 2 ^ (8 * t) % 256))
          rw [b8_set, byte_at] at hst
          have hpb : Bs (putN o.r.bytes d v t) := (hO.out.own.oks _ hmo).bytes
          have hO' : Hid (OwnI (wr.setCell ⟨o.g, d + t, none⟩ (.int .u8 (v / 2 ^ (8 * t) % 256))) B E (.slice (some ⟨gl, 0, none⟩) m c) (os.set i ⟨{ o.r with bytes := putN o.r.bytes d v (t + 1) }, o.g, o.c⟩)) := by
            have h1 := hO.out.turn hoi (bs := putN o.r.bytes d v (t + 1)) (w' := wr.setCell ⟨o.g, d + t, none⟩ (.int .u8 (v / 2 ^ (8 * t) % 256))) (by show _ = (putN o.r.bytes d v t).length; rw [putN_len, putN_len]) (hpb.set _ (byteOf_bd v t).1 (byteOf_bd v t).2) (by
              unfold OReg.sl
              show World.ownsRow _ B _ 1 (.slice (some ⟨o.g, 0, none⟩) (putN o.r.bytes d v t).length o.c) (putN o.r.bytes d v t).length _
              rw [putN_len, HLEN.out, byte_at]
              exact hst) hgr
            rw [List.set_set] at h1
            exact Lib.hid h1
          have hD' : Hid (Bk (wr.setCell ⟨o.g, d + t, none⟩ (.int .u8 (v / 2 ^ (8 * t) % 256))) D 64 #[.slice (some ⟨gl, 0, none⟩) m c]) :=
            Lib.hid (Bk.far (p := ⟨o.g, d + t, none⟩) hDW.out (bk_ne (g := o.g) hDW.out hrow' rfl (by decide)) _)
          have hK' : Hid (Kp B E w (wr.setCell ⟨o.g, d + t, none⟩ (.int .u8 (v / 2 ^ (8 * t) % 256)))) := Lib.hid (HK.out.trans (Kp.grown hgr (show B ≤ o.g from (hO.out.own.lt hmo).1) (by have h := hO.out.each _ hmo; exact h)))
          clear cs0 hrow hst hgr hmo hpb hoi hO hDW HK hrow'
          go_wp2_with fail
          go_roundw
          case rel => exact ⟨t + 1, by omega, by go_num, hO', hD', hK'⟩
          case measure => (simp [intOf] <;> omega)
        · obtain rfl : t = 8 := by omega
          have HR8 : Hid (RefM wr B E (.pointer (some ⟨D, 0, none⟩)) (M.set i (o.r.put p v))) := by
            have hst : StoreO M p v (M.set i (o.r.put p v)) 0 := .inl ⟨i, o.r, HH.out, HWR.out, rfl, rfl⟩
            refine Lib.hid ⟨⟨D, _, _, rfl, hDW.out, HDD.out.2.1, HDD.out.2.2, hO.out, ?_⟩, hst.good HG.out, ?_⟩
            · rw [List.map_set, HM.out]
              unfold Reg.put
              rw [HD.out]; rfl
            · have h1 := hrise.out
              unfold Rising at *
              rw [pairwise_get] at h1 ⊢
              intro a b x y hx hy hab
              have key : ∀ (j : Nat) (z : Reg), (M.set i (o.r.put p v))[j]? = some z → ∃ u, M[j]? = some u ∧ z.base = u.base := by
                intro j z hj
                rcases set_get HRi.out hj with ⟨rfl, rfl⟩ | ⟨_, h⟩
                · exact ⟨_, HRi.out, rfl⟩
                · exact ⟨z, h, rfl⟩
              obtain ⟨u, g1, g2⟩ := key a x hx
              obtain ⟨u', g3, g4⟩ := key b y hy
              rw [g2, g4]; exact h1 a b u u' g1 g3 hab
          clear hO hDW hoi
          go_wp2_with fail
          go_ret
          exact ⟨HK.out, _, 0, rfl, .inl ⟨i, o.r, HH.out, HWR.out, rfl, rfl⟩, HR8.out⟩
  · have HNO := Lib.hid hno
    have HKP : Hid (Below w.heap.size w (w.drewN q)) := Lib.hid (below_drewN (Below.refl _ _) _)
    clear hno H1
    go_wp2_with fail
    go_ret
    exact ⟨Kp.of HKP.out, M, 11, rfl, .inr ⟨fun j s hs => absurd hs (HNO.out j s), rfl, rfl⟩, HRM.out.below HKP.out⟩
end Mm
end Go.Proofs.YtikbnfhnimjmmaaGreatDoor
