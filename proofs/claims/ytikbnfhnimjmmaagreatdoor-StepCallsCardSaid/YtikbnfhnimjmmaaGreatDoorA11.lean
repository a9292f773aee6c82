/- What is asked of the landed package memory; the chapter's example as each law asks it first. | What the statements of memories share: numbers that may be, a word that was stored. -/
import Derived.Test.YtikbnfhnimjmmaaGreatDoorA9
import Derived.Deep.RegionWith
namespace Go.Proofs.YtikbnfhnimjmmaaGreatDoor
open Go Go.RowKit
namespace Mm
open Wd Nt
set_option linter.unusedVariables false
/-- regions that are told, one's own -/
def RegsP (M : List Reg) (w : World) (e : Ending) (w' : World) : Prop := Below w.heap.size w w' ∧ ∃ v os, e = .returned v ∧ Hid (OwnI w' w.heap.size w'.heap.size v os) ∧ os.map (·.r) = M
def CloneP (R : World → Nat → Nat → Value → List Reg → Prop) (M : List Reg) (w : World) (e : Ending) (w' : World) : Prop := Below w.heap.size w w' ∧ ∃ p, e = .returned p ∧ R w' w.heap.size w'.heap.size p M
def CheckP (rs : List Reg) (w : World) (e : Ending) (w' : World) : Prop := Below w.heap.size w w' ∧ ∃ x, e = .returned (.int .i64 x) ∧ ChkO rs x
/-! ### the chapter's memory -/
def zs (n : Nat) : List Int := List.replicate n 0
theorem zs_bs (n : Nat) : Bs (zs n) := fun x hx => by unfold zs at hx; rw [(List.mem_replicate.1 hx).2]; omega
def ofM (n : Nat) : List Reg := [⟨100, zs n, true⟩, ⟨200, zs 9, false⟩]
def ofL (n : Nat) : List Reg := [⟨200, zs 9, false⟩, ⟨100, zs n, true⟩]
theorem zs_len (n : Nat) : (zs n).length = n := List.length_replicate ..
theorem of_good (n : Nat) (h : 0 < n) (h' : n ≤ 100) : Good (ofL n) := by
  rw [Good.iff]
  refine ⟨by unfold ofL; simp, fun r hr => ?_, ?_⟩
  · unfold ofL at hr
    simp only [List.mem_cons, List.not_mem_nil, or_false] at hr
    rcases hr with rfl | rfl <;> (unfold Reg.len; simp only [zs_len]; omega)
  · unfold ofL
    refine List.pairwise_cons.2 ⟨fun x hx => ?_, List.pairwise_cons.2 ⟨(fun x hx => by cases hx), List.Pairwise.nil⟩⟩
    simp only [List.mem_cons, List.not_mem_nil, or_false] at hx
    subst hx
    right
    unfold Reg.len
    simp only [zs_len]
    omega
theorem good_chk {rs : List Reg} (h : Good rs) {x : Int} (hx : ChkO rs x) : x = 0 := by
  rcases hx with ⟨a, _⟩ | ⟨_, _, ⟨i, r, hi, hb⟩, _⟩ | ⟨_, _, _, e⟩
  · rcases a with a | ⟨i, r, hi, hl⟩
    · have := h.few; omega
    · have := h.short i r hi; omega
  · rcases hb with hb | hb | ⟨k, s, hk, hs, h1, h2⟩
    · have := h.pos i r hi; omega
    · have := h.fits i r hi; omega
    · rcases h.apart i k r s hi hs (by omega) with h3 | h3 <;> omega
  · exact e
theorem of_perm (n : Nat) : (ofM n).Perm (ofL n) := List.Perm.swap _ _ _
theorem of_rise (n : Nat) : Rising (ofM n) := by
  unfold ofM Rising
  refine List.pairwise_cons.2 ⟨fun x hx => ?_, List.pairwise_cons.2 ⟨(fun x hx => by cases hx), List.Pairwise.nil⟩⟩
  simp only [List.mem_cons, List.not_mem_nil, or_false] at hx
  subst hx
  show (100 : Int) ≤ 200
  omega
theorem make_8 (n : Nat) (hn : n ≤ 1099511627776) (w : World) :
    (Instr.makeSlice 104 (.int .i64 (n : Int)) (.int .i64 (n : Int))).run Tryz.prog w = .ok (.slice (some ⟨w.heap.size, 0, none⟩) n n) (w.alloc (.cells (b8 (zs n)).toArray 5)) := by
  obtain ⟨i, hi, hz, h1, h2⟩ := info_parts info_u8
  have hr := run_make (P := Tryz.prog) w 104 5 i (.int .u8 0) Tryz.underlying104 hi hz .i64 .i64 (n : Int) (n : Int) (by omega) (by omega) (by rw [h2]; omega) (by omega)
  simp only [Int.toNat_natCast] at hr
  rw [hr, h1]
  have e : madeCells (Value.int .u8 0).cells (n * 1) = (b8 (zs n)).toArray := by
    apply Array.ext
    · simp [madeCells, b8, zs]
    · intro j h1 h2
      simp [madeCells, Value.cells, Nat.mod_one, b8, zs]
  rw [e]
theorem bk_rd8 {w : World} {g n : Nat} {bs : List Int} (h : Bk w g 5 (b8 bs).toArray) (hn : bs.length = n) (hb : Bs bs) : Rd8 w w.heap.size (some ⟨g, 0, none⟩) n bs := by
  refine ⟨hn, hb, fun h0 => ⟨_, rfl, h.lt, fun j hj => ?_⟩⟩
  have e : (⟨g, 0, none⟩ : Addr).add j = ⟨g, j, none⟩ := by
    unfold Addr.add; split
    · rename_i e; rw [e]
    · simp
  rw [e, h.cell]
  have := b8_get (bs := bs) (k := j) (by omega)
  simpa using this
variable {R : World → Nat → Nat → Value → List Reg → Prop}
def OfP (R : World → Nat → Nat → Value → List Reg → Prop) (n : Nat) (w : World) (e : Ending) (w' : World) : Prop := Below w.heap.size w w' ∧ ∃ B p, e = .returned p ∧ Hid (R w' B w'.heap.size p (ofM n)) ∧ w.heap.size ≤ B
def OfN (R : World → Nat → Nat → Value → List Reg → Prop) (n : Nat) (w : World) (e : Ending) (w' : World) : Prop := ∃ p, e = .returned (.tuple #[p, .int .i64 0]) ∧ Below w.heap.size w w' ∧ ∃ B, Hid (R w' B w'.heap.size p (ofM n)) ∧ w.heap.size ≤ B
/-! ### the chapter's example -/
theorem hits_of {n : Nat} {p m : Int} {i : Nat} {r : Reg} (h : Hits (ofM n) p m i r) : (i = 0 ∧ r = ⟨100, zs n, true⟩) ∨ (i = 1 ∧ r = ⟨200, zs 9, false⟩) := by
  have h1 := h.1
  unfold ofM at h1
  rcases i with _ | _ | i
  · left; simpa using h1.symm
  · right; simpa using h1.symm
  · simp at h1
theorem st_104 {M' : List Reg} {e : Int} (h : StoreO (ofM 16) 104 1099511627781 M' e) : e = 0 ∧ M' = (ofM 16).set 0 (Reg.put ⟨100, zs 16, true⟩ 104 1099511627781) := by
  have hh : Hits (ofM 16) 104 8 0 ⟨100, zs 16, true⟩ := by
    refine ⟨rfl, by decide, ?_, ?_⟩ <;> (unfold Reg.len; simp only [zs_len]; decide)
  rcases h with ⟨i, r, a, w, b, c⟩ | ⟨a, b, c⟩
  · obtain ⟨rfl, rfl⟩ := a.uniq ((of_good 16 (by omega) (by omega)).perm (of_perm 16).symm) hh
    exact ⟨c, b⟩
  · exact absurd (a _ _ hh) (by decide)
theorem st_109 {M M' : List Reg} {e : Int} (hM : M = (ofM 16).set 0 (Reg.put ⟨100, zs 16, true⟩ 104 1099511627781)) (h : StoreO M 109 1 M' e) : e = 11 ∧ M' = M := by
  rcases h with ⟨i, r, a, w, b, c⟩ | ⟨a, b, c⟩
  · exfalso
    obtain ⟨h1, h2, h3, h4⟩ := a
    rw [hM] at h1
    have key : (r.base = 100 ∧ r.len = 16) ∨ (r.base = 200 ∧ r.len = 9) := by
      rcases set_get (r := ⟨100, zs 16, true⟩) rfl h1 with ⟨rfl, rfl⟩ | ⟨hi, h5⟩
      · left; exact ⟨rfl, by rw [Reg.put_len]; unfold Reg.len; rw [zs_len]; rfl⟩
      · unfold ofM at h5
        rcases i with _ | _ | i
        · exact absurd rfl hi
        · obtain rfl : (⟨200, zs 9, false⟩ : Reg) = r := by simpa using h5
          right; exact ⟨rfl, by unfold Reg.len; rw [zs_len]; rfl⟩
        · simp at h5
    rcases key with ⟨k1, k2⟩ | ⟨k1, k2⟩
    · rw [k1] at h2 h3 h4; rw [k2] at h3 h4; omega
    · rw [k1] at h2 h3 h4; rw [k2] at h3 h4; omega
  · exact ⟨c, b⟩
theorem ld_104 {M : List Reg} {v e : Int} (hM : M = (ofM 16).set 0 (Reg.put ⟨100, zs 16, true⟩ 104 1099511627781)) (hG : Good M) (h : LoadO M 104 v e) : v = 1099511627781 ∧ e = 0 := by
  have hh : Hits M 104 8 0 (Reg.put ⟨100, zs 16, true⟩ 104 1099511627781) := by
    rw [hM]
    refine ⟨rfl, by decide, ?_, ?_⟩ <;> rw [Reg.put_len] <;> (unfold Reg.len; simp only [zs_len]; decide)
  rcases h with ⟨i, r, a, b, c⟩ | ⟨a, b, c⟩
  · obtain ⟨rfl, rfl⟩ := a.uniq hG hh
    refine ⟨?_, c⟩
    rw [b]
    exact word_put (k := 4) (by unfold Wd.W; decide) (by rw [zs_len]; decide)
  · exact absurd hh (a _ _)
end Mm
end Go.Proofs.YtikbnfhnimjmmaaGreatDoor
namespace Go.Proofs.YtikbnfhnimjmmaaGreatDoor
open Go Go.RowKit
namespace Mm
open Wd Nt
set_option linter.unusedVariables false
theorem u64_W {a : Int} (h : (Lit.int .u64 a).wf = true) : Wd.W a := by
  unfold Wd.W
  simp [Lit.wf, IntKind.min, IntKind.max, IntKind.signed, IntKind.bits] at h; omega
/-- what the loops over what was and what is now go by -/
structure StF (M M' : List Reg) (p v x : Int) (inB : Nat → Nat → Bool) (hit : Nat → Nat → Nat) : Prop where
  len : M'.length = M.length
  same : ∀ (i : Nat) (r s : Reg), M[i]? = some r → M'[i]? = some s → s.base = r.base ∧ s.bytes.length = r.bytes.length
  flag : ∀ (i k : Nat) (r : Reg), M[i]? = some r → k < r.bytes.length → inB i k = (decide (x = 0) && decide ((r.base + k - p) % 18446744073709551616 < 8))
  put : ∀ (i k : Nat) (r s : Reg), M[i]? = some r → M'[i]? = some s → k < r.bytes.length → inB i k = true → bt s.bytes k = v / 2 ^ (8 * ((r.base + k - p) % 18446744073709551616).toNat) % 256 ∧ r.write = true
  keep : ∀ (i k : Nat) (r s : Reg), M[i]? = some r → M'[i]? = some s → k < r.bytes.length → inB i k = false → bt s.bytes k = bt r.bytes k
  h0 : hit 0 0 = 0
  hk : ∀ (i k : Nat) (r : Reg), M[i]? = some r → k < r.bytes.length → hit i (k + 1) = hit i k + (if inB i k then 1 else 0)
  hi : ∀ (i : Nat) (r : Reg), M[i]? = some r → hit (i + 1) 0 = hit i r.bytes.length
  last : x = 0 → hit M.length 0 = 8
  bnd : ∀ i k, hit i k ≤ 8
theorem StF.fault {M : List Reg} {p v x : Int} (h : x ≠ 0) : StF M M p v x (fun _ _ => false) (fun _ _ => 0) :=
  ⟨rfl, fun i r s h1 h2 => by rw [h1] at h2; cases h2; exact ⟨rfl, rfl⟩, fun i k r h1 h2 => by rw [decide_eq_false h, Bool.false_and], fun i k r s h1 h2 h3 h4 => (by cases h4), fun i k r s h1 h2 _ _ => by rw [h1] at h2; cases h2; rfl,
    rfl, fun i k r _ _ => rfl, fun i r _ => rfl, fun h0 => absurd h0 h, fun _ _ => by omega⟩
theorem hitk (d k : Nat) : min 8 (k + 1 - d) = min 8 (k - d) + (if (decide (d ≤ k) && decide (k < d + 8)) = true then 1 else 0) := by
  by_cases h1 : d ≤ k
  · by_cases h2 : k < d + 8
    · rw [decide_eq_true h1, decide_eq_true h2, Bool.and_self, if_pos rfl]; omega
    · rw [decide_eq_false h2, Bool.and_false]; simp; omega
  · rw [decide_eq_false h1, Bool.false_and]; simp; omega
theorem StF.ok {M : List Reg} {p v : Int} {i0 : Nat} {r0 : Reg} (hM : Good M) (hO : Oks M) (hp : W p) (hv : W v) (hh : Hits M p 8 i0 r0) (hw : r0.write = true) :
    StF M (M.set i0 (r0.put p v)) p v 0 (fun i k => decide (i = i0) && (decide ((p - r0.base).toNat ≤ k) && decide (k < (p - r0.base).toNat + 8)))
      (fun i k => if i < i0 then 0 else if i = i0 then min 8 (k - (p - r0.base).toNat) else 8) := by
  obtain ⟨g1, g2, g3, g4⟩ := hh
  obtain ⟨d, hd⟩ : ∃ d, d = (p - r0.base).toNat := ⟨_, rfl⟩
  rw [← hd]
  have hpd : p = r0.base + d := by omega
  have hl0 : r0.len = r0.bytes.length := rfl
  have hdl : d + 8 ≤ r0.bytes.length := by omega
  have hs0 := hM.short i0 r0 g1
  have hf0 := hM.fits i0 r0 g1
  have hb0 := (hO r0 (List.mem_of_getElem? g1)).base
  unfold W at hb0 hp hv
  have hi0 := (List.getElem?_eq_some_iff.1 g1).1
  have hbyte : ∀ k, k < r0.bytes.length → bt (r0.put p v).bytes k = if d ≤ k ∧ k < d + 8 then byteOf v (k - d) else bt r0.bytes k := by
    intro k hk
    unfold Reg.put
    rw [← hd]
    exact bt_putN _ _ _ _ _ hdl
  refine ⟨List.length_set .., fun i r s h1 h2 => ?_, fun i k r h1 h2 => ?_, fun i k r s h1 h2 h3 h4 => ?_, fun i k r s h1 h2 h3 h4 => ?_, ?_, fun i k r h1 h2 => ?_, fun i r h1 => ?_, fun _ => ?_, fun i k => ?_⟩
  · rcases set_get g1 h2 with ⟨rfl, rfl⟩ | ⟨_, h3⟩
    · rw [g1] at h1; cases h1
      refine ⟨rfl, ?_⟩
      have := r0.put_len p v
      unfold Reg.len at this; omega
    · rw [h1] at h3; cases h3; exact ⟨rfl, rfl⟩
  · rw [decide_eq_true (rfl : (0 : Int) = 0), Bool.true_and, Bool.eq_iff_iff]
    simp only [Bool.and_eq_true, decide_eq_true_eq]
    have hb := (hO r (List.mem_of_getElem? h1)).base
    have hf := hM.fits i r h1
    unfold W at hb
    have hlr : r.len = r.bytes.length := rfl
    constructor
    · rintro ⟨rfl, h3, h4⟩
      rw [g1] at h1; cases h1
      omega
    · intro h3
      by_cases hi : i = i0
      · subst hi
        rw [g1] at h1; cases h1
        have := hM.short i r0 g1
        refine ⟨rfl, ?_, ?_⟩ <;> omega
      · exfalso
        rcases hM.apart i i0 r r0 h1 g1 hi with h4 | h4 <;> omega
  · simp only [Bool.and_eq_true, decide_eq_true_eq] at h4
    obtain ⟨rfl, h5, h6⟩ := h4
    rw [g1] at h1; cases h1
    rcases set_get g1 h2 with ⟨_, rfl⟩ | ⟨h7, _⟩
    · rw [hbyte k h3, if_pos ⟨h5, h6⟩]
      refine ⟨?_, hw⟩
      rw [byte_at]
      congr 1
      omega
    · exact absurd rfl h7
  · rcases set_get g1 h2 with ⟨rfl, rfl⟩ | ⟨_, h5⟩
    · rw [g1] at h1; cases h1
      rw [hbyte k h3, if_neg]
      intro h5
      rw [decide_eq_true rfl, decide_eq_true h5.1, decide_eq_true h5.2] at h4
      cases h4
    · rw [h1] at h5; cases h5; rfl
  · show (if 0 < i0 then 0 else if 0 = i0 then min 8 (0 - d) else 8) = 0
    by_cases h1 : 0 < i0
    · rw [if_pos h1]
    · rw [if_neg h1, if_pos (by omega)]; omega
  · show (if i < i0 then 0 else if i = i0 then min 8 (k + 1 - d) else 8) = (if i < i0 then 0 else if i = i0 then min 8 (k - d) else 8) + _
    by_cases h3 : i < i0
    · rw [if_pos h3, if_pos h3, decide_eq_false (by omega), Bool.false_and]; rfl
    · rw [if_neg h3, if_neg h3]
      by_cases h4 : i = i0
      · rw [if_pos h4, if_pos h4, decide_eq_true h4, Bool.true_and]; exact hitk d k
      · rw [if_neg h4, if_neg h4, decide_eq_false h4, Bool.false_and]; rfl
  · show (if i + 1 < i0 then 0 else if i + 1 = i0 then min 8 (0 - d) else 8) = (if i < i0 then 0 else if i = i0 then min 8 (r.bytes.length - d) else 8)
    by_cases h3 : i < i0
    · rw [if_pos h3]
      by_cases h4 : i + 1 < i0
      · rw [if_pos h4]
      · rw [if_neg h4, if_pos (by omega)]; omega
    · rw [if_neg h3, if_neg (by omega), if_neg (by omega)]
      by_cases h4 : i = i0
      · subst h4
        rw [g1] at h1; cases h1
        rw [if_pos rfl]; omega
      · rw [if_neg h4]
  · show (if M.length < i0 then 0 else if M.length = i0 then min 8 (0 - d) else 8) = 8
    rw [if_neg (by omega), if_neg (by omega)]
  · show (if i < i0 then 0 else if i = i0 then min 8 (k - d) else 8) ≤ 8
    split
    · omega
    · split <;> omega
end Mm
end Go.Proofs.YtikbnfhnimjmmaaGreatDoor
