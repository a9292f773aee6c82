/- The landed package secrecy: what is secret; of each register whether it is. -/
import Derived.Test.YtjdpbelfagkaiaaDoorS4
import Derived.Test.YtjdpbelfagkaiaaDoorN4
namespace Go.Proofs.YtjdpbelfagkaiaaDoor
open Go Go.RowKit Go.Sort Go.Shelf
namespace Lb
open Wd Nt Gr
set_option linter.unusedVariables false
set_option linter.unusedSimpArgs false
/-- what secrets answers -/
def SecN (bufs : List Bf) (ops : List Op) (s : Nat) : Prop := IsSec bufs ops s ∧ s < 18446744073709551616
set_option maxRecDepth 100000 in
set_option maxHeartbeats 2000000 in
theorem secrets_s (p : Pg) (hs : SOk p.bf p.op) (hl : p.op.length ≤ 1000000) (A X : Option Addr) (c d : Nat) (w : World) (hR : Rdr w w.heap.size A p.bf.length p.bf) (hX : Rdr w w.heap.size X p.op.length p.op) :
    Calls Tryd.prog 68 #[pgV p A c X d] w fun e w' => (∃ s : Nat, e = .returned (.int .u64 (s : Int)) ∧ SecN p.bf p.op s) ∧ Below w.heap.size w w' := by
  have HG := Lib.hid (fun (s : Nat) (h : s < 18446744073709551616) (W : World) (hb : Below w.heap.size w W) => grown_s p hs hl s h A X c d W ((hR.below hb).more hb.size) ((hX.below hb).more hb.size))
  have HLT : Hid (∀ s, s < 18446744073709551616 → grown p.bf p.op s < 18446744073709551616) := Lib.hid (fun s h => grown_lt h (fun o ho => ⟨(hs.rg o ho).1, (hs.rg o ho).2.1⟩))
  have HLE := Lib.hid (fun s => grown_le p.bf p.op s)
  have HB0 := Lib.hid (bel_al (w := w) (.cells #[.int .i64 p.rg, .slice A p.bf.length c, .slice X p.op.length d] 26))
  have HK0 := Lib.hid (Bk.new w 26 #[.int .i64 p.rg, .slice A p.bf.length c, .slice X p.op.length d])
  unfold pgV at *
  clear hs hR hX
  go_enter Tryd.func68, Tryd.ntmps68
  go_wp2_with fail
  go_loopw [3] (fun v W => ∃ s : Nat, s < 18446744073709551616 ∧ v = .int .u64 (s : Int) ∧ Hid (∃ n, s = itr p.bf p.op n) ∧ Hid (Below w.heap.size w W) ∧ Hid (Bk W w.heap.size 26 #[.int .i64 p.rg, .slice A p.bf.length c, .slice X p.op.length d])) (fun v _ => 18446744073709551616 - (intOf v).toNat)
  case atStart => exact ⟨0, by omega, rfl, Lib.hid ⟨0, rfl⟩, HB0, HK0⟩
  case round =>
    obtain ⟨s, h64, rfl, HI, HB, HK⟩ := hrel
    clear HB0 HK0
    obtain ⟨a0, a1, a2⟩ := c3 HK.out
    have HG1 := Lib.hid (HG.out s h64 wr HB.out)
    have hle := HLE.out s
    have hlt := HLT.out s h64
    obtain ⟨t, ht⟩ : ∃ t, grown p.bf p.op s = t := ⟨_, rfl⟩
    rw [ht] at HG1 hle hlt
    have HT := Lib.hid ht
    clear ht
    go_wp2_with fail
    go_at_call 96
    refine HG1.out.mono ?_
    rintro e w2 ⟨rfl, hb2⟩
    have HB2 := Lib.hid (bel_tr HB.out hb2)
    have HK2 := Lib.hid (HK.out.below hb2 HK.out.lt)
    clear hb2 a0 a1 a2
    by_cases he : t = s
    · subst he
      go_wp2_with fail
      go_ret
      exact ⟨⟨_, rfl, ⟨HT.out, HI.out⟩, h64⟩, HB2.out⟩
    · have hne : ((t : Int) == (s : Int)) = false := by rw [beq_eq_false_iff_ne]; omega
      go_wp2_with fail
      go_roundw
      case rel => exact ⟨t, hlt, rfl, Lib.hid (by obtain ⟨n, hn⟩ := HI.out; exact ⟨n + 1, by rw [← HT.out, hn]; rfl⟩), HB2, HK2⟩
      case measure => (simp [intOf] <;> omega)
/-! ### of each register -/
def falses (n : Nat) : Array Value := (row (List.replicate n false)).toArray
theorem row_bools (xs : List Bool) : row xs = xs.map Value.bool := by
  induction xs with
  | nil => rfl
  | cons x xs ih => show Value.bool x :: row xs = _; rw [ih]; rfl
theorem bool_made (w : World) {B : Nat} (n : Nat) (hn : n ≤ 1000000) (hB : B ≤ w.heap.size) : Rws 4 B (.slice (some ⟨w.heap.size, 0, none⟩) n n) (List.replicate n false) (w.alloc (.cells (falses n) 4)) := by
  have h := bk_rws (t := 4) (B := B) (xs := List.replicate n false) (w := w.alloc (.cells (falses n) 4)) (g := w.heap.size) (Bk.new _ _ _) hB (by rw [List.length_replicate]; exact hn)
  rw [List.length_replicate] at h
  exact h
set_option maxRecDepth 100000 in
theorem info_bool : (Tryd.prog.info? 4).map (fun i => (i.zero, i.size, i.bytes)) = some (some (.bool false), 1, 1) := by kernel_rfl
theorem make_bool (n : Nat) (hn : n ≤ 1000000) (w : World) :
    (Instr.makeSlice 66 (.int .i64 (n : Int)) (.int .i64 (n : Int))).run Tryd.prog w = .ok (.slice (some ⟨w.heap.size, 0, none⟩) n n) (w.alloc (.cells (falses n) 4)) := by
  obtain ⟨i, hi, hz, h1, h2⟩ := info_parts info_bool
  have hr := run_make (P := Tryd.prog) w 66 4 i (.bool false) Tryd.underlying66 hi hz .i64 .i64 (n : Int) (n : Int) (by omega) (by omega) (by rw [h2]; omega) (by omega)
  simp only [Int.toNat_natCast] at hr
  rw [hr, h1]
  have e : madeCells (Value.bool false).cells (n * 1) = falses n := by
    unfold falses
    rw [row_bools, List.map_replicate]
    apply Array.ext <;> simp [madeCells, Value.cells, Nat.mod_one]
  rw [e]
theorem own_putB {w : World} {B gl n c j : Nat} {e : TypeId} {xs : List Bool} {x y : Bool} (h : Rws e B (.slice (some ⟨gl, 0, none⟩) n c) xs w) (hn : n = xs.length) (hx : xs[j]? = some x) : Rws e B (.slice (some ⟨gl, 0, none⟩) n c) (xs.set j y) (w.setCell ⟨gl, j, none⟩ (.bool y)) := by
  have h1 := own_put (d := 0) (y := y) (u := .bool y) h hn hx (by decide) rfl
  rw [show j * Sh.k Bool + 0 = j from by show j * 1 + 0 = j; omega] at h1
  exact h1
/-- the row after k registers -/
def bRow (f : Nat → Bool) (n k : Nat) : List Bool := (List.range k).map f ++ List.replicate (n - k) false
theorem bRow_len {f : Nat → Bool} {n k : Nat} (h : k ≤ n) : (bRow f n k).length = n := by unfold bRow; simp; omega
theorem bRow_get {f : Nat → Bool} {n k : Nat} (h : k < n) : (bRow f n k)[k]? = some false := by
  unfold bRow
  rw [List.getElem?_append_right (by simp), List.getElem?_replicate]
  simp
  omega
theorem bRow_set {f : Nat → Bool} {n k : Nat} (h : k < n) : (bRow f n k).set k (f k) = bRow f n (k + 1) := by
  unfold bRow
  rw [List.set_append_right _ _ (by simp)]
  have e : n - k = (n - (k + 1)) + 1 := by omega
  rw [e, List.replicate_succ, List.range_succ, List.map_append, List.append_assoc]
  simp
theorem bRow_all (f : Nat → Bool) (n : Nat) : bRow f n n = (List.range n).map f := by unfold bRow; simp
/-- what Secret answers -/
def SecL (p : Pg) (l : List Bool) : Prop := if (chkP p).2 ≠ 0 then l = [] else ∃ s, SecN p.bf p.op s ∧ l = (List.range p.rg.toNat).map fun i => s.testBit i
set_option maxRecDepth 100000 in
set_option maxHeartbeats 4000000 in
theorem secret_s (p : Pg) (hp : p.wf) (A X : Option Addr) (c d : Nat) (w : World) (hT : TabF w) (hR : Rdr w w.heap.size A p.bf.length p.bf) (hX : Rdr w w.heap.size X p.op.length p.op) :
    Calls Tryd.prog 44 #[pgV p A c X d] w fun e w' => (∃ v l, e = .returned v ∧ Rws 4 w.heap.size v l w' ∧ SecL p l) ∧ Below w.heap.size w w' := by
  have HC := Lib.hid (fun (W : World) (hb : Below w.heap.size w W) => check_l p hp A X c d W (hT.keep hb) ((hR.below hb).more hb.size) ((hX.below hb).more hb.size))
  have HSE := Lib.hid (fun (h : (chkP p).2 = 0) (W : World) (hb : Below w.heap.size w W) => secrets_s p ((ok_of h).sok hp) (by have := (ref_zero (ok_of h).ref).2.2.1; omega) A X c d W ((hR.below hb).more hb.size) ((hX.below hb).more hb.size))
  have HRG := Lib.hid (fun (h : (chkP p).2 = 0) => (show 0 ≤ p.rg ∧ p.rg ≤ 64 from ⟨(ref_zero (ok_of h).ref).2.2.2.1, (ref_zero (ok_of h).ref).1⟩))
  have HL : Hid (∀ l, SecL p l ↔ if (chkP p).2 ≠ 0 then l = [] else ∃ s, SecN p.bf p.op s ∧ l = (List.range p.rg.toNat).map fun i => s.testBit i) := Lib.hid (fun l => Iff.rfl)
  have HB0 := Lib.hid (bel_al (w := w) (.cells #[.int .i64 p.rg, .slice A p.bf.length c, .slice X p.op.length d] 26))
  have HK0 := Lib.hid (Bk.new w 26 #[.int .i64 p.rg, .slice A p.bf.length c, .slice X p.op.length d])
  unfold pgV at *
  clear hT hR hX
  obtain ⟨rg, hrg⟩ : ∃ z, p.rg = z := ⟨_, rfl⟩
  rw [hrg] at HC HSE HRG HL HB0 HK0 ⊢
  clear hrg
  generalize chkP p = ck at *
  obtain ⟨k1, k2⟩ := ck
  dsimp only at HC HSE HRG HL
  go_enter Tryd.func44, Tryd.ntmps44
  go_wp2_with fail
  go_at_call 28
  refine (HC.out _ HB0.out).mono ?_
  rintro e w2 ⟨rfl, hb⟩
  have HB2 := Lib.hid (bel_tr HB0.out hb)
  have HK2 := Lib.hid (HK0.out.below hb HK0.out.lt)
  clear hb HC HB0 HK0
  obtain ⟨a0, a1, a2⟩ := c3 HK2.out
  by_cases h : k2 = 0
  · subst h
    obtain ⟨hr0, hr64⟩ := HRG.out (by first | exact rfl | trivial)
    have HSE2 := Lib.hid (HSE.out (by first | exact rfl | trivial) w2 HB2.out)
    obtain ⟨n, rfl⟩ := Int.eq_ofNat_of_zero_le hr0
    have hn : n ≤ 64 := by omega
    have hmk := fun W => make_bool n (by omega) W
    have HMD := Lib.hid (fun (W : World) (B : Nat) (hB : B ≤ W.heap.size) => bool_made W (B := B) n (by omega) hB)
    clear HSE HRG hr0 hr64
    go_wp2_with fail
    go_at_call 68
    refine HSE2.out.mono ?_
    rintro e w3 ⟨⟨s, rfl, hse⟩, hb⟩
    have HB3 := Lib.hid (bel_tr HB2.out hb)
    have HK3 := Lib.hid (HK2.out.below hb HK2.out.lt)
    have h64 := hse.2
    have HSN := Lib.hid hse
    clear hb HSE2 a0 a1 a2 hse
    obtain ⟨a0, a1, a2⟩ := c3 HK3.out
    have HHS := Lib.hid (fun (k : Nat) (hk : k < 64) W => has_s s (k : Int) h64 (by omega) W)
    have HM3 := Lib.hid (HMD.out w3 w.heap.size HB3.out.size)
    have HB4 := Lib.hid (bel_al' HB3.out (.cells (falses n) 4))
    generalize falses n = zs at *
    go_wp2_with fail
    go_loopw [22] (fun i W => ∃ k : Nat, k ≤ n ∧ i = .int .i64 (k : Int) ∧ Hid (Rws 4 w.heap.size (.slice (some ⟨w3.heap.size, 0, none⟩) n n) (bRow (fun i => s.testBit i) n k) W) ∧ Hid (Below w.heap.size w W)) (fun i _ => n - (intOf i).toNat)
    case atStart => exact ⟨0, Nat.zero_le _, rfl, HM3, HB4⟩
    case round =>
      obtain ⟨k, hk, rfl, HRW, HB⟩ := hrel
      clear HM3 HB4 hmk HMD a0 a1 a2
      rcases Nat.lt_or_ge k n with hlt | hge
      · have hki : (k : Int) < (n : Int) := by omega
        have hk0 : (0 : Int) ≤ (k : Int) := by omega
        have HH := Lib.hid (fun W => HHS.out k (by omega) W)
        have HEB : Hid (hasN s (k : Int) = s.testBit k) := Lib.hid (by unfold hasN; rw [decide_eq_true hk0, Bool.true_and, Int.toNat_natCast])
        have HPT := Lib.hid (own_putB (y := s.testBit k) HRW.out (bRow_len hk).symm (bRow_get hlt))
        rw [bRow_set (f := fun i => s.testBit i) hlt] at HPT
        obtain ⟨b0, o0, e0, _, q0⟩ := bool_at (rws_rd HRW.out).2.1 (bRow_get (f := fun i => s.testBit i) hlt)
        cases e0
        rw [Nat.zero_add] at q0
        have hown : wr.ownsRow w.heap.size 4 1 (.slice (some ⟨w3.heap.size, 0, none⟩) n n) n (row (bRow (fun i => s.testBit i) n k)) := by
          have h := HRW.out
          unfold Rws at h
          rw [bRow_len hk] at h
          exact h
        have qf : wr.frozen? ⟨w3.heap.size, k, none⟩ = false := World.ownsRow.frozenAt hown k
        clear hown
        have HBS := Lib.hid (HB.out.setCell (p := ⟨w3.heap.size, k, none⟩) HB3.out.size (.bool (s.testBit k)))
        rw [← HEB.out] at HPT HBS
        generalize hasN s (k : Int) = bb at *
        have ew : IntKind.i64.wrap ((k : Int) + 1) = ((k + 1 : Nat) : Int) := by rw [show (k : Int) + 1 = ((k + 1 : Nat) : Int) by omega]; exact IntWalk.i64_in _ (by omega)
        go_wp2_with fail
        go_at_call 71
        refine (HH.out _).mono ?_
        rintro e w4 ⟨rfl, rfl⟩
        go_wp2_with fail
        go_roundw
        case rel => exact ⟨k + 1, by omega, by first | rfl | go_num, HPT, HBS⟩
        case measure => (simp [intOf] <;> omega)
      · obtain rfl : k = n := by omega
        have hki : ¬ (k : Int) < (k : Int) := by omega
        go_wp2_with fail
        go_ret
        refine ⟨⟨_, rfl, _, by have := HRW.out; rw [bRow_all] at this; exact this, (HL.out _).2 ?_⟩, HB.out⟩
        rw [if_neg (by decide)]
        exact ⟨s, HSN.out, by rw [Int.toNat_natCast]⟩
  · have hne : (k2 != 0) = true := by simpa using h
    have HN := Lib.hid h
    clear h
    go_wp2_with fail
    go_ret
    have hsl := (HL.out []).2 (by rw [if_pos HN.out])
    first
      | exact ⟨⟨_, [], rfl, World.ownsRow_nil _ _ _ _, hsl⟩, HB2.out⟩
      | exact ⟨⟨_, rfl, [], World.ownsRow_nil _ _ _ _, hsl⟩, HB2.out⟩
end Lb
end Go.Proofs.YtjdpbelfagkaiaaDoor
