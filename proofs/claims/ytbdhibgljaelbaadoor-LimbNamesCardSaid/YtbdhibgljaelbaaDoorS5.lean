/- The landed package secrecy: what is secret; of each register whether it is. -/
import Derived.Test.YtbdhibgljaelbaaDoorS4
import Derived.Test.YtbdhibgljaelbaaDoorN4
namespace Go.Proofs.YtbdhibgljaelbaaDoor
open Go Go.RowKit Go.Sort Go.Shelf
namespace Lb
open Wd Nt Gr
set_option linter.unusedVariables false
set_option linter.unusedSimpArgs false
/-- what secrets answers -/
def SecN (bufs : List Bf) (ops : List Op) (s : Nat) : Prop := IsSec bufs ops s ∧ s < 18446744073709551616
set_option maxRecDepth 100000 in
set_option maxHeartbeats 2000000 in
theorem secrets_s (p : Pg) (hs : SOk p.bf p.op) (hl : p.op.length ≤ 1000000) (A X : Option Addr) (c d : Nat) (w : World) (hR : Rdr w w.heap.size A p.bf.length p.bf) (hX : Rdr w w.heap.size X p.op.length p.op) :
    Calls Tryd.prog 57 #[pgV p A c X d] w fun e w' => (∃ s : Nat, e = .returned (.int .u64 (s : Int)) ∧ SecN p.bf p.op s) ∧ Below w.heap.size w w' := by
  have HG := Lib.hid (fun (s : Nat) (h : s < 18446744073709551616) (W : World) (hb : Below w.heap.size w W) => grown_s p hs hl s h A X c d W ((hR.below hb).more hb.size) ((hX.below hb).more hb.size))
  have HLT : Hid (∀ s, s < 18446744073709551616 → grown p.bf p.op s < 18446744073709551616) := Lib.hid (fun s h => grown_lt h (fun o ho => ⟨(hs.rg o ho).1, (hs.rg o ho).2.1⟩))
  have HLE := Lib.hid (fun s => grown_le p.bf p.op s)
  have HB0 := Lib.hid (bel_al (w := w) (.cells #[.int .i64 p.rg, .slice A p.bf.length c, .slice X p.op.length d] 26))
  have HK0 := Lib.hid (Bk.new w 26 #[.int .i64 p.rg, .slice A p.bf.length c, .slice X p.op.length d])
  unfold pgV at *
  clear hs hR hX
  go_enter Tryd.func57, Tryd.ntmps57
  go_wp2_with fail
  go_loopw [3] (fun v W => ∃ s : Nat, s < 18446744073709551616 ∧ v = .int .u64 (s : Int) ∧ Hid (∃ n, s = itr p.bf p.op n) ∧ Hid (Below w.heap.size w W) ∧ Hid (Bk W w.heap.size 26 #[.int .i64 p.rg, .slice A p.bf.length c, .slice X p.op.length d])) (fun v _ => 18446744073709551616 - (intOf v).toNat)
  case atStart => exact ⟨0, by omega, rfl, Lib.hid ⟨0, rfl⟩, HB0, HK0⟩
  case round =>
    obtain ⟨s, h64, rfl, HI, HB, HK⟩ := hrel
    clear HB0 HK0
    obtain ⟨a0, a1, a2⟩ := c3 HK.out
    have HG1 := Lib.hid (HG.out s h64 wr HB.out)
    have hle := HLE.out s
    have hlt := HLT.out s h64
    obtain ⟨t, ht⟩ : ∃ t, grown p.bf p.op s = t := ⟨_, rfl⟩
    rw [ht] at HG1 hle hlt
    have HT := Lib.hid ht
    clear ht
    go_wp2_with fail
    go_at_call 85
    refine HG1.out.mono ?_
    rintro e w2 ⟨rfl, hb2⟩
    have HB2 := Lib.hid (bel_tr HB.out hb2)
    have HK2 := Lib.hid (HK.out.below hb2 HK.out.lt)
    clear hb2 a0 a1 a2
    by_cases he : t = s
    · subst he
      go_wp2_with fail
      go_ret
      exact ⟨⟨_, rfl, ⟨HT.out, HI.out⟩, h64⟩, HB2.out⟩
    · have hne : ((t : Int) == (s : Int)) = false := by rw [beq_eq_false_iff_ne]; omega
      go_wp2_with fail
      go_roundw
      case rel => exact ⟨t, hlt, rfl, Lib.hid (by obtain ⟨n, hn⟩ := HI.out; exact ⟨n + 1, by rw [← HT.out, hn]; rfl⟩), HB2, HK2⟩
      case measure => (simp [intOf] <;> omega)
/-! ### of each register -/
def falses (n : Nat) : Array Value := (row (List.replicate n false)).toArray
theorem row_bools (xs : List Bool) : row xs = xs.map Value.bool := by
  induction xs with
  | nil => rfl
  | cons x xs ih => show Value.bool x :: row xs = _; rw [ih]; rfl
theorem bool_made (w : World) {B : Nat} (n : Nat) (hn : n ≤ 1000000) (hB : B ≤ w.heap.size) : Rws 4 B (.slice (some ⟨w.heap.size, 0, none⟩) n n) (List.replicate n false) (w.alloc (.cells (falses n) 4)) := by
  have h := bk_rws (t := 4) (B := B) (xs := List.replicate n false) (w := w.alloc (.cells (falses n) 4)) (g := w.heap.size) (Bk.new _ _ _) hB (by rw [List.length_replicate]; exact hn)
  rw [List.length_replicate] at h
  exact h
set_option maxRecDepth 100000 in
theorem info_bool : (Tryd.prog.info? 4).map (fun i => (i.zero, i.size, i.bytes)) = some (some (.bool false), 1, 1) := by kernel_rfl
theorem make_bool (n : Nat) (hn : n ≤ 1000000) (w : World) :
    (Instr.makeSlice 82 (.int .i64 (n : Int)) (.int .i64 (n : Int))).run Tryd.prog w = .ok (.slice (some ⟨w.heap.size, 0, none⟩) n n) (w.alloc (.cells (falses n) 4)) := by
  obtain ⟨i, hi, hz, h1, h2⟩ := info_parts info_bool
  have hr := run_make (P := Tryd.prog) w 82 4 i (.bool false) Tryd.underlying82 hi hz .i64 .i64 (n : Int) (n : Int) (by omega) (by omega) (by rw [h2]; omega) (by omega)
  simp only [Int.toNat_natCast] at hr
  rw [hr, h1]
  have e : madeCells (Value.bool false).cells (n * 1) = falses n := by
    unfold falses
    rw [row_bools, List.map_replicate]
    apply Array.ext <;> simp [madeCells, Value.cells, Nat.mod_one]
  rw [e]
theorem own_putB {w : World} {B gl n c j : Nat} {e : TypeId} {xs : List Bool} {x y : Bool} (h : Rws e B (.slice (some ⟨gl, 0, none⟩) n c) xs w) (hn : n = xs.length) (hx : xs[j]? = some x) : Rws e B (.slice (some ⟨gl, 0, none⟩) n c) (xs.set j y) (w.setCell ⟨gl, j, none⟩ (.bool y)) := by
  have h1 := own_put (d := 0) (y := y) (u := .bool y) h hn hx (by decide) rfl
  rw [show j * Sh.k Bool + 0 = j from by show j * 1 + 0 = j; omega] at h1
  exact h1
/-- the row after k registers -/
def bRow (f : Nat → Bool) (n k : Nat) : List Bool := (List.range k).map f ++ List.replicate (n - k) false
theorem bRow_len {f : Nat → Bool} {n k : Nat} (h : k ≤ n) : (bRow f n k).length = n := by unfold bRow; simp; omega
theorem bRow_get {f : Nat → Bool} {n k : Nat} (h : k < n) : (bRow f n k)[k]? = some false := by
  unfold bRow
  rw [List.getElem?_append_right (by simp), List.getElem?_replicate]
  simp
  omega
theorem bRow_set {f : Nat → Bool} {n k : Nat} (h : k < n) : (bRow f n k).set k (f k) = bRow f n (k + 1) := by
  unfold bRow
  rw [List.set_append_right _ _ (by simp)]
  have e : n - k = (n - (k + 1)) + 1 := by omega
  rw [e, List.replicate_succ, List.range_succ, List.map_append, List.append_assoc]
  simp
theorem bRow_all (f : Nat → Bool) (n : Nat) : bRow f n n = (List.range n).map f := by unfold bRow; simp
/-- what Secret answers -/
def SecL (p : Pg) (l : List Bool) : Prop := if (chkP p).2 ≠ 0 then l = [] else ∃ s, SecN p.bf p.op s ∧ l = (List.range p.rg.toNat).map fun i => s.testBit i
end Lb
end Go.Proofs.YtbdhibgljaelbaaDoor
