/- The landed Text. -/
import Derived.Test.YtaocplcmmpbjjaaDoorST
namespace Go.Proofs.YtaocplcmmpbjjaaDoor
open Go Go.RowKit Go.Maps Go.Shelf
namespace Sn
open Nt
open Gr (Rdr Rws row Sh rws_rd rws_form)
set_option linter.unusedVariables false
set_option linter.unusedSimpArgs false
/-- texts behind one, a blank ahead of each -/
def jf (a : List UInt8) : List ByteArray → List UInt8
  | [] => a
  | t :: r => jf (a ++ 32 :: t.data.toList) r
/-- texts, a blank between two -/
def jn : List ByteArray → List UInt8
  | [] => []
  | t :: r => jf t.data.toList r
theorem jf_app : ∀ (l : List ByteArray) (a : List UInt8) (x : ByteArray), jf a (l ++ [x]) = jf a l ++ 32 :: x.data.toList
  | [], a, x => rfl
  | t :: r, a, x => jf_app r _ x
theorem jn_app {l : List ByteArray} (h : l ≠ []) (x : ByteArray) : jn (l ++ [x]) = jn l ++ 32 :: x.data.toList := by
  cases l with
  | nil => exact absurd rfl h
  | cons t r => exact jf_app r _ x
theorem jf_le : ∀ (l : List ByteArray) (a : List UInt8), a.length ≤ (jf a l).length
  | [], a => Nat.le_refl _
  | t :: r, a => by
    have := jf_le r (a ++ 32 :: t.data.toList)
    rw [List.length_append] at this
    show a.length ≤ (jf (a ++ 32 :: t.data.toList) r).length
    omega
theorem jf_split : ∀ (l m : List ByteArray) (a : List UInt8), jf a (l ++ m) = jf (jf a l) m
  | [], m, a => rfl
  | t :: r, m, a => jf_split r m _
theorem jn_take_le (l : List ByteArray) (k : Nat) : (jn (l.take k)).length ≤ (jn l).length := by
  cases l with
  | nil => rw [List.take_nil]; exact Nat.le_refl _
  | cons t r =>
    cases k with
    | zero => exact Nat.zero_le _
    | succ k =>
      show (jf t.data.toList (r.take k)).length ≤ (jf t.data.toList r).length
      have h := jf_split (r.take k) (r.drop k) t.data.toList
      rw [List.take_append_drop] at h
      rw [h]
      exact jf_le _ _
def txts (xs : List TV) : List ByteArray := xs.map (·.t)
/-- what Text answers -/
def txt (xs : List TV) : ByteArray := ⟨(jn (txts xs)).toArray⟩
theorem bcells_app (a b : List UInt8) : Lib.byteCells (a ++ b) = Lib.byteCells a ++ Lib.byteCells b := List.map_append
theorem isB_below {b : Nat} {bs : List Value} {X Y : World} {B : Nat} (h : IsB b bs X B) (hb : Below X.heap.size X Y) : IsB b bs Y B := by
  rcases h with ⟨h0, v, h1, h2, h3⟩ | ⟨h0, v, h1, h2, h3⟩
  · exact .inl ⟨h0, v, (hb.block b (Array.getElem?_eq_some_iff.1 h1).1).trans h1, h2.kept (below_grown hb) (by cases hv : v.ownBlock <;> simp), h3⟩
  · exact .inr ⟨h0, v, (hb.block b (Array.getElem?_eq_some_iff.1 h1).1).trans h1, h2.kept (below_grown hb) (by cases hv : v.ownBlock <;> simp), h3⟩
theorem jn_step {xs : List TV} {k : Nat} {x : TV} (h : xs.take (k + 1) = xs.take k ++ [x]) (hk : 0 < k) (hl : k ≤ xs.length) : Lib.byteCells (jn (txts (xs.take (k + 1)))) = (Lib.byteCells (jn (txts (xs.take k))) ++ [.int .u8 32]) ++ Lib.strCells x.t := by
  rw [h, show txts (xs.take k ++ [x]) = txts (xs.take k) ++ [x.t] from List.map_append, jn_app (by intro e; have := congrArg List.length e; unfold txts at this; rw [List.length_map, List.length_take] at this; rw [Nat.min_eq_left hl] at this; simp at this; omega), bcells_app, List.append_assoc]
  rfl
theorem below_atB {b : Nat} {bs : List Value} {w : World} {B : Nat} (h : AtB b bs w B) : IsB b bs w B := .inr h
set_option maxRecDepth 100000 in
set_option maxHeartbeats 4000000 in
theorem text_l (A : Option Addr) (n c : Nat) (xs : List TV) (w : World) (hR : Rdr w w.heap.size A n xs) (hn : n ≤ 1000000) (hl : (jn (txts xs)).length ≤ 1000000) :
    Calls Tryd.prog 15 #[.slice A n c] w fun e w' => e = .returned (.string (txt xs)) ∧ Below w.heap.size w w' := by
  have HR := Lib.hid hR
  have HL := Lib.hid hl
  clear hR hl
  go_enter Tryd.func15, Tryd.ntmps15
  go_wp2_with fail
  go_loopw [8] (fun i wr => ∃ k : Nat, k ≤ n ∧ i = .int .i64 k ∧ Hid (IsB w.heap.size (Lib.byteCells (jn (txts (xs.take k)))) wr w.heap.size) ∧ Hid (Below w.heap.size w wr)) (fun i _ => n - (intOf i).toNat)
  case atStart =>
    refine ⟨0, Nat.zero_le _, rfl, Lib.hid (.inl ⟨Nat.le_refl _, .slice none 0 0, ?_, World.ownsRow_nil _ _ _ _, by simp [Value.ownBlock]⟩), Lib.hid ((Below.refl _ w).alloc (Nat.le_refl _) _)⟩
    exact World.alloc_heap_new w _
  case round =>
    obtain ⟨k, hk, rfl, hB, hW⟩ := hrel
    by_cases hlt : k < n
    · obtain ⟨x, hx⟩ : ∃ x, xs[k]? = some x := ⟨_, List.getElem?_eq_getElem (by rw [HR.out.len]; exact hlt)⟩
      obtain ⟨ab, ao, rfl, hab, hc1, hc2, hc3⟩ := tv_at (HR.out.below hW.out) hx
      have hki : (k : Int) < (n : Int) := by omega
      have hk0 : (0 : Int) ≤ (k : Int) := by omega
      have HX := Lib.hid hx
      have HLT := Lib.hid hlt
      have HKK := Lib.hid hk
      have hbl : Hid ((jn (txts (xs.take (k + 1)))).length ≤ 1000000) := Lib.hid (Nat.le_trans (by unfold txts; rw [List.map_take]; exact jn_take_le _ _) HL.out)
      have HXT : Hid (xs.take (k + 1) = xs.take k ++ [x]) := Lib.hid (by rw [List.take_add_one, hx]; rfl)
      obtain ⟨xk, xt, xp⟩ := x
      dsimp only at hc1 hc2 hc3
      have hal : Below w.heap.size wr (wr.alloc (.cells #[.int .i64 (xk : Int), .string xt, .int .i64 (xp : Int)] 33)) := (Below.refl _ wr).alloc hW.out.size _
      have HB2 : Hid (IsB w.heap.size (Lib.byteCells (jn (txts (xs.take k)))) (wr.alloc (.cells #[.int .i64 (xk : Int), .string xt, .int .i64 (xp : Int)] 33)) w.heap.size) := Lib.hid (isB_below hB.out ((Below.refl _ wr).alloc (Nat.le_refl _) _))
      clear hx hlt hk
      by_cases hk1 : k = 0
      · subst hk1
        rw [Nat.zero_mul, Nat.add_zero] at hc1 hc2 hc3
        have HWS := Lib.hid (writeString_l w.heap.size w.heap.size [] xt _ HB2.out (by have h := hbl.out; rw [HXT.out] at h; have h' : xt.data.toList.length ≤ 1000000 := h; have h2 : xt.size = xt.data.toList.length := (Array.length_toList).symm; simp only [List.length_nil]; omega) (by have := hW.out.size; rw [World.size_alloc]; omega))
        have HA := Lib.hid hal
        clear hal HB2 hB
        go_wp2_with fail
        go_at_call 25
        refine HWS.out.mono ?_
        rintro e w2 ⟨rfl, h1, h2⟩
        have H1 := Lib.hid h1
        have H2 := Lib.hid h2
        clear h1 h2 HWS
        go_wp2_with fail
        go_roundw
        case rel =>
          refine ⟨1, HLT.out, rfl, Lib.hid ?_, Lib.hid ((hW.out.trans HA.out).trans H2.out)⟩
          rw [HXT.out]
          exact .inr H1.out
        case measure => (have := HLT.out; simp [intOf] <;> omega)
      · have hkp : (0 : Int) < (k : Int) := by omega
        have HKP : Hid (0 < k) := Lib.hid (by omega)
        have HJS := Lib.hid (jn_step HXT.out HKP.out (by rw [HR.out.len]; exact HKK.out))
        have HLN : Hid ((Lib.byteCells (jn (txts (xs.take k)))).length + 1 + xt.size ≤ 1000000) := Lib.hid (by
          have h := congrArg List.length HJS.out
          rw [Lib.byteCells_length, List.length_append, List.length_append, Lib.strCells_length] at h
          have := hbl.out
          simp only [List.length_cons, List.length_nil] at h
          omega)
        have HWB := Lib.hid (writeByte_l w.heap.size w.heap.size (Lib.byteCells (jn (txts (xs.take k)))) 32 _ HB2.out (by have := HLN.out; omega) (by have := hW.out.size; rw [World.size_alloc]; omega))
        have HA := Lib.hid hal
        have HCX : Hid (∀ Y, Below w.heap.size (wr.alloc (.cells #[.int .i64 (xk : Int), .string xt, .int .i64 (xp : Int)] 33)) Y → wr.heap.size < Y.heap.size) := Lib.hid (fun Y h => by have := h.size; rw [World.size_alloc] at this; omega)
        have HNB : Hid (wr.heap.size ≠ w.heap.size) := Lib.hid (by
          rcases hB.out with h | h
          · have := h.lt; omega
          · have := h.lt; omega)
        clear hal HB2 hB
        go_wp2_with fail
        go_at_call 24
        refine HWB.out.mono ?_
        rintro e w2 ⟨rfl, h1, h2, h3⟩
        have H1 := Lib.hid h1
        have H2 := Lib.hid h2
        have hct : w2.cell? ⟨wr.heap.size, 1, none⟩ = some (.string xt) := Bk.cell (h3 wr.heap.size _ 33 (0, 0) (World.alloc_heap_new wr _) HNB.out (by decide)) 1
        have HWS := Lib.hid (writeString_l w.heap.size w.heap.size _ xt w2 (.inr H1.out) (by rw [List.length_append, List.length_singleton]; have := HLN.out; omega) (by have := hW.out.size; have := H2.out.size; rw [World.size_alloc] at this; omega))
        clear h1 h2 h3 HWB
        go_wp2_with fail
        go_at_call 25
        refine HWS.out.mono ?_
        rintro e w3 ⟨rfl, h1, h2⟩
        have H3 := Lib.hid h1
        have H4 := Lib.hid h2
        clear h1 h2 HWS hct
        go_wp2_with fail
        go_roundw
        case rel =>
          refine ⟨k + 1, HLT.out, by go_num, Lib.hid ?_, Lib.hid (((hW.out.trans HA.out).trans H2.out).trans H4.out)⟩
          rw [HJS.out]
          exact .inr H3.out
        case measure => (have := HLT.out; simp [intOf] <;> omega)
    · obtain rfl : k = n := by omega
      have HS := Lib.hid (Tryd.Builder_String_any w.heap.size w.heap.size (jn (txts xs)) wr (by have := hB.out; rwa [List.take_of_length_le (by rw [HR.out.len]; exact Nat.le_refl _)] at this) hW.out.size)
      go_wp2_with fail
      go_at_call 26
      refine HS.out.mono ?_
      rintro e w2 ⟨rfl, hb⟩
      have HBB := Lib.hid hb
      clear hb
      go_wp2_with fail
      go_ret
      exact ⟨rfl, hW.out.trans HBB.out⟩
end Sn
end Go.Proofs.YtaocplcmmpbjjaaDoor
