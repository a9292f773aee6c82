/- The examples of chapter 2, call by call. -/
import Derived.Test.YtdklchejnpaenaaDoorUniC
namespace Go.Proofs.YtdklchejnpaenaaDoor
open Go Go.RowKit
namespace Nt
open Wd Sti
set_option linter.unusedVariables false

theorem lit1 (w : World) (l : List Int) (n : Nat) (hw : Ws l) (hn : l.length = n) : Hid (At (w.alloc (.cells (us l) 28)) (some ⟨w.heap.size, 0, none⟩) n l) :=
  Lib.hid ((Bk.new w 28 (us l)).rd0 (Bk.new w 28 (us l)).lt hw hn)
theorem lit2 (w : World) (o : Obj) (l : List Int) (n : Nat) (hw : Ws l) (hn : l.length = n) : Hid (At ((w.alloc o).alloc (.cells (us l) 28)) (some ⟨w.heap.size + 1, 0, none⟩) n l) := by
  have h : Bk ((w.alloc o).alloc (.cells (us l) 28)) (w.heap.size + 1) 28 (us l) := Bk.new' (by simp)
  exact Lib.hid (h.rd0 h.lt hw hn)
theorem bel1 {w w' : World} (o : Obj) (h : Below (w.alloc o).heap.size (w.alloc o) w') : Below w.heap.size w w' := below_trans (below_alloc o) h
theorem bel2 {w w' : World} (o o' : Obj) (h : Below ((w.alloc o).alloc o').heap.size ((w.alloc o).alloc o') w') : Below w.heap.size w w' := bel1 o (bel1 o' h)
theorem Ws.of (l : List Int) (h : ∀ x ∈ l, 0 ≤ x ∧ x ≤ 18446744073709551615) : Ws l := h
def litN (l : List Int) : Obj := .cells (us l) 28

theorem n_sub (w : World) : Calls Tryd.prog 11 #[.slice (some ⟨w.heap.size, 0, none⟩) 1 1, .slice (some ⟨w.heap.size + 1, 0, none⟩) 1 1] ((w.alloc (.cells #[.int .u64 1] 28)).alloc (.cells #[.int .u64 2] 28)) fun e w' => e = .returned (.tuple #[.slice none 0 0, .int .i64 2]) ∧ Below w.heap.size w w' :=
  (subE_u (At.step (lit1 w [1] 1 (Ws.of _ (by decide)) rfl) (below_alloc (litN [2]))) (lit2 w (litN [1]) [2] 1 (Ws.of _ (by decide)) rfl) (by omega) (by omega) (by decide)).mono fun _ _ h => ⟨h.1, bel2 (litN [1]) (litN [2]) h.2⟩
theorem n_div (w : World) : Calls Tryd.prog 12 #[.slice (some ⟨w.heap.size, 0, none⟩) 1 1, .slice (some ⟨w.heap.size + 1, 0, none⟩) 2 2] ((w.alloc (.cells #[.int .u64 1] 28)).alloc (.cells #[.int .u64 0, .int .u64 0] 28)) fun e w' => e = .returned (.tuple #[.slice none 0 0, .slice none 0 0, .int .i64 2]) ∧ Below w.heap.size w w' :=
  (div0_u (lit2 w (litN [1]) [0, 0] 2 (Ws.of _ (by decide)) rfl) (by omega) (by omega) (by omega) (by decide)).mono fun _ _ h => ⟨h.1, bel2 (litN [1]) (litN [0, 0]) h.2⟩
theorem big_c (l : List UInt8) (N : Int) (w : World) (hx : isHex l) (hne : l ≠ []) (hl : l.length ≤ 64) (hN : hexV l = N) :
    Calls Tryd.prog 13 #[.string ⟨l.toArray⟩] w fun e w' => ∃ v, e = .returned v ∧ New w w' v N 5 := by
  have H := Lib.hid (read_ok l w hx hne (by omega))
  rw [hN] at H
  obtain ⟨s, hs⟩ : ∃ s : ByteArray, s = ⟨l.toArray⟩ := ⟨_, rfl⟩
  rw [← hs] at H ⊢
  clear hs hx hne hN
  go_enter Tryd.func13, Tryd.ntmps13
  go_wp2_with fail
  go_at_call 15
  refine H.out.mono ?_
  rintro e w1 ⟨v, rfl, hA⟩
  have h := Lib.hid (New.of hA (K := 5) (by omega))
  obtain ⟨A, n, c, zs, rfl, h1, h2, h3, h4, h5⟩ := h.out
  clear H hA h1 h2 h5
  go_wp2_with fail
  go_ret
  exact ⟨_, rfl, h.out⟩
def bg1 : List UInt8 := [49, 50, 51, 52, 53, 54, 55, 56, 57, 97, 98, 99, 100, 101, 102, 48, 49, 50, 51, 52, 53, 54, 55, 56, 57, 97, 98, 99, 100, 101, 102]
def bg2 : List UInt8 := [102, 101, 100, 99, 98, 97, 57, 56, 55]
theorem isHex_of {l : List UInt8} (h : (l.all fun b => (hexd b.toNat).isSome) = true) : isHex l := fun b hb => (List.all_eq_true.1 h) b hb
theorem n_big1 (w : World) : Calls Tryd.prog 13 #[.string ⟨#[49, 50, 51, 52, 53, 54, 55, 56, 57, 97, 98, 99, 100, 101, 102, 48, 49, 50, 51, 52, 53, 54, 55, 56, 57, 97, 98, 99, 100, 101, 102]⟩] w fun e w' => ∃ v, e = .returned v ∧ New w w' v 1512366075204170929049582354406559215 5 :=
  big_c bg1 _ w (isHex_of (by decide +kernel)) (by decide) (by decide) (by decide +kernel)
theorem n_big2 (w : World) : Calls Tryd.prog 13 #[.string ⟨#[102, 101, 100, 99, 98, 97, 57, 56, 55]⟩] w fun e w' => ∃ v, e = .returned v ∧ New w w' v 68414056839 5 :=
  big_c bg2 _ w (isHex_of (by decide +kernel)) (by decide) (by decide) (by decide +kernel)
theorem n_fit1 (w : World) : Calls Tryd.prog 14 #[.slice (some ⟨w.heap.size, 0, none⟩) 3 3, .int .i64 2] (w.alloc (.cells #[.int .u64 5, .int .u64 0, .int .u64 0] 28)) fun e w' => ∃ A n c, e = .returned (.tuple #[.slice A n c, .int .i64 0]) ∧ Hid (At w' A n [5, 0]) ∧ n ≤ 1048576 ∧ Below w.heap.size w w' := by
  refine (fit_any 2 (lit1 w [5, 0, 0] 3 (Ws.of _ (by decide)) rfl) (by omega) (by omega) (by omega)).mono ?_
  rintro e w' ⟨A, n, c, zs, ev, rfl, h1, h2, h3, h4⟩
  rcases h1.out with ⟨a, _, _⟩ | ⟨_, _, a, _⟩ | ⟨_, _, _, hz, rfl⟩
  · omega
  · exact absurd a (by decide)
  · rw [show trim [5, 0, 0] ++ List.replicate ((2 : Int).toNat - (trim [5, 0, 0]).length) 0 = [5, 0] by decide] at hz
    rw [hz] at h2
    exact ⟨A, n, c, rfl, h2, h3, bel1 (litN [5, 0, 0]) h4⟩
theorem n_fit2 (w : World) : Calls Tryd.prog 14 #[.slice (some ⟨w.heap.size, 0, none⟩) 2 2, .int .i64 1] (w.alloc (.cells #[.int .u64 5, .int .u64 1] 28)) fun e w' => ∃ A n c, e = .returned (.tuple #[.slice A n c, .int .i64 3]) ∧ Below w.heap.size w w' := by
  refine (fit_any 1 (lit1 w [5, 1] 2 (Ws.of _ (by decide)) rfl) (by omega) (by omega) (by omega)).mono ?_
  rintro e w' ⟨A, n, c, zs, ev, rfl, h1, h2, h3, h4⟩
  rcases h1.out with ⟨a, _, _⟩ | ⟨_, _, _, _, rfl⟩ | ⟨_, _, a, _⟩
  · omega
  · exact ⟨A, n, c, rfl, bel1 (litN [5, 1]) h4⟩
  · exact absurd a (by decide)
theorem n_fit3 (w : World) : Calls Tryd.prog 14 #[.slice none 0 0, .int .i64 (-1)] w fun e w' => e = .returned (.tuple #[.slice none 0 0, .int .i64 2]) ∧ Below w.heap.size w w' :=
  (fit_bad none 0 0 (-1) w (by omega)).mono fun _ _ h => ⟨h.1, by rw [h.2]; exact Below.refl _ _⟩
theorem n_read1 (w : World) : Calls Tryd.prog 15 #[.string ⟨#[]⟩] w fun e w' => e = .returned (.tuple #[.slice none 0 0, .int .i64 2]) ∧ Below w.heap.size w w' :=
  (read_empty ⟨#[]⟩ w rfl).mono fun _ _ h => ⟨h.1, by rw [h.2]; exact Below.refl _ _⟩
theorem n_read2 (w : World) : Calls Tryd.prog 15 #[.string ⟨#[49, 103]⟩] w fun e w' => e = .returned (.tuple #[.slice none 0 0, .int .i64 7]) ∧ Below w.heap.size w w' :=
  (read_n ⟨#[49, 103]⟩ w (by decide) (by decide)).mono fun _ _ h => by
    obtain ⟨h1, h2⟩ := h.1 (by unfold isHex; decide)
    exact ⟨h1, by rw [h2]; exact Below.refl _ _⟩

/-! ### Times -/
set_option maxRecDepth 100000 in
set_option maxHeartbeats 1000000 in
theorem times_c (n : Nat) (hn : n ≤ 1048576) (w : World) :
    Calls Tryd.prog 16 #[.string ⟨#[48]⟩, .int .i64 (n : Int)] w fun e w' => ∃ z : ByteArray, e = .returned (.string z) ∧ Hid (z.data.toList = List.replicate n 48) ∧ z.size ≤ 1048576 ∧ Below w.heap.size w w' := by
  go_enter Tryd.func16, Tryd.ntmps16
  go_wp2_with fail
  go_loopw [0, 1, 5] (fun sv nv ov W => ∃ (m a b : Nat) (o s : ByteArray), Hid (W = w) ∧ sv = .string s ∧ nv = .int .i64 (m : Int) ∧ ov = .string o ∧ Hid (a + m * b = n) ∧ m ≤ n ∧ o.size ≤ 1048576 ∧ s.size ≤ 2097154 ∧ Hid (o.data.toList = List.replicate a 48 ∧ s.data.toList = List.replicate b 48)) (fun _ nv _ _ => (intOf nv).toNat)
  case atStart => exact ⟨n, 0, 1, ⟨#[]⟩, ⟨#[48]⟩, Lib.hid rfl, rfl, rfl, rfl, Lib.hid (by omega), Nat.le_refl _, by decide, by decide, Lib.hid ⟨rfl, rfl⟩⟩
  case round =>
    obtain ⟨m, a, b, o, s, HW, rfl, rfl, rfl, E, hm, ho, hs, H⟩ := hrel
    rcases Nat.eq_zero_or_pos m with rfl | hm0
    · have e := E.out
      have HZ := Lib.hid (show o.data.toList = List.replicate n 48 by rw [H.out.1]; congr 1; omega)
      clear e
      go_wp2_with fail
      go_ret
      exact ⟨o, rfl, HZ, ho, by rw [HW.out]; exact Below.refl _ _⟩
    · have hb : b ≤ n := by
        have e := E.out
        have : 1 * b ≤ m * b := Nat.mul_le_mul_right _ hm0
        omega
      have hob : o.size = a := by rw [← bytes_len, H.out.1, List.length_replicate]
      have hsb : s.size = b := by rw [← bytes_len, H.out.2, List.length_replicate]
      have hab : a + b ≤ n := by
        have e := E.out
        have : 1 * b ≤ m * b := Nat.mul_le_mul_right _ hm0
        omega
      have HSS : Hid ((s ++ s).data.toList = List.replicate (2 * b) 48) := Lib.hid (by
        rw [ByteArray.data_append, Array.toList_append, H.out.2, List.replicate_append_replicate]; congr 1; omega)
      have HOS : Hid ((o ++ s).data.toList = List.replicate (a + b) 48) := Lib.hid (by
        rw [ByteArray.data_append, Array.toList_append, H.out.1, H.out.2, List.replicate_append_replicate])
      have z1 := congrArg List.length HSS.out
      have z2 := congrArg List.length HOS.out
      rw [bytes_len, List.length_replicate] at z1 z2
      have Z1 := Lib.hid z1
      have Z2 := Lib.hid z2
      have HSB := Lib.hid hsb
      clear z1 z2 hob hsb
      rcases Nat.mod_two_eq_zero_or_one m with hp | hp
      · have hpi : ((m : Int) % 2 == 1) = false := by simp; omega
        have HM : Hid (a + m / 2 * (2 * b) = n) := Lib.hid (by
          have e := E.out
          obtain ⟨q, rfl⟩ : ∃ q, m = 2 * q := ⟨m / 2, by omega⟩
          rw [show 2 * q / 2 = q by omega]
          have : 2 * q * b = q * (2 * b) := by ac_rfl
          omega)
        have hpc : (m : Int) % 2 = 0 := by omega
        clear hp
        go_wp2_with fail
        go_roundw
        case rel => exact ⟨m / 2, a, 2 * b, o, _, HW, rfl, by go_num, rfl, HM, by omega, ho, by rw [Z1.out]; omega, Lib.hid ⟨H.out.1, HSS.out⟩⟩
        case measure => (simp [intOf] <;> omega)
      · have hpi : ((m : Int) % 2 == 1) = true := by simp; omega
        have HM : Hid (a + b + m / 2 * (2 * b) = n) := Lib.hid (by
          have e := E.out
          obtain ⟨q, rfl⟩ : ∃ q, m = 2 * q + 1 := ⟨m / 2, by omega⟩
          rw [show (2 * q + 1) / 2 = q by omega]
          have : (2 * q + 1) * b = q * (2 * b) + b := by rw [Nat.add_mul, Nat.one_mul]; congr 1; ac_rfl
          omega)
        have hpc : (m : Int) % 2 = 1 := by omega
        clear hp
        go_wp2_with fail
        go_roundw
        case rel => exact ⟨m / 2, a + b, 2 * b, _, _, HW, rfl, by go_num, rfl, HM, by omega, by rw [Z2.out]; omega, by rw [Z1.out]; omega, Lib.hid ⟨HOS.out, HSS.out⟩⟩
        case measure => (simp [intOf] <;> omega)

theorem data_app (a b : ByteArray) : (a ++ b).data.toList = a.data.toList ++ b.data.toList := by rw [ByteArray.data_append, Array.toList_append]
theorem dw48 (n : Nat) (b : UInt8) (h : b ≠ 48) : Lib.trimLeftB (List.replicate n 48 ++ [b]) 48 = [b] := by
  unfold Lib.trimLeftB
  induction n with
  | zero => rw [List.replicate_zero, List.nil_append, List.dropWhile_cons, if_neg (by simpa using h)]
  | succ n ih => rw [List.replicate_succ, List.cons_append, List.dropWhile_cons, if_pos (by simp), ih]
theorem n_read3 (t : ByteArray) (ht : Hid (t.data.toList = List.replicate 8192 48)) (hs : t.size ≤ 1048576) (w : World) :
    Calls Tryd.prog 15 #[.string ((⟨#[49]⟩ : ByteArray) ++ t)] w fun e w' => e = .returned (.tuple #[.slice none 0 0, .int .i64 3]) ∧ Below w.heap.size w w' := by
  have hd : ((⟨#[49]⟩ : ByteArray) ++ t).data.toList = 49 :: List.replicate 8192 48 := by rw [data_app, ht.out]; rfl
  have hsz : ((⟨#[49]⟩ : ByteArray) ++ t).size ≤ 1073741824 := by rw [← bytes_len, hd, List.length_cons, List.length_replicate]; omega
  refine (read_n _ w hsz (by rw [hd]; exact List.cons_ne_nil _ _)).mono ?_
  rintro e w' ⟨_, h, _⟩
  rw [hd] at h
  have hx : isHex (49 :: List.replicate 8192 48) := by
    intro b hb
    rcases List.mem_cons.1 hb with rfl | hb
    · rfl
    · rw [(List.mem_replicate.1 hb).2]; rfl
  have hl : Lib.trimLeftB (49 :: List.replicate 8192 48) 48 = 49 :: List.replicate 8192 48 := by
    unfold Lib.trimLeftB; rw [List.dropWhile_cons, if_neg (by decide)]
  obtain ⟨h1, h2⟩ := h hx (by rw [hl, List.length_cons, List.length_replicate]; omega)
  exact ⟨h1, by rw [h2]; exact Below.refl _ _⟩
theorem app_ne (l : List UInt8) (b : UInt8) : l ++ [b] ≠ [] := by simp
theorem n_read4 (t : ByteArray) (ht : Hid (t.data.toList = List.replicate 9000 48)) (hs : t.size ≤ 1048576) (w : World) :
    Calls Tryd.prog 15 #[.string (t ++ (⟨#[97]⟩ : ByteArray))] w fun e w' => ∃ A n c, e = .returned (.tuple #[.slice A n c, .int .i64 0]) ∧ Hid (At w' A n [10]) ∧ n ≤ 1048576 ∧ Below w.heap.size w w' := by
  have hd : (t ++ (⟨#[97]⟩ : ByteArray)).data.toList = List.replicate 9000 48 ++ [97] := by rw [data_app, ht.out]
  have hsz : (t ++ (⟨#[97]⟩ : ByteArray)).size ≤ 1073741824 := by rw [← bytes_len, hd, List.length_append, List.length_replicate]; simp
  refine (read_n _ w hsz (by rw [hd]; exact app_ne _ _)).mono ?_
  rintro e w' ⟨_, _, h⟩
  rw [hd, dw48 9000 97 (by decide)] at h
  have hx : isHex (List.replicate 9000 48 ++ [97]) := by
    intro b hb
    rcases List.mem_append.1 hb with hb | hb
    · rw [(List.mem_replicate.1 hb).2]; rfl
    · simp at hb; subst hb; rfl
  obtain ⟨v, rfl, A, n, c, zs, rfl, h2, h3, h4, h5, h6⟩ := h hx (by decide)
  have hz : zs = [10] := h2.uniq (Is.of_list (by intro x hx; simp at hx; subst hx; unfold Wd.W; omega) (by decide) (by decide))
  rw [hz] at h3
  have hl := h3.len
  exact ⟨A, n, c, rfl, Lib.hid h3, by simp at hl; omega, h6⟩
theorem same_lit {w : World} {A : Option Addr} {n c : Nat} {xs : List Int} (l : List Int) (k : Nat) (hx : Hid (At w A n xs)) (la : n ≤ 1048576) (hl : xs = l) (hw : Ws l) (hk : l.length = k) (hk2 : k ≤ 1048576) :
    Calls Tryd.prog 20 #[.slice A n c, .slice (some ⟨w.heap.size, 0, none⟩) k k] (w.alloc (litN l)) fun e w' => e = .returned (.bool true) ∧ Below w.heap.size w w' :=
  (same_u (At.step hx (below_alloc (litN l))) (lit1 w l k hw hk) la hk2 true (decide_eq_true hl)).mono fun _ _ h => ⟨h.1, bel1 (litN l) h.2⟩
theorem n_cmp1 (w : World) : Calls Tryd.prog 21 #[.slice (some ⟨w.heap.size, 0, none⟩) 2 2, .slice (some ⟨w.heap.size + 1, 0, none⟩) 1 1] ((w.alloc (litN [1, 0])).alloc (litN [1])) fun e w' => e = .returned (.int .i64 0) ∧ Below w.heap.size w w' :=
  (cmpv_u (At.step (lit1 w [1, 0] 2 (Ws.of _ (by decide)) rfl) (below_alloc (litN [1]))) (lit2 w (litN [1, 0]) [1] 1 (Ws.of _ (by decide)) rfl) (by omega) (by omega) 0 (by decide)).mono fun _ _ h => ⟨h.1, bel2 (litN [1, 0]) (litN [1]) h.2⟩
theorem n_cmp2 (w : World) : Calls Tryd.prog 21 #[.slice (some ⟨w.heap.size, 0, none⟩) 2 2, .slice (some ⟨w.heap.size + 1, 0, none⟩) 1 1] ((w.alloc (litN [0, 1])).alloc (litN [9])) fun e w' => e = .returned (.int .i64 1) ∧ Below w.heap.size w w' :=
  (cmpv_u (At.step (lit1 w [0, 1] 2 (Ws.of _ (by decide)) rfl) (below_alloc (litN [9]))) (lit2 w (litN [0, 1]) [9] 1 (Ws.of _ (by decide)) rfl) (by omega) (by omega) 1 (by decide)).mono fun _ _ h => ⟨h.1, bel2 (litN [0, 1]) (litN [9]) h.2⟩
theorem n_trim (w : World) : Calls Tryd.prog 22 #[.slice (some ⟨w.heap.size, 0, none⟩) 2 2] (w.alloc (litN [0, 0])) fun e w' => ∃ A c, e = .returned (.slice A 0 c) ∧ Below w.heap.size w w' := by
  refine (trim_u 2 (lit1 w [0, 0] 2 (Ws.of _ (by decide)) rfl) (by omega) (by omega) (by omega) (by omega)).mono ?_
  rintro e w' ⟨v, rfl, A, n, c, zs, rfl, h1, h2, h3, h4, h5⟩
  obtain rfl : n = 0 := len_zero h2 h1 (by decide)
  exact ⟨A, c, rfl, bel1 (litN [0, 0]) h5⟩
theorem n_bits (w : World) : Calls Tryd.prog 23 #[.slice (some ⟨w.heap.size, 0, none⟩) 3 3] (w.alloc (litN [0, 1, 0])) fun e w' => e = .returned (.int .i64 65) ∧ Below w.heap.size w w' := by
  have h := bits_u (lit1 w [0, 1, 0] 3 (Ws.of _ (by decide)) rfl) (ca := 3) (by omega) (by omega) (by omega)
  rw [show nbits (trim [0, 1, 0]) = 65 by decide +kernel] at h
  exact h.mono fun _ _ h => ⟨h.1, bel1 (litN [0, 1, 0]) h.2⟩
theorem n_bit1 (w : World) : Calls Tryd.prog 24 #[.slice (some ⟨w.heap.size, 0, none⟩) 2 2, .int .i64 65] (w.alloc (litN [0, 2])) fun e w' => e = .returned (.bool true) ∧ Below w.heap.size w w' := by
  have h := bit_u 65 (by decide) (lit1 w [0, 2] 2 (Ws.of _ (by decide)) rfl) (ca := 2)
  rw [show bitAt (V [0, 2]) 65 = true by decide +kernel] at h
  exact h.mono fun _ _ h => ⟨h.1, bel1 (litN [0, 2]) h.2⟩
theorem n_bit2 (w : World) : Calls Tryd.prog 24 #[.slice (some ⟨w.heap.size, 0, none⟩) 1 1, .int .i64 (-1)] (w.alloc (litN [1])) fun e w' => e = .returned (.bool false) ∧ Below w.heap.size w w' := by
  have h := bit_u (-1) (by decide) (lit1 w [1] 1 (Ws.of _ (by decide)) rfl) (ca := 1)
  rw [show bitAt (V [1]) (-1) = false by decide +kernel] at h
  exact h.mono fun _ _ h => ⟨h.1, bel1 (litN [1]) h.2⟩
theorem n_bit3 (w : World) : Calls Tryd.prog 24 #[.slice none 0 0, .int .i64 70] w fun e w' => e = .returned (.bool false) ∧ Below w.heap.size w w' := by
  have h := bit_u 70 (by decide) (nilAt w) (ca := 0)
  rw [show bitAt (V []) 70 = false by decide +kernel] at h
  exact h
theorem n_low (w : World) : Calls Tryd.prog 25 #[.slice (some ⟨w.heap.size, 0, none⟩) 3 3, .int .i64 2] (w.alloc (litN [7, 0, 3])) fun e w' => ∃ A n c, e = .returned (.slice A n c) ∧ Hid (At w' A n [7]) ∧ n ≤ 1048576 ∧ Below w.heap.size w w' := by
  refine (low_1 2 (by decide) (lit1 w [7, 0, 3] 3 (Ws.of _ (by decide)) rfl) (by omega) (by omega) (by omega)).mono ?_
  rintro e w' ⟨A, n, c, zs, rfl, h1, h2, h3, h4⟩
  have hz : zs = [7] := h1.out.uniq (by
    rw [show lo [7, 0, 3] (2 : Int).toNat = 7 by decide]
    exact Is.of_list (by intro x hx; simp at hx; subst hx; unfold Wd.W; omega) (by decide) (by decide))
  rw [hz] at h2
  exact ⟨A, n, c, rfl, h2, h3, bel1 (litN [7, 0, 3]) h4⟩
theorem n_text0 (w : World) : Calls Tryd.prog 17 #[.slice none 0 0] w fun e w' => e = .returned (.string ⟨#[48]⟩) ∧ Below w.heap.size w w' :=
  text_s (nilAt w) (by omega) (by omega) (by omega) _ (by rw [show hexes (V []) (digs []) = [48] by decide +kernel])
theorem n_add (w : World) : Calls Tryd.prog 18 #[.slice (some ⟨w.heap.size, 0, none⟩) 1 1, .slice (some ⟨w.heap.size + 1, 0, none⟩) 1 1] ((w.alloc (litN [18446744073709551615])).alloc (litN [1])) fun e w' => ∃ A n c, e = .returned (.slice A n c) ∧ Hid (At w' A n [0, 1]) ∧ n ≤ 1048576 ∧ Below w.heap.size w w' := by
  refine (add_1 (At.step (lit1 w [18446744073709551615] 1 (Ws.of _ (by decide)) rfl) (below_alloc (litN [1]))) (lit2 w (litN [18446744073709551615]) [1] 1 (Ws.of _ (by decide)) rfl) (by omega) (by omega)).mono ?_
  rintro e w' ⟨A, n, c, zs, rfl, h1, h2, h3, h4⟩
  have hz : zs = [0, 1] := h1.out.uniq (by
    rw [show V [18446744073709551615] + V [1] = 18446744073709551616 by decide]
    exact Is.of_list (by intro x hx; simp at hx; rcases hx with rfl | rfl <;> (unfold Wd.W; omega)) (by decide) (by decide))
  rw [hz] at h2
  exact ⟨A, n, c, rfl, h2, h3, bel2 (litN [18446744073709551615]) (litN [1]) h4⟩
theorem n_text {w : World} {A : Option Addr} {n c : Nat} {zs : List Int} (hz : Hid (Is zs 1512366075204170929049582354406559215)) (h : Hid (At w A n zs)) (hc : n ≤ c) (hc' : c ≤ 9223372036854775807) :
    Calls Tryd.prog 17 #[.slice A n c] w fun e w' => e = .returned (.string ⟨#[49, 50, 51, 52, 53, 54, 55, 56, 57, 97, 98, 99, 100, 101, 102, 48, 49, 50, 51, 52, 53, 54, 55, 56, 57, 97, 98, 99, 100, 101, 102]⟩) ∧ Below w.heap.size w w' := by
  have he : zs = [81985529216486895, 81985529216486895] := hz.out.uniq (Is.of_list (by intro x hx; simp at hx; subst hx; unfold Wd.W; omega) (by decide) (by decide))
  have hl := h.out.len
  rw [he] at h hl
  refine text_s h (by simp at hl; omega) hc hc' _ ?_
  rw [show hexes (V [81985529216486895, 81985529216486895]) (digs [81985529216486895, 81985529216486895]) = bg1 by decide +kernel]
  rfl
end Nt
end Go.Proofs.YtdklchejnpaenaaDoor
