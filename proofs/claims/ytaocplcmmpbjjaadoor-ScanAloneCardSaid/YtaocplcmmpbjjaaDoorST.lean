/- Words as they are handed on; two rows of them compared; as a text. -/
import Derived.Test.YtaocplcmmpbjjaaDoorSQ
import Derived.Test.YtaocplcmmpbjjaaDoorSS
import Derived.Test.YtaocplcmmpbjjaaDoorG1
import Derived.BigQuiet
namespace Go.Proofs.YtaocplcmmpbjjaaDoor
open Go Go.RowKit Go.Maps Go.Shelf
namespace Sn
open Nt
open Gr (Rdr Rws row Sh rws_rd rws_form)
set_option linter.unusedVariables false
set_option linter.unusedSimpArgs false
/-- a word as it is handed on -/
structure TV where
  k : Nat
  t : ByteArray
  p : Nat
instance : DecidableEq TV := fun a b => by
  obtain ⟨a1, a2, a3⟩ := a
  obtain ⟨b1, b2, b3⟩ := b
  by_cases h1 : a1 = b1
  case neg => exact isFalse (fun e => h1 (by cases e; rfl))
  by_cases h2 : a2 = b2
  case neg => exact isFalse (fun e => h2 (by cases e; rfl))
  by_cases h3 : a3 = b3
  case neg => exact isFalse (fun e => h3 (by cases e; rfl))
  exact isTrue (by rw [h1, h2, h3])
def TV.vs (x : TV) : List Value := [.int .i64 (x.k : Int), .string x.t, .int .i64 (x.p : Int)]
instance : Sh TV where
  vs := TV.vs
  k := 3
  len := fun _ => rfl
  one := fun x v hv => by
    unfold TV.vs at hv
    simp only [List.mem_cons, List.not_mem_nil, or_false] at hv
    rcases hv with rfl | rfl | rfl <;> rfl
  pos := by decide
def tvOf (s : ByteArray) (x : Tok) : TV := ⟨x.k, s.extract x.p x.b, x.p⟩
def tvs (s : ByteArray) (xs : List Tok) : List TV := xs.map (tvOf s)
theorem tvs_len (s : ByteArray) (xs : List Tok) : (tvs s xs).length = xs.length := List.length_map _
theorem tokRow_tvs (s : ByteArray) : ∀ xs : List Tok, tokRow s xs = row (tvs s xs)
  | [] => rfl
  | x :: xs => by
    show tokVs s x ++ tokRow s xs = Sh.vs (tvOf s x) ++ row (tvs s xs)
    rw [tokRow_tvs s xs]
    rfl
theorem tv_at {w : World} {B n : Nat} {A : Option Addr} {xs : List TV} (h : Rdr w B A n xs) {j : Nat} {x : TV} (hj : xs[j]? = some x) :
    ∃ b o, A = some ⟨b, o, none⟩ ∧ b < B ∧ w.cell? ⟨b, o + j * 3, none⟩ = some (.int .i64 (x.k : Int)) ∧ w.cell? ⟨b, o + j * 3 + 1, none⟩ = some (.string x.t) ∧ w.cell? ⟨b, o + j * 3 + 2, none⟩ = some (.int .i64 (x.p : Int)) := by
  obtain ⟨b, o, e, hb, hc⟩ := h.at_ hj
  exact ⟨b, o, e, hb, hc 0 _ rfl, hc 1 _ rfl, hc 2 _ rfl⟩
/-- a row that is answered, as it reads -/
def RowP (xs : List TV) (w : World) (v : Value) (w' : World) : Prop := ∃ A c, v = .slice A xs.length c ∧ xs.length ≤ c ∧ Rdr w' w'.heap.size A xs.length xs ∧ Below w.heap.size w w'
theorem rowP_of {s : ByteArray} {ts : List Tok} {w w' : World} {v : Value} (h : w'.ownsRow w.heap.size 33 3 v ts.length (tokRow s ts)) (hb : Below w.heap.size w w') : RowP (tvs s ts) w v w' := by
  have h1 : Rws 33 w.heap.size v (tvs s ts) w' := by
    show w'.ownsRow w.heap.size 33 3 v (tvs s ts).length (row (tvs s ts))
    rw [tvs_len, ← tokRow_tvs]
    exact h
  obtain ⟨A, c, rfl, hc⟩ := rws_form h1
  exact ⟨A, c, rfl, hc, (rws_rd h1).2.1, hb⟩
/-- what All answers, as it reads -/
def AllR (s : ByteArray) (w : World) (e : Ending) (w' : World) : Prop := ∃ v, e = .returned (.tuple #[v, .int .i64 ((allA s).2.1 : Int), .int .i64 ((allA s).2.2 : Int)]) ∧ RowP (tvs s (allA s).1) w v w'
theorem all_r (s : ByteArray) (hs : s.size ≤ 100000) (w : World) (hT : Lib.Utf8Tabs 0 1 w) : Calls Tryd.prog 9 #[.string s] w (AllR s w) :=
  (all_l s hs w hT).mono fun e w' ⟨v, he, h1, _, hb⟩ => ⟨v, he, rowP_of h1 hb⟩
def LawAllR (s : ByteArray) (w : World) (e : Ending) (w' : World) : Prop := ∃ v, e = .returned (.tuple #[v, .bool true]) ∧ RowP (tvs s (tl s s.size 0 0 4).1) w v w'
theorem lawAll_r (s : ByteArray) (hs : s.size ≤ 65536) (w : World) (hT : Lib.Utf8Tabs 0 1 w) : Calls Tryd.prog 17 #[.string s] w (LawAllR s w) :=
  ((callsIn_wide (n := 8)).1 (lawAll_in 8 (by omega) s hs w hT)).mono fun e w' ⟨v, he, h1, hb⟩ => ⟨v, he, rowP_of h1 hb⟩
theorem str_eq {a b : ByteArray} (h : a.toList = b.toList) : a = b := by
  rw [ByteArray.toList_eq, ByteArray.toList_eq] at h
  obtain ⟨a⟩ := a
  obtain ⟨b⟩ := b
  exact congrArg ByteArray.mk (Array.toList_inj.1 h)
theorem str_beq (a b : ByteArray) : (a.toList == b.toList) = decide (a = b) := by
  by_cases h : a = b
  · rw [decide_eq_true h, h]; exact beq_self_eq_true _
  · rw [decide_eq_false h]
    exact beq_eq_false_iff_ne.2 (fun e => h (str_eq e))
set_option maxRecDepth 100000 in
theorem tokEq (x y : TV) (W : World) : (Go.Op.equalIn 10000 33 (.agg #[.int .i64 (x.k : Int), .string x.t, .int .i64 (x.p : Int)]) (.agg #[.int .i64 (y.k : Int), .string y.t, .int .i64 (y.p : Int)])).run Tryd.prog W = .ok (decide (x = y)) W := by
  obtain ⟨a, b, c⟩ := x
  obtain ⟨d, e, f⟩ := y
  have hd : decide ((⟨a, b, c⟩ : TV) = ⟨d, e, f⟩) = (decide ((a : Int) = (d : Int)) && (decide (b = e) && decide ((c : Int) = (f : Int)))) := by
    rw [← Bool.decide_and, ← Bool.decide_and]
    refine decide_eq_decide.2 ⟨fun h => by cases h; exact ⟨rfl, rfl, rfl⟩, fun ⟨h1, h2, h3⟩ => ?_⟩
    rw [Int.ofNat_inj.1 h1, h2, Int.ofNat_inj.1 h3]
  rw [hd]
  have u3 := Tryd.underlying3
  have a3 := Tryd.isAgg3
  have z3 := Tryd.sizeOf3
  have u9 := Tryd.underlying9
  have a9 := Tryd.isAgg9
  have z9 := Tryd.sizeOf9
  have hS : Tryd.prog.underlying 33 = some (.struct (Tryd.prog.fieldsOf 33)) := by kernel_rfl
  have hp : Tryd.prog.stoodInHeld 33 = false := by kernel_rfl
  rw [show (10000 : Nat) = 9999 + 1 from rfl, run_equalIn_agg W 9999 33 _ _ hS hp]
  simp only [Program.fieldsOf, Tryd.underlying33]
  go_simp
  by_cases h1 : (a : Int) = (d : Int)
  case neg => simp [h1, Int.ofNat_inj]
  by_cases h2 : b = e
  case neg =>
    simp [h1, h2, str_beq]
    try (intro h; exact absurd (str_eq h) h2)
  by_cases h3 : (c : Int) = (f : Int) <;> simp [h1, h2, h3]
theorem take_more {T : Type} {xs ys : List T} {k : Nat} {x : T} (h : xs.take k = ys.take k) (hx : xs[k]? = some x) (hy : ys[k]? = some x) : xs.take (k + 1) = ys.take (k + 1) := by
  rw [List.take_add_one, List.take_add_one, h, hx, hy]
theorem take_all {T : Type} {xs ys : List T} {k : Nat} (h : xs.take k = ys.take k) (hx : xs.length = k) (hy : ys.length = k) : xs = ys := by
  rw [List.take_of_length_le (by omega), List.take_of_length_le (by omega)] at h
  exact h
theorem ne_at {T : Type} {xs ys : List T} {k : Nat} {x y : T} (hx : xs[k]? = some x) (hy : ys[k]? = some y) (h : x ≠ y) : xs ≠ ys := fun e => by
  subst e
  rw [hx] at hy
  exact h (Option.some.inj hy)
set_option maxRecDepth 100000 in
set_option maxHeartbeats 2000000 in
theorem same_t (A B : Option Addr) (n c m d Ba Bb : Nat) (xs ys : List TV) (w : World) (ha : Rdr w Ba A n xs) (hb : Rdr w Bb B m ys) (hn : n ≤ 1000000) (hm : m ≤ 1000000) :
    Calls Tryd.prog 16 #[.slice A n c, .slice B m d] w fun e w' => e = .returned (.bool (decide (xs = ys))) ∧ ∃ q, w' = w.drewN q := by
  by_cases hnm : n = m
  · subst hnm
    have HLA := Lib.hid ha.len
    have HLB := Lib.hid hb.len
    go_enter Tryd.func16, Tryd.ntmps16
    go_wp2_with fail
    go_loopw [5] (fun i wr => ∃ k q : Nat, k ≤ n ∧ i = .int .i64 k ∧ Hid (xs.take k = ys.take k) ∧ wr = w.drewN q) (fun i _ => n - (intOf i).toNat)
    case atStart => exact ⟨0, 0, Nat.zero_le _, rfl, Lib.hid rfl, rfl⟩
    case round =>
      obtain ⟨k, q, hk, rfl, hz, rfl⟩ := hrel
      by_cases hlt : k < n
      · obtain ⟨x, hx⟩ : ∃ x, xs[k]? = some x := ⟨_, List.getElem?_eq_getElem (by rw [HLA.out]; exact hlt)⟩
        obtain ⟨y, hy⟩ : ∃ y, ys[k]? = some y := ⟨_, List.getElem?_eq_getElem (by rw [HLB.out]; exact hlt)⟩
        obtain ⟨ab, ao, rfl, _, hca, hca2, hca3⟩ := tv_at ha hx
        obtain ⟨bb, bo, rfl, _, hcb, hcb2, hcb3⟩ := tv_at hb hy
        have hki : (k : Int) < (n : Int) := by omega
        by_cases hxy : x = y
        · have HZ : Hid (xs.take (k + 1) = ys.take (k + 1)) := Lib.hid (take_more hz.out hx (by rw [hxy]; exact hy))
          have hne2 : ∀ W, (Op.equalIn 10000 33 (.agg #[.int .i64 (x.k : Int), .string x.t, .int .i64 (x.p : Int)]) (.agg #[.int .i64 (y.k : Int), .string y.t, .int .i64 (y.p : Int)])).run Tryd.prog W = .ok true W := fun W => by rw [tokEq, decide_eq_true hxy]
          clear hxy
          clear hx hy hz ha hb
          go_wp2_with fail
          go_quiet (fail)
          go_wp2_with fail
          go_roundw
          case rel => exact ⟨k + 1, _, by omega, by go_num, HZ, rfl⟩
          case measure => (simp [intOf] <;> omega)
        · have HN := Lib.hid (ne_at hx hy hxy)
          have hne2 : ∀ W, (Op.equalIn 10000 33 (.agg #[.int .i64 (x.k : Int), .string x.t, .int .i64 (x.p : Int)]) (.agg #[.int .i64 (y.k : Int), .string y.t, .int .i64 (y.p : Int)])).run Tryd.prog W = .ok false W := fun W => by rw [tokEq, decide_eq_false hxy]
          clear hxy
          clear hx hy hz ha hb
          go_wp2_with fail
          go_quiet (fail)
          go_wp2_with fail
          go_ret
          exact ⟨by rw [decide_eq_false HN.out]; rfl, _, World.drewN_drewN _ _ _⟩
      · obtain rfl : k = n := by omega
        have HE := Lib.hid (take_all hz.out HLA.out HLB.out)
        clear hz ha hb
        go_wp2_with fail
        go_ret
        exact ⟨by rw [decide_eq_true HE.out]; rfl, _, rfl⟩
  · have HN : Hid (xs ≠ ys) := Lib.hid (fun e => hnm (by rw [← ha.len, ← hb.len, e]))
    have e1 : ((n : Int) == (m : Int)) = false := by simp; omega
    clear ha hb
    have e2 : ¬ ((n : Int) = (m : Int)) := by omega
    clear hnm
    go_enter Tryd.func16, Tryd.ntmps16
    go_wp2_with fail
    go_ret
    exact ⟨by rw [decide_eq_false HN.out]; rfl, 0, rfl⟩
end Sn
end Go.Proofs.YtaocplcmmpbjjaaDoor
