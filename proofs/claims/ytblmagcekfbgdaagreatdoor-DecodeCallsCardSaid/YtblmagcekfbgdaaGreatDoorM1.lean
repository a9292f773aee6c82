/- Instructions' bytes are bytes, one to eleven; the document's own bytes, whole. | The document's own Inst, Size. -/
import Derived.Test.YtblmagcekfbgdaaGreatDoorL1
import Derived.Test.YtblmagcekfbgdaaGreatDoorL2
import Derived.Test.YtblmagcekfbgdaaGreatDoorL3
import Derived.Test.YtblmagcekfbgdaaGreatDoorL4
import Derived.Test.YtblmagcekfbgdaaGreatDoorD1
namespace Go.Proofs.YtblmagcekfbgdaaGreatDoor
open Go Go.RowKit
namespace Is
open Nt
set_option linter.unusedVariables false
set_option linter.unusedSimpArgs false
def B8s (xs : List Int) : Prop := ∀ x ∈ xs, 0 ≤ x ∧ x ≤ 255
theorem B8s.nil : B8s [] := fun x h => by cases h
theorem B8s.cons {x : Int} {xs : List Int} (h : 0 ≤ x ∧ x ≤ 255) (hs : B8s xs) : B8s (x :: xs) := fun y hy => by
  rcases List.mem_cons.1 hy with rfl | hy
  · exact h
  · exact hs y hy
theorem B8s.app {xs ys : List Int} (h : B8s xs) (hs : B8s ys) : B8s (xs ++ ys) := fun y hy => by
  rcases List.mem_append.1 hy with hy | hy
  · exact h y hy
  · exact hs y hy
theorem ltl_b8 (n : Int) (k : Nat) : B8s (ltl n k) := by
  induction k generalizing n with
  | zero => exact B8s.nil
  | succ k ih => exact B8s.cons (by omega) (ih _)
theorem plc_b8 (m : Int) (i : Ins) (p : Pl i) : B8s (plcL m i) := by
  obtain ⟨x1, x2, x4, xs, _⟩ := p.hx
  have h1 := md_b i
  have h2 := sc_b i.sc
  have h3 := xi_b x1
  unfold plcL
  refine B8s.cons ?_ (B8s.app ?_ (ltl_b8 _ _))
  · split <;> omega
  · unfold sibL
    split
    · exact B8s.nil
    · exact B8s.cons (by omega) B8s.nil
theorem rex_b8 {m x l : Int} (hm : Rx m) (hx : Rx x) (hl : Rx l) : 0 ≤ rexI m x l ∧ rexI m x l ≤ 255 := by
  have h := rex_b hm.1 hm.2 hx.1 hx.2 hl.1 hl.2; omega
theorem rm_b8 (m l : Int) : 0 ≤ rmI m l ∧ rmI m l ≤ 255 := by unfold rmI; omega
theorem code_b8 (op : Int) : 0 ≤ codeI op ∧ codeI op ≤ 255 := by unfold codeI; repeat (first | (split; omega) | omega)
/-- bytes as a text -/
def toU8 (xs : List Int) : List UInt8 := xs.map fun x => UInt8.ofNat x.toNat
def strU (xs : List Int) : ByteArray := ⟨(toU8 xs).toArray⟩
def encS (i : Ins) : ByteArray := if okI i then strU (encL i) else ⟨#[]⟩
theorem conv8 {w : World} {B : Nat} {v : Value} {xs : List Int} (h : w.ownsRow B 5 1 v xs.length (bv xs)) (hb : B8s xs) (hn : 0 < xs.length) : (convert 63 9 v).run Tryz.prog w = .ok (.string (strU xs)) w := by
  rcases h.2 with ⟨_, h0⟩ | ⟨g, cap, cur, rfl, _⟩
  · omega
  · have hl : (toU8 xs).length = xs.length := List.length_map ..
    have h1 := run_convert_bytes_back (P := Tryz.prog) w 63 9 5 ⟨g, 0, none⟩ cap (toU8 xs) Tryz.underlying63 Tryz.underlying5 Tryz.underlying9 (fun j hj => by
      have hj' : j < xs.length := by rw [← hl]; exact hj
      have h2 := World.ownsRow.cells h (g := g) rfl j _ (b8_get hj')
      rw [h2]
      have h3 := hb _ (List.getElem_mem hj')
      have e : (toU8 xs)[j] = UInt8.ofNat (xs[j]'hj').toNat := by simp [toU8]
      rw [e, UInt8.toNat_ofNat']
      congr 2
      omega)
    rw [hl] at h1
    exact h1
theorem enc_b1 (i : Ins) (hk : OkP i .ds) (ho : i.op = 1) : B8s (encL i) ∧ 1 ≤ (encL i).length ∧ (encL i).length ≤ 11 := by
  obtain ⟨op, d, s, t, b, x, sc, di, im⟩ := i
  dsimp only at ho
  subst ho
  obtain ⟨⟨d1, d2⟩, ⟨s1, s2⟩, t0, ⟨b0, x0, c0, i0⟩, m0⟩ := hk
  dsimp only at *
  exact ⟨(B8s.cons (rex_b8 (R16.rx ⟨s1, s2⟩) rx_0 (R16.rx ⟨d1, d2⟩)) (B8s.cons (code_b8 _) (B8s.cons (rm_b8 _ _) (B8s.nil)))), by first | decide | exact Nat.le_of_ble_eq_true rfl, by first | decide | exact Nat.le_of_ble_eq_true rfl⟩

theorem enc_b2 (i : Ins) (hk : OkP i .di) (ho : i.op = 2) : B8s (encL i) ∧ 1 ≤ (encL i).length ∧ (encL i).length ≤ 11 := by
  obtain ⟨op, d, s, t, b, x, sc, di, im⟩ := i
  dsimp only at ho
  subst ho
  obtain ⟨⟨d1, d2⟩, s0, t0, ⟨b0, x0, c0, i0⟩⟩ := hk
  dsimp only at *
  exact ⟨(B8s.cons (rex_b8 rx_0 rx_0 (R16.rx ⟨d1, d2⟩)) (B8s.cons (by (try dsimp only); omega) (ltl_b8 _ _))), by first | decide | exact Nat.le_of_ble_eq_true rfl, by first | decide | exact Nat.le_of_ble_eq_true rfl⟩

theorem enc_b3 (i : Ins) (hk : OkP i .dm) (ho : i.op = 3) : B8s (encL i) ∧ 1 ≤ (encL i).length ∧ (encL i).length ≤ 11 := by
  obtain ⟨op, d, s, t, b, x, sc, di, im⟩ := i
  dsimp only at ho
  subst ho
  obtain ⟨⟨d1, d2⟩, s0, t0, pl, m0⟩ := hk
  dsimp only at *
  have hl := plc_len d ⟨3, d, s, t, b, x, sc, di, im⟩
  have e : encL ⟨3, d, s, t, b, x, sc, di, im⟩ = rexI d x b :: 139 :: plcL d ⟨3, d, s, t, b, x, sc, di, im⟩ := rfl
  rw [e]
  exact ⟨(B8s.cons (rex_b8 (R16.rx ⟨d1, d2⟩) (Pl.rxx pl) (R16.rx pl.1)) (B8s.cons (by (try dsimp only); omega) (plc_b8 _ _ pl))), by simp, by simp; omega⟩

theorem enc_b4 (i : Ins) (hk : OkP i .sm) (ho : i.op = 4) : B8s (encL i) ∧ 1 ≤ (encL i).length ∧ (encL i).length ≤ 11 := by
  obtain ⟨op, d, s, t, b, x, sc, di, im⟩ := i
  dsimp only at ho
  subst ho
  obtain ⟨d0, ⟨s1, s2⟩, t0, pl, m0⟩ := hk
  dsimp only at *
  have hl := plc_len s ⟨4, d, s, t, b, x, sc, di, im⟩
  have e : encL ⟨4, d, s, t, b, x, sc, di, im⟩ = rexI s x b :: 137 :: plcL s ⟨4, d, s, t, b, x, sc, di, im⟩ := rfl
  rw [e]
  exact ⟨(B8s.cons (rex_b8 (R16.rx ⟨s1, s2⟩) (Pl.rxx pl) (R16.rx pl.1)) (B8s.cons (by (try dsimp only); omega) (plc_b8 _ _ pl))), by simp, by simp; omega⟩

theorem enc_b5 (i : Ins) (hk : OkP i .dm) (ho : i.op = 5) : B8s (encL i) ∧ 1 ≤ (encL i).length ∧ (encL i).length ≤ 11 := by
  obtain ⟨op, d, s, t, b, x, sc, di, im⟩ := i
  dsimp only at ho
  subst ho
  obtain ⟨⟨d1, d2⟩, s0, t0, pl, m0⟩ := hk
  dsimp only at *
  have hl := plc_len d ⟨5, d, s, t, b, x, sc, di, im⟩
  have e : encL ⟨5, d, s, t, b, x, sc, di, im⟩ = rexI d x b :: 141 :: plcL d ⟨5, d, s, t, b, x, sc, di, im⟩ := rfl
  rw [e]
  exact ⟨(B8s.cons (rex_b8 (R16.rx ⟨d1, d2⟩) (Pl.rxx pl) (R16.rx pl.1)) (B8s.cons (by (try dsimp only); omega) (plc_b8 _ _ pl))), by simp, by simp; omega⟩

theorem enc_b6 (i : Ins) (hk : OkP i .ds) (ho : i.op = 6) : B8s (encL i) ∧ 1 ≤ (encL i).length ∧ (encL i).length ≤ 11 := by
  obtain ⟨op, d, s, t, b, x, sc, di, im⟩ := i
  dsimp only at ho
  subst ho
  obtain ⟨⟨d1, d2⟩, ⟨s1, s2⟩, t0, ⟨b0, x0, c0, i0⟩, m0⟩ := hk
  dsimp only at *
  exact ⟨(B8s.cons (rex_b8 (R16.rx ⟨s1, s2⟩) rx_0 (R16.rx ⟨d1, d2⟩)) (B8s.cons (code_b8 _) (B8s.cons (rm_b8 _ _) (B8s.nil)))), by first | decide | exact Nat.le_of_ble_eq_true rfl, by first | decide | exact Nat.le_of_ble_eq_true rfl⟩

theorem enc_b7 (i : Ins) (hk : OkP i .ds) (ho : i.op = 7) : B8s (encL i) ∧ 1 ≤ (encL i).length ∧ (encL i).length ≤ 11 := by
  obtain ⟨op, d, s, t, b, x, sc, di, im⟩ := i
  dsimp only at ho
  subst ho
  obtain ⟨⟨d1, d2⟩, ⟨s1, s2⟩, t0, ⟨b0, x0, c0, i0⟩, m0⟩ := hk
  dsimp only at *
  exact ⟨(B8s.cons (rex_b8 (R16.rx ⟨s1, s2⟩) rx_0 (R16.rx ⟨d1, d2⟩)) (B8s.cons (code_b8 _) (B8s.cons (rm_b8 _ _) (B8s.nil)))), by first | decide | exact Nat.le_of_ble_eq_true rfl, by first | decide | exact Nat.le_of_ble_eq_true rfl⟩

theorem enc_b8 (i : Ins) (hk : OkP i .ds) (ho : i.op = 8) : B8s (encL i) ∧ 1 ≤ (encL i).length ∧ (encL i).length ≤ 11 := by
  obtain ⟨op, d, s, t, b, x, sc, di, im⟩ := i
  dsimp only at ho
  subst ho
  obtain ⟨⟨d1, d2⟩, ⟨s1, s2⟩, t0, ⟨b0, x0, c0, i0⟩, m0⟩ := hk
  dsimp only at *
  exact ⟨(B8s.cons (rex_b8 (R16.rx ⟨s1, s2⟩) rx_0 (R16.rx ⟨d1, d2⟩)) (B8s.cons (code_b8 _) (B8s.cons (rm_b8 _ _) (B8s.nil)))), by first | decide | exact Nat.le_of_ble_eq_true rfl, by first | decide | exact Nat.le_of_ble_eq_true rfl⟩

theorem enc_b9 (i : Ins) (hk : OkP i .ds) (ho : i.op = 9) : B8s (encL i) ∧ 1 ≤ (encL i).length ∧ (encL i).length ≤ 11 := by
  obtain ⟨op, d, s, t, b, x, sc, di, im⟩ := i
  dsimp only at ho
  subst ho
  obtain ⟨⟨d1, d2⟩, ⟨s1, s2⟩, t0, ⟨b0, x0, c0, i0⟩, m0⟩ := hk
  dsimp only at *
  exact ⟨(B8s.cons (rex_b8 (R16.rx ⟨s1, s2⟩) rx_0 (R16.rx ⟨d1, d2⟩)) (B8s.cons (code_b8 _) (B8s.cons (rm_b8 _ _) (B8s.nil)))), by first | decide | exact Nat.le_of_ble_eq_true rfl, by first | decide | exact Nat.le_of_ble_eq_true rfl⟩

theorem enc_b10 (i : Ins) (hk : OkP i .ds) (ho : i.op = 10) : B8s (encL i) ∧ 1 ≤ (encL i).length ∧ (encL i).length ≤ 11 := by
  obtain ⟨op, d, s, t, b, x, sc, di, im⟩ := i
  dsimp only at ho
  subst ho
  obtain ⟨⟨d1, d2⟩, ⟨s1, s2⟩, t0, ⟨b0, x0, c0, i0⟩, m0⟩ := hk
  dsimp only at *
  exact ⟨(B8s.cons (rex_b8 (R16.rx ⟨s1, s2⟩) rx_0 (R16.rx ⟨d1, d2⟩)) (B8s.cons (code_b8 _) (B8s.cons (rm_b8 _ _) (B8s.nil)))), by first | decide | exact Nat.le_of_ble_eq_true rfl, by first | decide | exact Nat.le_of_ble_eq_true rfl⟩

theorem enc_b11 (i : Ins) (hk : OkP i .ds) (ho : i.op = 11) : B8s (encL i) ∧ 1 ≤ (encL i).length ∧ (encL i).length ≤ 11 := by
  obtain ⟨op, d, s, t, b, x, sc, di, im⟩ := i
  dsimp only at ho
  subst ho
  obtain ⟨⟨d1, d2⟩, ⟨s1, s2⟩, t0, ⟨b0, x0, c0, i0⟩, m0⟩ := hk
  dsimp only at *
  exact ⟨(B8s.cons (rex_b8 (R16.rx ⟨s1, s2⟩) rx_0 (R16.rx ⟨d1, d2⟩)) (B8s.cons (code_b8 _) (B8s.cons (rm_b8 _ _) (B8s.nil)))), by first | decide | exact Nat.le_of_ble_eq_true rfl, by first | decide | exact Nat.le_of_ble_eq_true rfl⟩

theorem enc_b12 (i : Ins) (hk : OkP i .ds) (ho : i.op = 12) : B8s (encL i) ∧ 1 ≤ (encL i).length ∧ (encL i).length ≤ 11 := by
  obtain ⟨op, d, s, t, b, x, sc, di, im⟩ := i
  dsimp only at ho
  subst ho
  obtain ⟨⟨d1, d2⟩, ⟨s1, s2⟩, t0, ⟨b0, x0, c0, i0⟩, m0⟩ := hk
  dsimp only at *
  exact ⟨(B8s.cons (rex_b8 (R16.rx ⟨s1, s2⟩) rx_0 (R16.rx ⟨d1, d2⟩)) (B8s.cons (code_b8 _) (B8s.cons (rm_b8 _ _) (B8s.nil)))), by first | decide | exact Nat.le_of_ble_eq_true rfl, by first | decide | exact Nat.le_of_ble_eq_true rfl⟩

theorem enc_b13 (i : Ins) (hk : OkP i .ds) (ho : i.op = 13) : B8s (encL i) ∧ 1 ≤ (encL i).length ∧ (encL i).length ≤ 11 := by
  obtain ⟨op, d, s, t, b, x, sc, di, im⟩ := i
  dsimp only at ho
  subst ho
  obtain ⟨⟨d1, d2⟩, ⟨s1, s2⟩, t0, ⟨b0, x0, c0, i0⟩, m0⟩ := hk
  dsimp only at *
  exact ⟨(B8s.cons (rex_b8 (R16.rx ⟨s1, s2⟩) rx_0 (R16.rx ⟨d1, d2⟩)) (B8s.cons (code_b8 _) (B8s.cons (rm_b8 _ _) (B8s.nil)))), by first | decide | exact Nat.le_of_ble_eq_true rfl, by first | decide | exact Nat.le_of_ble_eq_true rfl⟩

theorem enc_b14 (i : Ins) (hk : OkP i .ds) (ho : i.op = 14) : B8s (encL i) ∧ 1 ≤ (encL i).length ∧ (encL i).length ≤ 11 := by
  obtain ⟨op, d, s, t, b, x, sc, di, im⟩ := i
  dsimp only at ho
  subst ho
  obtain ⟨⟨d1, d2⟩, ⟨s1, s2⟩, t0, ⟨b0, x0, c0, i0⟩, m0⟩ := hk
  dsimp only at *
  exact ⟨(B8s.cons (rex_b8 (R16.rx ⟨s1, s2⟩) rx_0 (R16.rx ⟨d1, d2⟩)) (B8s.cons (code_b8 _) (B8s.cons (rm_b8 _ _) (B8s.nil)))), by first | decide | exact Nat.le_of_ble_eq_true rfl, by first | decide | exact Nat.le_of_ble_eq_true rfl⟩

theorem enc_b15 (i : Ins) (hk : OkP i .dj) (ho : i.op = 15) : B8s (encL i) ∧ 1 ≤ (encL i).length ∧ (encL i).length ≤ 11 := by
  obtain ⟨op, d, s, t, b, x, sc, di, im⟩ := i
  dsimp only at ho
  subst ho
  obtain ⟨⟨d1, d2⟩, s0, t0, ⟨b0, x0, c0, i0⟩, m1, m2⟩ := hk
  dsimp only at *
  exact ⟨(B8s.cons (rex_b8 rx_0 rx_0 (R16.rx ⟨d1, d2⟩)) (B8s.cons (by (try dsimp only); omega) (B8s.cons (rm_b8 _ _) (ltl_b8 _ _)))), by first | decide | exact Nat.le_of_ble_eq_true rfl, by first | decide | exact Nat.le_of_ble_eq_true rfl⟩

theorem enc_b16 (i : Ins) (hk : OkP i .dj) (ho : i.op = 16) : B8s (encL i) ∧ 1 ≤ (encL i).length ∧ (encL i).length ≤ 11 := by
  obtain ⟨op, d, s, t, b, x, sc, di, im⟩ := i
  dsimp only at ho
  subst ho
  obtain ⟨⟨d1, d2⟩, s0, t0, ⟨b0, x0, c0, i0⟩, m1, m2⟩ := hk
  dsimp only at *
  exact ⟨(B8s.cons (rex_b8 rx_0 rx_0 (R16.rx ⟨d1, d2⟩)) (B8s.cons (by (try dsimp only); omega) (B8s.cons (rm_b8 _ _) (ltl_b8 _ _)))), by first | decide | exact Nat.le_of_ble_eq_true rfl, by first | decide | exact Nat.le_of_ble_eq_true rfl⟩

theorem enc_b17 (i : Ins) (hk : OkP i .dj) (ho : i.op = 17) : B8s (encL i) ∧ 1 ≤ (encL i).length ∧ (encL i).length ≤ 11 := by
  obtain ⟨op, d, s, t, b, x, sc, di, im⟩ := i
  dsimp only at ho
  subst ho
  obtain ⟨⟨d1, d2⟩, s0, t0, ⟨b0, x0, c0, i0⟩, m1, m2⟩ := hk
  dsimp only at *
  exact ⟨(B8s.cons (rex_b8 rx_0 rx_0 (R16.rx ⟨d1, d2⟩)) (B8s.cons (by (try dsimp only); omega) (B8s.cons (rm_b8 _ _) (ltl_b8 _ _)))), by first | decide | exact Nat.le_of_ble_eq_true rfl, by first | decide | exact Nat.le_of_ble_eq_true rfl⟩

theorem enc_b18 (i : Ins) (hk : OkP i .dj) (ho : i.op = 18) : B8s (encL i) ∧ 1 ≤ (encL i).length ∧ (encL i).length ≤ 11 := by
  obtain ⟨op, d, s, t, b, x, sc, di, im⟩ := i
  dsimp only at ho
  subst ho
  obtain ⟨⟨d1, d2⟩, s0, t0, ⟨b0, x0, c0, i0⟩, m1, m2⟩ := hk
  dsimp only at *
  exact ⟨(B8s.cons (rex_b8 rx_0 rx_0 (R16.rx ⟨d1, d2⟩)) (B8s.cons (by (try dsimp only); omega) (B8s.cons (rm_b8 _ _) (ltl_b8 _ _)))), by first | decide | exact Nat.le_of_ble_eq_true rfl, by first | decide | exact Nat.le_of_ble_eq_true rfl⟩

theorem enc_b19 (i : Ins) (hk : OkP i .dst) (ho : i.op = 19) : B8s (encL i) ∧ 1 ≤ (encL i).length ∧ (encL i).length ≤ 11 := by
  obtain ⟨op, d, s, t, b, x, sc, di, im⟩ := i
  dsimp only at ho
  subst ho
  obtain ⟨⟨d1, d2⟩, ⟨s1, s2⟩, ⟨t1, t2⟩, ⟨b0, x0, c0, i0⟩, m0⟩ := hk
  dsimp only at *
  exact ⟨(B8s.cons (by (try dsimp only); omega) (B8s.cons (by have h1 := hi_b (r := d) (by omega) d2; have h2 := hi_b (r := t) (by omega) t2; (try dsimp only); omega) (B8s.cons (by (try dsimp only); omega) (B8s.cons (by (try dsimp only); omega) (B8s.cons (rm_b8 _ _) (B8s.nil)))))), by first | decide | exact Nat.le_of_ble_eq_true rfl, by first | decide | exact Nat.le_of_ble_eq_true rfl⟩

theorem enc_b20 (i : Ins) (hk : OkP i .ds) (ho : i.op = 20) : B8s (encL i) ∧ 1 ≤ (encL i).length ∧ (encL i).length ≤ 11 := by
  obtain ⟨op, d, s, t, b, x, sc, di, im⟩ := i
  dsimp only at ho
  subst ho
  obtain ⟨⟨d1, d2⟩, ⟨s1, s2⟩, t0, ⟨b0, x0, c0, i0⟩, m0⟩ := hk
  dsimp only at *
  exact ⟨(B8s.cons (by (try dsimp only); omega) (B8s.cons (rex_b8 (R16.rx ⟨d1, d2⟩) rx_0 (R16.rx ⟨s1, s2⟩)) (B8s.cons (by (try dsimp only); omega) (B8s.cons (by (try dsimp only); omega) (B8s.cons (by (try dsimp only); omega) (B8s.cons (rm_b8 _ _) (B8s.nil))))))), by first | decide | exact Nat.le_of_ble_eq_true rfl, by first | decide | exact Nat.le_of_ble_eq_true rfl⟩

theorem enc_b21 (i : Ins) (hk : OkP i .ds) (ho : i.op = 21) : B8s (encL i) ∧ 1 ≤ (encL i).length ∧ (encL i).length ≤ 11 := by
  obtain ⟨op, d, s, t, b, x, sc, di, im⟩ := i
  dsimp only at ho
  subst ho
  obtain ⟨⟨d1, d2⟩, ⟨s1, s2⟩, t0, ⟨b0, x0, c0, i0⟩, m0⟩ := hk
  dsimp only at *
  exact ⟨(B8s.cons (by (try dsimp only); omega) (B8s.cons (rex_b8 (R16.rx ⟨d1, d2⟩) rx_0 (R16.rx ⟨s1, s2⟩)) (B8s.cons (by (try dsimp only); omega) (B8s.cons (by (try dsimp only); omega) (B8s.cons (by (try dsimp only); omega) (B8s.cons (rm_b8 _ _) (B8s.nil))))))), by first | decide | exact Nat.le_of_ble_eq_true rfl, by first | decide | exact Nat.le_of_ble_eq_true rfl⟩

theorem enc_b22 (i : Ins) (hk : OkP i .d) (ho : i.op = 22) : B8s (encL i) ∧ 1 ≤ (encL i).length ∧ (encL i).length ≤ 11 := by
  obtain ⟨op, d, s, t, b, x, sc, di, im⟩ := i
  dsimp only at ho
  subst ho
  obtain ⟨⟨d1, d2⟩, s0, t0, ⟨b0, x0, c0, i0⟩, m0⟩ := hk
  dsimp only at *
  exact ⟨(B8s.cons (rex_b8 rx_0 rx_0 (R16.rx ⟨d1, d2⟩)) (B8s.cons (by (try dsimp only); omega) (B8s.cons (rm_b8 _ _) (B8s.nil)))), by first | decide | exact Nat.le_of_ble_eq_true rfl, by first | decide | exact Nat.le_of_ble_eq_true rfl⟩

theorem enc_b23 (i : Ins) (hk : OkP i .d) (ho : i.op = 23) : B8s (encL i) ∧ 1 ≤ (encL i).length ∧ (encL i).length ≤ 11 := by
  obtain ⟨op, d, s, t, b, x, sc, di, im⟩ := i
  dsimp only at ho
  subst ho
  obtain ⟨⟨d1, d2⟩, s0, t0, ⟨b0, x0, c0, i0⟩, m0⟩ := hk
  dsimp only at *
  exact ⟨(B8s.cons (rex_b8 rx_0 rx_0 (R16.rx ⟨d1, d2⟩)) (B8s.cons (by (try dsimp only); omega) (B8s.cons (rm_b8 _ _) (B8s.nil)))), by first | decide | exact Nat.le_of_ble_eq_true rfl, by first | decide | exact Nat.le_of_ble_eq_true rfl⟩

theorem enc_b24 (i : Ins) (hk : OkP i .db) (ho : i.op = 24) : B8s (encL i) ∧ 1 ≤ (encL i).length ∧ (encL i).length ≤ 11 := by
  obtain ⟨op, d, s, t, b, x, sc, di, im⟩ := i
  dsimp only at ho
  subst ho
  obtain ⟨⟨d1, d2⟩, s0, t0, ⟨b0, x0, c0, i0⟩, m1, m2⟩ := hk
  dsimp only at *
  exact ⟨(B8s.cons (rex_b8 rx_0 rx_0 (R16.rx ⟨d1, d2⟩)) (B8s.cons (by (try dsimp only); omega) (B8s.cons (rm_b8 _ _) (B8s.cons (by (try dsimp only); omega) (B8s.nil))))), by first | decide | exact Nat.le_of_ble_eq_true rfl, by first | decide | exact Nat.le_of_ble_eq_true rfl⟩

theorem enc_b25 (i : Ins) (hk : OkP i .db) (ho : i.op = 25) : B8s (encL i) ∧ 1 ≤ (encL i).length ∧ (encL i).length ≤ 11 := by
  obtain ⟨op, d, s, t, b, x, sc, di, im⟩ := i
  dsimp only at ho
  subst ho
  obtain ⟨⟨d1, d2⟩, s0, t0, ⟨b0, x0, c0, i0⟩, m1, m2⟩ := hk
  dsimp only at *
  exact ⟨(B8s.cons (rex_b8 rx_0 rx_0 (R16.rx ⟨d1, d2⟩)) (B8s.cons (by (try dsimp only); omega) (B8s.cons (rm_b8 _ _) (B8s.cons (by (try dsimp only); omega) (B8s.nil))))), by first | decide | exact Nat.le_of_ble_eq_true rfl, by first | decide | exact Nat.le_of_ble_eq_true rfl⟩

theorem enc_b26 (i : Ins) (hk : OkP i .ds) (ho : i.op = 26) : B8s (encL i) ∧ 1 ≤ (encL i).length ∧ (encL i).length ≤ 11 := by
  obtain ⟨op, d, s, t, b, x, sc, di, im⟩ := i
  dsimp only at ho
  subst ho
  obtain ⟨⟨d1, d2⟩, ⟨s1, s2⟩, t0, ⟨b0, x0, c0, i0⟩, m0⟩ := hk
  dsimp only at *
  exact ⟨(B8s.cons (rex_b8 (R16.rx ⟨d1, d2⟩) rx_0 (R16.rx ⟨s1, s2⟩)) (B8s.cons (by (try dsimp only); omega) (B8s.cons (by (try dsimp only); omega) (B8s.cons (rm_b8 _ _) (B8s.nil))))), by first | decide | exact Nat.le_of_ble_eq_true rfl, by first | decide | exact Nat.le_of_ble_eq_true rfl⟩

theorem enc_b27 (i : Ins) (hk : OkP i .ds) (ho : i.op = 27) : B8s (encL i) ∧ 1 ≤ (encL i).length ∧ (encL i).length ≤ 11 := by
  obtain ⟨op, d, s, t, b, x, sc, di, im⟩ := i
  dsimp only at ho
  subst ho
  obtain ⟨⟨d1, d2⟩, ⟨s1, s2⟩, t0, ⟨b0, x0, c0, i0⟩, m0⟩ := hk
  dsimp only at *
  exact ⟨(B8s.cons (rex_b8 (R16.rx ⟨d1, d2⟩) rx_0 (R16.rx ⟨s1, s2⟩)) (B8s.cons (by (try dsimp only); omega) (B8s.cons (by (try dsimp only); omega) (B8s.cons (rm_b8 _ _) (B8s.nil))))), by first | decide | exact Nat.le_of_ble_eq_true rfl, by first | decide | exact Nat.le_of_ble_eq_true rfl⟩

theorem enc_b28 (i : Ins) (hk : OkP i .s) (ho : i.op = 28) : B8s (encL i) ∧ 1 ≤ (encL i).length ∧ (encL i).length ≤ 11 := by
  obtain ⟨op, d, s, t, b, x, sc, di, im⟩ := i
  dsimp only at ho
  subst ho
  obtain ⟨d0, ⟨s1, s2⟩, t0, ⟨b0, x0, c0, i0⟩, m0⟩ := hk
  dsimp only at *
  have e : encL ⟨28, d, s, t, b, x, sc, di, im⟩ = if s > 7 then [65, 80 + s % 8] else [80 + s] := rfl
  rw [e]
  split
  · exact ⟨B8s.cons (by omega) (B8s.cons (by omega) B8s.nil), by simp, by simp⟩
  · exact ⟨B8s.cons (by omega) B8s.nil, by simp, by simp⟩

theorem enc_b29 (i : Ins) (hk : OkP i .d) (ho : i.op = 29) : B8s (encL i) ∧ 1 ≤ (encL i).length ∧ (encL i).length ≤ 11 := by
  obtain ⟨op, d, s, t, b, x, sc, di, im⟩ := i
  dsimp only at ho
  subst ho
  obtain ⟨⟨d1, d2⟩, s0, t0, ⟨b0, x0, c0, i0⟩, m0⟩ := hk
  dsimp only at *
  have e : encL ⟨29, d, s, t, b, x, sc, di, im⟩ = if d > 7 then [65, 88 + d % 8] else [88 + d] := rfl
  rw [e]
  split
  · exact ⟨B8s.cons (by omega) (B8s.cons (by omega) B8s.nil), by simp, by simp⟩
  · exact ⟨B8s.cons (by omega) B8s.nil, by simp, by simp⟩

theorem enc_b30 (i : Ins) (hk : OkP i .j) (ho : i.op = 30) : B8s (encL i) ∧ 1 ≤ (encL i).length ∧ (encL i).length ≤ 11 := by
  obtain ⟨op, d, s, t, b, x, sc, di, im⟩ := i
  dsimp only at ho
  subst ho
  obtain ⟨d0, s0, t0, ⟨b0, x0, c0, i0⟩, m1, m2⟩ := hk
  dsimp only at *
  exact ⟨(B8s.cons (by (try dsimp only); omega) (ltl_b8 _ _)), by first | decide | exact Nat.le_of_ble_eq_true rfl, by first | decide | exact Nat.le_of_ble_eq_true rfl⟩

theorem enc_b31 (i : Ins) (hk : OkP i .j) (ho : i.op = 31) : B8s (encL i) ∧ 1 ≤ (encL i).length ∧ (encL i).length ≤ 11 := by
  obtain ⟨op, d, s, t, b, x, sc, di, im⟩ := i
  dsimp only at ho
  subst ho
  obtain ⟨d0, s0, t0, ⟨b0, x0, c0, i0⟩, m1, m2⟩ := hk
  dsimp only at *
  exact ⟨(B8s.cons (by (try dsimp only); omega) (B8s.cons (by (try dsimp only); omega) (ltl_b8 _ _))), by first | decide | exact Nat.le_of_ble_eq_true rfl, by first | decide | exact Nat.le_of_ble_eq_true rfl⟩

theorem enc_b32 (i : Ins) (hk : OkP i .j) (ho : i.op = 32) : B8s (encL i) ∧ 1 ≤ (encL i).length ∧ (encL i).length ≤ 11 := by
  obtain ⟨op, d, s, t, b, x, sc, di, im⟩ := i
  dsimp only at ho
  subst ho
  obtain ⟨d0, s0, t0, ⟨b0, x0, c0, i0⟩, m1, m2⟩ := hk
  dsimp only at *
  exact ⟨(B8s.cons (by (try dsimp only); omega) (B8s.cons (by (try dsimp only); omega) (ltl_b8 _ _))), by first | decide | exact Nat.le_of_ble_eq_true rfl, by first | decide | exact Nat.le_of_ble_eq_true rfl⟩

theorem enc_b33 (i : Ins) (hk : OkP i .r) (ho : i.op = 33) : B8s (encL i) ∧ 1 ≤ (encL i).length ∧ (encL i).length ≤ 11 := by
  obtain ⟨op, d, s, t, b, x, sc, di, im⟩ := i
  dsimp only at ho
  subst ho
  obtain ⟨d0, s0, t0, ⟨b0, x0, c0, i0⟩, m0⟩ := hk
  dsimp only at *
  exact ⟨(B8s.cons (by (try dsimp only); omega) (B8s.nil)), by first | decide | exact Nat.le_of_ble_eq_true rfl, by first | decide | exact Nat.le_of_ble_eq_true rfl⟩

theorem encl_ok (i : Ins) (h : okI i = true) : B8s (encL i) ∧ 1 ≤ (encL i).length ∧ (encL i).length ≤ 11 := by
  have hk := okI_iff h
  rcases op_cases i.op with e | e | e | e | e | e | e | e | e | e | e | e | e | e | e | e | e | e | e | e | e | e | e | e | e | e | e | e | e | e | e | e | e | e
  · rw [e] at hk; exact enc_b1 i hk e
  · rw [e] at hk; exact enc_b2 i hk e
  · rw [e] at hk; exact enc_b3 i hk e
  · rw [e] at hk; exact enc_b4 i hk e
  · rw [e] at hk; exact enc_b5 i hk e
  · rw [e] at hk; exact enc_b6 i hk e
  · rw [e] at hk; exact enc_b7 i hk e
  · rw [e] at hk; exact enc_b8 i hk e
  · rw [e] at hk; exact enc_b9 i hk e
  · rw [e] at hk; exact enc_b10 i hk e
  · rw [e] at hk; exact enc_b11 i hk e
  · rw [e] at hk; exact enc_b12 i hk e
  · rw [e] at hk; exact enc_b13 i hk e
  · rw [e] at hk; exact enc_b14 i hk e
  · rw [e] at hk; exact enc_b15 i hk e
  · rw [e] at hk; exact enc_b16 i hk e
  · rw [e] at hk; exact enc_b17 i hk e
  · rw [e] at hk; exact enc_b18 i hk e
  · rw [e] at hk; exact enc_b19 i hk e
  · rw [e] at hk; exact enc_b20 i hk e
  · rw [e] at hk; exact enc_b21 i hk e
  · rw [e] at hk; exact enc_b22 i hk e
  · rw [e] at hk; exact enc_b23 i hk e
  · rw [e] at hk; exact enc_b24 i hk e
  · rw [e] at hk; exact enc_b25 i hk e
  · rw [e] at hk; exact enc_b26 i hk e
  · rw [e] at hk; exact enc_b27 i hk e
  · rw [e] at hk; exact enc_b28 i hk e
  · rw [e] at hk; exact enc_b29 i hk e
  · rw [e] at hk; exact enc_b30 i hk e
  · rw [e] at hk; exact enc_b31 i hk e
  · rw [e] at hk; exact enc_b32 i hk e
  · rw [e] at hk; exact enc_b33 i hk e
  · exfalso
    have e2 : formOf i.op = .no := by
      unfold formOf
      rw [if_neg (by omega), if_neg (by omega), if_neg (by omega), if_neg (by omega), if_neg (by omega), if_neg (by omega), if_neg (by omega), if_neg (by omega), if_neg (by omega), if_neg (by omega), if_neg (by omega)]
    rw [e2] at hk
    exact hk

theorem byt_1 (i : Ins) (hk : OkP i .ds) (ho : i.op = 1) (w : World) : Calls Tryz.prog 33 #[.agg i.vs] w (RowB (encL i) w) := by
  obtain ⟨op, d, s, t, b, x, sc, di, im⟩ := i
  dsimp only at ho
  subst ho
  obtain ⟨⟨d1, d2⟩, ⟨s1, s2⟩, t0, ⟨b0, x0, c0, i0⟩, m0⟩ := hk
  dsimp only at *
  exact bytes_two d s t b x sc di im ⟨d1, d2⟩ ⟨s1, s2⟩ 1 (by omega) w

theorem byt_2 (i : Ins) (hk : OkP i .di) (ho : i.op = 2) (w : World) : Calls Tryz.prog 33 #[.agg i.vs] w (RowB (encL i) w) := by
  obtain ⟨op, d, s, t, b, x, sc, di, im⟩ := i
  dsimp only at ho
  subst ho
  obtain ⟨⟨d1, d2⟩, s0, t0, ⟨b0, x0, c0, i0⟩⟩ := hk
  dsimp only at *
  exact bytes_2 d s t b x sc di im ⟨d1, d2⟩ w

theorem byt_3 (i : Ins) (hk : OkP i .dm) (ho : i.op = 3) (w : World) : Calls Tryz.prog 33 #[.agg i.vs] w (RowB (encL i) w) := by
  obtain ⟨op, d, s, t, b, x, sc, di, im⟩ := i
  dsimp only at ho
  subst ho
  obtain ⟨⟨d1, d2⟩, s0, t0, pl, m0⟩ := hk
  dsimp only at *
  exact bytes_3 d s t b x sc di im ⟨d1, d2⟩ pl w

theorem byt_4 (i : Ins) (hk : OkP i .sm) (ho : i.op = 4) (w : World) : Calls Tryz.prog 33 #[.agg i.vs] w (RowB (encL i) w) := by
  obtain ⟨op, d, s, t, b, x, sc, di, im⟩ := i
  dsimp only at ho
  subst ho
  obtain ⟨d0, ⟨s1, s2⟩, t0, pl, m0⟩ := hk
  dsimp only at *
  exact bytes_4 d s t b x sc di im ⟨s1, s2⟩ pl w

theorem byt_5 (i : Ins) (hk : OkP i .dm) (ho : i.op = 5) (w : World) : Calls Tryz.prog 33 #[.agg i.vs] w (RowB (encL i) w) := by
  obtain ⟨op, d, s, t, b, x, sc, di, im⟩ := i
  dsimp only at ho
  subst ho
  obtain ⟨⟨d1, d2⟩, s0, t0, pl, m0⟩ := hk
  dsimp only at *
  exact bytes_5 d s t b x sc di im ⟨d1, d2⟩ pl w

theorem byt_6 (i : Ins) (hk : OkP i .ds) (ho : i.op = 6) (w : World) : Calls Tryz.prog 33 #[.agg i.vs] w (RowB (encL i) w) := by
  obtain ⟨op, d, s, t, b, x, sc, di, im⟩ := i
  dsimp only at ho
  subst ho
  obtain ⟨⟨d1, d2⟩, ⟨s1, s2⟩, t0, ⟨b0, x0, c0, i0⟩, m0⟩ := hk
  dsimp only at *
  exact bytes_two d s t b x sc di im ⟨d1, d2⟩ ⟨s1, s2⟩ 6 (by omega) w

theorem byt_7 (i : Ins) (hk : OkP i .ds) (ho : i.op = 7) (w : World) : Calls Tryz.prog 33 #[.agg i.vs] w (RowB (encL i) w) := by
  obtain ⟨op, d, s, t, b, x, sc, di, im⟩ := i
  dsimp only at ho
  subst ho
  obtain ⟨⟨d1, d2⟩, ⟨s1, s2⟩, t0, ⟨b0, x0, c0, i0⟩, m0⟩ := hk
  dsimp only at *
  exact bytes_two d s t b x sc di im ⟨d1, d2⟩ ⟨s1, s2⟩ 7 (by omega) w

theorem byt_8 (i : Ins) (hk : OkP i .ds) (ho : i.op = 8) (w : World) : Calls Tryz.prog 33 #[.agg i.vs] w (RowB (encL i) w) := by
  obtain ⟨op, d, s, t, b, x, sc, di, im⟩ := i
  dsimp only at ho
  subst ho
  obtain ⟨⟨d1, d2⟩, ⟨s1, s2⟩, t0, ⟨b0, x0, c0, i0⟩, m0⟩ := hk
  dsimp only at *
  exact bytes_two d s t b x sc di im ⟨d1, d2⟩ ⟨s1, s2⟩ 8 (by omega) w

theorem byt_9 (i : Ins) (hk : OkP i .ds) (ho : i.op = 9) (w : World) : Calls Tryz.prog 33 #[.agg i.vs] w (RowB (encL i) w) := by
  obtain ⟨op, d, s, t, b, x, sc, di, im⟩ := i
  dsimp only at ho
  subst ho
  obtain ⟨⟨d1, d2⟩, ⟨s1, s2⟩, t0, ⟨b0, x0, c0, i0⟩, m0⟩ := hk
  dsimp only at *
  exact bytes_two d s t b x sc di im ⟨d1, d2⟩ ⟨s1, s2⟩ 9 (by omega) w

theorem byt_10 (i : Ins) (hk : OkP i .ds) (ho : i.op = 10) (w : World) : Calls Tryz.prog 33 #[.agg i.vs] w (RowB (encL i) w) := by
  obtain ⟨op, d, s, t, b, x, sc, di, im⟩ := i
  dsimp only at ho
  subst ho
  obtain ⟨⟨d1, d2⟩, ⟨s1, s2⟩, t0, ⟨b0, x0, c0, i0⟩, m0⟩ := hk
  dsimp only at *
  exact bytes_two d s t b x sc di im ⟨d1, d2⟩ ⟨s1, s2⟩ 10 (by omega) w

theorem byt_11 (i : Ins) (hk : OkP i .ds) (ho : i.op = 11) (w : World) : Calls Tryz.prog 33 #[.agg i.vs] w (RowB (encL i) w) := by
  obtain ⟨op, d, s, t, b, x, sc, di, im⟩ := i
  dsimp only at ho
  subst ho
  obtain ⟨⟨d1, d2⟩, ⟨s1, s2⟩, t0, ⟨b0, x0, c0, i0⟩, m0⟩ := hk
  dsimp only at *
  exact bytes_two d s t b x sc di im ⟨d1, d2⟩ ⟨s1, s2⟩ 11 (by omega) w

theorem byt_12 (i : Ins) (hk : OkP i .ds) (ho : i.op = 12) (w : World) : Calls Tryz.prog 33 #[.agg i.vs] w (RowB (encL i) w) := by
  obtain ⟨op, d, s, t, b, x, sc, di, im⟩ := i
  dsimp only at ho
  subst ho
  obtain ⟨⟨d1, d2⟩, ⟨s1, s2⟩, t0, ⟨b0, x0, c0, i0⟩, m0⟩ := hk
  dsimp only at *
  exact bytes_two d s t b x sc di im ⟨d1, d2⟩ ⟨s1, s2⟩ 12 (by omega) w

theorem byt_13 (i : Ins) (hk : OkP i .ds) (ho : i.op = 13) (w : World) : Calls Tryz.prog 33 #[.agg i.vs] w (RowB (encL i) w) := by
  obtain ⟨op, d, s, t, b, x, sc, di, im⟩ := i
  dsimp only at ho
  subst ho
  obtain ⟨⟨d1, d2⟩, ⟨s1, s2⟩, t0, ⟨b0, x0, c0, i0⟩, m0⟩ := hk
  dsimp only at *
  exact bytes_two d s t b x sc di im ⟨d1, d2⟩ ⟨s1, s2⟩ 13 (by omega) w

theorem byt_14 (i : Ins) (hk : OkP i .ds) (ho : i.op = 14) (w : World) : Calls Tryz.prog 33 #[.agg i.vs] w (RowB (encL i) w) := by
  obtain ⟨op, d, s, t, b, x, sc, di, im⟩ := i
  dsimp only at ho
  subst ho
  obtain ⟨⟨d1, d2⟩, ⟨s1, s2⟩, t0, ⟨b0, x0, c0, i0⟩, m0⟩ := hk
  dsimp only at *
  exact bytes_two d s t b x sc di im ⟨d1, d2⟩ ⟨s1, s2⟩ 14 (by omega) w

theorem byt_15 (i : Ins) (hk : OkP i .dj) (ho : i.op = 15) (w : World) : Calls Tryz.prog 33 #[.agg i.vs] w (RowB (encL i) w) := by
  obtain ⟨op, d, s, t, b, x, sc, di, im⟩ := i
  dsimp only at ho
  subst ho
  obtain ⟨⟨d1, d2⟩, s0, t0, ⟨b0, x0, c0, i0⟩, m1, m2⟩ := hk
  dsimp only at *
  exact bytes_15 d s t b x sc di im ⟨d1, d2⟩ w

theorem byt_16 (i : Ins) (hk : OkP i .dj) (ho : i.op = 16) (w : World) : Calls Tryz.prog 33 #[.agg i.vs] w (RowB (encL i) w) := by
  obtain ⟨op, d, s, t, b, x, sc, di, im⟩ := i
  dsimp only at ho
  subst ho
  obtain ⟨⟨d1, d2⟩, s0, t0, ⟨b0, x0, c0, i0⟩, m1, m2⟩ := hk
  dsimp only at *
  exact bytes_16 d s t b x sc di im ⟨d1, d2⟩ w

theorem byt_17 (i : Ins) (hk : OkP i .dj) (ho : i.op = 17) (w : World) : Calls Tryz.prog 33 #[.agg i.vs] w (RowB (encL i) w) := by
  obtain ⟨op, d, s, t, b, x, sc, di, im⟩ := i
  dsimp only at ho
  subst ho
  obtain ⟨⟨d1, d2⟩, s0, t0, ⟨b0, x0, c0, i0⟩, m1, m2⟩ := hk
  dsimp only at *
  exact bytes_17 d s t b x sc di im ⟨d1, d2⟩ w

theorem byt_18 (i : Ins) (hk : OkP i .dj) (ho : i.op = 18) (w : World) : Calls Tryz.prog 33 #[.agg i.vs] w (RowB (encL i) w) := by
  obtain ⟨op, d, s, t, b, x, sc, di, im⟩ := i
  dsimp only at ho
  subst ho
  obtain ⟨⟨d1, d2⟩, s0, t0, ⟨b0, x0, c0, i0⟩, m1, m2⟩ := hk
  dsimp only at *
  exact bytes_18 d s t b x sc di im ⟨d1, d2⟩ w

theorem byt_19 (i : Ins) (hk : OkP i .dst) (ho : i.op = 19) (w : World) : Calls Tryz.prog 33 #[.agg i.vs] w (RowB (encL i) w) := by
  obtain ⟨op, d, s, t, b, x, sc, di, im⟩ := i
  dsimp only at ho
  subst ho
  obtain ⟨⟨d1, d2⟩, ⟨s1, s2⟩, ⟨t1, t2⟩, ⟨b0, x0, c0, i0⟩, m0⟩ := hk
  dsimp only at *
  exact bytes_19 d s t b x sc di im ⟨d1, d2⟩ ⟨s1, s2⟩ ⟨t1, t2⟩ w

theorem byt_20 (i : Ins) (hk : OkP i .ds) (ho : i.op = 20) (w : World) : Calls Tryz.prog 33 #[.agg i.vs] w (RowB (encL i) w) := by
  obtain ⟨op, d, s, t, b, x, sc, di, im⟩ := i
  dsimp only at ho
  subst ho
  obtain ⟨⟨d1, d2⟩, ⟨s1, s2⟩, t0, ⟨b0, x0, c0, i0⟩, m0⟩ := hk
  dsimp only at *
  exact bytes_20 d s t b x sc di im ⟨d1, d2⟩ ⟨s1, s2⟩ w

theorem byt_21 (i : Ins) (hk : OkP i .ds) (ho : i.op = 21) (w : World) : Calls Tryz.prog 33 #[.agg i.vs] w (RowB (encL i) w) := by
  obtain ⟨op, d, s, t, b, x, sc, di, im⟩ := i
  dsimp only at ho
  subst ho
  obtain ⟨⟨d1, d2⟩, ⟨s1, s2⟩, t0, ⟨b0, x0, c0, i0⟩, m0⟩ := hk
  dsimp only at *
  exact bytes_21 d s t b x sc di im ⟨d1, d2⟩ ⟨s1, s2⟩ w

theorem byt_22 (i : Ins) (hk : OkP i .d) (ho : i.op = 22) (w : World) : Calls Tryz.prog 33 #[.agg i.vs] w (RowB (encL i) w) := by
  obtain ⟨op, d, s, t, b, x, sc, di, im⟩ := i
  dsimp only at ho
  subst ho
  obtain ⟨⟨d1, d2⟩, s0, t0, ⟨b0, x0, c0, i0⟩, m0⟩ := hk
  dsimp only at *
  exact bytes_22 d s t b x sc di im ⟨d1, d2⟩ w

theorem byt_23 (i : Ins) (hk : OkP i .d) (ho : i.op = 23) (w : World) : Calls Tryz.prog 33 #[.agg i.vs] w (RowB (encL i) w) := by
  obtain ⟨op, d, s, t, b, x, sc, di, im⟩ := i
  dsimp only at ho
  subst ho
  obtain ⟨⟨d1, d2⟩, s0, t0, ⟨b0, x0, c0, i0⟩, m0⟩ := hk
  dsimp only at *
  exact bytes_23 d s t b x sc di im ⟨d1, d2⟩ w

theorem byt_24 (i : Ins) (hk : OkP i .db) (ho : i.op = 24) (w : World) : Calls Tryz.prog 33 #[.agg i.vs] w (RowB (encL i) w) := by
  obtain ⟨op, d, s, t, b, x, sc, di, im⟩ := i
  dsimp only at ho
  subst ho
  obtain ⟨⟨d1, d2⟩, s0, t0, ⟨b0, x0, c0, i0⟩, m1, m2⟩ := hk
  dsimp only at *
  exact bytes_24 d s t b x sc di im ⟨d1, d2⟩ m1 m2 w

theorem byt_25 (i : Ins) (hk : OkP i .db) (ho : i.op = 25) (w : World) : Calls Tryz.prog 33 #[.agg i.vs] w (RowB (encL i) w) := by
  obtain ⟨op, d, s, t, b, x, sc, di, im⟩ := i
  dsimp only at ho
  subst ho
  obtain ⟨⟨d1, d2⟩, s0, t0, ⟨b0, x0, c0, i0⟩, m1, m2⟩ := hk
  dsimp only at *
  exact bytes_25 d s t b x sc di im ⟨d1, d2⟩ m1 m2 w

theorem byt_26 (i : Ins) (hk : OkP i .ds) (ho : i.op = 26) (w : World) : Calls Tryz.prog 33 #[.agg i.vs] w (RowB (encL i) w) := by
  obtain ⟨op, d, s, t, b, x, sc, di, im⟩ := i
  dsimp only at ho
  subst ho
  obtain ⟨⟨d1, d2⟩, ⟨s1, s2⟩, t0, ⟨b0, x0, c0, i0⟩, m0⟩ := hk
  dsimp only at *
  exact bytes_26 d s t b x sc di im ⟨d1, d2⟩ ⟨s1, s2⟩ w

theorem byt_27 (i : Ins) (hk : OkP i .ds) (ho : i.op = 27) (w : World) : Calls Tryz.prog 33 #[.agg i.vs] w (RowB (encL i) w) := by
  obtain ⟨op, d, s, t, b, x, sc, di, im⟩ := i
  dsimp only at ho
  subst ho
  obtain ⟨⟨d1, d2⟩, ⟨s1, s2⟩, t0, ⟨b0, x0, c0, i0⟩, m0⟩ := hk
  dsimp only at *
  exact bytes_27 d s t b x sc di im ⟨d1, d2⟩ ⟨s1, s2⟩ w

theorem byt_28 (i : Ins) (hk : OkP i .s) (ho : i.op = 28) (w : World) : Calls Tryz.prog 33 #[.agg i.vs] w (RowB (encL i) w) := by
  obtain ⟨op, d, s, t, b, x, sc, di, im⟩ := i
  dsimp only at ho
  subst ho
  obtain ⟨d0, ⟨s1, s2⟩, t0, ⟨b0, x0, c0, i0⟩, m0⟩ := hk
  dsimp only at *
  exact bytes_28 d s t b x sc di im ⟨s1, s2⟩ w

theorem byt_29 (i : Ins) (hk : OkP i .d) (ho : i.op = 29) (w : World) : Calls Tryz.prog 33 #[.agg i.vs] w (RowB (encL i) w) := by
  obtain ⟨op, d, s, t, b, x, sc, di, im⟩ := i
  dsimp only at ho
  subst ho
  obtain ⟨⟨d1, d2⟩, s0, t0, ⟨b0, x0, c0, i0⟩, m0⟩ := hk
  dsimp only at *
  exact bytes_29 d s t b x sc di im ⟨d1, d2⟩ w

theorem byt_30 (i : Ins) (hk : OkP i .j) (ho : i.op = 30) (w : World) : Calls Tryz.prog 33 #[.agg i.vs] w (RowB (encL i) w) := by
  obtain ⟨op, d, s, t, b, x, sc, di, im⟩ := i
  dsimp only at ho
  subst ho
  obtain ⟨d0, s0, t0, ⟨b0, x0, c0, i0⟩, m1, m2⟩ := hk
  dsimp only at *
  exact bytes_30 d s t b x sc di im w

theorem byt_31 (i : Ins) (hk : OkP i .j) (ho : i.op = 31) (w : World) : Calls Tryz.prog 33 #[.agg i.vs] w (RowB (encL i) w) := by
  obtain ⟨op, d, s, t, b, x, sc, di, im⟩ := i
  dsimp only at ho
  subst ho
  obtain ⟨d0, s0, t0, ⟨b0, x0, c0, i0⟩, m1, m2⟩ := hk
  dsimp only at *
  exact bytes_31 d s t b x sc di im w

theorem byt_32 (i : Ins) (hk : OkP i .j) (ho : i.op = 32) (w : World) : Calls Tryz.prog 33 #[.agg i.vs] w (RowB (encL i) w) := by
  obtain ⟨op, d, s, t, b, x, sc, di, im⟩ := i
  dsimp only at ho
  subst ho
  obtain ⟨d0, s0, t0, ⟨b0, x0, c0, i0⟩, m1, m2⟩ := hk
  dsimp only at *
  exact bytes_32 d s t b x sc di im w

theorem byt_33 (i : Ins) (hk : OkP i .r) (ho : i.op = 33) (w : World) : Calls Tryz.prog 33 #[.agg i.vs] w (RowB (encL i) w) := by
  obtain ⟨op, d, s, t, b, x, sc, di, im⟩ := i
  dsimp only at ho
  subst ho
  obtain ⟨d0, s0, t0, ⟨b0, x0, c0, i0⟩, m0⟩ := hk
  dsimp only at *
  exact bytes_33 d s t b x sc di im w

theorem bytes_c (i : Ins) (h : okI i = true) (w : World) : Calls Tryz.prog 33 #[.agg i.vs] w (RowB (encL i) w) := by
  have hk := okI_iff h
  rcases op_cases i.op with e | e | e | e | e | e | e | e | e | e | e | e | e | e | e | e | e | e | e | e | e | e | e | e | e | e | e | e | e | e | e | e | e | e
  · rw [e] at hk; exact byt_1 i hk e w
  · rw [e] at hk; exact byt_2 i hk e w
  · rw [e] at hk; exact byt_3 i hk e w
  · rw [e] at hk; exact byt_4 i hk e w
  · rw [e] at hk; exact byt_5 i hk e w
  · rw [e] at hk; exact byt_6 i hk e w
  · rw [e] at hk; exact byt_7 i hk e w
  · rw [e] at hk; exact byt_8 i hk e w
  · rw [e] at hk; exact byt_9 i hk e w
  · rw [e] at hk; exact byt_10 i hk e w
  · rw [e] at hk; exact byt_11 i hk e w
  · rw [e] at hk; exact byt_12 i hk e w
  · rw [e] at hk; exact byt_13 i hk e w
  · rw [e] at hk; exact byt_14 i hk e w
  · rw [e] at hk; exact byt_15 i hk e w
  · rw [e] at hk; exact byt_16 i hk e w
  · rw [e] at hk; exact byt_17 i hk e w
  · rw [e] at hk; exact byt_18 i hk e w
  · rw [e] at hk; exact byt_19 i hk e w
  · rw [e] at hk; exact byt_20 i hk e w
  · rw [e] at hk; exact byt_21 i hk e w
  · rw [e] at hk; exact byt_22 i hk e w
  · rw [e] at hk; exact byt_23 i hk e w
  · rw [e] at hk; exact byt_24 i hk e w
  · rw [e] at hk; exact byt_25 i hk e w
  · rw [e] at hk; exact byt_26 i hk e w
  · rw [e] at hk; exact byt_27 i hk e w
  · rw [e] at hk; exact byt_28 i hk e w
  · rw [e] at hk; exact byt_29 i hk e w
  · rw [e] at hk; exact byt_30 i hk e w
  · rw [e] at hk; exact byt_31 i hk e w
  · rw [e] at hk; exact byt_32 i hk e w
  · rw [e] at hk; exact byt_33 i hk e w
  · exfalso
    have e2 : formOf i.op = .no := by
      unfold formOf
      rw [if_neg (by omega), if_neg (by omega), if_neg (by omega), if_neg (by omega), if_neg (by omega), if_neg (by omega), if_neg (by omega), if_neg (by omega), if_neg (by omega), if_neg (by omega), if_neg (by omega)]
    rw [e2] at hk
    exact hk

end Is
end Go.Proofs.YtblmagcekfbgdaaGreatDoor
namespace Go.Proofs.YtblmagcekfbgdaaGreatDoor
open Go Go.RowKit
namespace Is
open Nt
set_option linter.unusedVariables false
set_option linter.unusedSimpArgs false
set_option maxHeartbeats 2000000 in
theorem rinst_c (i : Ins) (w : World) : Calls Tryz.prog 16 #[.agg i.vs] w fun e w' => e = .returned (.tuple #[.string (encS i), .int .i64 (chk i)]) ∧ Below w.heap.size w w' := by
  have HC := Lib.hid (fun W => check_r i W)
  have HB0 := Lib.hid ((Below.refl w.heap.size w).alloc (Nat.le_refl _) (.cells i.vs 26))
  have HI0 := Lib.hid (Bk.new w 26 i.vs)
  rcases chk_01 i with ⟨hk, he⟩ | ⟨hk, he⟩
  · have e1 : encS i = strU (encL i) := by unfold encS; rw [hk]; rfl
    have HY := Lib.hid (fun W => bytes_c i hk W)
    have HE := Lib.hid (encl_ok i hk)
    rw [e1, he]
    rw [he] at HC
    clear e1 hk he
    generalize encL i = xs at *
    obtain ⟨op, d, s, t, b, x, sc, di, im⟩ := i
    unfold Ins.vs at *
    dsimp only at *
    obtain ⟨a0, a1, a2, a3, a4, a5, a6, a7, a8⟩ := c9 HI0.out
    go_enter Tryz.func16, Tryz.ntmps16
    go_wp2_with fail
    go_at_call 32
    refine (HC.out _).mono ?_
    rintro e w1 ⟨rfl, hb1⟩
    have HI1 := Lib.hid (HI0.out.below hb1 HI0.out.lt)
    have HB1 : Hid (Below w.heap.size w w1) := Lib.hid (HB0.out.trans (hb1.mono HB0.out.size))
    clear a0 a1 a2 a3 a4 a5 a6 a7 a8 hb1
    obtain ⟨a0, a1, a2, a3, a4, a5, a6, a7, a8⟩ := c9 HI1.out
    go_wp2_with fail
    go_at_call 33
    refine (HY.out _).mono ?_
    rintro e w2 ⟨v, rfl, o2, hb2⟩
    have HB2 : Hid (Below w.heap.size w w2) := Lib.hid (HB1.out.trans (hb2.mono HB1.out.size))
    have hcv := conv8 o2 HE.out.1 (by have := HE.out.2.1; omega)
    clear o2 hb2
    go_wp2_with fail
    go_ret2
    exact ⟨rfl, HB2.out⟩
  · have e1 : encS i = ⟨#[]⟩ := by unfold encS; rw [hk]; rfl
    rw [e1, he]
    rw [he] at HC
    clear e1 hk he
    obtain ⟨op, d, s, t, b, x, sc, di, im⟩ := i
    unfold Ins.vs at *
    dsimp only at *
    obtain ⟨a0, a1, a2, a3, a4, a5, a6, a7, a8⟩ := c9 HI0.out
    go_enter Tryz.func16, Tryz.ntmps16
    go_wp2_with fail
    go_at_call 32
    refine (HC.out _).mono ?_
    rintro e w1 ⟨rfl, hb1⟩
    have HB1 : Hid (Below w.heap.size w w1) := Lib.hid (HB0.out.trans (hb1.mono HB0.out.size))
    clear a0 a1 a2 a3 a4 a5 a6 a7 a8 hb1
    go_wp2_with fail
    go_ret2
    exact ⟨rfl, HB1.out⟩
theorem rsize_c (i : Ins) (w : World) : Calls Tryz.prog 11 #[.agg i.vs] w fun e w' => e = .returned (.int .i64 ((encS i).size : Int)) ∧ Below w.heap.size w w' := by
  have HC := Lib.hid (fun W => rinst_c i W)
  have HB0 := Lib.hid ((Below.refl w.heap.size w).alloc (Nat.le_refl _) (.cells i.vs 26))
  have HI0 := Lib.hid (Bk.new w 26 i.vs)
  generalize encS i = z at *
  generalize chk i = k at *
  obtain ⟨op, d, s, t, b, x, sc, di, im⟩ := i
  unfold Ins.vs at *
  dsimp only at *
  obtain ⟨a0, a1, a2, a3, a4, a5, a6, a7, a8⟩ := c9 HI0.out
  go_enter Tryz.func11, Tryz.ntmps11
  go_wp2_with fail
  go_at_call 16
  refine (HC.out _).mono ?_
  rintro e w1 ⟨rfl, hb1⟩
  have HB1 : Hid (Below w.heap.size w w1) := Lib.hid (HB0.out.trans (hb1.mono HB0.out.size))
  clear a0 a1 a2 a3 a4 a5 a6 a7 a8 hb1
  go_wp2_with fail
  go_ret
  exact ⟨rfl, HB1.out⟩

end Is
end Go.Proofs.YtblmagcekfbgdaaGreatDoor
