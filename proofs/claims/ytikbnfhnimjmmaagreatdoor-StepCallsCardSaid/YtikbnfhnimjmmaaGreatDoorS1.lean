/- Plain reckoning of what an instruction does: states, flags, addresses, events; no program in it. -/
import Derived.Test.YtikbnfhnimjmmaaGreatDoorA2
import Derived.Test.YtikbnfhnimjmmaaGreatDoorB1
namespace Go.Proofs.YtikbnfhnimjmmaaGreatDoor
open Go Go.RowKit
namespace Sp
open Wd Mm Is
set_option linter.unusedVariables false
set_option linter.unusedSimpArgs false
/-! ### the highest bit -/
def tp (a : Int) : Bool := decide (9223372036854775808 ≤ a)
theorem nat_tp (n : Nat) (h : n < 18446744073709551616) : n.testBit 63 = decide (9223372036854775808 ≤ n) := by
  rw [Nat.testBit_eq_decide_div_mod_eq]
  rw [decide_eq_decide]
  have e : 2 ^ 63 = 9223372036854775808 := by decide
  rw [e]; omega
theorem tp_nat (n : Nat) (h : n < 18446744073709551616) : tp (n : Int) = n.testBit 63 := by
  rw [nat_tp n h]; unfold tp; rw [decide_eq_decide]; omega
theorem W_nat {a : Int} (h : W a) : ∃ n : Nat, a = (n : Int) ∧ n < 18446744073709551616 := by
  obtain ⟨h0, h1⟩ := h
  exact ⟨a.toNat, by omega, by omega⟩
theorem and_lt {n m : Nat} (h : n < 18446744073709551616) : n &&& m < 18446744073709551616 := Nat.lt_of_le_of_lt Nat.and_le_left h
theorem or_lt {n m : Nat} (h : n < 18446744073709551616) (g : m < 18446744073709551616) : n ||| m < 18446744073709551616 := Nat.or_lt_two_pow (n := 64) h g
theorem xor_lt {n m : Nat} (h : n < 18446744073709551616) (g : m < 18446744073709551616) : n ^^^ m < 18446744073709551616 := Nat.xor_lt_two_pow (n := 64) h g
theorem and_W {a b : Int} (ha : W a) (hb : W b) : W (bits .and .u64 a b) ∧ tp (bits .and .u64 a b) = (tp a && tp b) := by
  obtain ⟨n, rfl, hn⟩ := W_nat ha
  obtain ⟨m, rfl, hm⟩ := W_nat hb
  rw [u64_and_nat n m hn hm, tp_nat _ (and_lt hn), tp_nat _ hn, tp_nat _ hm, Nat.testBit_and]
  have := and_lt (m := m) hn
  exact ⟨⟨by omega, by omega⟩, rfl⟩
theorem or_W {a b : Int} (ha : W a) (hb : W b) : W (bits .or .u64 a b) ∧ tp (bits .or .u64 a b) = (tp a || tp b) := by
  obtain ⟨n, rfl, hn⟩ := W_nat ha
  obtain ⟨m, rfl, hm⟩ := W_nat hb
  rw [u64_or_nat n m hn hm, tp_nat _ (or_lt hn hm), tp_nat _ hn, tp_nat _ hm, Nat.testBit_or]
  have := or_lt hn hm
  exact ⟨⟨by omega, by omega⟩, rfl⟩
theorem xor_W {a b : Int} (ha : W a) (hb : W b) : W (bits .xor .u64 a b) ∧ tp (bits .xor .u64 a b) = (tp a != tp b) := by
  obtain ⟨n, rfl, hn⟩ := W_nat ha
  obtain ⟨m, rfl, hm⟩ := W_nat hb
  rw [u64_xor_nat n m hn hm, tp_nat _ (xor_lt hn hm), tp_nat _ hn, tp_nat _ hm, Nat.testBit_xor]
  have := xor_lt hn hm
  exact ⟨⟨by omega, by omega⟩, by cases n.testBit 63 <;> cases m.testBit 63 <;> rfl⟩
theorem andNot_W {a b : Int} (ha : W a) (hb : W b) : W (bits .andNot .u64 a b) ∧ tp (bits .andNot .u64 a b) = (tp a && !tp b) := by
  obtain ⟨n, rfl, hn⟩ := W_nat ha
  obtain ⟨m, rfl, hm⟩ := W_nat hb
  rw [u64_andNot_nat n m hn hm, tp_nat _ (and_lt hn), tp_nat _ hn, Nat.testBit_and, nat_tp _ (show 18446744073709551615 - m < 18446744073709551616 by omega)]
  have := and_lt (m := 18446744073709551615 - m) hn
  refine ⟨⟨by omega, by omega⟩, ?_⟩
  congr 1
  unfold tp
  by_cases h : (9223372036854775808 : Int) ≤ (m : Int)
  · rw [decide_eq_true h, decide_eq_false (by omega)]; rfl
  · rw [decide_eq_false h, decide_eq_true (by omega)]; rfl

/-! ### flags -/
structure Fl where
  c : Bool
  o : Bool
  z : Bool
def Fl.vs (f : Fl) : Array Value := #[.bool f.c, .bool f.o, .bool f.z]
def ovA (a b r : Int) : Bool := (tp a != tp r) && (tp b != tp r)
def ovS (a b r : Int) : Bool := (tp a != tp b) && (tp r != tp a)
/-- what the bits of both words and the sum tell -/
def cS (a b s : Int) : Bool := (tp a && tp b) || ((tp a || tp b) && !tp s)
theorem cS_add {a b : Int} (ha : W a) (hb : W b) (c : Bool) : cS a b (add a b c) = addO a b c := by
  have h1 := b1_01 c
  unfold W at ha hb
  unfold cS addO add tp
  generalize b1 c = d at *
  by_cases p : 9223372036854775808 ≤ a <;> by_cases q : 9223372036854775808 ≤ b <;> by_cases r : 9223372036854775808 ≤ (a + b + d) % 18446744073709551616 <;>
    simp only [p, q, r, decide_true, decide_false, Bool.and_true, Bool.true_and, Bool.and_false, Bool.false_and, Bool.or_true, Bool.or_false, Bool.true_or, Bool.false_or, Bool.not_true, Bool.not_false] <;>
    (first | (rw [eq_comm, decide_eq_true_eq]; omega) | (rw [eq_comm, decide_eq_false_iff_not]; omega))
theorem cS_sub {a b : Int} (ha : W a) (hb : W b) (c : Bool) : cS b (sub a b c) a = subO a b c := by
  have h1 := b1_01 c
  unfold W at ha hb
  unfold cS subO sub tp
  generalize b1 c = d at *
  by_cases p : 9223372036854775808 ≤ a <;> by_cases q : 9223372036854775808 ≤ b <;> by_cases r : 9223372036854775808 ≤ (a - b - d) % 18446744073709551616 <;>
    simp only [p, q, r, decide_true, decide_false, Bool.and_true, Bool.true_and, Bool.and_false, Bool.false_and, Bool.or_true, Bool.or_false, Bool.true_or, Bool.false_or, Bool.not_true, Bool.not_false] <;>
    (first | (rw [eq_comm, decide_eq_true_eq]; omega) | (rw [eq_comm, decide_eq_false_iff_not]; omega))
theorem ov_sub (a b r : Int) : ovA b r a = ovS a b r := by
  unfold ovA ovS
  cases tp a <;> cases tp b <;> cases tp r <;> rfl
theorem ovA_ref (a b r : Int) : ovA a b r = ((tp a == tp b) && (tp r != tp a)) := by
  unfold ovA
  cases tp a <;> cases tp b <;> cases tp r <;> rfl
/-- the flags of a sum, of a rest -/
def flA (a b : Int) (c : Bool) : Fl := ⟨addO a b c, ovA a b (add a b c), decide (add a b c = 0)⟩
def flS (a b : Int) (c : Bool) : Fl := ⟨subO a b c, ovS a b (sub a b c), decide (sub a b c = 0)⟩
def flB (v : Int) : Fl := ⟨false, false, decide (v = 0)⟩

/-! ### what is reckoned of D, of a word beside it, and of the flags ahead -/
def shlI (a n : Int) : Int := a * 2 ^ n.toNat % 18446744073709551616
def shrI (a n : Int) : Int := a / 2 ^ n.toNat
def notI (a : Int) : Int := bits .xor .u64 IntKind.u64.max a
def rkP (op a b : Int) (f : Fl) : Int × Fl :=
  if op = 1 ∨ op = 2 then (b, f)
  else if op = 26 then ((if f.c then b else a), f)
  else if op = 27 then ((if f.z then a else b), f)
  else if op = 6 ∨ op = 15 then (add a b false, flA a b false)
  else if op = 7 then (add a b f.c, flA a b f.c)
  else if op = 20 then (add a b f.c, { f with c := addO a b f.c })
  else if op = 21 then (add a b f.o, { f with o := addO a b f.o })
  else if op = 8 ∨ op = 17 then (sub a b false, flS a b false)
  else if op = 9 then (sub a b f.c, flS a b f.c)
  else if op = 13 ∨ op = 18 then (a, flS a b false)
  else if op = 22 then (sub 0 a false, flS 0 a false)
  else if op = 10 ∨ op = 16 then (bits .and .u64 a b, flB (bits .and .u64 a b))
  else if op = 11 then (bits .or .u64 a b, flB (bits .or .u64 a b))
  else if op = 12 then (bits .xor .u64 a b, flB (bits .xor .u64 a b))
  else if op = 14 then (a, flB (bits .and .u64 a b))
  else if op = 24 then (shlI a b, ⟨decide (shrI a (64 - b) % 2 = 1), f.o, decide (shlI a b = 0)⟩)
  else if op = 25 then (shrI a b, ⟨decide (shrI a (b - 1) % 2 = 1), f.o, decide (shrI a b = 0)⟩)
  else (notI a, f)

/-! ### states -/
structure Stt where
  r : Nat → Int
  pc : Int
  cf : Bool
  ov : Bool
  zf : Bool
structure Stt.wf (s : Stt) : Prop where
  r : ∀ k, W (s.r k)
  pc : W s.pc
def Stt.vs (s : Stt) : Array Value := #[.int .u64 (s.r 0), .int .u64 (s.r 1), .int .u64 (s.r 2), .int .u64 (s.r 3), .int .u64 (s.r 4), .int .u64 (s.r 5), .int .u64 (s.r 6), .int .u64 (s.r 7), .int .u64 (s.r 8), .int .u64 (s.r 9), .int .u64 (s.r 10), .int .u64 (s.r 11), .int .u64 (s.r 12), .int .u64 (s.r 13), .int .u64 (s.r 14), .int .u64 (s.r 15), .int .u64 s.pc, .bool s.cf, .bool s.ov, .bool s.zf]
def Stt.fl (s : Stt) : Fl := ⟨s.cf, s.ov, s.zf⟩
def Stt.set (s : Stt) (d : Nat) (v : Int) : Stt := { s with r := fun k => if k = d then v else s.r k }
def Stt.setF (s : Stt) (f : Fl) : Stt := { s with cf := f.c, ov := f.o, zf := f.z }
theorem Stt.set_wf {s : Stt} (h : s.wf) (d : Nat) {v : Int} (hv : W v) : (s.set d v).wf := ⟨fun k => by
  unfold Stt.set
  show W (if k = d then v else s.r k)
  split
  · exact hv
  · exact h.r k, h.pc⟩
theorem Stt.setF_wf {s : Stt} (h : s.wf) (f : Fl) : (s.setF f).wf := ⟨h.r, h.pc⟩
theorem Stt.vs_size (s : Stt) : s.vs.size = 20 := rfl
theorem lt16 {k : Nat} (h : k < 16) : k = 0 ∨ k = 1 ∨ k = 2 ∨ k = 3 ∨ k = 4 ∨ k = 5 ∨ k = 6 ∨ k = 7 ∨ k = 8 ∨ k = 9 ∨ k = 10 ∨ k = 11 ∨ k = 12 ∨ k = 13 ∨ k = 14 ∨ k = 15 := by omega
theorem Stt.vs_r (s : Stt) {k : Nat} (h : k < 16) : s.vs[k]? = some (.int .u64 (s.r k)) := by
  rcases lt16 h with rfl | rfl | rfl | rfl | rfl | rfl | rfl | rfl | rfl | rfl | rfl | rfl | rfl | rfl | rfl | rfl <;> rfl
theorem Stt.vs_pc (s : Stt) : s.vs[16]? = some (.int .u64 s.pc) := rfl
theorem Stt.vs_cf (s : Stt) : s.vs[17]? = some (.bool s.cf) := rfl
theorem Stt.vs_ov (s : Stt) : s.vs[18]? = some (.bool s.ov) := rfl
theorem Stt.vs_zf (s : Stt) : s.vs[19]? = some (.bool s.zf) := rfl
theorem Stt.vs_set (s : Stt) {d : Nat} (h : d < 16) (v : Int) : s.vs.setIfInBounds d (.int .u64 v) = (s.set d v).vs := by
  rcases lt16 h with rfl | rfl | rfl | rfl | rfl | rfl | rfl | rfl | rfl | rfl | rfl | rfl | rfl | rfl | rfl | rfl <;> rfl
theorem Stt.vs_setPc (s : Stt) (v : Int) : s.vs.setIfInBounds 16 (.int .u64 v) = ({ s with pc := v } : Stt).vs := rfl
theorem Stt.vs_one (s : Stt) : s.vs.all (·.oneCell') = true := by unfold Stt.vs; simp [Value.oneCell']
theorem Stt.vs_inj {s t : Stt} (h : s.vs = t.vs) : (∀ k, k < 16 → s.r k = t.r k) ∧ s.pc = t.pc ∧ s.cf = t.cf ∧ s.ov = t.ov ∧ s.zf = t.zf := by
  have hg : ∀ k : Nat, s.vs[k]? = t.vs[k]? := fun k => by rw [h]
  refine ⟨fun k hk => ?_, ?_, ?_, ?_, ?_⟩
  · have := hg k; rw [s.vs_r hk, t.vs_r hk] at this; simpa using this
  · have := hg 16; rw [s.vs_pc, t.vs_pc] at this; simpa using this
  · have := hg 17; rw [s.vs_cf, t.vs_cf] at this; simpa using this
  · have := hg 18; rw [s.vs_ov, t.vs_ov] at this; simpa using this
  · have := hg 19; rw [s.vs_zf, t.vs_zf] at this; simpa using this
theorem Stt.vs_ext {s t : Stt} (h1 : ∀ k, k < 16 → s.r k = t.r k) (h2 : s.pc = t.pc) (h3 : s.cf = t.cf) (h4 : s.ov = t.ov) (h5 : s.zf = t.zf) : s.vs = t.vs := by
  unfold Stt.vs
  rw [h1 0 (by omega), h1 1 (by omega), h1 2 (by omega), h1 3 (by omega), h1 4 (by omega), h1 5 (by omega), h1 6 (by omega), h1 7 (by omega), h1 8 (by omega), h1 9 (by omega), h1 10 (by omega), h1 11 (by omega), h1 12 (by omega), h1 13 (by omega), h1 14 (by omega), h1 15 (by omega), h2, h3, h4, h5]

/-! ### addresses, what an instruction does -/
def held (s : Stt) (r : Int) : Int := if 0 ≤ r ∧ r ≤ 15 then s.r r.toNat else 0
def u64 (n : Int) : Int := n % 18446744073709551616
theorem u64_W (n : Int) : W (u64 n) := W_mod n
def addr (s : Stt) (b x sc di : Int) : Int := u64 (u64 (held s b + u64 (held s x * u64 sc)) + u64 di)
def atI (i : Ins) (s : Stt) : Int := addr s i.b i.x i.sc i.di
theorem held_W {s : Stt} (h : s.wf) (r : Int) : W (held s r) := by
  unfold held; split
  · exact h.r _
  · exact ⟨by omega, by omega⟩
def secd (s : Stt) (i : Ins) : Int := if i.op = 2 ∨ (15 ≤ i.op ∧ i.op ≤ 18) ∨ i.op = 24 ∨ i.op = 25 then u64 i.im else s.r i.s.toNat
def jmpS (s : Stt) (i : Ins) (t : Bool) : Stt := if t then { s with pc := u64 (s.pc + u64 i.im) } else s
def isMv (op : Int) : Bool := decide (op = 3) || decide (op = 4) || decide (op = 5) || decide (op = 19) || decide (28 ≤ op ∧ op ≤ 33)
/-- what becomes of a state whose place is behind the instruction, when v has been read -/
def mvP (s : Stt) (i : Ins) (v : Int) : Stt :=
  if i.op = 3 then s.set i.d.toNat v
  else if i.op = 4 then s
  else if i.op = 5 then s.set i.d.toNat (atI i s)
  else if i.op = 19 then (s.set i.d.toNat (mulH (s.r i.t.toNat) (s.r 2))).set i.s.toNat (mulL (s.r i.t.toNat) (s.r 2))
  else if i.op = 28 then s.set 4 (u64 (s.r 4 - 8))
  else if i.op = 29 then (s.set 4 (u64 (s.r 4 + 8))).set i.d.toNat v
  else if i.op = 30 then jmpS s i true
  else if i.op = 31 then jmpS s i (!s.zf)
  else if i.op = 32 then jmpS s i s.cf
  else { s.set 4 (u64 (s.r 4 + 8)) with pc := v }
def bh (s : Stt) (i : Ins) (size v : Int) : Stt :=
  let s1 : Stt := { s with pc := u64 (s.pc + u64 size) }
  if isMv i.op then mvP s1 i v
  else (s1.set i.d.toNat (rkP i.op (s.r i.d.toNat) (secd s i) s.fl).1).setF (rkP i.op (s.r i.d.toNat) (secd s i) s.fl).2
/-- an event: its kind, its address -/
structure Ev where
  k : Int
  a : Int
  deriving DecidableEq
def Ev.vs (e : Ev) : Array Value := #[.int .i64 e.k, .int .u64 e.a]
def ev0 : Ev := ⟨0, 0⟩
def tch (s : Stt) (i : Ins) : Ev :=
  if i.op = 3 then ⟨2, atI i s⟩
  else if i.op = 4 then ⟨3, atI i s⟩
  else if i.op = 28 then ⟨3, u64 (s.r 4 - 8)⟩
  else if i.op = 29 ∨ i.op = 33 then ⟨2, s.r 4⟩
  else ev0
def goe (i : Ins) (n : Stt) : Ev := if jmpB i || decide (i.op = 33) then ⟨4, n.pc⟩ else ev0
def evs (s : Stt) (i : Ins) (n : Stt) : List Ev := [⟨1, s.pc⟩, tch s i, goe i n].filter (fun e => decide (e ≠ ev0))
/-- what is read or written of a memory: the word, the memory behind, the error -/
def XchO (M : List Reg) (t : Ev) (x v : Int) (M' : List Reg) (e : Int) : Prop :=
  (t.k = 2 ∧ LoadO M t.a v e ∧ M' = M) ∨ (t.k = 3 ∧ StoreO M t.a x M' e ∧ v = 0) ∨ (t.k ≠ 2 ∧ t.k ≠ 3 ∧ v = 0 ∧ M' = M ∧ e = 0)
theorem XchO.uniq {M M1 M2 : List Reg} {t : Ev} {x v1 v2 e1 e2 : Int} (hM : Mm.Good M) (h : XchO M t x v1 M1 e1) (g : XchO M t x v2 M2 e2) : v1 = v2 ∧ M1 = M2 ∧ e1 = e2 := by
  rcases h with ⟨a, b, c⟩ | ⟨a, b, c⟩ | ⟨a, b, c, d, e⟩ <;> rcases g with ⟨a', b', c'⟩ | ⟨a', b', c'⟩ | ⟨a', b', c', d', e'⟩
  · obtain ⟨h1, h2⟩ := b.uniq hM b'; exact ⟨h1, by rw [c, c'], h2⟩
  · omega
  · exact absurd a a'
  · omega
  · obtain ⟨h1, h2⟩ := b.uniq hM b'; exact ⟨by rw [c, c'], h1, h2⟩
  · exact absurd a b'
  · exact absurd a' a
  · exact absurd a' b
  · exact ⟨by rw [c, c'], by rw [d, d'], by rw [e, e']⟩
/-- refused: the error -/
def refE (i : Ins) (size : Int) : Int := if chk i ≠ 0 then chk i else if size < 1 ∨ 15 < size then 2 else 0
/-- all that Do answers over a memory that there is -/
def DoO (s : Stt) (i : Ins) (size : Int) (M : List Reg) (n : Stt) (l : List Ev) (M' : List Reg) (e : Int) : Prop :=
  (refE i size ≠ 0 ∧ n = s ∧ l = [] ∧ M' = M ∧ e = refE i size) ∨
  (refE i size = 0 ∧ ∃ v, XchO M (tch s i) (s.r i.s.toNat) v M' e ∧ ((e ≠ 0 ∧ n = s ∧ l = []) ∨ (e = 0 ∧ n = bh s i size v ∧ l = evs s i n)))
theorem DoO.uniq {s n1 n2 : Stt} {i : Ins} {size e1 e2 : Int} {M M1 M2 : List Reg} {l1 l2 : List Ev} (hM : Mm.Good M) (h : DoO s i size M n1 l1 M1 e1) (g : DoO s i size M n2 l2 M2 e2) : n1 = n2 ∧ l1 = l2 ∧ M1 = M2 ∧ e1 = e2 := by
  rcases h with ⟨a, b, c, d, e⟩ | ⟨a, v, b, c⟩ <;> rcases g with ⟨a', b', c', d', e'⟩ | ⟨a', v', b', c'⟩
  · exact ⟨by rw [b, b'], by rw [c, c'], by rw [d, d'], by rw [e, e']⟩
  · exact absurd a' a
  · exact absurd a a'
  · obtain ⟨rfl, rfl, rfl⟩ := b.uniq hM b'
    rcases c with ⟨x, y, z⟩ | ⟨x, y, z⟩ <;> rcases c' with ⟨x', y', z'⟩ | ⟨x', y', z'⟩
    · exact ⟨by rw [y, y'], by rw [z, z'], rfl, rfl⟩
    · exact absurd x' x
    · exact absurd x x'
    · obtain rfl : n1 = n2 := by rw [y, y']
      exact ⟨rfl, by rw [z, z'], rfl, rfl⟩
end Sp
end Go.Proofs.YtikbnfhnimjmmaaGreatDoor
