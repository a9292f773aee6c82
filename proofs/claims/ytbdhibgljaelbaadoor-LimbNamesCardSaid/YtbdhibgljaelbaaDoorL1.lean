/- Plain reckoning of limb programs: what may be, how many events a run has, ends, a run; no program in it. -/
import Derived.Test.YtbdhibgljaelbaaDoorG1
namespace Go.Proofs.YtbdhibgljaelbaaDoor
open Go Go.RowKit
namespace Lb
open Wd Nt Gr
set_option linter.unusedVariables false
set_option linter.unusedSimpArgs false
/-- an operation -/
structure Op where
  k : Int
  d : Int
  e : Int
  a : Int
  b : Int
  c : Int
  bf : Int
  im : Int
structure Op.wf (o : Op) : Prop where
  k : I64 o.k
  d : I64 o.d
  e : I64 o.e
  a : I64 o.a
  b : I64 o.b
  c : I64 o.c
  bf : I64 o.bf
  im : W o.im
def Op.vs (o : Op) : List Value := [.int .i64 o.k, .int .i64 o.d, .int .i64 o.e, .int .i64 o.a, .int .i64 o.b, .int .i64 o.c, .int .i64 o.bf, .int .u64 o.im]
instance : Sh Op := ⟨Op.vs, 8, fun _ => rfl, fun o v hv => by
  unfold Op.vs at hv
  simp only [List.mem_cons, List.not_mem_nil, or_false] at hv
  rcases hv with rfl | rfl | rfl | rfl | rfl | rfl | rfl | rfl <;> rfl, by decide⟩
/-- a buffer -/
structure Bf where
  sz : Int
  kd : Int
  sec : Bool
structure Bf.wf (b : Bf) : Prop where
  sz : I64 b.sz
  kd : I64 b.kd
def Bf.vs (b : Bf) : List Value := [.int .i64 b.sz, .int .i64 b.kd, .bool b.sec]
instance : Sh Bf := ⟨Bf.vs, 3, fun _ => rfl, fun o v hv => by
  unfold Bf.vs at hv
  simp only [List.mem_cons, List.not_mem_nil, or_false] at hv
  rcases hv with rfl | rfl | rfl <;> rfl, by decide⟩
/-- an event: the operation's number, the limb's place -/
abbrev Ev := Int × Int
def evV (e : Ev) : List Value := [.int .i64 e.1, .int .i64 e.2]
instance : Sh Ev := ⟨evV, 2, fun _ => rfl, fun o v hv => by
  unfold evV at hv
  simp only [List.mem_cons, List.not_mem_nil, or_false] at hv
  rcases hv with rfl | rfl <;> rfl, by decide⟩
/-- a program -/
structure Pg where
  rg : Int
  bf : List Bf
  op : List Op
structure Pg.wf (p : Pg) : Prop where
  rg : I64 p.rg
  bf : ∀ b ∈ p.bf, b.wf
  op : ∀ o ∈ p.op, o.wf
/-! ### what an operation must have -/
def mm (k : Int) : Bool := decide (k = 14) || decide (k = 15)
def hD (k : Int) : Bool := !(decide (k = 15) || decide (k = 17))
def hE (k : Int) : Bool := decide (10 ≤ k) && decide (k ≤ 12)
def hA (k : Int) : Bool := !(decide (k = 1) || decide (k = 16) || decide (k = 17))
def hB (k : Int) : Bool := (decide (3 ≤ k) && decide (k ≤ 7)) || (decide (10 ≤ k) && decide (k ≤ 13)) || decide (k = 15)
def hC (k : Int) : Bool := decide (11 ≤ k) && decide (k ≤ 13)
def rOk (has : Bool) (r regs : Int) : Bool := if has then decide (0 ≤ r) && decide (r < regs) else decide (r = -1)
def leI (k : Int) : Int := if k = 8 ∨ k = 9 ∨ k = 16 then 1 else 0
def moI (k : Int) : Int := if k = 1 ∨ k = 14 ∨ k = 15 then 18446744073709551615 else if k = 8 ∨ k = 9 then 63 else if k = 16 then 1048576 else 0
def nob : Bf := ⟨0, 0, false⟩
def bfAt (bufs : List Bf) (i : Int) : Bf := (bufs[i.toNat]?).getD nob
/-- registers: e two made, m a place in a buffer -/
def rgOk (hd he ha hb hc m : Bool) (regs : Int) (o : Op) : Bool := !(he && decide (o.d = o.e)) && (rOk hd o.d regs && rOk he o.e regs && ((m && decide (o.a = -1)) || rOk (ha || m) o.a regs) && rOk hb o.b regs && rOk hc o.c regs)
def plOk (m : Bool) (bufs : List Bf) (o : Op) : Bool :=
  if m then decide (0 ≤ o.bf) && decide (o.bf < bufs.length) && !(decide (o.k = 15) && decide ((bfAt bufs o.bf).kd = 1)) && (!decide (o.a = -1) || decide (o.im < (bfAt bufs o.bf).sz)) else decide (o.bf = 0)
def opOk (regs : Int) (bufs : List Bf) (o : Op) : Bool :=
  decide (1 ≤ o.k) && decide (o.k ≤ 17) && (rgOk (hD o.k) (hE o.k) (hA o.k) (hB o.k) (hC o.k) (mm o.k) regs o && plOk (mm o.k) bufs o && decide (leI o.k ≤ o.im) && decide (o.im ≤ moI o.k))
/-! ### what stands ahead -/
structure Ah where
  md : Nat → Bool
  lp : List Int
def ah0 : Ah := ⟨fun _ => false, []⟩
def hasR (mk : Nat → Bool) (r : Int) : Bool := decide (r = -1) || mk r.toNat
def setR (mk : Nat → Bool) (r : Int) (v : Bool) : Nat → Bool := fun i => if r ≠ -1 ∧ i = r.toNat then v else mk i
def misP (s : Ah) (o : Op) : Bool := if o.k = 17 then s.lp.isEmpty else if o.k = 16 then hasR s.md o.d else s.lp.contains o.d || s.lp.contains o.e
def fltO (regs : Int) (bufs : List Bf) (s : Ah) (o : Op) : Int :=
  if opOk regs bufs o = false then 2 else if misP s o then 9 else if o.k = 16 ∧ s.lp.length = 8 then 10
  else if hasR s.md o.a && hasR s.md o.b && hasR s.md o.c then 0 else 5
def adv (s : Ah) (o : Op) : Ah :=
  if o.k = 17 then ⟨setR s.md (s.lp.getLast?.getD (-1)) false, s.lp.dropLast⟩
  else ⟨setR (setR s.md o.d true) o.e true, if o.k = 16 then s.lp ++ [o.d] else s.lp⟩
def chkG (regs : Int) (bufs : List Bf) : List Op → Ah → Nat → Nat × Int
  | [], s, n => (n, if s.lp.isEmpty then 0 else 9)
  | o :: ops, s, n => if fltO regs bufs s o ≠ 0 then (n, fltO regs bufs s o) else chkG regs bufs ops (adv s o) (n + 1)
def longB (b : Bf) : Bool := decide (65536 < b.sz)
def wrongB (b : Bf) : Bool := decide (b.sz ≤ 0) || decide (b.kd < 1) || decide (3 < b.kd)
def refP (p : Pg) : Int :=
  if decide (64 < p.rg) || decide (32 < p.bf.length) || decide (65536 < p.op.length) || p.bf.any longB then 3
  else if decide (p.rg < 0) || p.bf.any wrongB then 2 else 0
def chkP (p : Pg) : Nat × Int := if refP p ≠ 0 then (0, refP p) else chkG p.rg p.bf p.op ah0 0
/-! ### how many events -/
def capN (n : Nat) : Nat := min n 1125899906842624
/-- open loops, the innermost first: how often, and how many events so far -/
def evO (fr : List (Nat × Nat)) (o : Op) : List (Nat × Nat) :=
  if o.k = 16 then (o.im.toNat, 1) :: fr
  else if o.k = 17 then match fr with
    | (t, e) :: (t', e') :: r => (t', capN (e' + capN (e * t))) :: r
    | fr => fr
  else match fr with
    | (t, e) :: r => (t, capN (e + 1)) :: r
    | fr => fr
def evF (ops : List Op) : List (Nat × Nat) := ops.foldl evO [(1, 0)]
def evP (ops : List Op) : Nat := ((evF ops).getLast?.getD (1, 0)).2
def stepsP (p : Pg) : Nat := if (chkP p).2 = 0 then evP p.op else 0
/-! ### ends: numbers so far, loops without an end -/
def enO (s : List Int × List Nat) (o : Op) : List Int × List Nat :=
  if o.k = 16 then (s.1 ++ [-1], s.2 ++ [s.1.length])
  else if o.k = 17 then ((s.1 ++ [((s.2.getLast?.getD 0 : Nat) : Int)]).set (s.2.getLast?.getD 0) ((s.1.length : Nat) : Int), s.2.dropLast)
  else (s.1 ++ [-1], s.2)
def enF (ops : List Op) : List Int × List Nat := ops.foldl enO ([], [])
def enP (ops : List Op) : List Int := (enF ops).1
/-! ### a run -/
structure St where
  at_ : Nat
  rg : Nat → Int
  rows : List (List Int)
  seen : List Ev
def hld (rg : Nat → Int) (r : Int) : Int := if r = -1 then 0 else rg r.toNat
def put (rg : Nat → Int) (r : Int) (v : Int) : Nat → Int := fun i => if r ≠ -1 ∧ i = r.toNat then v else rg i
def odd (c : Int) : Bool := decide (c % 2 = 1)
def resD (k im a b c : Int) : Int :=
  if k = 1 then im else if k = 2 then a else if k = 3 then (a + b) % 18446744073709551616 else if k = 4 then (a - b) % 18446744073709551616
  else if k = 5 then bits .and .u64 a b else if k = 6 then bits .or .u64 a b else if k = 7 then bits .xor .u64 a b
  else if k = 8 then a * 2 ^ im.toNat % 18446744073709551616 else if k = 9 then a / 2 ^ im.toNat
  else if k = 10 then mulH a b else if k = 11 then add a b (odd c) else if k = 12 then sub a b (odd c)
  else if odd c then a else b
def resE (k a b c : Int) : Int := if k = 10 then mulL a b else if k = 11 then b1 (addO a b (odd c)) else if k = 12 then b1 (subO a b (odd c)) else 0
def rowAt (rows : List (List Int)) (i : Int) : List Int := (rows[i.toNat]?).getD []
def opAt (ops : List Op) (i : Nat) : Op := (ops[i]?).getD ⟨0, 0, 0, 0, 0, 0, 0, 0⟩
def enAt (ends : List Int) (i : Nat) : Int := (ends[i]?).getD 0
def turnS (ops : List Op) (l : Nat) (t : Int) (s : St) : St := ⟨l + 1, put s.rg (opAt ops l).d t, s.rows, s.seen ++ [((l : Int), -1)]⟩
/-- one step; none: a limb that there is not -/
def stp (ops : List Op) (ends : List Int) (s : St) : Option St :=
  let o := opAt ops s.at_
  if o.k = 16 then some (turnS ops s.at_ 0 s)
  else if o.k = 17 then
    let l := (enAt ends s.at_).toNat
    let t := (s.rg (opAt ops l).d.toNat + 1) % 18446744073709551616
    if t < (opAt ops l).im then some (turnS ops l t s) else some { s with at_ := s.at_ + 1 }
  else if mm o.k then
    let q := (o.im + hld s.rg o.a) % 18446744073709551616
    let row := rowAt s.rows o.bf
    if (row.length : Int) ≤ q then none
    else if o.k = 15 then some ⟨s.at_ + 1, s.rg, s.rows.set o.bf.toNat (row.set q.toNat (s.rg o.b.toNat)), s.seen ++ [((s.at_ : Int), q)]⟩
    else some ⟨s.at_ + 1, put s.rg o.d (Nt.at_ row q.toNat), s.rows, s.seen ++ [((s.at_ : Int), q)]⟩
  else some ⟨s.at_ + 1, put (put s.rg o.d (resD o.k o.im (hld s.rg o.a) (hld s.rg o.b) (hld s.rg o.c))) o.e (resE o.k (hld s.rg o.a) (hld s.rg o.b) (hld s.rg o.c)), s.rows, s.seen ++ [((s.at_ : Int), -1)]⟩
/-- a run of at most n steps: how it ends (true: without a fault) -/
def runF (ops : List Op) (ends : List Int) : Nat → St → Option (Bool × St)
  | 0, _ => none
  | n + 1, s => if s.at_ < ops.length then (match stp ops ends s with
      | none => some (false, s)
      | some s' => runF ops ends n s') else some (true, s)
/-- that a run from s ends so -/
def Runs (ops : List Op) (ends : List Int) (s : St) (r : Bool × St) : Prop := ∃ n, runF ops ends n s = some r
def fitB (b : Bf) (row : List Int) : Bool := if b.kd = 3 then row.isEmpty else decide ((row.length : Int) = b.sz)
def fitP : List Bf → List (List Int) → Bool
  | [], [] => true
  | b :: bs, r :: rs => fitB b r && fitP bs rs
  | _, _ => false
/-- a row as it is at first -/
def row0 (b : Bf) (row : List Int) : List Int := row.take b.sz.toNat ++ List.replicate (b.sz.toNat - row.length) 0
def rows0 : List Bf → List (List Int) → List (List Int)
  | b :: bs, r :: rs => row0 b r :: rows0 bs rs
  | _, _ => []
def st0 (p : Pg) (h : List (List Int)) : St := ⟨0, fun _ => 0, rows0 p.bf h, []⟩
/-- what Run answers -/
structure Ans where
  out : List (List Int)
  ev : List Ev
  er : Int
/-- that p, over rows h, is answered so -/
def RunP (p : Pg) (h : List (List Int)) (r : Ans) : Prop :=
  if (chkP p).2 ≠ 0 then r = ⟨[], [], (chkP p).2⟩
  else if 16777216 < evP p.op then r = ⟨[], [], 10⟩
  else if fitP p.bf h = false then r = ⟨[], [], 2⟩
  else ∃ f s, Runs p.op (enP p.op) (st0 p h) (f, s) ∧ r = (if f then ⟨s.rows, s.seen, 0⟩ else ⟨[], s.seen, 11⟩)
end Lb
end Go.Proofs.YtbdhibgljaelbaaDoor
