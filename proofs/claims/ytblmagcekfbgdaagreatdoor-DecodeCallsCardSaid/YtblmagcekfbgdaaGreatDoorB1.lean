/- Plain reckoning of instructions: their forms, which may be, what they take and make; no program in it. | An instruction's cells. -/
import Derived.Test.YtblmagcekfbgdaaGreatDoorA1
namespace Go.Proofs.YtblmagcekfbgdaaGreatDoor
open Go Go.RowKit
namespace Is
set_option linter.unusedVariables false
/-- an instruction: its operation, registers, place (base, index, scale, displacement), number -/
structure Ins where
  op : Int
  d : Int
  s : Int
  t : Int
  b : Int
  x : Int
  sc : Int
  di : Int
  im : Int
def I64 (z : Int) : Prop := -9223372036854775808 ≤ z ∧ z ≤ 9223372036854775807
structure Ins.wf (i : Ins) : Prop where
  op : I64 i.op
  d : I64 i.d
  s : I64 i.s
  t : I64 i.t
  b : I64 i.b
  x : I64 i.x
  sc : I64 i.sc
  di : I64 i.di
  im : I64 i.im
def Ins.vs (i : Ins) : Array Value := #[.int .i64 i.op, .int .i64 i.d, .int .i64 i.s, .int .i64 i.t, .int .i64 i.b, .int .i64 i.x, .int .i64 i.sc, .int .i64 i.di, .int .i64 i.im]
inductive Fm where
  | ds | di | dm | sm | dj | dst | d | db | s | j | r | no
  deriving DecidableEq
def formOf (op : Int) : Fm :=
  if op = 1 ∨ (6 ≤ op ∧ op ≤ 14) ∨ op = 20 ∨ op = 21 ∨ op = 26 ∨ op = 27 then .ds
  else if op = 2 then .di else if op = 3 ∨ op = 5 then .dm else if op = 4 then .sm
  else if 15 ≤ op ∧ op ≤ 18 then .dj else if op = 19 then .dst
  else if op = 22 ∨ op = 23 ∨ op = 29 then .d else if op = 24 ∨ op = 25 then .db
  else if op = 28 then .s else if op = 30 ∨ op = 31 ∨ op = 32 then .j else if op = 33 then .r else .no
def Fm.str : Fm → ByteArray
  | .ds => ⟨#[68, 83]⟩ | .di => ⟨#[68, 73]⟩ | .dm => ⟨#[68, 77]⟩ | .sm => ⟨#[83, 77]⟩ | .dj => ⟨#[68, 105]⟩ | .dst => ⟨#[68, 83, 84]⟩
  | .d => ⟨#[68]⟩ | .db => ⟨#[68, 98]⟩ | .s => ⟨#[83]⟩ | .j => ⟨#[105]⟩ | .r => ⟨#[45]⟩ | .no => ⟨#[]⟩
theorem op_cases (op : Int) : op = 1 ∨ op = 2 ∨ op = 3 ∨ op = 4 ∨ op = 5 ∨ op = 6 ∨ op = 7 ∨ op = 8 ∨ op = 9 ∨ op = 10 ∨ op = 11 ∨ op = 12 ∨ op = 13 ∨ op = 14 ∨ op = 15 ∨ op = 16 ∨ op = 17 ∨ op = 18 ∨ op = 19 ∨ op = 20 ∨ op = 21 ∨ op = 22 ∨ op = 23 ∨ op = 24 ∨ op = 25 ∨ op = 26 ∨ op = 27 ∨ op = 28 ∨ op = 29 ∨ op = 30 ∨ op = 31 ∨ op = 32 ∨ op = 33 ∨ (op < 1 ∨ 33 < op) := by omega
theorem ops_out {op : Int} (h : op < 1 ∨ 33 < op) : (op == 1) = false ∧ (op == 2) = false ∧ (op == 3) = false ∧ (op == 4) = false ∧ (op == 5) = false ∧ (op == 6) = false ∧ (op == 7) = false ∧ (op == 8) = false ∧ (op == 9) = false ∧ (op == 10) = false ∧ (op == 11) = false ∧ (op == 12) = false ∧ (op == 13) = false ∧ (op == 14) = false ∧ (op == 15) = false ∧ (op == 16) = false ∧ (op == 17) = false ∧ (op == 18) = false ∧ (op == 19) = false ∧ (op == 20) = false ∧ (op == 21) = false ∧ (op == 22) = false ∧ (op == 23) = false ∧ (op == 24) = false ∧ (op == 25) = false ∧ (op == 26) = false ∧ (op == 27) = false ∧ (op == 28) = false ∧ (op == 29) = false ∧ (op == 30) = false ∧ (op == 31) = false ∧ (op == 32) = false ∧ (op == 33) = false := by
  refine ⟨?_, ?_, ?_, ?_, ?_, ?_, ?_, ?_, ?_, ?_, ?_, ?_, ?_, ?_, ?_, ?_, ?_, ?_, ?_, ?_, ?_, ?_, ?_, ?_, ?_, ?_, ?_, ?_, ?_, ?_, ?_, ?_, ?_⟩ <;> (rw [beq_eq_false_iff_ne]; omega)
def regB (r : Int) : Bool := decide (0 ≤ r) && decide (r ≤ 15)
def smallB (n : Int) : Bool := decide (-2147483648 ≤ n) && decide (n < 2147483648)
def scB (n : Int) : Bool := decide (n = 1) || decide (n = 2) || decide (n = 4) || decide (n = 8)
/-- a place that may be -/
def plB (i : Ins) : Bool := regB i.b && smallB i.di && (if i.x = -1 then decide (i.sc = 1) else regB i.x && decide (i.x ≠ 4) && scB i.sc)
/-- no place -/
def plZ (i : Ins) : Bool := decide (i.b = 0) && decide (i.x = 0) && decide (i.sc = 0) && decide (i.di = 0)
def zB (z : Int) : Bool := decide (z = 0)
def okF (i : Ins) : Fm → Bool
  | .ds => regB i.d && regB i.s && zB i.t && plZ i && zB i.im
  | .di => regB i.d && zB i.s && zB i.t && plZ i
  | .dm => regB i.d && zB i.s && zB i.t && plB i && zB i.im
  | .sm => zB i.d && regB i.s && zB i.t && plB i && zB i.im
  | .dj => regB i.d && zB i.s && zB i.t && plZ i && smallB i.im
  | .dst => regB i.d && regB i.s && (regB i.t && decide (i.d ≠ i.s)) && plZ i && zB i.im
  | .d => regB i.d && zB i.s && zB i.t && plZ i && zB i.im
  | .db => regB i.d && zB i.s && zB i.t && plZ i && (decide (1 ≤ i.im) && decide (i.im ≤ 63))
  | .s => zB i.d && regB i.s && zB i.t && plZ i && zB i.im
  | .j => zB i.d && zB i.s && zB i.t && plZ i && smallB i.im
  | .r => zB i.d && zB i.s && zB i.t && plZ i && zB i.im
  | .no => false
def okI (i : Ins) : Bool := okF i (formOf i.op)
def chk (i : Ins) : Int := if okI i then 0 else 2
/-- whether a register is among those that a form and an operation take -/
def rdF (i : Ins) (r : Int) : Fm → Bool
  | .ds => decide (r = i.s) || (decide (r = i.d) && !decide (i.op = 1))
  | .di => false
  | .dm => decide (r = i.b) || (decide (r = i.x) && !decide (i.x = -1))
  | .sm => decide (r = i.s) || decide (r = i.b) || (decide (r = i.x) && !decide (i.x = -1))
  | .dj => decide (r = i.d)
  | .dst => decide (r = i.t) || decide (r = 2)
  | .d => if i.op = 29 then decide (r = 4) else decide (r = i.d)
  | .db => decide (r = i.d)
  | .s => decide (r = i.s) || decide (r = 4)
  | .j => false
  | .r => decide (r = 4)
  | .no => false
def wrF (i : Ins) (r : Int) : Fm → Bool
  | .ds => decide (r = i.d) && !(decide (i.op = 13) || decide (i.op = 14))
  | .di => decide (r = i.d)
  | .dm => decide (r = i.d)
  | .sm => false
  | .dj => decide (r = i.d) && !decide (i.op = 18)
  | .dst => decide (r = i.d) || decide (r = i.s)
  | .d => decide (r = i.d) || (decide (r = 4) && decide (i.op = 29))
  | .db => decide (r = i.d)
  | .s => decide (r = 4)
  | .j => false
  | .r => decide (r = 4)
  | .no => false
def regL (p : Int → Bool) : List Int := ((List.range 16).map fun (k : Nat) => (k : Int)).filter p
def rdL (i : Ins) : List Int := if okI i then regL (fun r => rdF i r (formOf i.op)) else []
def wrL (i : Ins) : List Int := if okI i then regL (fun r => wrF i r (formOf i.op)) else []
def frO (op : Int) : Int := if op = 7 ∨ op = 9 ∨ op = 20 ∨ op = 26 ∨ op = 32 then 1 else if op = 21 then 2 else if op = 27 ∨ op = 31 then 4 else 0
def fwO (op : Int) : Int := if (6 ≤ op ∧ op ≤ 18) ∨ op = 22 then 7 else if op = 24 ∨ op = 25 then 5 else if op = 20 then 1 else if op = 21 then 2 else 0
def fr (i : Ins) : Int := if okI i then frO i.op else 0
def fw (i : Ins) : Int := if okI i then fwO i.op else 0
def jmpB (i : Ins) : Bool := okI i && (decide (i.op = 30) || decide (i.op = 31) || decide (i.op = 32))
def nameL (op : Int) : List UInt8 :=
  if op = 1 ∨ op = 2 ∨ op = 3 ∨ op = 4 then [109, 111, 118] else if op = 5 then [108, 101, 97] else if op = 6 ∨ op = 15 then [97, 100, 100]
  else if op = 7 then [97, 100, 99] else if op = 8 ∨ op = 17 then [115, 117, 98] else if op = 9 then [115, 98, 98] else if op = 10 ∨ op = 16 then [97, 110, 100]
  else if op = 11 then [111, 114] else if op = 12 then [120, 111, 114] else if op = 13 ∨ op = 18 then [99, 109, 112] else if op = 14 then [116, 101, 115, 116]
  else if op = 19 then [109, 117, 108, 120] else if op = 20 then [97, 100, 99, 120] else if op = 21 then [97, 100, 111, 120] else if op = 22 then [110, 101, 103]
  else if op = 23 then [110, 111, 116] else if op = 24 then [115, 104, 108] else if op = 25 then [115, 104, 114] else if op = 26 then [99, 109, 111, 118, 99]
  else if op = 27 then [99, 109, 111, 118, 110, 122] else if op = 28 then [112, 117, 115, 104] else if op = 29 then [112, 111, 112] else if op = 30 then [106, 109, 112]
  else if op = 31 then [106, 110, 122] else if op = 32 then [106, 99] else if op = 33 then [114, 101, 116] else []
def nameS (op : Int) : ByteArray := ⟨(nameL op).toArray⟩
def regTab : List (List UInt8) := [[114, 97, 120], [114, 99, 120], [114, 100, 120], [114, 98, 120], [114, 115, 112], [114, 98, 112], [114, 115, 105], [114, 100, 105], [114, 56], [114, 57], [114, 49, 48], [114, 49, 49], [114, 49, 50], [114, 49, 51], [114, 49, 52], [114, 49, 53]]
def regS (r : Int) : ByteArray := if 0 ≤ r ∧ r ≤ 15 then ⟨((regTab[r.toNat]?).getD []).toArray⟩ else ⟨#[]⟩
end Is
end Go.Proofs.YtblmagcekfbgdaaGreatDoor
namespace Go.Proofs.YtblmagcekfbgdaaGreatDoor
open Go Go.RowKit
namespace Is
open Nt
set_option linter.unusedVariables false
theorem c9 {w : World} {I : Nat} {op d s t b x sc di im : Int} (h : Bk w I 26 #[.int .i64 op, .int .i64 d, .int .i64 s, .int .i64 t, .int .i64 b, .int .i64 x, .int .i64 sc, .int .i64 di, .int .i64 im]) : w.cell? ⟨I, 0, none⟩ = some (.int .i64 op) ∧ w.cell? ⟨I, 1, none⟩ = some (.int .i64 d) ∧ w.cell? ⟨I, 2, none⟩ = some (.int .i64 s) ∧ w.cell? ⟨I, 3, none⟩ = some (.int .i64 t) ∧ w.cell? ⟨I, 4, none⟩ = some (.int .i64 b) ∧ w.cell? ⟨I, 5, none⟩ = some (.int .i64 x) ∧ w.cell? ⟨I, 6, none⟩ = some (.int .i64 sc) ∧ w.cell? ⟨I, 7, none⟩ = some (.int .i64 di) ∧ w.cell? ⟨I, 8, none⟩ = some (.int .i64 im) := ⟨h.cell 0, h.cell 1, h.cell 2, h.cell 3, h.cell 4, h.cell 5, h.cell 6, h.cell 7, h.cell 8⟩
end Is
end Go.Proofs.YtblmagcekfbgdaaGreatDoor
