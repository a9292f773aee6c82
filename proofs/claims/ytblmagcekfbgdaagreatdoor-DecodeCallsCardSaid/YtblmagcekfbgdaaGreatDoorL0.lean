/- The document's own bytes: what its operations share. -/
import Derived.Test.YtblmagcekfbgdaaGreatDoorK4
import Derived.Test.YtblmagcekfbgdaaGreatDoorG3
import Derived.Test.YtblmagcekfbgdaaGreatDoorB1
import Derived.Deep.RegionHeld3
namespace Go.Proofs.YtblmagcekfbgdaaGreatDoor
open Go Go.RowKit
namespace Is
open Nt
set_option linter.unusedVariables false
set_option linter.unusedSimpArgs false
theorem plc_len (m : Int) (i : Ins) : (plcL m i).length ≤ 8 := by
  unfold plcL
  simp only [List.length_cons, List.length_append, ltl_len]
  have h1 : (sibL i).length ≤ 1 := by unfold sibL; split <;> simp
  have h2 : dnI i ≤ 4 := by unfold dnI; split <;> (try split) <;> omega
  omega
theorem Pl.rxx {i : Ins} (p : Pl i) : Rx i.x := ⟨p.hx.1, p.hx.2.1⟩
theorem r16_0 : R16 0 := by unfold R16; decide
theorem r16_2 : R16 2 := by unfold R16; decide
theorem r16_3 : R16 3 := by unfold R16; decide
theorem r16_4 : R16 4 := by unfold R16; decide
theorem r16_5 : R16 5 := by unfold R16; decide
theorem r16_7 : R16 7 := by unfold R16; decide
theorem rx_0 : Rx 0 := by unfold Rx; decide
/-- append, by its run, as a step of a region that draws -/
theorem step_append_eq {P : Program} {ops : Array Oper} {o : Oper} {a : Act} {w : World} {K : Act → World → Prop} {Q : Exit → Act → World → Prop} {E : Prop}
    (hg : o.guard = none) (s x : Operand) (t : TypeId) (hop : o.op = Op.call { callee := Callee.builtin Builtin.append, args := #[s, x], argTypes := #[t, t] })
    (v sx : Value) (hs : a.eval s = v) (hx : a.eval x = sx) (v' : Value) (w' : World) (hrun : (Builtin.append_ #[t, t] o.type #[v, sx]).run P w = .ok v' w') (hK : K (a.put o.dst v') w') :
    if Region.wanted o (yielded ops a.tmps) = true then Oper.wp P o a w K Q else E := by
  have hw : Region.wanted o (yielded ops a.tmps) = true := by simp [Region.wanted, hg]
  rw [if_pos hw]
  unfold Oper.wp execOp
  simp only [hop, resolve, invoke, builtin, Sem.run_bind, Sem.run_pure, Result.andThen_ok, List.map_toArray, List.map_cons, List.map_nil, hs, hx, hrun]
  exact hK
end Is
end Go.Proofs.YtblmagcekfbgdaaGreatDoor
