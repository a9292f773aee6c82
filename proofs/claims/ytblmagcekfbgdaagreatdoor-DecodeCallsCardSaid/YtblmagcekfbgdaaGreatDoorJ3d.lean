/- The landed package inst: whether an instruction fits a form. -/
import Derived.Test.YtblmagcekfbgdaaGreatDoorJ3a
import Derived.Test.YtblmagcekfbgdaaGreatDoorJ3b
import Derived.Test.YtblmagcekfbgdaaGreatDoorJ3c
namespace Go.Proofs.YtblmagcekfbgdaaGreatDoor
open Go Go.RowKit Go.Sort
namespace Is
open Nt
set_option linter.unusedVariables false
set_option linter.unusedSimpArgs false
theorem fits_l (nm : ByteArray) (pt nu ft fm : Int) (k : Fin 4) (hk : (k.val : Int) = nu) (i : Ins) (hi : i.wf) (w : World) : Calls Tryz.prog 76 #[.agg #[.string nm, .int .u16 pt, .int .i64 nu, .int .i64 ft, .int .i64 fm], .agg i.vs] w fun e w' => e = .returned (.bool (fitB pt nu i)) ∧ Grw w w' := by
  cases q2 : hpB pt 2 with
  | false => exact fits_a nm pt nu ft fm k hk i hi q2 w
  | true =>
    cases q8 : hpB pt 8 with
    | false => exact fits_b nm pt nu ft fm k hk i hi q2 q8 w
    | true =>
      by_cases hds : i.d = i.s
      · exact fits_d nm pt nu ft fm k hk i hi q2 q8 hds w
      · exact fits_c nm pt nu ft fm k hk i hi q2 q8 hds w
end Is
end Go.Proofs.YtblmagcekfbgdaaGreatDoor
