/- The landed package memory meets what is asked of it. -/
import Derived.Test.YtkgbpcfpppceiaaQ13
namespace Go.Proofs.Ytkgbpcfpppceiaa
open Go Go.RowKit
namespace Mm
open Wd Nt
set_option linter.unusedVariables false
theorem memC : MemC LndM := {
  keep := fun h hk ho => h.keep hk ho
  shape := fun h => h.shape
  new := fun A n c rs w h hc => new_c A n c rs w h hc
  check := fun A n c rs w h hc => check_c A n c rs w h hc
  load := fun p h hp => load_c p h hp
  store := fun p v h hp hv => store_c p v h hp hv
  bytes := fun p n h hp hn => bytes_c p n h hp hn
  regions := fun h => regions_c h
  clone := fun h => mclone_c h
  loadN := fun w p _ => loadN_c w p
  storeN := fun w p v _ _ => storeN_c w p v
  bytesN := fun w p n _ _ => bytesN_c w p n
  regionsN := fun w => regionsN_c w
  cloneN := fun w => cloneN_c w }
end Mm
end Go.Proofs.Ytkgbpcfpppceiaa
