/- The landed package memory meets what step asks of it. -/
import Derived.Test.YtikbnfhnimjmmaaGreatDoorS0
import Derived.Test.YtikbnfhnimjmmaaGreatDoorQ13
namespace Go.Proofs.YtikbnfhnimjmmaaGreatDoor
open Go Go.RowKit
namespace Mm
open Wd Nt
set_option linter.unusedVariables false
theorem memD : MemD LndM := {
  keep := fun h hk ho => h.keep hk ho
  shape := fun h => h.shape
  new := fun A n c rs w h hc => new_c A n c rs w h hc
  load := fun p h hp => load_c p h hp
  store := fun p v h hp hv => store_c p v h hp hv
  bytes := fun p n h hp hn => bytes_c p n h hp hn
  bytesN := fun w p n _ _ => bytesN_c w p n
  regions := fun h => regions_c h }
end Mm
end Go.Proofs.YtikbnfhnimjmmaaGreatDoor
