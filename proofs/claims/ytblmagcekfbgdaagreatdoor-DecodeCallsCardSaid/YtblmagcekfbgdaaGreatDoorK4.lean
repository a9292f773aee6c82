/- The document's own bytes: a place's. -/
import Derived.Test.YtblmagcekfbgdaaGreatDoorK30
import Derived.Test.YtblmagcekfbgdaaGreatDoorK31
import Derived.Test.YtblmagcekfbgdaaGreatDoorK32
namespace Go.Proofs.YtblmagcekfbgdaaGreatDoor
open Go Go.RowKit
namespace Is
open Nt
set_option linter.unusedVariables false
set_option linter.unusedSimpArgs false
theorem plc_c (i : Ins) (m : Int) (hm : R16 m) (p : Pl i) (w : World) : Calls Tryz.prog 56 #[.int .i64 m, .agg #[.int .i64 i.b, .int .i64 i.x, .int .i64 i.sc, .int .i64 i.di]] w (RowB (plcL m i) w) := by
  obtain ⟨op, d, s, t, b, x, sc, di, im⟩ := i
  obtain ⟨hb, hD, hx⟩ := p
  dsimp only at *
  by_cases c0 : di = 0 ∧ b % 8 ≠ 5
  · obtain ⟨rfl, h5⟩ := c0
    rcases hx with ⟨rfl, rfl⟩ | ⟨hx, _, rfl | rfl | rfl | rfl⟩
    · by_cases h4 : b % 8 = 4
      · exact place_0m op d s t m b im hm hb h5 h4 w
      · exact place_0n op d s t m b im hm hb h5 h4 w
    · exact place_0r1 op d s t m b x im hm hb h5 hx w
    · exact place_0r2 op d s t m b x im hm hb h5 hx w
    · exact place_0r4 op d s t m b x im hm hb h5 hx w
    · exact place_0r8 op d s t m b x im hm hb h5 hx w
  · by_cases c1 : -128 ≤ di ∧ di < 128
    · rcases hx with ⟨rfl, rfl⟩ | ⟨hx, _, rfl | rfl | rfl | rfl⟩
      · by_cases h4 : b % 8 = 4
        · exact place_1m op d s t m b di im hm hb c0 c1 h4 w
        · exact place_1n op d s t m b di im hm hb c0 c1 h4 w
      · exact place_1r1 op d s t m b x di im hm hb c0 c1 hx w
      · exact place_1r2 op d s t m b x di im hm hb c0 c1 hx w
      · exact place_1r4 op d s t m b x di im hm hb c0 c1 hx w
      · exact place_1r8 op d s t m b x di im hm hb c0 c1 hx w
    · rcases hx with ⟨rfl, rfl⟩ | ⟨hx, _, rfl | rfl | rfl | rfl⟩
      · by_cases h4 : b % 8 = 4
        · exact place_2m op d s t m b di im hm hb c1 hD h4 w
        · exact place_2n op d s t m b di im hm hb c1 hD h4 w
      · exact place_2r1 op d s t m b x di im hm hb c1 hD hx w
      · exact place_2r2 op d s t m b x di im hm hb c1 hD hx w
      · exact place_2r4 op d s t m b x di im hm hb c1 hD hx w
      · exact place_2r8 op d s t m b x di im hm hb c1 hD hx w
end Is
end Go.Proofs.YtblmagcekfbgdaaGreatDoor
