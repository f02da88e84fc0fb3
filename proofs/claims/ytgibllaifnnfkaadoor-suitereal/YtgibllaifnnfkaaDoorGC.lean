/- The program's functions of points are what the contracts say. -/
import Derived.Test.YtgibllaifnnfkaaDoorG9
import Derived.Test.YtgibllaifnnfkaaDoorW0
namespace Go.Proofs.YtgibllaifnnfkaaDoor
open Go Go.RowKit
theorem crv : Crv TC where
  keep := fun _ _ h hB => h.keep hB
  add := fun P Q w hT => by
    obtain ⟨r, hr, hro⟩ := rd_pt P
    obtain ⟨s, hs, hso⟩ := rd_pt Q
    exact add_ok rfl rfl rfl hr hro hs hso w hT
  add_not := fun a b ha hb h w hT => by
    by_cases hP : ∃ P : Pt E5, enc P = a
    · obtain ⟨P, rfl⟩ := hP
      obtain ⟨r, hr, -⟩ := rd_pt P
      exact add_no2 rfl hr hb (h.resolve_left fun k => k P rfl) w hT
    · exact add_no1 ha (fun P e => hP ⟨P, e⟩) w hT
  mul := fun _ hn P w hT => by
    obtain ⟨r, hr, hro⟩ := rd_pt P
    exact mul_ok hn rfl rfl hr hro w hT
  mul_not := fun _ _ _ ha h w hT => mul_no ha h w hT
  base := fun _ hn w hT => base_ok hn rfl w hT
end Go.Proofs.YtgibllaifnnfkaaDoor
