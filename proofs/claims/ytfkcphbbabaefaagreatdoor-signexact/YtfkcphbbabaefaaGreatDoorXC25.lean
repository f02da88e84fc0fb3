/- Of the texts W0, GC: what the card of this claim reaches. -/
import Derived.Test.YtfkcphbbabaefaaGreatDoorXC16
import Derived.Test.YtfkcphbbabaefaaGreatDoorXC3
import Derived.Test.YtfkcphbbabaefaaGreatDoorXC24
namespace Go.Proofs.YtfkcphbbabaefaaGreatDoor
open Go Go.RowKit
structure Crv (T : World → Prop) : Prop where
  keep : ∀ w w', T w → Below w.heap.size w w' → T w'
  check : ∀ (P : Pt E5) w, T w → Calls Tryz.prog 14 #[.agg (B32 (bdig (enc P)))] w fun x w' => x = .returned (.bool true) ∧ Below w.heap.size w w'
  check_not : ∀ a, a < R256 → (∀ P : Pt E5, enc P ≠ a) → ∀ w, T w → Calls Tryz.prog 14 #[.agg (B32 (bdig a))] w fun x w' => x = .returned (.bool false) ∧ Below w.heap.size w w'
  add : ∀ (P Q : Pt E5) w, T w → Calls Tryz.prog 30 #[.agg (B32 (bdig (enc P))), .agg (B32 (bdig (enc Q)))] w fun x w' => x = .returned (.tuple #[.agg (B32 (bdig (enc (P.add Q)))), .int .i64 0]) ∧ Below w.heap.size w w'
  add_not : ∀ a b, a < R256 → b < R256 → ((∀ P : Pt E5, enc P ≠ a) ∨ ∀ P : Pt E5, enc P ≠ b) → ∀ w, T w → Calls Tryz.prog 30 #[.agg (B32 (bdig a)), .agg (B32 (bdig b))] w fun x w' => x = .returned (.tuple #[.agg (B32 fun _ => 0), .int .i64 1]) ∧ Below w.heap.size w w'
  mul : ∀ n, n < R256 → ∀ (P : Pt E5) w, T w → Calls Tryz.prog 29 #[.agg (B32 (bdig n)), .agg (B32 (bdig (enc P)))] w fun x w' => x = .returned (.tuple #[.agg (B32 (bdig (enc (Pt.times n P)))), .int .i64 0]) ∧ Below w.heap.size w w'
  mul_not : ∀ n a, n < R256 → a < R256 → (∀ P : Pt E5, enc P ≠ a) → ∀ w, T w → Calls Tryz.prog 29 #[.agg (B32 (bdig n)), .agg (B32 (bdig a))] w fun x w' => x = .returned (.tuple #[.agg (B32 fun _ => 0), .int .i64 1]) ∧ Below w.heap.size w w'
  base : ∀ n, n < R256 → ∀ w, T w → Calls Tryz.prog 17 #[.agg (B32 (bdig n))] w fun x w' => x = .returned (.agg (B32 (bdig (enc (Pt.times n BP))))) ∧ Below w.heap.size w w'
end Go.Proofs.YtfkcphbbabaefaaGreatDoor
namespace Go.Proofs.YtfkcphbbabaefaaGreatDoor
open Go Go.RowKit
theorem crv : Crv TC where
  keep := fun _ _ h hB => h.keep hB
  check := fun P w hT => by
    obtain ⟨r, hr, -⟩ := rd_pt P
    exact check_ok rfl hr w hT
  check_not := fun _ ha h w hT => check_no ha h w hT
  add := fun P Q w hT => by
    obtain ⟨r, hr, hro⟩ := rd_pt P
    obtain ⟨s, hs, hso⟩ := rd_pt Q
    exact add_ok rfl rfl rfl hr hro hs hso w hT
  add_not := fun a b ha hb h w hT => by
    by_cases hP : ∃ P : Pt E5, enc P = a
    · obtain ⟨P, rfl⟩ := hP
      obtain ⟨r, hr, -⟩ := rd_pt P
      exact add_no2 rfl hr hb (h.resolve_left fun k => k P rfl) w hT
    · exact add_no1 ha (fun P e => hP ⟨P, e⟩) w hT
  mul := fun _ hn P w hT => by
    obtain ⟨r, hr, hro⟩ := rd_pt P
    exact mul_ok hn rfl rfl hr hro w hT
  mul_not := fun _ _ _ ha h w hT => mul_no ha h w hT
  base := fun _ hn w hT => base_ok hn rfl w hT
end Go.Proofs.YtfkcphbbabaefaaGreatDoor
