/- What the walks lean on. -/
import Derived.Test.YtofoihebhdpjlaaDoorRows
import Derived.Test.YtofoihebhdpjlaaDoorK2
import Derived.WalkKit
import Derived.WalkSpells
import Derived.WalkLawsBesides
import Derived.Deep.QuietTactic
import Derived.Deep.DeepCutAuto
import Derived.Deep.DrawnRows
import Derived.Laws.BitsAllLaws
namespace Go.Proofs.YtofoihebhdpjlaaDoor
open Go.RowKit
theorem wrap_small (x : Nat) (h : x < 18446744073709551616) : IntKind.u64.wrap (x : Int) = (x : Int) := by
  simp [IntKind.wrap, IntKind.bits, IntKind.signed]; omega
end Go.Proofs.YtofoihebhdpjlaaDoor
