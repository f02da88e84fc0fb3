/- The program's scalars keep their contracts. -/
import Derived.Test.YtofoihebhdpjlaaDoorS3
import Derived.Test.YtofoihebhdpjlaaDoorZ6T
namespace Go.Proofs.YtofoihebhdpjlaaDoor
open Go.RowKit
theorem scl : Scl TO where
  toSclT := sclt
  wide := fun a ha w hT => swide_fn a ha w hT
end Go.Proofs.YtofoihebhdpjlaaDoor
