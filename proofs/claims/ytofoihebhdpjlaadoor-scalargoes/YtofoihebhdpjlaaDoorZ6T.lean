/- The program's scalars keep their contracts: numbers of 32 bytes. -/
import Derived.Test.YtofoihebhdpjlaaDoorS3T
import Derived.Test.YtofoihebhdpjlaaDoorZ5
namespace Go.Proofs.YtofoihebhdpjlaaDoor
open Go.RowKit
theorem sclt : SclT TO where
  keep := fun _ _ h hB => h.keep hB
  check := fun a ha w hT => scheck_any a ha w hT
  mod := fun a ha w hT => smod_any a ha w hT
  muladd := fun a b c ha hb hc w hT => smuladd_any a b c ha hb hc w hT
end Go.Proofs.YtofoihebhdpjlaaDoor
