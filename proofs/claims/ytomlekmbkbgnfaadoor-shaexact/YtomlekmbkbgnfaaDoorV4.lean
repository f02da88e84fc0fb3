/- The page's sum, as the laws' walks take it. -/
import Derived.Test.YtomlekmbkbgnfaaDoorV3
import Derived.Test.YtomlekmbkbgnfaaDoorL3
namespace Go.Proofs.YtomlekmbkbgnfaaDoor
theorem ref_all : RefAny := fun a cap m w h1 h2 h3 => ref_any a cap m w h1 h2 h3
end Go.Proofs.YtomlekmbkbgnfaaDoor
