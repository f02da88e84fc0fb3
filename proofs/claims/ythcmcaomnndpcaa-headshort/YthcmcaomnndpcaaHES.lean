/- The law at what came in, over what the program answers. -/
import Derived.Test.YthcmcaomnndpcaaRN
import Derived.Test.YthcmcaomnndpcaaHL3
import Derived.Test.YthcmcaomnndpcaaHP
namespace Go.Proofs.Ythcmcaomnndpcaa
open Go Go.RowKit
theorem hshort_row (x y z : Int) (w : World) : Calls Try.prog 5 #[.int .i64 x, .int .i64 y, .int .i64 z] w fun e w' => e = .returned (.bool true) ∧ Below w.heap.size w w' := hshort_is hed x y z w trivial
end Go.Proofs.Ythcmcaomnndpcaa
