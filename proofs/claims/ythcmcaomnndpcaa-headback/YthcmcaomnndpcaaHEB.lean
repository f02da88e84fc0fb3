/- The law at what came in, over what the program answers. -/
import Derived.Test.YthcmcaomnndpcaaRN
import Derived.Test.YthcmcaomnndpcaaHL5
import Derived.Test.YthcmcaomnndpcaaHP
namespace Go.Proofs.Ythcmcaomnndpcaa
open Go Go.RowKit
theorem hback_row (x a b z : Int) (w : World) : Calls Try.prog 4 #[.int .i64 x, .int .i64 a, .int .i64 b, .int .i64 z] w fun e w' => e = .returned (.bool true) ∧ Below w.heap.size w w' := hback_is hed x a b z w trivial
end Go.Proofs.Ythcmcaomnndpcaa
