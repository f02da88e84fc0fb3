/- The law at what came in, over what the program answers. -/
import Derived.Test.YtaabcllghniaoaaDoorRT
import Derived.Test.YtaabcllghniaoaaDoorRU
import Derived.Test.YtaabcllghniaoaaDoorLN
import Derived.Test.YtaabcllghniaoaaDoorWJ
namespace Go.Proofs.YtaabcllghniaoaaDoor
open Go Go.RowKit
theorem cnests_row {p q : Int} {b : Bool} {w : World} (_ : (Lit.int .i64 p).wf = true) (_ : (Lit.int .i64 q).wf = true) (hT : TU w) : Calls Tryd.prog 7 #[.int .i64 p, .int .i64 q, .bool b] w fun e w' => e = .returned (.bool true) ∧ Below w.heap.size w w' :=
  cnests_is wcbor hT
end Go.Proofs.YtaabcllghniaoaaDoor
