/- The law at what came in, over what the program answers. -/
import Derived.Test.YtaabcllghniaoabDoorRT
import Derived.Test.YtaabcllghniaoabDoorRU
import Derived.Test.YtaabcllghniaoabDoorLL
import Derived.Test.YtaabcllghniaoabDoorWJ
namespace Go.Proofs.YtaabcllghniaoabDoor
open Go Go.RowKit
theorem clongest_row {n : Int} {w : World} (_ : (Lit.int .i64 n).wf = true) (hT : TU w) : Calls Tryd.prog 6 #[.int .i64 n] w fun e w' => e = .returned (.bool true) ∧ Below w.heap.size w w' :=
  clongest_is wcbor hT
end Go.Proofs.YtaabcllghniaoabDoor
