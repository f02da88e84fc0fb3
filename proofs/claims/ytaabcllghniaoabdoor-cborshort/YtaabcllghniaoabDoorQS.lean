/- The law at what came in, over what the program answers. -/
import Derived.Test.YtaabcllghniaoabDoorRT
import Derived.Test.YtaabcllghniaoabDoorRU
import Derived.Test.YtaabcllghniaoabDoorLS
import Derived.Test.YtaabcllghniaoabDoorWJ
namespace Go.Proofs.YtaabcllghniaoabDoor
open Go Go.RowKit
theorem cshort_row {a : Option Addr} {len cap : Nat} {l : List Tk} {n : Int} {w : World} (e : len = l.length) (h : Toks w a cap l) (_ : (Lit.int .i64 n).wf = true) (hT : TU w) : Calls Tryd.prog 8 #[.slice a len cap, .int .i64 n] w fun e w' => e = .returned (.bool true) ∧ Below w.heap.size w w' := by
  subst e
  exact cshort_is wcbor hT h
end Go.Proofs.YtaabcllghniaoabDoor
