/- The law at what came in, over what the program answers. -/
import Derived.Test.YtaabcllghniaoaaDoorRT
import Derived.Test.YtaabcllghniaoaaDoorRU
import Derived.Test.YtaabcllghniaoaaDoorLX
import Derived.Test.YtaabcllghniaoaaDoorWJ
namespace Go.Proofs.YtaabcllghniaoaaDoor
open Go Go.RowKit
theorem cexact_row {a : Option Addr} {len cap : Nat} {l : List Tk} {w : World} (e : len = l.length) (h : Toks w a cap l) (hT : TU w) : Calls Tryd.prog 3 #[.slice a len cap] w fun e w' => e = .returned (.bool true) ∧ Below w.heap.size w w' := by
  subst e
  exact cexact_is wcbor hT h
end Go.Proofs.YtaabcllghniaoaaDoor
