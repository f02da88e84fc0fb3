/- The law at what came in, over what the program answers. -/
import Derived.Test.YtaabcllghniaoaaDoorRT
import Derived.Test.YtaabcllghniaoaaDoorRU
import Derived.Test.YtaabcllghniaoaaDoorLU
import Derived.Test.YtaabcllghniaoaaDoorWJ
namespace Go.Proofs.YtaabcllghniaoaaDoor
open Go Go.RowKit
theorem cunlike_row {a a' : Option Addr} {len len' cap cap' : Nat} {l k : List Tk} {cut y : Int} {w : World} (e : len = l.length) (h : Toks w a cap l) (e' : len' = k.length) (h' : Toks w a' cap' k) (hy : (Lit.int .u8 y).wf = true) (hT : TU w) : Calls Tryd.prog 6 #[.slice a len cap, .slice a' len' cap', .int .i64 cut, .int .u8 y] w fun e w' => e = .returned (.bool true) ∧ Below w.heap.size w w' := by
  subst e e'
  exact cunlike_is wcbor cut y (wf_u8 hy) hT h h'
end Go.Proofs.YtaabcllghniaoaaDoor
