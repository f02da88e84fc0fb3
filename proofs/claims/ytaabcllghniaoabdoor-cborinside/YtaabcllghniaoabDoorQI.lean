/- The law at what came in, over what the program answers. -/
import Derived.Test.YtaabcllghniaoabDoorRT
import Derived.Test.YtaabcllghniaoabDoorRU
import Derived.Test.YtaabcllghniaoabDoorLI
import Derived.Test.YtaabcllghniaoabDoorWJ
namespace Go.Proofs.YtaabcllghniaoabDoor
open Go Go.RowKit
theorem cinside_row {a a' a'' : Option Addr} {len len' len'' cap cap' cap'' : Nat} {l k j : List Tk} {w : World} (e : len = l.length) (h : Toks w a cap l) (e' : len' = k.length) (h' : Toks w a' cap' k) (e'' : len'' = j.length) (h'' : Toks w a'' cap'' j) (hT : TU w) : Calls Tryd.prog 3 #[.slice a len cap, .slice a' len' cap', .slice a'' len'' cap''] w fun e w' => e = .returned (.bool true) ∧ Below w.heap.size w w' := by
  subst e e' e''
  exact cinside_is hT h h' h''
end Go.Proofs.YtaabcllghniaoabDoor
