/- The law at what came in, over what the program answers. -/
import Derived.Test.YtaabcllghniaoabDoorRT
import Derived.Test.YtaabcllghniaoabDoorRU
import Derived.Test.YtaabcllghniaoabDoorLK
import Derived.Test.YtaabcllghniaoabDoorWJ
namespace Go.Proofs.YtaabcllghniaoabDoor
open Go Go.RowKit
theorem ckinds_row {a : Option Addr} {len cap : Nat} {zs : List Int} {n : Int} {w : World} (h : IsRow .u8 w a len cap zs) (_ : (Lit.int .i64 n).wf = true) (hT : TU w) : Calls Tryd.prog 4 #[.slice a len cap, .int .i64 n] w fun e w' => e = .returned (.bool true) ∧ Below w.heap.size w w' := by
  obtain ⟨e, ht⟩ := txt_of_row h
  have := ckinds_is wcbor (n := n) hT ht
  rw [← e] at this
  exact this
end Go.Proofs.YtaabcllghniaoabDoor
