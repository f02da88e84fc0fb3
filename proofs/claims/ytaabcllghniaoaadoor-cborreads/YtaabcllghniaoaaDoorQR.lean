/- The law at what came in, over what the program answers. -/
import Derived.Test.YtaabcllghniaoaaDoorRU
import Derived.Test.YtaabcllghniaoaaDoorLR
import Derived.Test.YtaabcllghniaoaaDoorWJ
namespace Go.Proofs.YtaabcllghniaoaaDoor
open Go Go.RowKit
theorem creads_row {a : Option Addr} {len cap : Nat} {zs : List Int} {w : World} (h : IsRow .u8 w a len cap zs) (hT : TU w) : Calls Tryd.prog 4 #[.slice a len cap] w fun e w' => e = .returned (.bool true) ∧ Below w.heap.size w w' := by
  obtain ⟨e, ht⟩ := txt_of_row h
  have := creads_is wcbor hT ht
  rw [← e] at this
  exact this
end Go.Proofs.YtaabcllghniaoaaDoor
