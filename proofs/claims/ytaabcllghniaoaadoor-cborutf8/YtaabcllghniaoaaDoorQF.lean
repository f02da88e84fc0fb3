/- The law at what came in, over what the program answers. -/
import Derived.Test.YtaabcllghniaoaaDoorRT
import Derived.Test.YtaabcllghniaoaaDoorRU
import Derived.Test.YtaabcllghniaoaaDoorLF
import Derived.Test.YtaabcllghniaoaaDoorWJ
namespace Go.Proofs.YtaabcllghniaoaaDoor
open Go Go.RowKit
theorem cutf8_row {a : Option Addr} {len cap : Nat} {zs : List Int} {p q : Int} {w : World} (h : IsRow .u8 w a len cap zs) (_ : (Lit.int .i64 p).wf = true) (_ : (Lit.int .i64 q).wf = true) (hT : TU w) : Calls Tryd.prog 5 #[.slice a len cap, .int .i64 p, .int .i64 q] w fun e w' => e = .returned (.bool true) ∧ Below w.heap.size w w' := by
  obtain ⟨e, ht⟩ := txt_of_row h
  have := cutf8_is wcbor (p := p) (q := q) hT ht
  rw [← e] at this
  exact this
end Go.Proofs.YtaabcllghniaoaaDoor
