/- The law at what came in, over what the program answers. -/
import Derived.Test.YthcmcaomnndpcaaRN
import Derived.Test.YthcmcaomnndpcaaHL1
import Derived.Test.YthcmcaomnndpcaaHP
namespace Go.Proofs.Ythcmcaomnndpcaa
open Go Go.RowKit
theorem hany_row {a : Option Addr} {len cap : Nat} {zs : List Int} {x : Int} {w : World} (h : IsRow .u8 w a len cap zs) (hx : (Lit.int .i64 x).wf = true) : Calls Try.prog 6 #[.slice a len cap, .int .i64 x] w fun e w' => e = .returned (.bool true) ∧ Below w.heap.size w w' := by
  obtain ⟨e, ht⟩ := txt_of_row h
  obtain ⟨h1, h2⟩ := wf_i64 hx
  have := hany_is hed x h1 h2 w trivial ht
  rw [← e] at this
  exact this
end Go.Proofs.Ythcmcaomnndpcaa
