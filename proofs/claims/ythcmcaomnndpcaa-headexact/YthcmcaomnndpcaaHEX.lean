/- The law at what came in, over what the program answers. -/
import Derived.Test.YthcmcaomnndpcaaRN
import Derived.Test.YthcmcaomnndpcaaHL2
import Derived.Test.YthcmcaomnndpcaaHP
namespace Go.Proofs.Ythcmcaomnndpcaa
open Go Go.RowKit
theorem hexact_row {a : Option Addr} {len cap : Nat} {zs : List Int} {mj n x : Int} {w : World} (h : IsRow .u8 w a len cap zs) (_ : (Lit.int .i64 mj).wf = true) (hn : (Lit.int .i64 n).wf = true) (hx : (Lit.int .i64 x).wf = true) : Calls Try.prog 3 #[.slice a len cap, .int .i64 mj, .int .i64 n, .int .i64 x] w fun e w' => e = .returned (.bool true) ∧ Below w.heap.size w w' := by
  obtain ⟨e, ht⟩ := txt_of_row h
  obtain ⟨h1, h2⟩ := wf_i64 hx
  have := hexact_is hed mj n x (wf_i64 hn).2 h1 h2 w trivial ht
  rw [← e] at this
  exact this
end Go.Proofs.Ythcmcaomnndpcaa
