/- The law at what came in, over what the program answers. -/
import Derived.Test.YthcmcaomnndpcaaRN
import Derived.Test.YthcmcaomnndpcaaRNI
import Derived.Test.YthcmcaomnndpcaaHL6
import Derived.Test.YthcmcaomnndpcaaHP
namespace Go.Proofs.Ythcmcaomnndpcaa
open Go Go.RowKit
theorem hrow_row {a a' : Option Addr} {la lb ca cb : Nat} {ms ns : List Int} {w : World} (h : IsRow .i64 w a la ca ms) (h' : IsRow .i64 w a' lb cb ns) : Calls Try.prog 7 #[.slice a la ca, .slice a' lb cb] w fun e w' => e = .returned (.bool true) ∧ Below w.heap.size w w' := hrow_is hed w trivial (intsV_of_row h) (intsV_of_row h')
end Go.Proofs.Ythcmcaomnndpcaa
