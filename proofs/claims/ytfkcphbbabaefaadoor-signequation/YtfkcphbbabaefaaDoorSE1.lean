/- The law of the equation at what came in. -/
import Derived.Test.YtfkcphbbabaefaaDoorRS
import Derived.Test.YtfkcphbbabaefaaDoorSL1
namespace Go.Proofs.YtfkcphbbabaefaaDoor
open Go Go.RowKit
theorem equation_row {n : Nat} {a : Option Addr} {len cap : Nat} {zs : List Int} {w : World} (h : IsRow .u8 w a len cap zs) (hT : TS w) : Calls Tryd.prog 5 #[.agg (B32 (bdig n)), .slice a len cap] w fun x w' => x = .returned (.bool true) ∧ Below w.heap.size w w' := by
  obtain ⟨e, ht⟩ := txt_of_row h
  by_cases hn : (zs.take len).length ≤ 200
  · have := equation_short low (n := n) hn w hT ht
    rw [← e] at this
    exact this
  · have := equation_long (n := n) (ta := a) (tc := cap) (m := zs.take len) (by omega) w
    rw [← e] at this
    exact this
end Go.Proofs.YtfkcphbbabaefaaDoor
