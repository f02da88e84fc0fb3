/- Of the texts SE3: what the card of this claim reaches. -/
import Derived.Test.YtfkcphbbabaefaaDoorXB25
import Derived.Test.YtfkcphbbabaefaaDoorXB38
namespace Go.Proofs.YtfkcphbbabaefaaDoor
open Go Go.RowKit
theorem spoilt_row {n : Nat} {a : Option Addr} {len cap : Nat} {zs : List Int} {at_ wh : Int} {w : World} (h : IsRow .u8 w a len cap zs) (hT : TS w) : Calls Tryd.prog 4 #[.agg (B32 (bdig n)), .slice a len cap, .int .i64 at_, .int .i64 wh] w fun x w' => x = .returned (.bool true) ∧ Below w.heap.size w w' := by
  obtain ⟨e, ht⟩ := txt_of_row h
  by_cases hn : (zs.take len).length ≤ 200
  · have := spoilt_short low (n := n) (at_ := at_) (wh := wh) hn w hT ht
    rw [← e] at this
    exact this
  · have := spoilt_long (n := n) (at_ := at_) (wh := wh) (ta := a) (tc := cap) (m := zs.take len) (by omega) w
    rw [← e] at this
    exact this
end Go.Proofs.YtfkcphbbabaefaaDoor
