/- Of the texts SE5: what the card of this claim reaches. -/
import Derived.Test.YtfkcphbbabaefaaGreatDoorXD35
import Derived.Test.YtfkcphbbabaefaaGreatDoorXD49
namespace Go.Proofs.YtfkcphbbabaefaaGreatDoor
open Go Go.RowKit
theorem other_row {n0 n1 n : Nat} {a : Option Addr} {len cap : Nat} {zs : List Int} {w : World} (h : IsRow .u8 w a len cap zs) (ln : n < R256) (hT : TS w) : Calls Tryz.prog 4 #[.agg (B32 (bdig n0)), .agg (B32 (bdig n1)), .slice a len cap, .agg (B32 (bdig n))] w fun x w' => x = .returned (.bool true) ∧ Below w.heap.size w w' := by
  obtain ⟨e, ht⟩ := txt_of_row h
  by_cases hn : (zs.take len).length ≤ 200
  · have := other_short low (a := n0) (b := n1) (n := n) ln hn w hT ht
    rw [← e] at this
    exact this
  · have := other_long (a := n0) (b := n1) (n := n) (ta := a) (tc := cap) (m := zs.take len) (by omega) w
    rw [← e] at this
    exact this
end Go.Proofs.YtfkcphbbabaefaaGreatDoor
