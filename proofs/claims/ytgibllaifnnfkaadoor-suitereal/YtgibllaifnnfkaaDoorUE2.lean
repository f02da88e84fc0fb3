/- The law of the real kind at what came in, over contracts. -/
import Derived.Test.YtgibllaifnnfkaaDoorRS
import Derived.Test.YtgibllaifnnfkaaDoorUR1
namespace Go.Proofs.YtgibllaifnnfkaaDoor
open Go Go.RowKit
theorem sreal_row {T : World → Prop} (F : Ste T) (G : Sgn T) (hwk : ∀ w, T w → Calls Tryd.prog 11 #[] w fun x w' => x = .returned (.bool true) ∧ Below w.heap.size w w') {n z : Nat} (hz : z < R512) {a : Option Addr} {len cap : Nat} {zs : List Int} {w : World} (h : IsRow .u8 w a len cap zs) (hT : T w) : Calls Tryd.prog 3 #[.agg (B32 (bdig n)), .slice a len cap, .agg (B64 (bdig z))] w fun x w' => x = .returned (.bool true) ∧ Below w.heap.size w w' := by
  obtain ⟨e, ht⟩ := txt_of_row h
  rw [← two_parts z]
  by_cases hn : (zs.take len).length ≤ 200
  · have := sreal_is F G hwk (n := n) (R := z % R256) (S := z / R256) (lo_lt z) (hi_lt hz) hn w hT ht
    rw [← e] at this
    exact this
  · have := sreal_long (n := n) (z := bdig (two (z % R256) (z / R256))) (ta := a) (tc := cap) (m := zs.take len) (by omega) w
    rw [← e] at this
    exact this
end Go.Proofs.YtgibllaifnnfkaaDoor
