/- What the laws of the kinds lean on: layer 7's functions, layer 1's sum. -/
import Derived.Test.YtgibllaifnnfkaaDoorUR1
import Derived.Test.YtgibllaifnnfkaaDoorUH
import Derived.Test.YtgibllaifnnfkaaDoorJW7
namespace Go.Proofs.YtgibllaifnnfkaaDoor
open Go Go.RowKit
theorem sgn_of {T : World → Prop} (F : Low T) : Sgn T where
  pub := fun n w hT => public_is F n w hT
  sgn := fun n _ _ _ hl w hT hm => sign_is F n hl w hT hm
  ver := fun _ _ _ _ _ _ lp lR lS hl w hT hm => verify_is F lp lR lS hl w hT hm
theorem sum_tx (l : List Int) (v : Value) (w : World) (hT : J.Tabs w) (hx : Tx w v l) (hl : l.length ≤ 1000000) : Calls Tryd.prog 12 #[v] w fun x w' => x = .returned (.agg (B32 (bdig (hn l)))) ∧ Below w.heap.size w w' := by
  obtain ⟨a, c, rfl, h1, h2⟩ := hx
  rw [← dig_hn]
  exact J.sum_any a l.length c l w h1 hT (by omega)
end Go.Proofs.YtgibllaifnnfkaaDoor
