/- What the rows' list gives of the program's turn. -/
import Derived.Test.YtaefjbklioljnaaDoorR
import Derived.Test.YtaefjbklioljnaaDoorF12
namespace Go.Proofs.YtaefjbklioljnaaDoor
open Go.ChangeShapes Go.WideShapes Go.ChangeAt Go.RowKit
theorem gTurn : Tryd.prog.globalNamed "codicil/field.turn" = some 0 := by kernel_rfl
theorem gTurnType : (Tryd.prog.globals[0]?).map (·.type) = some 46 := by kernel_rfl
theorem tt_of {W : World} (h : laidMet Tryd.prog [("codicil/field.prime", Rows.laid_codicil_field_prime), ("codicil/field.turn", Rows.laid_codicil_field_turn)] W) : TT W := by
  have h2 : laidMet Tryd.prog [("codicil/field.turn", Rows.laid_codicil_field_turn)] W := laidMet.filter (fun p => p.1 == "codicil/field.turn") h
  have hv := num_listed gTurn gTurnType h2
  have c := World.var?_cell gTurn hv
  have c0 := c 0
  have c1 := c 1
  have c2 := c 2
  have c3 := c 3
  exact ⟨World.block_lt_of_cell? W _ c0, c0, c1, c2, c3⟩
end Go.Proofs.YtaefjbklioljnaaDoor
