/-
  DERIVED. GIVEN WITH THE SEED: THE CARDS: each row of YtaekpoiaigklgabDoorRows.lean that lists a variable, with what it lists TIED to the program's text (the seventh form; the later family's looks); each row that meets fmt, with fmt's text TOLD by the authors' own Lean function (tested against real Go, not proved from fmt's source: count such statements apart). THE CARD IS WHAT COUNTS. Prove the row's statement (the work); the ties are given (YtaekpoiaigklgabDoorTie.lean); close each card by the builder's one call (the guide's Derived/Test/ToyasCard.lean, 'card_holds'). Laid BY PROGRAM, IN A SANDBOX (cutbox-door.mjs). By AI agents, Wed Nov 11 2026. No macro, syntax, notation, axiom, sorry.
-/
import Derived.Test.YtaekpoiaigklgabDoorRows
import GoSem.ClaimSeven
namespace Go.Proofs.YtaekpoiaigklgabDoor
namespace Rows

/-- THE TIED CARD OF 'codicillaw06.CurveEquation'. -/
def curveEquationCard : Claim7 := { stood := { row := curveEquationRow, standIns := [], harness := (true, "7d90ae65f93dcacc717fe85e97bafac8ab1125c91306ea13a60a220aa1a22076"), looks := false }, kinds := [], alts := [], laidByText := true, laidKinds := [.data, .data, .data, .data, .data], laidTests := true, laidLooks := .later }
def CurveEquationCardSaid : Prop := Claim7.holds Tryd.pinned (.plain (OpenSpec.ofChange curveEquationSpec)) curveEquationCard

/-- THE TIED CARD OF 'codicillaw06.CurveTorsion'. -/
def curveTorsionCard : Claim7 := { stood := { row := curveTorsionRow, standIns := [], harness := (true, "7d90ae65f93dcacc717fe85e97bafac8ab1125c91306ea13a60a220aa1a22076"), looks := false }, kinds := [], alts := [], laidByText := true, laidKinds := [.data, .data, .data, .data, .data], laidTests := true, laidLooks := .later }
def CurveTorsionCardSaid : Prop := Claim7.holds Tryd.pinned (.plain (OpenSpec.ofChange curveTorsionSpec)) curveTorsionCard

/-- THE SECOND FORM's CARD OF 'codicillaw06.CurveEquation'. -/
def curveEquationUptoCard : Claim7 := { stood := { row := curveEquationUptoRow, standIns := [], harness := (true, "7d90ae65f93dcacc717fe85e97bafac8ab1125c91306ea13a60a220aa1a22076"), looks := false }, kinds := [], alts := [], laidByText := true, laidKinds := [.data, .data, .data, .data, .data], laidTests := true, laidLooks := .later }
def CurveEquationUptoCardSaid : Prop := Claim7.holds Tryd.pinned (.plain (OpenSpec.upto curveEquationSpec)) curveEquationUptoCard

/-- THE SECOND FORM's CARD OF 'codicillaw06.CurveTorsion'. -/
def curveTorsionUptoCard : Claim7 := { stood := { row := curveTorsionUptoRow, standIns := [], harness := (true, "7d90ae65f93dcacc717fe85e97bafac8ab1125c91306ea13a60a220aa1a22076"), looks := false }, kinds := [], alts := [], laidByText := true, laidKinds := [.data, .data, .data, .data, .data], laidTests := true, laidLooks := .later }
def CurveTorsionUptoCardSaid : Prop := Claim7.holds Tryd.pinned (.plain (OpenSpec.upto curveTorsionSpec)) curveTorsionUptoCard
end Rows
end Go.Proofs.YtaekpoiaigklgabDoor
