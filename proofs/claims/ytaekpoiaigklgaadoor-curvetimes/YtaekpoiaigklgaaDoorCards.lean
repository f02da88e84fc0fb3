/-
  DERIVED. GIVEN WITH THE SEED: THE CARDS: each row of YtaekpoiaigklgaaDoorRows.lean that lists a variable, with what it lists TIED to the program's text (the seventh form; the later family's looks); each row that meets fmt, with fmt's text TOLD by the authors' own Lean function (tested against real Go, not proved from fmt's source: count such statements apart). THE CARD IS WHAT COUNTS. Prove the row's statement (the work); the ties are given (YtaekpoiaigklgaaDoorTie.lean); close each card by the builder's one call (the guide's Derived/Test/ToyasCard.lean, 'card_holds'). Laid BY PROGRAM, IN A SANDBOX (cutbox-door.mjs). By AI agents, Wed Nov 11 2026. No macro, syntax, notation, axiom, sorry.
-/
import Derived.Test.YtaekpoiaigklgaaDoorRows
import GoSem.ClaimSeven
namespace Go.Proofs.YtaekpoiaigklgaaDoor
namespace Rows

/-- THE TIED CARD OF 'codicillaw06.CurveExact'. -/
def curveExactCard : Claim7 := { stood := { row := curveExactRow, standIns := [], harness := (true, "5a5b06127c4d73d8d710fe22442ba9df372a88889cb2d242939f9e6489399014"), looks := false }, kinds := [], alts := [], laidByText := true, laidKinds := [.data, .data, .data, .data, .data], laidTests := true, laidLooks := .later }
def CurveExactCardSaid : Prop := Claim7.holds Tryd.pinned (.plain (OpenSpec.ofChange curveExactSpec)) curveExactCard

/-- THE TIED CARD OF 'codicillaw06.CurveBase'. -/
def curveBaseCard : Claim7 := { stood := { row := curveBaseRow, standIns := [], harness := (true, "5a5b06127c4d73d8d710fe22442ba9df372a88889cb2d242939f9e6489399014"), looks := false }, kinds := [], alts := [], laidByText := true, laidKinds := [.data, .data, .data, .data, .data], laidTests := true, laidLooks := .later }
def CurveBaseCardSaid : Prop := Claim7.holds Tryd.pinned (.plain (OpenSpec.ofChange curveBaseSpec)) curveBaseCard

/-- THE TIED CARD OF 'codicillaw06.CurveGroup'. -/
def curveGroupCard : Claim7 := { stood := { row := curveGroupRow, standIns := [], harness := (true, "5a5b06127c4d73d8d710fe22442ba9df372a88889cb2d242939f9e6489399014"), looks := false }, kinds := [], alts := [], laidByText := true, laidKinds := [.data, .data, .data, .data, .data], laidTests := true, laidLooks := .later }
def CurveGroupCardSaid : Prop := Claim7.holds Tryd.pinned (.plain (OpenSpec.ofChange curveGroupSpec)) curveGroupCard

/-- THE TIED CARD OF 'codicillaw06.CurveSmall'. -/
def curveSmallCard : Claim7 := { stood := { row := curveSmallRow, standIns := [], harness := (true, "5a5b06127c4d73d8d710fe22442ba9df372a88889cb2d242939f9e6489399014"), looks := false }, kinds := [], alts := [], laidByText := true, laidKinds := [.data, .data, .data, .data, .data], laidTests := true, laidLooks := .later }
def CurveSmallCardSaid : Prop := Claim7.holds Tryd.pinned (.plain (OpenSpec.ofChange curveSmallSpec)) curveSmallCard

/-- THE TIED CARD OF 'codicillaw06.CurveSides'. -/
def curveSidesCard : Claim7 := { stood := { row := curveSidesRow, standIns := [], harness := (true, "5a5b06127c4d73d8d710fe22442ba9df372a88889cb2d242939f9e6489399014"), looks := false }, kinds := [], alts := [], laidByText := true, laidKinds := [.data, .data, .data, .data, .data], laidTests := true, laidLooks := .later }
def CurveSidesCardSaid : Prop := Claim7.holds Tryd.pinned (.plain (OpenSpec.ofChange curveSidesSpec)) curveSidesCard

/-- THE TIED CARD OF 'codicillaw06.CurveTimes'. -/
def curveTimesCard : Claim7 := { stood := { row := curveTimesRow, standIns := [], harness := (true, "5a5b06127c4d73d8d710fe22442ba9df372a88889cb2d242939f9e6489399014"), looks := false }, kinds := [], alts := [], laidByText := true, laidKinds := [.data, .data, .data, .data, .data], laidTests := true, laidLooks := .later }
def CurveTimesCardSaid : Prop := Claim7.holds Tryd.pinned (.plain (OpenSpec.ofChange curveTimesSpec)) curveTimesCard

/-- THE SECOND FORM's CARD OF 'codicillaw06.CurveExact'. -/
def curveExactUptoCard : Claim7 := { stood := { row := curveExactUptoRow, standIns := [], harness := (true, "5a5b06127c4d73d8d710fe22442ba9df372a88889cb2d242939f9e6489399014"), looks := false }, kinds := [], alts := [], laidByText := true, laidKinds := [.data, .data, .data, .data, .data], laidTests := true, laidLooks := .later }
def CurveExactUptoCardSaid : Prop := Claim7.holds Tryd.pinned (.plain (OpenSpec.upto curveExactSpec)) curveExactUptoCard

/-- THE SECOND FORM's CARD OF 'codicillaw06.CurveBase'. -/
def curveBaseUptoCard : Claim7 := { stood := { row := curveBaseUptoRow, standIns := [], harness := (true, "5a5b06127c4d73d8d710fe22442ba9df372a88889cb2d242939f9e6489399014"), looks := false }, kinds := [], alts := [], laidByText := true, laidKinds := [.data, .data, .data, .data, .data], laidTests := true, laidLooks := .later }
def CurveBaseUptoCardSaid : Prop := Claim7.holds Tryd.pinned (.plain (OpenSpec.upto curveBaseSpec)) curveBaseUptoCard

/-- THE SECOND FORM's CARD OF 'codicillaw06.CurveGroup'. -/
def curveGroupUptoCard : Claim7 := { stood := { row := curveGroupUptoRow, standIns := [], harness := (true, "5a5b06127c4d73d8d710fe22442ba9df372a88889cb2d242939f9e6489399014"), looks := false }, kinds := [], alts := [], laidByText := true, laidKinds := [.data, .data, .data, .data, .data], laidTests := true, laidLooks := .later }
def CurveGroupUptoCardSaid : Prop := Claim7.holds Tryd.pinned (.plain (OpenSpec.upto curveGroupSpec)) curveGroupUptoCard

/-- THE SECOND FORM's CARD OF 'codicillaw06.CurveSmall'. -/
def curveSmallUptoCard : Claim7 := { stood := { row := curveSmallUptoRow, standIns := [], harness := (true, "5a5b06127c4d73d8d710fe22442ba9df372a88889cb2d242939f9e6489399014"), looks := false }, kinds := [], alts := [], laidByText := true, laidKinds := [.data, .data, .data, .data, .data], laidTests := true, laidLooks := .later }
def CurveSmallUptoCardSaid : Prop := Claim7.holds Tryd.pinned (.plain (OpenSpec.upto curveSmallSpec)) curveSmallUptoCard

/-- THE SECOND FORM's CARD OF 'codicillaw06.CurveSides'. -/
def curveSidesUptoCard : Claim7 := { stood := { row := curveSidesUptoRow, standIns := [], harness := (true, "5a5b06127c4d73d8d710fe22442ba9df372a88889cb2d242939f9e6489399014"), looks := false }, kinds := [], alts := [], laidByText := true, laidKinds := [.data, .data, .data, .data, .data], laidTests := true, laidLooks := .later }
def CurveSidesUptoCardSaid : Prop := Claim7.holds Tryd.pinned (.plain (OpenSpec.upto curveSidesSpec)) curveSidesUptoCard

/-- THE SECOND FORM's CARD OF 'codicillaw06.CurveTimes'. -/
def curveTimesUptoCard : Claim7 := { stood := { row := curveTimesUptoRow, standIns := [], harness := (true, "5a5b06127c4d73d8d710fe22442ba9df372a88889cb2d242939f9e6489399014"), looks := false }, kinds := [], alts := [], laidByText := true, laidKinds := [.data, .data, .data, .data, .data], laidTests := true, laidLooks := .later }
def CurveTimesUptoCardSaid : Prop := Claim7.holds Tryd.pinned (.plain (OpenSpec.upto curveTimesSpec)) curveTimesUptoCard
end Rows
end Go.Proofs.YtaekpoiaigklgaaDoor
