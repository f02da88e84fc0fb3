/-
  DERIVED. GIVEN WITH THE SEED: THE CARDS: each row of YtofoihebhdpjlabDoorRows.lean that lists a variable, with what it lists TIED to the program's text (the seventh form; the later family's looks); each row that meets fmt, with fmt's text TOLD by the authors' own Lean function (tested against real Go, not proved from fmt's source: count such statements apart). THE CARD IS WHAT COUNTS. Prove the row's statement (the work); the ties are given (YtofoihebhdpjlabDoorTie.lean); close each card by the builder's one call (the guide's Derived/Test/ToyasCard.lean, 'card_holds'). Laid BY PROGRAM, IN A SANDBOX (cutbox-door.mjs). By AI agents, Wed Nov 11 2026. No macro, syntax, notation, axiom, sorry.
-/
import Derived.Test.YtofoihebhdpjlabDoorRows
import GoSem.ClaimSeven
namespace Go.Proofs.YtofoihebhdpjlabDoor
namespace Rows

/-- THE TIED CARD OF 'codicillaw05.ScalarTurns'. -/
def scalarTurnsCard : Claim7 := { stood := { row := scalarTurnsRow, standIns := [], harness := (true, "f511d4ee11fe201c3774ef0e572921b4b99f5c4540d86324525659525e55d0bb"), looks := false }, kinds := [], alts := [], laidByText := true, laidKinds := [.data], laidTests := true, laidLooks := .later }
def ScalarTurnsCardSaid : Prop := Claim7.holds Tryd.pinned (.plain (OpenSpec.ofChange scalarTurnsSpec)) scalarTurnsCard

/-- THE SECOND FORM's CARD OF 'codicillaw05.ScalarTurns'. -/
def scalarTurnsUptoCard : Claim7 := { stood := { row := scalarTurnsUptoRow, standIns := [], harness := (true, "f511d4ee11fe201c3774ef0e572921b4b99f5c4540d86324525659525e55d0bb"), looks := false }, kinds := [], alts := [], laidByText := true, laidKinds := [.data], laidTests := true, laidLooks := .later }
def ScalarTurnsUptoCardSaid : Prop := Claim7.holds Tryd.pinned (.plain (OpenSpec.upto scalarTurnsSpec)) scalarTurnsUptoCard
end Rows
end Go.Proofs.YtofoihebhdpjlabDoor
