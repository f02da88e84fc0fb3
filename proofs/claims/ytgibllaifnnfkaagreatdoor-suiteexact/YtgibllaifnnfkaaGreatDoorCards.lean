/-
  DERIVED. GIVEN WITH THE SEED: THE CARDS: each row of YtgibllaifnnfkaaGreatDoorRows.lean that lists a variable, with what it lists TIED to the program's text (the seventh form; the later family's looks); each row that meets fmt, with fmt's text TOLD by the authors' own Lean function (tested against real Go, not proved from fmt's source: count such statements apart). THE CARD IS WHAT COUNTS. Prove the row's statement (the work); the ties are given (YtgibllaifnnfkaaGreatDoorTie.lean); close each card by the builder's one call (the guide's Derived/Test/ToyasCard.lean, 'card_holds'). Laid BY PROGRAM, IN A SANDBOX (cutbox-door.mjs). By AI agents, Wed Nov 11 2026. No macro, syntax, notation, axiom, sorry.
-/
import Derived.Test.YtgibllaifnnfkaaGreatDoorRows
import GoSem.ClaimSeven
namespace Go.Proofs.YtgibllaifnnfkaaGreatDoor
namespace Rows

/-- THE TIED CARD OF 'codicillaw08.SuiteExact'. -/
def suiteExactCard : Claim7 := { stood := { row := suiteExactRow, standIns := [], harness := (true, "8390a0aeef245b2860c2b8c394573614f588da61d781ccf3bc3f9fc7a88e1b5b"), looks := false }, kinds := [], alts := [], laidByText := true, laidKinds := [.data, .data, .data, .data, .data, .data, .data, .data, .data, .data], laidTests := true, laidLooks := .later }
def SuiteExactCardSaid : Prop := Claim7.holds Tryz.pinned (.plain (OpenSpec.ofChange suiteExactSpec)) suiteExactCard

/-- THE SECOND FORM's CARD OF 'codicillaw08.SuiteExact'. -/
def suiteExactUptoCard : Claim7 := { stood := { row := suiteExactUptoRow, standIns := [], harness := (true, "8390a0aeef245b2860c2b8c394573614f588da61d781ccf3bc3f9fc7a88e1b5b"), looks := false }, kinds := [], alts := [], laidByText := true, laidKinds := [.data, .data, .data, .data, .data, .data, .data, .data, .data, .data], laidTests := true, laidLooks := .later }
def SuiteExactUptoCardSaid : Prop := Claim7.holds Tryz.pinned (.plain (OpenSpec.upto suiteExactSpec)) suiteExactUptoCard
end Rows
end Go.Proofs.YtgibllaifnnfkaaGreatDoor
