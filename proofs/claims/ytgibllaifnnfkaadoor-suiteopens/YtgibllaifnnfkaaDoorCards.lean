/-
  DERIVED. GIVEN WITH THE SEED: THE CARDS: each row of YtgibllaifnnfkaaDoorRows.lean that lists a variable, with what it lists TIED to the program's text (the seventh form; the later family's looks); each row that meets fmt, with fmt's text TOLD by the authors' own Lean function (tested against real Go, not proved from fmt's source: count such statements apart). THE CARD IS WHAT COUNTS. Prove the row's statement (the work); the ties are given (YtgibllaifnnfkaaDoorTie.lean); close each card by the builder's one call (the guide's Derived/Test/ToyasCard.lean, 'card_holds'). Laid BY PROGRAM, IN A SANDBOX (cutbox-door.mjs). By AI agents, Wed Nov 11 2026. No macro, syntax, notation, axiom, sorry.
-/
import Derived.Test.YtgibllaifnnfkaaDoorRows
import GoSem.ClaimSeven
namespace Go.Proofs.YtgibllaifnnfkaaDoor
namespace Rows

/-- THE TIED CARD OF 'codicillaw08.SuiteReal'. -/
def suiteRealCard : Claim7 := { stood := { row := suiteRealRow, standIns := [], harness := (true, "8fe51e3b8d6862a939936e53ec84074cf446c9c1ebfb8adedcc58a29ca806985"), looks := false }, kinds := [], alts := [], laidByText := true, laidKinds := [.data, .data, .data, .data, .data, .data, .data, .data, .data, .data], laidTests := true, laidLooks := .later }
def SuiteRealCardSaid : Prop := Claim7.holds Tryd.pinned (.plain (OpenSpec.ofChange suiteRealSpec)) suiteRealCard

/-- THE TIED CARD OF 'codicillaw08.SuiteOpens'. -/
def suiteOpensCard : Claim7 := { stood := { row := suiteOpensRow, standIns := [], harness := (true, "8fe51e3b8d6862a939936e53ec84074cf446c9c1ebfb8adedcc58a29ca806985"), looks := false }, kinds := [], alts := [], laidByText := true, laidKinds := [.data, .data, .data, .data, .data, .data, .data, .data, .data, .data], laidTests := true, laidLooks := .later }
def SuiteOpensCardSaid : Prop := Claim7.holds Tryd.pinned (.plain (OpenSpec.ofChange suiteOpensSpec)) suiteOpensCard

/-- THE SECOND FORM's CARD OF 'codicillaw08.SuiteReal'. -/
def suiteRealUptoCard : Claim7 := { stood := { row := suiteRealUptoRow, standIns := [], harness := (true, "8fe51e3b8d6862a939936e53ec84074cf446c9c1ebfb8adedcc58a29ca806985"), looks := false }, kinds := [], alts := [], laidByText := true, laidKinds := [.data, .data, .data, .data, .data, .data, .data, .data, .data, .data], laidTests := true, laidLooks := .later }
def SuiteRealUptoCardSaid : Prop := Claim7.holds Tryd.pinned (.plain (OpenSpec.upto suiteRealSpec)) suiteRealUptoCard

/-- THE SECOND FORM's CARD OF 'codicillaw08.SuiteOpens'. -/
def suiteOpensUptoCard : Claim7 := { stood := { row := suiteOpensUptoRow, standIns := [], harness := (true, "8fe51e3b8d6862a939936e53ec84074cf446c9c1ebfb8adedcc58a29ca806985"), looks := false }, kinds := [], alts := [], laidByText := true, laidKinds := [.data, .data, .data, .data, .data, .data, .data, .data, .data, .data], laidTests := true, laidLooks := .later }
def SuiteOpensUptoCardSaid : Prop := Claim7.holds Tryd.pinned (.plain (OpenSpec.upto suiteOpensSpec)) suiteOpensUptoCard
end Rows
end Go.Proofs.YtgibllaifnnfkaaDoor
