/-
  DERIVED. GIVEN WITH THE SEED: THE CARDS: each row of YtbofcnmhdjleeaaDoorRows.lean that lists a variable, with what it lists TIED to the program's text (the seventh form; the later family's looks); each row that meets fmt, with fmt's text TOLD by the authors' own Lean function (tested against real Go, not proved from fmt's source: count such statements apart). THE CARD IS WHAT COUNTS. Prove the row's statement (the work); the ties are given (YtbofcnmhdjleeaaDoorTie.lean); close each card by the builder's one call (the guide's Derived/Test/ToyasCard.lean, 'card_holds'). Laid BY PROGRAM, IN A SANDBOX (cutbox-door.mjs). By AI agents, Wed Nov 11 2026. No macro, syntax, notation, axiom, sorry.
-/
import Derived.Test.YtbofcnmhdjleeaaDoorRows
import GoSem.ClaimSeven
namespace Go.Proofs.YtbofcnmhdjleeaaDoor
namespace Rows

/-- THE TIED CARD OF 'codicillaw02.WideExact'. -/
def wideExactCard : Claim7 := { stood := { row := wideExactRow, standIns := [], harness := (true, "58402382e6274f0fdad97dfc5644aebbb3c300e4aef834965e17bed97d081fbf"), looks := false }, kinds := [], alts := [], laidByText := true, laidKinds := [.data, .data], laidTests := true, laidLooks := .later }
def WideExactCardSaid : Prop := Claim7.holds Tryd.pinned (.plain (OpenSpec.ofChange wideExactSpec)) wideExactCard

/-- THE TIED CARD OF 'codicillaw02.WideBlocks'. -/
def wideBlocksCard : Claim7 := { stood := { row := wideBlocksRow, standIns := [], harness := (true, "58402382e6274f0fdad97dfc5644aebbb3c300e4aef834965e17bed97d081fbf"), looks := false }, kinds := [], alts := [], laidByText := true, laidKinds := [.data, .data], laidTests := true, laidLooks := .later }
def WideBlocksCardSaid : Prop := Claim7.holds Tryd.pinned (.plain (OpenSpec.ofChange wideBlocksSpec)) wideBlocksCard

/-- THE TIED CARD OF 'codicillaw02.WideParts'. -/
def widePartsCard : Claim7 := { stood := { row := widePartsRow, standIns := [], harness := (true, "58402382e6274f0fdad97dfc5644aebbb3c300e4aef834965e17bed97d081fbf"), looks := false }, kinds := [], alts := [], laidByText := true, laidKinds := [.data, .data], laidTests := true, laidLooks := .later }
def WidePartsCardSaid : Prop := Claim7.holds Tryd.pinned (.plain (OpenSpec.ofChange widePartsSpec)) widePartsCard

/-- THE SECOND FORM's CARD OF 'codicillaw02.WideExact'. -/
def wideExactUptoCard : Claim7 := { stood := { row := wideExactUptoRow, standIns := [], harness := (true, "58402382e6274f0fdad97dfc5644aebbb3c300e4aef834965e17bed97d081fbf"), looks := false }, kinds := [], alts := [], laidByText := true, laidKinds := [.data, .data], laidTests := true, laidLooks := .later }
def WideExactUptoCardSaid : Prop := Claim7.holds Tryd.pinned (.plain (OpenSpec.upto wideExactSpec)) wideExactUptoCard

/-- THE SECOND FORM's CARD OF 'codicillaw02.WideBlocks'. -/
def wideBlocksUptoCard : Claim7 := { stood := { row := wideBlocksUptoRow, standIns := [], harness := (true, "58402382e6274f0fdad97dfc5644aebbb3c300e4aef834965e17bed97d081fbf"), looks := false }, kinds := [], alts := [], laidByText := true, laidKinds := [.data, .data], laidTests := true, laidLooks := .later }
def WideBlocksUptoCardSaid : Prop := Claim7.holds Tryd.pinned (.plain (OpenSpec.upto wideBlocksSpec)) wideBlocksUptoCard

/-- THE SECOND FORM's CARD OF 'codicillaw02.WideParts'. -/
def widePartsUptoCard : Claim7 := { stood := { row := widePartsUptoRow, standIns := [], harness := (true, "58402382e6274f0fdad97dfc5644aebbb3c300e4aef834965e17bed97d081fbf"), looks := false }, kinds := [], alts := [], laidByText := true, laidKinds := [.data, .data], laidTests := true, laidLooks := .later }
def WidePartsUptoCardSaid : Prop := Claim7.holds Tryd.pinned (.plain (OpenSpec.upto widePartsSpec)) widePartsUptoCard
end Rows
end Go.Proofs.YtbofcnmhdjleeaaDoor
