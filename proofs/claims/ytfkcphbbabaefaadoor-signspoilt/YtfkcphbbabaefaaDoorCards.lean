/-
  DERIVED. GIVEN WITH THE SEED: THE CARDS: each row of YtfkcphbbabaefaaDoorRows.lean that lists a variable, with what it lists TIED to the program's text (the seventh form; the later family's looks); each row that meets fmt, with fmt's text TOLD by the authors' own Lean function (tested against real Go, not proved from fmt's source: count such statements apart). THE CARD IS WHAT COUNTS. Prove the row's statement (the work); the ties are given (YtfkcphbbabaefaaDoorTie.lean); close each card by the builder's one call (the guide's Derived/Test/ToyasCard.lean, 'card_holds'). Laid BY PROGRAM, IN A SANDBOX (cutbox-door.mjs). By AI agents, Wed Nov 11 2026. No macro, syntax, notation, axiom, sorry.
-/
import Derived.Test.YtfkcphbbabaefaaDoorRows
import GoSem.ClaimSeven
namespace Go.Proofs.YtfkcphbbabaefaaDoor
namespace Rows

/-- THE TIED CARD OF 'codicillaw07.SignVerifies'. -/
def signVerifiesCard : Claim7 := { stood := { row := signVerifiesRow, standIns := [], harness := (true, "63fc5f143cbcbe1f8c323b09323de73c13e26bf1bd7dbb98c9d32999191a7497"), looks := false }, kinds := [], alts := [], laidByText := true, laidKinds := [.data, .data, .data, .data, .data, .data, .data, .data], laidTests := true, laidLooks := .later }
def SignVerifiesCardSaid : Prop := Claim7.holds Tryd.pinned (.plain (OpenSpec.ofChange signVerifiesSpec)) signVerifiesCard

/-- THE TIED CARD OF 'codicillaw07.SignSpoilt'. -/
def signSpoiltCard : Claim7 := { stood := { row := signSpoiltRow, standIns := [], harness := (true, "63fc5f143cbcbe1f8c323b09323de73c13e26bf1bd7dbb98c9d32999191a7497"), looks := false }, kinds := [], alts := [], laidByText := true, laidKinds := [.data, .data, .data, .data, .data, .data, .data, .data], laidTests := true, laidLooks := .later }
def SignSpoiltCardSaid : Prop := Claim7.holds Tryd.pinned (.plain (OpenSpec.ofChange signSpoiltSpec)) signSpoiltCard

/-- THE TIED CARD OF 'codicillaw07.SignEquation'. -/
def signEquationCard : Claim7 := { stood := { row := signEquationRow, standIns := [], harness := (true, "63fc5f143cbcbe1f8c323b09323de73c13e26bf1bd7dbb98c9d32999191a7497"), looks := false }, kinds := [], alts := [], laidByText := true, laidKinds := [.data, .data, .data, .data, .data, .data, .data, .data], laidTests := true, laidLooks := .later }
def SignEquationCardSaid : Prop := Claim7.holds Tryd.pinned (.plain (OpenSpec.ofChange signEquationSpec)) signEquationCard

/-- THE SECOND FORM's CARD OF 'codicillaw07.SignVerifies'. -/
def signVerifiesUptoCard : Claim7 := { stood := { row := signVerifiesUptoRow, standIns := [], harness := (true, "63fc5f143cbcbe1f8c323b09323de73c13e26bf1bd7dbb98c9d32999191a7497"), looks := false }, kinds := [], alts := [], laidByText := true, laidKinds := [.data, .data, .data, .data, .data, .data, .data, .data], laidTests := true, laidLooks := .later }
def SignVerifiesUptoCardSaid : Prop := Claim7.holds Tryd.pinned (.plain (OpenSpec.upto signVerifiesSpec)) signVerifiesUptoCard

/-- THE SECOND FORM's CARD OF 'codicillaw07.SignSpoilt'. -/
def signSpoiltUptoCard : Claim7 := { stood := { row := signSpoiltUptoRow, standIns := [], harness := (true, "63fc5f143cbcbe1f8c323b09323de73c13e26bf1bd7dbb98c9d32999191a7497"), looks := false }, kinds := [], alts := [], laidByText := true, laidKinds := [.data, .data, .data, .data, .data, .data, .data, .data], laidTests := true, laidLooks := .later }
def SignSpoiltUptoCardSaid : Prop := Claim7.holds Tryd.pinned (.plain (OpenSpec.upto signSpoiltSpec)) signSpoiltUptoCard

/-- THE SECOND FORM's CARD OF 'codicillaw07.SignEquation'. -/
def signEquationUptoCard : Claim7 := { stood := { row := signEquationUptoRow, standIns := [], harness := (true, "63fc5f143cbcbe1f8c323b09323de73c13e26bf1bd7dbb98c9d32999191a7497"), looks := false }, kinds := [], alts := [], laidByText := true, laidKinds := [.data, .data, .data, .data, .data, .data, .data, .data], laidTests := true, laidLooks := .later }
def SignEquationUptoCardSaid : Prop := Claim7.holds Tryd.pinned (.plain (OpenSpec.upto signEquationSpec)) signEquationUptoCard
end Rows
end Go.Proofs.YtfkcphbbabaefaaDoor
