/-
  DERIVED. GIVEN WITH THE SEED: THE CARDS: each row of YtaabcllghniaoabDoorRows.lean that lists a variable, with what it lists TIED to the program's text (the seventh form; the later family's looks); each row that meets fmt, with fmt's text TOLD by the authors' own Lean function (tested against real Go, not proved from fmt's source: count such statements apart). THE CARD IS WHAT COUNTS. Prove the row's statement (the work); the ties are given (YtaabcllghniaoabDoorTie.lean); close each card by the builder's one call (the guide's Derived/Test/ToyasCard.lean, 'card_holds'). Laid BY PROGRAM, IN A SANDBOX (cutbox-door.mjs). By AI agents, Wed Nov 11 2026. No macro, syntax, notation, axiom, sorry.
-/
import Derived.Test.YtaabcllghniaoabDoorRows
import GoSem.ClaimSeven
namespace Go.Proofs.YtaabcllghniaoabDoor
namespace Rows

/-- THE TIED CARD OF 'codicillaw10.CborInside'. -/
def cborInsideCard : Claim7 := { stood := { row := cborInsideRow, standIns := [], harness := (true, "6b2f0c08de4148919f60418164ee881226cc16e0211c07fc5a9d1c055cbb78b7"), looks := false }, kinds := [], alts := [], laidByText := true, laidKinds := [.data, .pinned], laidTests := true, laidLooks := .later }
def CborInsideCardSaid : Prop := Claim7.holds Tryd.pinned (.plain (OpenSpec.ofChange cborInsideSpec)) cborInsideCard

/-- THE TIED CARD OF 'codicillaw10.CborKinds'. -/
def cborKindsCard : Claim7 := { stood := { row := cborKindsRow, standIns := [], harness := (true, "6b2f0c08de4148919f60418164ee881226cc16e0211c07fc5a9d1c055cbb78b7"), looks := false }, kinds := [], alts := [], laidByText := true, laidKinds := [.data, .pinned], laidTests := true, laidLooks := .later }
def CborKindsCardSaid : Prop := Claim7.holds Tryd.pinned (.plain (OpenSpec.ofChange cborKindsSpec)) cborKindsCard

/-- THE TIED CARD OF 'codicillaw10.CborMany'. -/
def cborManyCard : Claim7 := { stood := { row := cborManyRow, standIns := [], harness := (true, "6b2f0c08de4148919f60418164ee881226cc16e0211c07fc5a9d1c055cbb78b7"), looks := false }, kinds := [], alts := [], laidByText := true, laidKinds := [.data, .pinned], laidTests := true, laidLooks := .later }
def CborManyCardSaid : Prop := Claim7.holds Tryd.pinned (.plain (OpenSpec.ofChange cborManySpec)) cborManyCard

/-- THE TIED CARD OF 'codicillaw10.CborLongest'. -/
def cborLongestCard : Claim7 := { stood := { row := cborLongestRow, standIns := [], harness := (true, "6b2f0c08de4148919f60418164ee881226cc16e0211c07fc5a9d1c055cbb78b7"), looks := false }, kinds := [], alts := [], laidByText := true, laidKinds := [.data, .pinned], laidTests := true, laidLooks := .later }
def CborLongestCardSaid : Prop := Claim7.holds Tryd.pinned (.plain (OpenSpec.ofChange cborLongestSpec)) cborLongestCard

/-- THE TIED CARD OF 'codicillaw10.CborTexts'. -/
def cborTextsCard : Claim7 := { stood := { row := cborTextsRow, standIns := [], harness := (true, "6b2f0c08de4148919f60418164ee881226cc16e0211c07fc5a9d1c055cbb78b7"), looks := false }, kinds := [], alts := [], laidByText := true, laidKinds := [.data, .pinned], laidTests := true, laidLooks := .later }
def CborTextsCardSaid : Prop := Claim7.holds Tryd.pinned (.plain (OpenSpec.ofChange cborTextsSpec)) cborTextsCard

/-- THE TIED CARD OF 'codicillaw10.CborShort'. -/
def cborShortCard : Claim7 := { stood := { row := cborShortRow, standIns := [], harness := (true, "6b2f0c08de4148919f60418164ee881226cc16e0211c07fc5a9d1c055cbb78b7"), looks := false }, kinds := [], alts := [], laidByText := true, laidKinds := [.data, .pinned], laidTests := true, laidLooks := .later }
def CborShortCardSaid : Prop := Claim7.holds Tryd.pinned (.plain (OpenSpec.ofChange cborShortSpec)) cborShortCard

/-- THE SECOND FORM's CARD OF 'codicillaw10.CborInside'. -/
def cborInsideUptoCard : Claim7 := { stood := { row := cborInsideUptoRow, standIns := [], harness := (true, "6b2f0c08de4148919f60418164ee881226cc16e0211c07fc5a9d1c055cbb78b7"), looks := false }, kinds := [], alts := [], laidByText := true, laidKinds := [.data, .pinned], laidTests := true, laidLooks := .later }
def CborInsideUptoCardSaid : Prop := Claim7.holds Tryd.pinned (.plain (OpenSpec.upto cborInsideSpec)) cborInsideUptoCard

/-- THE SECOND FORM's CARD OF 'codicillaw10.CborKinds'. -/
def cborKindsUptoCard : Claim7 := { stood := { row := cborKindsUptoRow, standIns := [], harness := (true, "6b2f0c08de4148919f60418164ee881226cc16e0211c07fc5a9d1c055cbb78b7"), looks := false }, kinds := [], alts := [], laidByText := true, laidKinds := [.data, .pinned], laidTests := true, laidLooks := .later }
def CborKindsUptoCardSaid : Prop := Claim7.holds Tryd.pinned (.plain (OpenSpec.upto cborKindsSpec)) cborKindsUptoCard

/-- THE SECOND FORM's CARD OF 'codicillaw10.CborMany'. -/
def cborManyUptoCard : Claim7 := { stood := { row := cborManyUptoRow, standIns := [], harness := (true, "6b2f0c08de4148919f60418164ee881226cc16e0211c07fc5a9d1c055cbb78b7"), looks := false }, kinds := [], alts := [], laidByText := true, laidKinds := [.data, .pinned], laidTests := true, laidLooks := .later }
def CborManyUptoCardSaid : Prop := Claim7.holds Tryd.pinned (.plain (OpenSpec.upto cborManySpec)) cborManyUptoCard

/-- THE SECOND FORM's CARD OF 'codicillaw10.CborLongest'. -/
def cborLongestUptoCard : Claim7 := { stood := { row := cborLongestUptoRow, standIns := [], harness := (true, "6b2f0c08de4148919f60418164ee881226cc16e0211c07fc5a9d1c055cbb78b7"), looks := false }, kinds := [], alts := [], laidByText := true, laidKinds := [.data, .pinned], laidTests := true, laidLooks := .later }
def CborLongestUptoCardSaid : Prop := Claim7.holds Tryd.pinned (.plain (OpenSpec.upto cborLongestSpec)) cborLongestUptoCard

/-- THE SECOND FORM's CARD OF 'codicillaw10.CborTexts'. -/
def cborTextsUptoCard : Claim7 := { stood := { row := cborTextsUptoRow, standIns := [], harness := (true, "6b2f0c08de4148919f60418164ee881226cc16e0211c07fc5a9d1c055cbb78b7"), looks := false }, kinds := [], alts := [], laidByText := true, laidKinds := [.data, .pinned], laidTests := true, laidLooks := .later }
def CborTextsUptoCardSaid : Prop := Claim7.holds Tryd.pinned (.plain (OpenSpec.upto cborTextsSpec)) cborTextsUptoCard

/-- THE SECOND FORM's CARD OF 'codicillaw10.CborShort'. -/
def cborShortUptoCard : Claim7 := { stood := { row := cborShortUptoRow, standIns := [], harness := (true, "6b2f0c08de4148919f60418164ee881226cc16e0211c07fc5a9d1c055cbb78b7"), looks := false }, kinds := [], alts := [], laidByText := true, laidKinds := [.data, .pinned], laidTests := true, laidLooks := .later }
def CborShortUptoCardSaid : Prop := Claim7.holds Tryd.pinned (.plain (OpenSpec.upto cborShortSpec)) cborShortUptoCard
end Rows
end Go.Proofs.YtaabcllghniaoabDoor
