/-
  DERIVED. GIVEN WITH THE SEED: THE CARDS: each row of YtaabcllghniaoaaDoorRows.lean that lists a variable, with what it lists TIED to the program's text (the seventh form; the later family's looks); each row that meets fmt, with fmt's text TOLD by the authors' own Lean function (tested against real Go, not proved from fmt's source: count such statements apart). THE CARD IS WHAT COUNTS. Prove the row's statement (the work); the ties are given (YtaabcllghniaoaaDoorTie.lean); close each card by the builder's one call (the guide's Derived/Test/ToyasCard.lean, 'card_holds'). Laid BY PROGRAM, IN A SANDBOX (cutbox-door.mjs). By AI agents, Wed Nov 11 2026. No macro, syntax, notation, axiom, sorry.
-/
import Derived.Test.YtaabcllghniaoaaDoorRows
import GoSem.ClaimSeven
namespace Go.Proofs.YtaabcllghniaoaaDoor
namespace Rows

/-- THE TIED CARD OF 'codicillaw10.CborExact'. -/
def cborExactCard : Claim7 := { stood := { row := cborExactRow, standIns := [], harness := (true, "0050a3543f2c8078b525ccb65db5f7a0a7edffe29863def1ab0d22ec84caf614"), looks := false }, kinds := [], alts := [], laidByText := true, laidKinds := [.data, .pinned], laidTests := true, laidLooks := .later }
def CborExactCardSaid : Prop := Claim7.holds Tryd.pinned (.plain (OpenSpec.ofChange cborExactSpec)) cborExactCard

/-- THE TIED CARD OF 'codicillaw10.CborReads'. -/
def cborReadsCard : Claim7 := { stood := { row := cborReadsRow, standIns := [], harness := (true, "0050a3543f2c8078b525ccb65db5f7a0a7edffe29863def1ab0d22ec84caf614"), looks := false }, kinds := [], alts := [], laidByText := true, laidKinds := [.data, .pinned], laidTests := true, laidLooks := .later }
def CborReadsCardSaid : Prop := Claim7.holds Tryd.pinned (.plain (OpenSpec.ofChange cborReadsSpec)) cborReadsCard

/-- THE TIED CARD OF 'codicillaw10.CborUtf8'. -/
def cborUtf8Card : Claim7 := { stood := { row := cborUtf8Row, standIns := [], harness := (true, "0050a3543f2c8078b525ccb65db5f7a0a7edffe29863def1ab0d22ec84caf614"), looks := false }, kinds := [], alts := [], laidByText := true, laidKinds := [.data, .pinned], laidTests := true, laidLooks := .later }
def CborUtf8CardSaid : Prop := Claim7.holds Tryd.pinned (.plain (OpenSpec.ofChange cborUtf8Spec)) cborUtf8Card

/-- THE TIED CARD OF 'codicillaw10.CborUnlike'. -/
def cborUnlikeCard : Claim7 := { stood := { row := cborUnlikeRow, standIns := [], harness := (true, "0050a3543f2c8078b525ccb65db5f7a0a7edffe29863def1ab0d22ec84caf614"), looks := false }, kinds := [], alts := [], laidByText := true, laidKinds := [.data, .pinned], laidTests := true, laidLooks := .later }
def CborUnlikeCardSaid : Prop := Claim7.holds Tryd.pinned (.plain (OpenSpec.ofChange cborUnlikeSpec)) cborUnlikeCard

/-- THE TIED CARD OF 'codicillaw10.CborNests'. -/
def cborNestsCard : Claim7 := { stood := { row := cborNestsRow, standIns := [], harness := (true, "0050a3543f2c8078b525ccb65db5f7a0a7edffe29863def1ab0d22ec84caf614"), looks := false }, kinds := [], alts := [], laidByText := true, laidKinds := [.data, .pinned], laidTests := true, laidLooks := .later }
def CborNestsCardSaid : Prop := Claim7.holds Tryd.pinned (.plain (OpenSpec.ofChange cborNestsSpec)) cborNestsCard

/-- THE TIED CARD OF 'codicillaw10.CborMaps'. -/
def cborMapsCard : Claim7 := { stood := { row := cborMapsRow, standIns := [], harness := (true, "0050a3543f2c8078b525ccb65db5f7a0a7edffe29863def1ab0d22ec84caf614"), looks := false }, kinds := [], alts := [], laidByText := true, laidKinds := [.data, .pinned], laidTests := true, laidLooks := .later }
def CborMapsCardSaid : Prop := Claim7.holds Tryd.pinned (.plain (OpenSpec.ofChange cborMapsSpec)) cborMapsCard

/-- THE SECOND FORM's CARD OF 'codicillaw10.CborExact'. -/
def cborExactUptoCard : Claim7 := { stood := { row := cborExactUptoRow, standIns := [], harness := (true, "0050a3543f2c8078b525ccb65db5f7a0a7edffe29863def1ab0d22ec84caf614"), looks := false }, kinds := [], alts := [], laidByText := true, laidKinds := [.data, .pinned], laidTests := true, laidLooks := .later }
def CborExactUptoCardSaid : Prop := Claim7.holds Tryd.pinned (.plain (OpenSpec.upto cborExactSpec)) cborExactUptoCard

/-- THE SECOND FORM's CARD OF 'codicillaw10.CborReads'. -/
def cborReadsUptoCard : Claim7 := { stood := { row := cborReadsUptoRow, standIns := [], harness := (true, "0050a3543f2c8078b525ccb65db5f7a0a7edffe29863def1ab0d22ec84caf614"), looks := false }, kinds := [], alts := [], laidByText := true, laidKinds := [.data, .pinned], laidTests := true, laidLooks := .later }
def CborReadsUptoCardSaid : Prop := Claim7.holds Tryd.pinned (.plain (OpenSpec.upto cborReadsSpec)) cborReadsUptoCard

/-- THE SECOND FORM's CARD OF 'codicillaw10.CborUtf8'. -/
def cborUtf8UptoCard : Claim7 := { stood := { row := cborUtf8UptoRow, standIns := [], harness := (true, "0050a3543f2c8078b525ccb65db5f7a0a7edffe29863def1ab0d22ec84caf614"), looks := false }, kinds := [], alts := [], laidByText := true, laidKinds := [.data, .pinned], laidTests := true, laidLooks := .later }
def CborUtf8UptoCardSaid : Prop := Claim7.holds Tryd.pinned (.plain (OpenSpec.upto cborUtf8Spec)) cborUtf8UptoCard

/-- THE SECOND FORM's CARD OF 'codicillaw10.CborUnlike'. -/
def cborUnlikeUptoCard : Claim7 := { stood := { row := cborUnlikeUptoRow, standIns := [], harness := (true, "0050a3543f2c8078b525ccb65db5f7a0a7edffe29863def1ab0d22ec84caf614"), looks := false }, kinds := [], alts := [], laidByText := true, laidKinds := [.data, .pinned], laidTests := true, laidLooks := .later }
def CborUnlikeUptoCardSaid : Prop := Claim7.holds Tryd.pinned (.plain (OpenSpec.upto cborUnlikeSpec)) cborUnlikeUptoCard

/-- THE SECOND FORM's CARD OF 'codicillaw10.CborNests'. -/
def cborNestsUptoCard : Claim7 := { stood := { row := cborNestsUptoRow, standIns := [], harness := (true, "0050a3543f2c8078b525ccb65db5f7a0a7edffe29863def1ab0d22ec84caf614"), looks := false }, kinds := [], alts := [], laidByText := true, laidKinds := [.data, .pinned], laidTests := true, laidLooks := .later }
def CborNestsUptoCardSaid : Prop := Claim7.holds Tryd.pinned (.plain (OpenSpec.upto cborNestsSpec)) cborNestsUptoCard

/-- THE SECOND FORM's CARD OF 'codicillaw10.CborMaps'. -/
def cborMapsUptoCard : Claim7 := { stood := { row := cborMapsUptoRow, standIns := [], harness := (true, "0050a3543f2c8078b525ccb65db5f7a0a7edffe29863def1ab0d22ec84caf614"), looks := false }, kinds := [], alts := [], laidByText := true, laidKinds := [.data, .pinned], laidTests := true, laidLooks := .later }
def CborMapsUptoCardSaid : Prop := Claim7.holds Tryd.pinned (.plain (OpenSpec.upto cborMapsSpec)) cborMapsUptoCard
end Rows
end Go.Proofs.YtaabcllghniaoaaDoor
