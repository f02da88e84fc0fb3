/-
  DERIVED. GIVEN WITH THE SEED: THE CARDS: each row of YtcpapcopnmapmaaDoorRows.lean that lists a variable, with what it lists TIED to the program's text (the seventh form; the later family's looks); each row that meets fmt, with fmt's text TOLD by the authors' own Lean function (tested against real Go, not proved from fmt's source: count such statements apart). THE CARD IS WHAT COUNTS. Prove the row's statement (the work); the ties are given (YtcpapcopnmapmaaDoorTie.lean); close each card by the builder's one call (the guide's Derived/Test/ToyasCard.lean, 'card_holds'). Laid BY PROGRAM, IN A SANDBOX (cutbox-door.mjs). By AI agents, Wed Nov 11 2026. No macro, syntax, notation, axiom, sorry.
-/
import Derived.Test.YtcpapcopnmapmaaDoorRows
import GoSem.ClaimSeven
namespace Go.Proofs.YtcpapcopnmapmaaDoor
namespace Rows

/-- THE TIED CARD OF 'codicillaw03.CrcExact'. -/
def crcExactCard : Claim7 := { stood := { row := crcExactRow, standIns := [], harness := (true, "8fbfb3027f04518c3b49bac901caf9bcf20fc577a59bb0a1e841a73eea98638d"), looks := false }, kinds := [], alts := [], laidByText := true, laidKinds := [.data], laidTests := true, laidLooks := .later }
def CrcExactCardSaid : Prop := Claim7.holds Tryd.pinned (.plain (OpenSpec.ofChange crcExactSpec)) crcExactCard

/-- THE TIED CARD OF 'codicillaw03.CrcRest'. -/
def crcRestCard : Claim7 := { stood := { row := crcRestRow, standIns := [], harness := (true, "8fbfb3027f04518c3b49bac901caf9bcf20fc577a59bb0a1e841a73eea98638d"), looks := false }, kinds := [], alts := [], laidByText := true, laidKinds := [.data], laidTests := true, laidLooks := .later }
def CrcRestCardSaid : Prop := Claim7.holds Tryd.pinned (.plain (OpenSpec.ofChange crcRestSpec)) crcRestCard

/-- THE TIED CARD OF 'codicillaw03.CrcUnlike'. -/
def crcUnlikeCard : Claim7 := { stood := { row := crcUnlikeRow, standIns := [], harness := (true, "8fbfb3027f04518c3b49bac901caf9bcf20fc577a59bb0a1e841a73eea98638d"), looks := false }, kinds := [], alts := [], laidByText := true, laidKinds := [.data], laidTests := true, laidLooks := .later }
def CrcUnlikeCardSaid : Prop := Claim7.holds Tryd.pinned (.plain (OpenSpec.ofChange crcUnlikeSpec)) crcUnlikeCard

/-- THE TIED CARD OF 'codicillaw03.CrcLinear'. -/
def crcLinearCard : Claim7 := { stood := { row := crcLinearRow, standIns := [], harness := (true, "8fbfb3027f04518c3b49bac901caf9bcf20fc577a59bb0a1e841a73eea98638d"), looks := false }, kinds := [], alts := [], laidByText := true, laidKinds := [.data], laidTests := true, laidLooks := .later }
def CrcLinearCardSaid : Prop := Claim7.holds Tryd.pinned (.plain (OpenSpec.ofChange crcLinearSpec)) crcLinearCard

/-- THE TIED CARD OF 'codicillaw03.CrcForgets'. -/
def crcForgetsCard : Claim7 := { stood := { row := crcForgetsRow, standIns := [], harness := (true, "8fbfb3027f04518c3b49bac901caf9bcf20fc577a59bb0a1e841a73eea98638d"), looks := false }, kinds := [], alts := [], laidByText := true, laidKinds := [.data], laidTests := true, laidLooks := .later }
def CrcForgetsCardSaid : Prop := Claim7.holds Tryd.pinned (.plain (OpenSpec.ofChange crcForgetsSpec)) crcForgetsCard

/-- THE SECOND FORM's CARD OF 'codicillaw03.CrcExact'. -/
def crcExactUptoCard : Claim7 := { stood := { row := crcExactUptoRow, standIns := [], harness := (true, "8fbfb3027f04518c3b49bac901caf9bcf20fc577a59bb0a1e841a73eea98638d"), looks := false }, kinds := [], alts := [], laidByText := true, laidKinds := [.data], laidTests := true, laidLooks := .later }
def CrcExactUptoCardSaid : Prop := Claim7.holds Tryd.pinned (.plain (OpenSpec.upto crcExactSpec)) crcExactUptoCard

/-- THE SECOND FORM's CARD OF 'codicillaw03.CrcRest'. -/
def crcRestUptoCard : Claim7 := { stood := { row := crcRestUptoRow, standIns := [], harness := (true, "8fbfb3027f04518c3b49bac901caf9bcf20fc577a59bb0a1e841a73eea98638d"), looks := false }, kinds := [], alts := [], laidByText := true, laidKinds := [.data], laidTests := true, laidLooks := .later }
def CrcRestUptoCardSaid : Prop := Claim7.holds Tryd.pinned (.plain (OpenSpec.upto crcRestSpec)) crcRestUptoCard

/-- THE SECOND FORM's CARD OF 'codicillaw03.CrcUnlike'. -/
def crcUnlikeUptoCard : Claim7 := { stood := { row := crcUnlikeUptoRow, standIns := [], harness := (true, "8fbfb3027f04518c3b49bac901caf9bcf20fc577a59bb0a1e841a73eea98638d"), looks := false }, kinds := [], alts := [], laidByText := true, laidKinds := [.data], laidTests := true, laidLooks := .later }
def CrcUnlikeUptoCardSaid : Prop := Claim7.holds Tryd.pinned (.plain (OpenSpec.upto crcUnlikeSpec)) crcUnlikeUptoCard

/-- THE SECOND FORM's CARD OF 'codicillaw03.CrcLinear'. -/
def crcLinearUptoCard : Claim7 := { stood := { row := crcLinearUptoRow, standIns := [], harness := (true, "8fbfb3027f04518c3b49bac901caf9bcf20fc577a59bb0a1e841a73eea98638d"), looks := false }, kinds := [], alts := [], laidByText := true, laidKinds := [.data], laidTests := true, laidLooks := .later }
def CrcLinearUptoCardSaid : Prop := Claim7.holds Tryd.pinned (.plain (OpenSpec.upto crcLinearSpec)) crcLinearUptoCard

/-- THE SECOND FORM's CARD OF 'codicillaw03.CrcForgets'. -/
def crcForgetsUptoCard : Claim7 := { stood := { row := crcForgetsUptoRow, standIns := [], harness := (true, "8fbfb3027f04518c3b49bac901caf9bcf20fc577a59bb0a1e841a73eea98638d"), looks := false }, kinds := [], alts := [], laidByText := true, laidKinds := [.data], laidTests := true, laidLooks := .later }
def CrcForgetsUptoCardSaid : Prop := Claim7.holds Tryd.pinned (.plain (OpenSpec.upto crcForgetsSpec)) crcForgetsUptoCard
end Rows
end Go.Proofs.YtcpapcopnmapmaaDoor
