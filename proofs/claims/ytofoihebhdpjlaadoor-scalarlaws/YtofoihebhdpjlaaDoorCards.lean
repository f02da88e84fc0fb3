/-
  DERIVED. GIVEN WITH THE SEED: THE CARDS: each row of YtofoihebhdpjlaaDoorRows.lean that lists a variable, with what it lists TIED to the program's text (the seventh form; the later family's looks); each row that meets fmt, with fmt's text TOLD by the authors' own Lean function (tested against real Go, not proved from fmt's source: count such statements apart). THE CARD IS WHAT COUNTS. Prove the row's statement (the work); the ties are given (YtofoihebhdpjlaaDoorTie.lean); close each card by the builder's one call (the guide's Derived/Test/ToyasCard.lean, 'card_holds'). Laid BY PROGRAM, IN A SANDBOX (cutbox-door.mjs). By AI agents, Wed Nov 11 2026. No macro, syntax, notation, axiom, sorry.
-/
import Derived.Test.YtofoihebhdpjlaaDoorRows
import GoSem.ClaimSeven
namespace Go.Proofs.YtofoihebhdpjlaaDoor
namespace Rows

/-- THE TIED CARD OF 'codicillaw05.ScalarExact'. -/
def scalarExactCard : Claim7 := { stood := { row := scalarExactRow, standIns := [], harness := (true, "e620848c312ee67f9964805e162dc9de787c6a6859242ebe9008c6c88eb08232"), looks := false }, kinds := [], alts := [], laidByText := true, laidKinds := [.data], laidTests := true, laidLooks := .later }
def ScalarExactCardSaid : Prop := Claim7.holds Tryd.pinned (.plain (OpenSpec.ofChange scalarExactSpec)) scalarExactCard

/-- THE TIED CARD OF 'codicillaw05.ScalarLaws'. -/
def scalarLawsCard : Claim7 := { stood := { row := scalarLawsRow, standIns := [], harness := (true, "e620848c312ee67f9964805e162dc9de787c6a6859242ebe9008c6c88eb08232"), looks := false }, kinds := [], alts := [], laidByText := true, laidKinds := [.data], laidTests := true, laidLooks := .later }
def ScalarLawsCardSaid : Prop := Claim7.holds Tryd.pinned (.plain (OpenSpec.ofChange scalarLawsSpec)) scalarLawsCard

/-- THE TIED CARD OF 'codicillaw05.ScalarGoes'. -/
def scalarGoesCard : Claim7 := { stood := { row := scalarGoesRow, standIns := [], harness := (true, "e620848c312ee67f9964805e162dc9de787c6a6859242ebe9008c6c88eb08232"), looks := false }, kinds := [], alts := [], laidByText := true, laidKinds := [.data], laidTests := true, laidLooks := .later }
def ScalarGoesCardSaid : Prop := Claim7.holds Tryd.pinned (.plain (OpenSpec.ofChange scalarGoesSpec)) scalarGoesCard

/-- THE TIED CARD OF 'codicillaw05.ScalarEnds'. -/
def scalarEndsCard : Claim7 := { stood := { row := scalarEndsRow, standIns := [], harness := (true, "e620848c312ee67f9964805e162dc9de787c6a6859242ebe9008c6c88eb08232"), looks := false }, kinds := [], alts := [], laidByText := true, laidKinds := [.data], laidTests := true, laidLooks := .later }
def ScalarEndsCardSaid : Prop := Claim7.holds Tryd.pinned (.plain (OpenSpec.ofChange scalarEndsSpec)) scalarEndsCard

/-- THE TIED CARD OF 'codicillaw05.ScalarSmall'. -/
def scalarSmallCard : Claim7 := { stood := { row := scalarSmallRow, standIns := [], harness := (true, "e620848c312ee67f9964805e162dc9de787c6a6859242ebe9008c6c88eb08232"), looks := false }, kinds := [], alts := [], laidByText := true, laidKinds := [.data], laidTests := true, laidLooks := .later }
def ScalarSmallCardSaid : Prop := Claim7.holds Tryd.pinned (.plain (OpenSpec.ofChange scalarSmallSpec)) scalarSmallCard

/-- THE TIED CARD OF 'codicillaw05.ScalarWide'. -/
def scalarWideCard : Claim7 := { stood := { row := scalarWideRow, standIns := [], harness := (true, "e620848c312ee67f9964805e162dc9de787c6a6859242ebe9008c6c88eb08232"), looks := false }, kinds := [], alts := [], laidByText := true, laidKinds := [.data], laidTests := true, laidLooks := .later }
def ScalarWideCardSaid : Prop := Claim7.holds Tryd.pinned (.plain (OpenSpec.ofChange scalarWideSpec)) scalarWideCard

/-- THE SECOND FORM's CARD OF 'codicillaw05.ScalarExact'. -/
def scalarExactUptoCard : Claim7 := { stood := { row := scalarExactUptoRow, standIns := [], harness := (true, "e620848c312ee67f9964805e162dc9de787c6a6859242ebe9008c6c88eb08232"), looks := false }, kinds := [], alts := [], laidByText := true, laidKinds := [.data], laidTests := true, laidLooks := .later }
def ScalarExactUptoCardSaid : Prop := Claim7.holds Tryd.pinned (.plain (OpenSpec.upto scalarExactSpec)) scalarExactUptoCard

/-- THE SECOND FORM's CARD OF 'codicillaw05.ScalarLaws'. -/
def scalarLawsUptoCard : Claim7 := { stood := { row := scalarLawsUptoRow, standIns := [], harness := (true, "e620848c312ee67f9964805e162dc9de787c6a6859242ebe9008c6c88eb08232"), looks := false }, kinds := [], alts := [], laidByText := true, laidKinds := [.data], laidTests := true, laidLooks := .later }
def ScalarLawsUptoCardSaid : Prop := Claim7.holds Tryd.pinned (.plain (OpenSpec.upto scalarLawsSpec)) scalarLawsUptoCard

/-- THE SECOND FORM's CARD OF 'codicillaw05.ScalarGoes'. -/
def scalarGoesUptoCard : Claim7 := { stood := { row := scalarGoesUptoRow, standIns := [], harness := (true, "e620848c312ee67f9964805e162dc9de787c6a6859242ebe9008c6c88eb08232"), looks := false }, kinds := [], alts := [], laidByText := true, laidKinds := [.data], laidTests := true, laidLooks := .later }
def ScalarGoesUptoCardSaid : Prop := Claim7.holds Tryd.pinned (.plain (OpenSpec.upto scalarGoesSpec)) scalarGoesUptoCard

/-- THE SECOND FORM's CARD OF 'codicillaw05.ScalarEnds'. -/
def scalarEndsUptoCard : Claim7 := { stood := { row := scalarEndsUptoRow, standIns := [], harness := (true, "e620848c312ee67f9964805e162dc9de787c6a6859242ebe9008c6c88eb08232"), looks := false }, kinds := [], alts := [], laidByText := true, laidKinds := [.data], laidTests := true, laidLooks := .later }
def ScalarEndsUptoCardSaid : Prop := Claim7.holds Tryd.pinned (.plain (OpenSpec.upto scalarEndsSpec)) scalarEndsUptoCard

/-- THE SECOND FORM's CARD OF 'codicillaw05.ScalarSmall'. -/
def scalarSmallUptoCard : Claim7 := { stood := { row := scalarSmallUptoRow, standIns := [], harness := (true, "e620848c312ee67f9964805e162dc9de787c6a6859242ebe9008c6c88eb08232"), looks := false }, kinds := [], alts := [], laidByText := true, laidKinds := [.data], laidTests := true, laidLooks := .later }
def ScalarSmallUptoCardSaid : Prop := Claim7.holds Tryd.pinned (.plain (OpenSpec.upto scalarSmallSpec)) scalarSmallUptoCard

/-- THE SECOND FORM's CARD OF 'codicillaw05.ScalarWide'. -/
def scalarWideUptoCard : Claim7 := { stood := { row := scalarWideUptoRow, standIns := [], harness := (true, "e620848c312ee67f9964805e162dc9de787c6a6859242ebe9008c6c88eb08232"), looks := false }, kinds := [], alts := [], laidByText := true, laidKinds := [.data], laidTests := true, laidLooks := .later }
def ScalarWideUptoCardSaid : Prop := Claim7.holds Tryd.pinned (.plain (OpenSpec.upto scalarWideSpec)) scalarWideUptoCard
end Rows
end Go.Proofs.YtofoihebhdpjlaaDoor
