/-
  DERIVED. GIVEN WITH THE SEED: THE CARDS: each row of YtaefjbklioljnaaDoorRows.lean that lists a variable, with what it lists TIED to the program's text (the seventh form; the later family's looks); each row that meets fmt, with fmt's text TOLD by the authors' own Lean function (tested against real Go, not proved from fmt's source: count such statements apart). THE CARD IS WHAT COUNTS. Prove the row's statement (the work); the ties are given (YtaefjbklioljnaaDoorTie.lean); close each card by the builder's one call (the guide's Derived/Test/ToyasCard.lean, 'card_holds'). Laid BY PROGRAM, IN A SANDBOX (cutbox-door.mjs). By AI agents, Wed Nov 11 2026. No macro, syntax, notation, axiom, sorry.
-/
import Derived.Test.YtaefjbklioljnaaDoorRows
import GoSem.ClaimSeven
namespace Go.Proofs.YtaefjbklioljnaaDoor
namespace Rows

/-- THE TIED CARD OF 'codicillaw04.FieldExact'. -/
def fieldExactCard : Claim7 := { stood := { row := fieldExactRow, standIns := [], harness := (true, "b7ad7d0a983e8f0e0de804d85b208d432ab58b661ae39e6439dd38dbb6939e85"), looks := false }, kinds := [], alts := [], laidByText := true, laidKinds := [.data], laidTests := true, laidLooks := .later }
def FieldExactCardSaid : Prop := Claim7.holds Tryd.pinned (.plain (OpenSpec.ofChange fieldExactSpec)) fieldExactCard

/-- THE TIED CARD OF 'codicillaw04.FieldInverse'. -/
def fieldInverseCard : Claim7 := { stood := { row := fieldInverseRow, standIns := [], harness := (true, "b7ad7d0a983e8f0e0de804d85b208d432ab58b661ae39e6439dd38dbb6939e85"), looks := false }, kinds := [], alts := [], laidByText := true, laidKinds := [.data], laidTests := true, laidLooks := .later }
def FieldInverseCardSaid : Prop := Claim7.holds Tryd.pinned (.plain (OpenSpec.ofChange fieldInverseSpec)) fieldInverseCard

/-- THE TIED CARD OF 'codicillaw04.FieldRoot'. -/
def fieldRootCard : Claim7 := { stood := { row := fieldRootRow, standIns := [], harness := (true, "b7ad7d0a983e8f0e0de804d85b208d432ab58b661ae39e6439dd38dbb6939e85"), looks := false }, kinds := [], alts := [], laidByText := true, laidKinds := [.data, .data], laidTests := true, laidLooks := .later }
def FieldRootCardSaid : Prop := Claim7.holds Tryd.pinned (.plain (OpenSpec.ofChange fieldRootSpec)) fieldRootCard

/-- THE TIED CARD OF 'codicillaw04.FieldLaws'. -/
def fieldLawsCard : Claim7 := { stood := { row := fieldLawsRow, standIns := [], harness := (true, "b7ad7d0a983e8f0e0de804d85b208d432ab58b661ae39e6439dd38dbb6939e85"), looks := false }, kinds := [], alts := [], laidByText := true, laidKinds := [.data], laidTests := true, laidLooks := .later }
def FieldLawsCardSaid : Prop := Claim7.holds Tryd.pinned (.plain (OpenSpec.ofChange fieldLawsSpec)) fieldLawsCard

/-- THE TIED CARD OF 'codicillaw04.FieldEnds'. -/
def fieldEndsCard : Claim7 := { stood := { row := fieldEndsRow, standIns := [], harness := (true, "b7ad7d0a983e8f0e0de804d85b208d432ab58b661ae39e6439dd38dbb6939e85"), looks := false }, kinds := [], alts := [], laidByText := true, laidKinds := [.data], laidTests := true, laidLooks := .later }
def FieldEndsCardSaid : Prop := Claim7.holds Tryd.pinned (.plain (OpenSpec.ofChange fieldEndsSpec)) fieldEndsCard

/-- THE TIED CARD OF 'codicillaw04.FieldFermat'. -/
def fieldFermatCard : Claim7 := { stood := { row := fieldFermatRow, standIns := [], harness := (true, "b7ad7d0a983e8f0e0de804d85b208d432ab58b661ae39e6439dd38dbb6939e85"), looks := false }, kinds := [], alts := [], laidByText := true, laidKinds := [.data], laidTests := true, laidLooks := .later }
def FieldFermatCardSaid : Prop := Claim7.holds Tryd.pinned (.plain (OpenSpec.ofChange fieldFermatSpec)) fieldFermatCard

/-- THE SECOND FORM's CARD OF 'codicillaw04.FieldExact'. -/
def fieldExactUptoCard : Claim7 := { stood := { row := fieldExactUptoRow, standIns := [], harness := (true, "b7ad7d0a983e8f0e0de804d85b208d432ab58b661ae39e6439dd38dbb6939e85"), looks := false }, kinds := [], alts := [], laidByText := true, laidKinds := [.data], laidTests := true, laidLooks := .later }
def FieldExactUptoCardSaid : Prop := Claim7.holds Tryd.pinned (.plain (OpenSpec.upto fieldExactSpec)) fieldExactUptoCard

/-- THE SECOND FORM's CARD OF 'codicillaw04.FieldInverse'. -/
def fieldInverseUptoCard : Claim7 := { stood := { row := fieldInverseUptoRow, standIns := [], harness := (true, "b7ad7d0a983e8f0e0de804d85b208d432ab58b661ae39e6439dd38dbb6939e85"), looks := false }, kinds := [], alts := [], laidByText := true, laidKinds := [.data], laidTests := true, laidLooks := .later }
def FieldInverseUptoCardSaid : Prop := Claim7.holds Tryd.pinned (.plain (OpenSpec.upto fieldInverseSpec)) fieldInverseUptoCard

/-- THE SECOND FORM's CARD OF 'codicillaw04.FieldRoot'. -/
def fieldRootUptoCard : Claim7 := { stood := { row := fieldRootUptoRow, standIns := [], harness := (true, "b7ad7d0a983e8f0e0de804d85b208d432ab58b661ae39e6439dd38dbb6939e85"), looks := false }, kinds := [], alts := [], laidByText := true, laidKinds := [.data, .data], laidTests := true, laidLooks := .later }
def FieldRootUptoCardSaid : Prop := Claim7.holds Tryd.pinned (.plain (OpenSpec.upto fieldRootSpec)) fieldRootUptoCard

/-- THE SECOND FORM's CARD OF 'codicillaw04.FieldLaws'. -/
def fieldLawsUptoCard : Claim7 := { stood := { row := fieldLawsUptoRow, standIns := [], harness := (true, "b7ad7d0a983e8f0e0de804d85b208d432ab58b661ae39e6439dd38dbb6939e85"), looks := false }, kinds := [], alts := [], laidByText := true, laidKinds := [.data], laidTests := true, laidLooks := .later }
def FieldLawsUptoCardSaid : Prop := Claim7.holds Tryd.pinned (.plain (OpenSpec.upto fieldLawsSpec)) fieldLawsUptoCard

/-- THE SECOND FORM's CARD OF 'codicillaw04.FieldEnds'. -/
def fieldEndsUptoCard : Claim7 := { stood := { row := fieldEndsUptoRow, standIns := [], harness := (true, "b7ad7d0a983e8f0e0de804d85b208d432ab58b661ae39e6439dd38dbb6939e85"), looks := false }, kinds := [], alts := [], laidByText := true, laidKinds := [.data], laidTests := true, laidLooks := .later }
def FieldEndsUptoCardSaid : Prop := Claim7.holds Tryd.pinned (.plain (OpenSpec.upto fieldEndsSpec)) fieldEndsUptoCard

/-- THE SECOND FORM's CARD OF 'codicillaw04.FieldFermat'. -/
def fieldFermatUptoCard : Claim7 := { stood := { row := fieldFermatUptoRow, standIns := [], harness := (true, "b7ad7d0a983e8f0e0de804d85b208d432ab58b661ae39e6439dd38dbb6939e85"), looks := false }, kinds := [], alts := [], laidByText := true, laidKinds := [.data], laidTests := true, laidLooks := .later }
def FieldFermatUptoCardSaid : Prop := Claim7.holds Tryd.pinned (.plain (OpenSpec.upto fieldFermatSpec)) fieldFermatUptoCard
end Rows
end Go.Proofs.YtaefjbklioljnaaDoor
