/-
  NARROWER THAN 'FOR EVERY INPUT', by the rows' own cells (each row's printed sentence says how): FieldExact: laid · FieldInverse: laid · FieldRoot: laid · FieldLaws: laid · FieldEnds: laid · FieldFermat: laid.
  DERIVED. THE GIVEN ROWS OF THIS SEAT. 6 by the template 'for every input the law returns true; each argument reads behind the call as it read before'; 0 by the template 'total and deterministic' (their statements: YtaefjbklioljnaaDoorTotals.lean).
  GIVEN WITH THE SEED: the statements are not yours to turn. If you find one false, say at which input.
  Laid BY PROGRAM, IN A SANDBOX (cutbox-rows.mjs): the forced cells as the released guide's own fill.sh prints them over the translation 060555f0e63f3712… (all of the seat's roots in one cut). By AI agents, Wed Nov 11 2026. No macro, syntax, notation, axiom, sorry.
-/
import Derived.Test.YtaefjbklioljnaaDoorChecked
import GoSem.Claim
import GoSem.ClaimJoined
import GoSem.ClaimMapViews
import Derived.JoinedTies
import Derived.KernelRfl
namespace Go.Proofs.YtaefjbklioljnaaDoor
/- THE CELL 'sum', in the pinned program and in every row, IS THE sha256 OF THE DUMP (.gsa) THAT YtaefjbklioljnaaDoorProg.lean LOADS. Nothing in Lean hashes anything: it is a label: what it is worth is what the hold of that sum in a sandbox is worth. -/
noncomputable def Tryd.pinned : Pinned := { name := "ytaefjbklioljnaadoor", sum := "060555f0e63f37127652617e58c1183b401383a5d9435481f34a85f987a19b62", checked := Tryd.checked }
namespace Rows
def none {H : Type} : Left H := { results := [], args := [] }

/- WHAT THE LISTED PACKAGE-LEVEL VARIABLES READ AS WHEN THE CALL BEGINS. Each datum BY PROGRAM (the guide's laid-datum.mjs) off the statement by which the dump's own 'gosem.cut.vars' lays the variable. In a bare row this is a premise. The card (YtaefjbklioljnaaDoorCards.lean) ties it to the program's text. -/
def laid_codicil_field_prime {H : Type} : DataW H := .agg [.lit (.int .u64 18446744073709551597), .lit (.int .u64 18446744073709551615), .lit (.int .u64 18446744073709551615), .lit (.int .u64 9223372036854775807)]
def laid_codicil_field_turn {H : Type} : DataW H := .agg [.lit (.int .u64 14190309331451158704), .lit (.int .u64 3405592160176694392), .lit (.int .u64 3120150775007532967), .lit (.int .u64 3135389899092516619)]

/-- 'codicillaw04.FieldExact': WHATEVER THE INPUT: true; the input reads as it did. -/
def fieldExactSpec : ChangeSpec := { name := "fieldExact", fn := fun _ => fun
  | [d1, d2] => { results := [.lit (.bool true)], args := [d1, d2] }
  | _ => none }
def fieldExactRow : OpenClaim := { program := "ytaefjbklioljnaadoor", sum := "060555f0e63f37127652617e58c1183b401383a5d9435481f34a85f987a19b62", func := "codicil/codicillaw04.FieldExact", spec := "fieldExact", inPlace := ["math/bits.Add64", "math/bits.Sub64"], named := ["codicil/field.prime"], apart := false, laid := [("codicil/field.prime", laid_codicil_field_prime)] }
def FieldExactSaid : Prop := fieldExactRow.holds Tryd.pinned (OpenSpec.ofChange fieldExactSpec)

/-- ITS FALSE NEIGHBOUR: 'it returns false'. Refute it at one input. -/
def fieldExactWrong : ChangeSpec := { name := "fieldExact", fn := fun _ => fun
  | [d1, d2] => { results := [.lit (.bool false)], args := [d1, d2] }
  | _ => none }
def FieldExactWrongFalsely : Prop := fieldExactRow.holds Tryd.pinned (OpenSpec.ofChange fieldExactWrong)

/-- 'codicillaw04.FieldInverse': WHATEVER THE INPUT: true; the input reads as it did. -/
def fieldInverseSpec : ChangeSpec := { name := "fieldInverse", fn := fun _ => fun
  | [d] => { results := [.lit (.bool true)], args := [d] }
  | _ => none }
def fieldInverseRow : OpenClaim := { program := "ytaefjbklioljnaadoor", sum := "060555f0e63f37127652617e58c1183b401383a5d9435481f34a85f987a19b62", func := "codicil/codicillaw04.FieldInverse", spec := "fieldInverse", inPlace := ["math/bits.Add64", "math/bits.Sub64"], recurses := true, named := ["codicil/field.prime"], apart := false, laid := [("codicil/field.prime", laid_codicil_field_prime)] }
def FieldInverseSaid : Prop := fieldInverseRow.holds Tryd.pinned (OpenSpec.ofChange fieldInverseSpec)

/-- ITS FALSE NEIGHBOUR: 'it returns false'. Refute it at one input. -/
def fieldInverseWrong : ChangeSpec := { name := "fieldInverse", fn := fun _ => fun
  | [d] => { results := [.lit (.bool false)], args := [d] }
  | _ => none }
def FieldInverseWrongFalsely : Prop := fieldInverseRow.holds Tryd.pinned (OpenSpec.ofChange fieldInverseWrong)

/-- 'codicillaw04.FieldRoot': WHATEVER THE INPUT: true; the input reads as it did. -/
def fieldRootSpec : ChangeSpec := { name := "fieldRoot", fn := fun _ => fun
  | [d] => { results := [.lit (.bool true)], args := [d] }
  | _ => none }
def fieldRootRow : OpenClaim := { program := "ytaefjbklioljnaadoor", sum := "060555f0e63f37127652617e58c1183b401383a5d9435481f34a85f987a19b62", func := "codicil/codicillaw04.FieldRoot", spec := "fieldRoot", inPlace := ["math/bits.Add64", "math/bits.Sub64"], recurses := true, named := ["codicil/field.turn", "codicil/field.prime"], apart := false, laid := [("codicil/field.prime", laid_codicil_field_prime), ("codicil/field.turn", laid_codicil_field_turn)] }
def FieldRootSaid : Prop := fieldRootRow.holds Tryd.pinned (OpenSpec.ofChange fieldRootSpec)

/-- ITS FALSE NEIGHBOUR: 'it returns false'. Refute it at one input. -/
def fieldRootWrong : ChangeSpec := { name := "fieldRoot", fn := fun _ => fun
  | [d] => { results := [.lit (.bool false)], args := [d] }
  | _ => none }
def FieldRootWrongFalsely : Prop := fieldRootRow.holds Tryd.pinned (OpenSpec.ofChange fieldRootWrong)

/-- 'codicillaw04.FieldLaws': WHATEVER THE INPUT: true; the input reads as it did. -/
def fieldLawsSpec : ChangeSpec := { name := "fieldLaws", fn := fun _ => fun
  | [d1, d2, d3] => { results := [.lit (.bool true)], args := [d1, d2, d3] }
  | _ => none }
def fieldLawsRow : OpenClaim := { program := "ytaefjbklioljnaadoor", sum := "060555f0e63f37127652617e58c1183b401383a5d9435481f34a85f987a19b62", func := "codicil/codicillaw04.FieldLaws", spec := "fieldLaws", inPlace := ["math/bits.Add64", "math/bits.Sub64"], named := ["codicil/field.prime"], apart := false, laid := [("codicil/field.prime", laid_codicil_field_prime)] }
def FieldLawsSaid : Prop := fieldLawsRow.holds Tryd.pinned (OpenSpec.ofChange fieldLawsSpec)

/-- ITS FALSE NEIGHBOUR: 'it returns false'. Refute it at one input. -/
def fieldLawsWrong : ChangeSpec := { name := "fieldLaws", fn := fun _ => fun
  | [d1, d2, d3] => { results := [.lit (.bool false)], args := [d1, d2, d3] }
  | _ => none }
def FieldLawsWrongFalsely : Prop := fieldLawsRow.holds Tryd.pinned (OpenSpec.ofChange fieldLawsWrong)

/-- 'codicillaw04.FieldEnds': WHATEVER THE INPUT: true; the input reads as it did. -/
def fieldEndsSpec : ChangeSpec := { name := "fieldEnds", fn := fun _ => fun
  | [d1, d2] => { results := [.lit (.bool true)], args := [d1, d2] }
  | _ => none }
def fieldEndsRow : OpenClaim := { program := "ytaefjbklioljnaadoor", sum := "060555f0e63f37127652617e58c1183b401383a5d9435481f34a85f987a19b62", func := "codicil/codicillaw04.FieldEnds", spec := "fieldEnds", inPlace := ["math/bits.Add64", "math/bits.Sub64"], named := ["codicil/field.prime"], apart := false, laid := [("codicil/field.prime", laid_codicil_field_prime)] }
def FieldEndsSaid : Prop := fieldEndsRow.holds Tryd.pinned (OpenSpec.ofChange fieldEndsSpec)

/-- ITS FALSE NEIGHBOUR: 'it returns false'. Refute it at one input. -/
def fieldEndsWrong : ChangeSpec := { name := "fieldEnds", fn := fun _ => fun
  | [d1, d2] => { results := [.lit (.bool false)], args := [d1, d2] }
  | _ => none }
def FieldEndsWrongFalsely : Prop := fieldEndsRow.holds Tryd.pinned (OpenSpec.ofChange fieldEndsWrong)

/-- 'codicillaw04.FieldFermat': WHATEVER THE INPUT: true; the input reads as it did. -/
def fieldFermatSpec : ChangeSpec := { name := "fieldFermat", fn := fun _ => fun
  | [d] => { results := [.lit (.bool true)], args := [d] }
  | _ => none }
def fieldFermatRow : OpenClaim := { program := "ytaefjbklioljnaadoor", sum := "060555f0e63f37127652617e58c1183b401383a5d9435481f34a85f987a19b62", func := "codicil/codicillaw04.FieldFermat", spec := "fieldFermat", inPlace := ["math/bits.Add64", "math/bits.Sub64"], named := ["codicil/field.prime"], apart := false, laid := [("codicil/field.prime", laid_codicil_field_prime)] }
def FieldFermatSaid : Prop := fieldFermatRow.holds Tryd.pinned (OpenSpec.ofChange fieldFermatSpec)

/-- ITS FALSE NEIGHBOUR: 'it returns false'. Refute it at one input. -/
def fieldFermatWrong : ChangeSpec := { name := "fieldFermat", fn := fun _ => fun
  | [d] => { results := [.lit (.bool false)], args := [d] }
  | _ => none }
def FieldFermatWrongFalsely : Prop := fieldFermatRow.holds Tryd.pinned (OpenSpec.ofChange fieldFermatWrong)

/- THE SECOND FORM. 'bulk': how many values and letters a reading holds, each counted each time it is reached (what is shared counts as often as it is met; a slice's spare places count too). A statement '..UptoSaid' is the law's where the arguments, and the package variables that the reading takes, are together of bulk at most 1048576: NARROWER than '..Said'. Prove '..Said' where nothing that the law and all that it calls make is longer than what came in: it says more and counts as full. Else prove '..UptoSaid'. A law counts once. -/
mutual
def uptoBulk {H : Type} : DataW H → Nat
  | .lit (.string bytes) => bytes.length + 1
  | .lit _ => 1
  | .nil => 1
  | .ptr d => uptoBulk d + 1
  | .slice elems spare => uptoBulkAll elems + uptoBulkAll spare + 1
  | .agg parts => uptoBulkAll parts + 1
  | .iface _ d => uptoBulk d + 1
  | .map entries => uptoBulkEntries entries + 1
  | .held _ => 1
def uptoBulkAll {H : Type} : List (DataW H) → Nat
  | [] => 0
  | d :: r => uptoBulk d + uptoBulkAll r
def uptoBulkEntries {H : Type} : List (Lit × DataW H) → Nat
  | [] => 0
  | x :: r => uptoBulkEntry x + uptoBulkEntries r
def uptoBulkEntry {H : Type} : Lit × DataW H → Nat
  | (.string bytes, d) => bytes.length + uptoBulk d + 1
  | (_, d) => uptoBulk d + 1
 end
def uptoSmall : (H : Type) → List (DataW H) → Bool := fun _ ds => decide (uptoBulkAll ds ≤ 1048576)
def OpenSpec.upto (s : _root_.Go.ChangeSpec) : _root_.Go.OpenSpec := { _root_.Go.OpenSpec.ofChange s with cond := some uptoSmall }

/-- 'codicillaw04.FieldExact', WHERE WHAT IT READS IS OF BULK AT MOST 1048576: true; the input reads as it did. -/
def fieldExactUptoRow : OpenClaim := { program := "ytaefjbklioljnaadoor", sum := "060555f0e63f37127652617e58c1183b401383a5d9435481f34a85f987a19b62", func := "codicil/codicillaw04.FieldExact", spec := "fieldExact", inPlace := ["math/bits.Add64", "math/bits.Sub64"], named := ["codicil/field.prime"], apart := false, laid := [("codicil/field.prime", laid_codicil_field_prime)], narrowed := true }
def FieldExactUptoSaid : Prop := fieldExactUptoRow.holds Tryd.pinned (OpenSpec.upto fieldExactSpec)

/-- 'codicillaw04.FieldInverse', WHERE WHAT IT READS IS OF BULK AT MOST 1048576: true; the input reads as it did. -/
def fieldInverseUptoRow : OpenClaim := { program := "ytaefjbklioljnaadoor", sum := "060555f0e63f37127652617e58c1183b401383a5d9435481f34a85f987a19b62", func := "codicil/codicillaw04.FieldInverse", spec := "fieldInverse", inPlace := ["math/bits.Add64", "math/bits.Sub64"], recurses := true, named := ["codicil/field.prime"], apart := false, laid := [("codicil/field.prime", laid_codicil_field_prime)], narrowed := true }
def FieldInverseUptoSaid : Prop := fieldInverseUptoRow.holds Tryd.pinned (OpenSpec.upto fieldInverseSpec)

/-- 'codicillaw04.FieldRoot', WHERE WHAT IT READS IS OF BULK AT MOST 1048576: true; the input reads as it did. -/
def fieldRootUptoRow : OpenClaim := { program := "ytaefjbklioljnaadoor", sum := "060555f0e63f37127652617e58c1183b401383a5d9435481f34a85f987a19b62", func := "codicil/codicillaw04.FieldRoot", spec := "fieldRoot", inPlace := ["math/bits.Add64", "math/bits.Sub64"], recurses := true, named := ["codicil/field.turn", "codicil/field.prime"], apart := false, laid := [("codicil/field.prime", laid_codicil_field_prime), ("codicil/field.turn", laid_codicil_field_turn)], narrowed := true }
def FieldRootUptoSaid : Prop := fieldRootUptoRow.holds Tryd.pinned (OpenSpec.upto fieldRootSpec)

/-- 'codicillaw04.FieldLaws', WHERE WHAT IT READS IS OF BULK AT MOST 1048576: true; the input reads as it did. -/
def fieldLawsUptoRow : OpenClaim := { program := "ytaefjbklioljnaadoor", sum := "060555f0e63f37127652617e58c1183b401383a5d9435481f34a85f987a19b62", func := "codicil/codicillaw04.FieldLaws", spec := "fieldLaws", inPlace := ["math/bits.Add64", "math/bits.Sub64"], named := ["codicil/field.prime"], apart := false, laid := [("codicil/field.prime", laid_codicil_field_prime)], narrowed := true }
def FieldLawsUptoSaid : Prop := fieldLawsUptoRow.holds Tryd.pinned (OpenSpec.upto fieldLawsSpec)

/-- 'codicillaw04.FieldEnds', WHERE WHAT IT READS IS OF BULK AT MOST 1048576: true; the input reads as it did. -/
def fieldEndsUptoRow : OpenClaim := { program := "ytaefjbklioljnaadoor", sum := "060555f0e63f37127652617e58c1183b401383a5d9435481f34a85f987a19b62", func := "codicil/codicillaw04.FieldEnds", spec := "fieldEnds", inPlace := ["math/bits.Add64", "math/bits.Sub64"], named := ["codicil/field.prime"], apart := false, laid := [("codicil/field.prime", laid_codicil_field_prime)], narrowed := true }
def FieldEndsUptoSaid : Prop := fieldEndsUptoRow.holds Tryd.pinned (OpenSpec.upto fieldEndsSpec)

/-- 'codicillaw04.FieldFermat', WHERE WHAT IT READS IS OF BULK AT MOST 1048576: true; the input reads as it did. -/
def fieldFermatUptoRow : OpenClaim := { program := "ytaefjbklioljnaadoor", sum := "060555f0e63f37127652617e58c1183b401383a5d9435481f34a85f987a19b62", func := "codicil/codicillaw04.FieldFermat", spec := "fieldFermat", inPlace := ["math/bits.Add64", "math/bits.Sub64"], named := ["codicil/field.prime"], apart := false, laid := [("codicil/field.prime", laid_codicil_field_prime)], narrowed := true }
def FieldFermatUptoSaid : Prop := fieldFermatUptoRow.holds Tryd.pinned (OpenSpec.upto fieldFermatSpec)

end Rows
end Go.Proofs.YtaefjbklioljnaaDoor
