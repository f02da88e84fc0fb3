/-
  NARROWER THAN 'FOR EVERY INPUT', by the rows' own cells (each row's printed sentence says how): ScalarExact: laid · ScalarLaws: laid · ScalarGoes: laid · ScalarEnds: laid · ScalarSmall: laid · ScalarWide: laid.
  DERIVED. THE GIVEN ROWS OF THIS SEAT. 6 by the template 'for every input the law returns true; each argument reads behind the call as it read before'; 0 by the template 'total and deterministic' (their statements: YtofoihebhdpjlaaDoorTotals.lean).
  GIVEN WITH THE SEED: the statements are not yours to turn. If you find one false, say at which input.
  Laid BY PROGRAM, IN A SANDBOX (cutbox-rows.mjs): the forced cells as the released guide's own fill.sh prints them over the translation f144e39b76c2187b… (all of the seat's roots in one cut). By AI agents, Wed Nov 11 2026. No macro, syntax, notation, axiom, sorry.
-/
import Derived.Test.YtofoihebhdpjlaaDoorChecked
import GoSem.Claim
import GoSem.ClaimJoined
import GoSem.ClaimMapViews
import Derived.JoinedTies
import Derived.KernelRfl
namespace Go.Proofs.YtofoihebhdpjlaaDoor
/- THE CELL 'sum', in the pinned program and in every row, IS THE sha256 OF THE DUMP (.gsa) THAT YtofoihebhdpjlaaDoorProg.lean LOADS. Nothing in Lean hashes anything: it is a label: what it is worth is what the hold of that sum in a sandbox is worth. -/
noncomputable def Tryd.pinned : Pinned := { name := "ytofoihebhdpjlaadoor", sum := "f144e39b76c2187b513ca02e68f4e86822ee03b793905cf14af209c5620dc187", checked := Tryd.checked }
namespace Rows
def none {H : Type} : Left H := { results := [], args := [] }

/- WHAT THE LISTED PACKAGE-LEVEL VARIABLES READ AS WHEN THE CALL BEGINS. Each datum BY PROGRAM (the guide's laid-datum.mjs) off the statement by which the dump's own 'gosem.cut.vars' lays the variable. In a bare row this is a premise. The card (YtofoihebhdpjlaaDoorCards.lean) ties it to the program's text. -/
def laid_codicil_scalar_order {H : Type} : DataW H := .agg [.lit (.int .u64 6346243789798364141), .lit (.int .u64 1503914060200516822), .lit (.int .u64 0), .lit (.int .u64 1152921504606846976)]

/-- 'codicillaw05.ScalarExact': WHATEVER THE INPUT: true; the input reads as it did. -/
def scalarExactSpec : ChangeSpec := { name := "scalarExact", fn := fun _ => fun
  | [d1, d2, d3, d4] => { results := [.lit (.bool true)], args := [d1, d2, d3, d4] }
  | _ => none }
def scalarExactRow : OpenClaim := { program := "ytofoihebhdpjlaadoor", sum := "f144e39b76c2187b513ca02e68f4e86822ee03b793905cf14af209c5620dc187", func := "codicil/codicillaw05.ScalarExact", spec := "scalarExact", inPlace := ["math/bits.Add64", "math/bits.Sub64"], unfollowed := true, recurses := true, named := ["codicil/scalar.order"], apart := false, laid := [("codicil/scalar.order", laid_codicil_scalar_order)] }
def ScalarExactSaid : Prop := scalarExactRow.holds Tryd.pinned (OpenSpec.ofChange scalarExactSpec)

/-- ITS FALSE NEIGHBOUR: 'it returns false'. Refute it at one input. -/
def scalarExactWrong : ChangeSpec := { name := "scalarExact", fn := fun _ => fun
  | [d1, d2, d3, d4] => { results := [.lit (.bool false)], args := [d1, d2, d3, d4] }
  | _ => none }
def ScalarExactWrongFalsely : Prop := scalarExactRow.holds Tryd.pinned (OpenSpec.ofChange scalarExactWrong)

/-- 'codicillaw05.ScalarLaws': WHATEVER THE INPUT: true; the input reads as it did. -/
def scalarLawsSpec : ChangeSpec := { name := "scalarLaws", fn := fun _ => fun
  | [d1, d2, d3] => { results := [.lit (.bool true)], args := [d1, d2, d3] }
  | _ => none }
def scalarLawsRow : OpenClaim := { program := "ytofoihebhdpjlaadoor", sum := "f144e39b76c2187b513ca02e68f4e86822ee03b793905cf14af209c5620dc187", func := "codicil/codicillaw05.ScalarLaws", spec := "scalarLaws", inPlace := ["math/bits.Add64", "math/bits.Sub64"], unfollowed := true, recurses := true, named := ["codicil/scalar.order"], apart := false, laid := [("codicil/scalar.order", laid_codicil_scalar_order)] }
def ScalarLawsSaid : Prop := scalarLawsRow.holds Tryd.pinned (OpenSpec.ofChange scalarLawsSpec)

/-- ITS FALSE NEIGHBOUR: 'it returns false'. Refute it at one input. -/
def scalarLawsWrong : ChangeSpec := { name := "scalarLaws", fn := fun _ => fun
  | [d1, d2, d3] => { results := [.lit (.bool false)], args := [d1, d2, d3] }
  | _ => none }
def ScalarLawsWrongFalsely : Prop := scalarLawsRow.holds Tryd.pinned (OpenSpec.ofChange scalarLawsWrong)

/-- 'codicillaw05.ScalarGoes': WHATEVER THE INPUT: true; the input reads as it did. -/
def scalarGoesSpec : ChangeSpec := { name := "scalarGoes", fn := fun _ => fun
  | [d1, d2, d3, d4] => { results := [.lit (.bool true)], args := [d1, d2, d3, d4] }
  | _ => none }
def scalarGoesRow : OpenClaim := { program := "ytofoihebhdpjlaadoor", sum := "f144e39b76c2187b513ca02e68f4e86822ee03b793905cf14af209c5620dc187", func := "codicil/codicillaw05.ScalarGoes", spec := "scalarGoes", inPlace := ["math/bits.Add64", "math/bits.Sub64"], unfollowed := true, recurses := true, named := ["codicil/scalar.order"], apart := false, laid := [("codicil/scalar.order", laid_codicil_scalar_order)] }
def ScalarGoesSaid : Prop := scalarGoesRow.holds Tryd.pinned (OpenSpec.ofChange scalarGoesSpec)

/-- ITS FALSE NEIGHBOUR: 'it returns false'. Refute it at one input. -/
def scalarGoesWrong : ChangeSpec := { name := "scalarGoes", fn := fun _ => fun
  | [d1, d2, d3, d4] => { results := [.lit (.bool false)], args := [d1, d2, d3, d4] }
  | _ => none }
def ScalarGoesWrongFalsely : Prop := scalarGoesRow.holds Tryd.pinned (OpenSpec.ofChange scalarGoesWrong)

/-- 'codicillaw05.ScalarEnds': WHATEVER THE INPUT: true; the input reads as it did. -/
def scalarEndsSpec : ChangeSpec := { name := "scalarEnds", fn := fun _ => fun
  | [d1, d2] => { results := [.lit (.bool true)], args := [d1, d2] }
  | _ => none }
def scalarEndsRow : OpenClaim := { program := "ytofoihebhdpjlaadoor", sum := "f144e39b76c2187b513ca02e68f4e86822ee03b793905cf14af209c5620dc187", func := "codicil/codicillaw05.ScalarEnds", spec := "scalarEnds", inPlace := ["math/bits.Add64", "math/bits.Sub64"], unfollowed := true, recurses := true, named := ["codicil/scalar.order"], apart := false, laid := [("codicil/scalar.order", laid_codicil_scalar_order)] }
def ScalarEndsSaid : Prop := scalarEndsRow.holds Tryd.pinned (OpenSpec.ofChange scalarEndsSpec)

/-- ITS FALSE NEIGHBOUR: 'it returns false'. Refute it at one input. -/
def scalarEndsWrong : ChangeSpec := { name := "scalarEnds", fn := fun _ => fun
  | [d1, d2] => { results := [.lit (.bool false)], args := [d1, d2] }
  | _ => none }
def ScalarEndsWrongFalsely : Prop := scalarEndsRow.holds Tryd.pinned (OpenSpec.ofChange scalarEndsWrong)

/-- 'codicillaw05.ScalarSmall': WHATEVER THE INPUT: true; the input reads as it did. -/
def scalarSmallSpec : ChangeSpec := { name := "scalarSmall", fn := fun _ => fun
  | [d1, d2, d3] => { results := [.lit (.bool true)], args := [d1, d2, d3] }
  | _ => none }
def scalarSmallRow : OpenClaim := { program := "ytofoihebhdpjlaadoor", sum := "f144e39b76c2187b513ca02e68f4e86822ee03b793905cf14af209c5620dc187", func := "codicil/codicillaw05.ScalarSmall", spec := "scalarSmall", inPlace := ["math/bits.Add64", "math/bits.Sub64"], unfollowed := true, recurses := true, named := ["codicil/scalar.order"], apart := false, laid := [("codicil/scalar.order", laid_codicil_scalar_order)] }
def ScalarSmallSaid : Prop := scalarSmallRow.holds Tryd.pinned (OpenSpec.ofChange scalarSmallSpec)

/-- ITS FALSE NEIGHBOUR: 'it returns false'. Refute it at one input. -/
def scalarSmallWrong : ChangeSpec := { name := "scalarSmall", fn := fun _ => fun
  | [d1, d2, d3] => { results := [.lit (.bool false)], args := [d1, d2, d3] }
  | _ => none }
def ScalarSmallWrongFalsely : Prop := scalarSmallRow.holds Tryd.pinned (OpenSpec.ofChange scalarSmallWrong)

/-- 'codicillaw05.ScalarWide': WHATEVER THE INPUT: true; the input reads as it did. -/
def scalarWideSpec : ChangeSpec := { name := "scalarWide", fn := fun _ => fun
  | [d] => { results := [.lit (.bool true)], args := [d] }
  | _ => none }
def scalarWideRow : OpenClaim := { program := "ytofoihebhdpjlaadoor", sum := "f144e39b76c2187b513ca02e68f4e86822ee03b793905cf14af209c5620dc187", func := "codicil/codicillaw05.ScalarWide", spec := "scalarWide", inPlace := ["math/bits.Add64", "math/bits.Sub64"], unfollowed := true, recurses := true, named := ["codicil/scalar.order"], apart := false, laid := [("codicil/scalar.order", laid_codicil_scalar_order)] }
def ScalarWideSaid : Prop := scalarWideRow.holds Tryd.pinned (OpenSpec.ofChange scalarWideSpec)

/-- ITS FALSE NEIGHBOUR: 'it returns false'. Refute it at one input. -/
def scalarWideWrong : ChangeSpec := { name := "scalarWide", fn := fun _ => fun
  | [d] => { results := [.lit (.bool false)], args := [d] }
  | _ => none }
def ScalarWideWrongFalsely : Prop := scalarWideRow.holds Tryd.pinned (OpenSpec.ofChange scalarWideWrong)

/- THE SECOND FORM. 'bulk': how many values and letters a reading holds, each counted each time it is reached (what is shared counts as often as it is met; a slice's spare places count too). A statement '..UptoSaid' is the law's where the arguments, and the package variables that the reading takes, are together of bulk at most 1048576: NARROWER than '..Said'. Prove '..Said' where nothing that the law and all that it calls make is longer than what came in: it says more and counts as full. Else prove '..UptoSaid'. A law counts once. -/
mutual
def uptoBulk {H : Type} : DataW H → Nat
  | .lit (.string bytes) => bytes.length + 1
  | .lit _ => 1
  | .nil => 1
  | .ptr d => uptoBulk d + 1
  | .slice elems spare => uptoBulkAll elems + uptoBulkAll spare + 1
  | .agg parts => uptoBulkAll parts + 1
  | .iface _ d => uptoBulk d + 1
  | .map entries => uptoBulkEntries entries + 1
  | .held _ => 1
def uptoBulkAll {H : Type} : List (DataW H) → Nat
  | [] => 0
  | d :: r => uptoBulk d + uptoBulkAll r
def uptoBulkEntries {H : Type} : List (Lit × DataW H) → Nat
  | [] => 0
  | x :: r => uptoBulkEntry x + uptoBulkEntries r
def uptoBulkEntry {H : Type} : Lit × DataW H → Nat
  | (.string bytes, d) => bytes.length + uptoBulk d + 1
  | (_, d) => uptoBulk d + 1
 end
def uptoSmall : (H : Type) → List (DataW H) → Bool := fun _ ds => decide (uptoBulkAll ds ≤ 1048576)
def OpenSpec.upto (s : _root_.Go.ChangeSpec) : _root_.Go.OpenSpec := { _root_.Go.OpenSpec.ofChange s with cond := some uptoSmall }

/-- 'codicillaw05.ScalarExact', WHERE WHAT IT READS IS OF BULK AT MOST 1048576: true; the input reads as it did. -/
def scalarExactUptoRow : OpenClaim := { program := "ytofoihebhdpjlaadoor", sum := "f144e39b76c2187b513ca02e68f4e86822ee03b793905cf14af209c5620dc187", func := "codicil/codicillaw05.ScalarExact", spec := "scalarExact", inPlace := ["math/bits.Add64", "math/bits.Sub64"], unfollowed := true, recurses := true, named := ["codicil/scalar.order"], apart := false, laid := [("codicil/scalar.order", laid_codicil_scalar_order)], narrowed := true }
def ScalarExactUptoSaid : Prop := scalarExactUptoRow.holds Tryd.pinned (OpenSpec.upto scalarExactSpec)

/-- 'codicillaw05.ScalarLaws', WHERE WHAT IT READS IS OF BULK AT MOST 1048576: true; the input reads as it did. -/
def scalarLawsUptoRow : OpenClaim := { program := "ytofoihebhdpjlaadoor", sum := "f144e39b76c2187b513ca02e68f4e86822ee03b793905cf14af209c5620dc187", func := "codicil/codicillaw05.ScalarLaws", spec := "scalarLaws", inPlace := ["math/bits.Add64", "math/bits.Sub64"], unfollowed := true, recurses := true, named := ["codicil/scalar.order"], apart := false, laid := [("codicil/scalar.order", laid_codicil_scalar_order)], narrowed := true }
def ScalarLawsUptoSaid : Prop := scalarLawsUptoRow.holds Tryd.pinned (OpenSpec.upto scalarLawsSpec)

/-- 'codicillaw05.ScalarGoes', WHERE WHAT IT READS IS OF BULK AT MOST 1048576: true; the input reads as it did. -/
def scalarGoesUptoRow : OpenClaim := { program := "ytofoihebhdpjlaadoor", sum := "f144e39b76c2187b513ca02e68f4e86822ee03b793905cf14af209c5620dc187", func := "codicil/codicillaw05.ScalarGoes", spec := "scalarGoes", inPlace := ["math/bits.Add64", "math/bits.Sub64"], unfollowed := true, recurses := true, named := ["codicil/scalar.order"], apart := false, laid := [("codicil/scalar.order", laid_codicil_scalar_order)], narrowed := true }
def ScalarGoesUptoSaid : Prop := scalarGoesUptoRow.holds Tryd.pinned (OpenSpec.upto scalarGoesSpec)

/-- 'codicillaw05.ScalarEnds', WHERE WHAT IT READS IS OF BULK AT MOST 1048576: true; the input reads as it did. -/
def scalarEndsUptoRow : OpenClaim := { program := "ytofoihebhdpjlaadoor", sum := "f144e39b76c2187b513ca02e68f4e86822ee03b793905cf14af209c5620dc187", func := "codicil/codicillaw05.ScalarEnds", spec := "scalarEnds", inPlace := ["math/bits.Add64", "math/bits.Sub64"], unfollowed := true, recurses := true, named := ["codicil/scalar.order"], apart := false, laid := [("codicil/scalar.order", laid_codicil_scalar_order)], narrowed := true }
def ScalarEndsUptoSaid : Prop := scalarEndsUptoRow.holds Tryd.pinned (OpenSpec.upto scalarEndsSpec)

/-- 'codicillaw05.ScalarSmall', WHERE WHAT IT READS IS OF BULK AT MOST 1048576: true; the input reads as it did. -/
def scalarSmallUptoRow : OpenClaim := { program := "ytofoihebhdpjlaadoor", sum := "f144e39b76c2187b513ca02e68f4e86822ee03b793905cf14af209c5620dc187", func := "codicil/codicillaw05.ScalarSmall", spec := "scalarSmall", inPlace := ["math/bits.Add64", "math/bits.Sub64"], unfollowed := true, recurses := true, named := ["codicil/scalar.order"], apart := false, laid := [("codicil/scalar.order", laid_codicil_scalar_order)], narrowed := true }
def ScalarSmallUptoSaid : Prop := scalarSmallUptoRow.holds Tryd.pinned (OpenSpec.upto scalarSmallSpec)

/-- 'codicillaw05.ScalarWide', WHERE WHAT IT READS IS OF BULK AT MOST 1048576: true; the input reads as it did. -/
def scalarWideUptoRow : OpenClaim := { program := "ytofoihebhdpjlaadoor", sum := "f144e39b76c2187b513ca02e68f4e86822ee03b793905cf14af209c5620dc187", func := "codicil/codicillaw05.ScalarWide", spec := "scalarWide", inPlace := ["math/bits.Add64", "math/bits.Sub64"], unfollowed := true, recurses := true, named := ["codicil/scalar.order"], apart := false, laid := [("codicil/scalar.order", laid_codicil_scalar_order)], narrowed := true }
def ScalarWideUptoSaid : Prop := scalarWideUptoRow.holds Tryd.pinned (OpenSpec.upto scalarWideSpec)

end Rows
end Go.Proofs.YtofoihebhdpjlaaDoor
