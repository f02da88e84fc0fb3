/-
  NARROWER THAN 'FOR EVERY INPUT', by the rows' own cells (each row's printed sentence says how): CurveExact: laid · CurveBase: laid · CurveGroup: laid · CurveSmall: laid · CurveSides: laid · CurveTimes: laid.
  DERIVED. THE GIVEN ROWS OF THIS SEAT. 6 by the template 'for every input the law returns true; each argument reads behind the call as it read before'; 0 by the template 'total and deterministic' (their statements: YtaekpoiaigklgaaDoorTotals.lean).
  GIVEN WITH THE SEED: the statements are not yours to turn. If you find one false, say at which input.
  Laid BY PROGRAM, IN A SANDBOX (cutbox-rows.mjs): the forced cells as the released guide's own fill.sh prints them over the translation 2ccc647b0bade1cb… (all of the seat's roots in one cut). By AI agents, Wed Nov 11 2026. No macro, syntax, notation, axiom, sorry.
-/
import Derived.Test.YtaekpoiaigklgaaDoorChecked
import GoSem.Claim
import GoSem.ClaimJoined
import GoSem.ClaimMapViews
import Derived.JoinedTies
import Derived.KernelRfl
namespace Go.Proofs.YtaekpoiaigklgaaDoor
/- THE CELL 'sum', in the pinned program and in every row, IS THE sha256 OF THE DUMP (.gsa) THAT YtaekpoiaigklgaaDoorProg.lean LOADS. Nothing in Lean hashes anything: it is a label: what it is worth is what the hold of that sum in a sandbox is worth. -/
noncomputable def Tryd.pinned : Pinned := { name := "ytaekpoiaigklgaadoor", sum := "2ccc647b0bade1cb25ab7cc4a2c28822a7efe391b66435915392f1dcf9cf371a", checked := Tryd.checked }
namespace Rows
def none {H : Type} : Left H := { results := [], args := [] }

/- WHAT THE LISTED PACKAGE-LEVEL VARIABLES READ AS WHEN THE CALL BEGINS. Each datum BY PROGRAM (the guide's laid-datum.mjs) off the statement by which the dump's own 'gosem.cut.vars' lays the variable. In a bare row this is a premise. The card (YtaekpoiaigklgaaDoorCards.lean) ties it to the program's text. -/
def laid_codicil_field_prime {H : Type} : DataW H := .agg [.lit (.int .u64 18446744073709551597), .lit (.int .u64 18446744073709551615), .lit (.int .u64 18446744073709551615), .lit (.int .u64 9223372036854775807)]
def laid_codicil_field_turn {H : Type} : DataW H := .agg [.lit (.int .u64 14190309331451158704), .lit (.int .u64 3405592160176694392), .lit (.int .u64 3120150775007532967), .lit (.int .u64 3135389899092516619)]
def laid_codicil_curve_nought {H : Type} : DataW H := .agg [.agg [.lit (.int .u8 0), .lit (.int .u8 0), .lit (.int .u8 0), .lit (.int .u8 0), .lit (.int .u8 0), .lit (.int .u8 0), .lit (.int .u8 0), .lit (.int .u8 0), .lit (.int .u8 0), .lit (.int .u8 0), .lit (.int .u8 0), .lit (.int .u8 0), .lit (.int .u8 0), .lit (.int .u8 0), .lit (.int .u8 0), .lit (.int .u8 0), .lit (.int .u8 0), .lit (.int .u8 0), .lit (.int .u8 0), .lit (.int .u8 0), .lit (.int .u8 0), .lit (.int .u8 0), .lit (.int .u8 0), .lit (.int .u8 0), .lit (.int .u8 0), .lit (.int .u8 0), .lit (.int .u8 0), .lit (.int .u8 0), .lit (.int .u8 0), .lit (.int .u8 0), .lit (.int .u8 0), .lit (.int .u8 0)], .agg [.lit (.int .u8 1), .lit (.int .u8 0), .lit (.int .u8 0), .lit (.int .u8 0), .lit (.int .u8 0), .lit (.int .u8 0), .lit (.int .u8 0), .lit (.int .u8 0), .lit (.int .u8 0), .lit (.int .u8 0), .lit (.int .u8 0), .lit (.int .u8 0), .lit (.int .u8 0), .lit (.int .u8 0), .lit (.int .u8 0), .lit (.int .u8 0), .lit (.int .u8 0), .lit (.int .u8 0), .lit (.int .u8 0), .lit (.int .u8 0), .lit (.int .u8 0), .lit (.int .u8 0), .lit (.int .u8 0), .lit (.int .u8 0), .lit (.int .u8 0), .lit (.int .u8 0), .lit (.int .u8 0), .lit (.int .u8 0), .lit (.int .u8 0), .lit (.int .u8 0), .lit (.int .u8 0), .lit (.int .u8 0)], .agg [.lit (.int .u8 1), .lit (.int .u8 0), .lit (.int .u8 0), .lit (.int .u8 0), .lit (.int .u8 0), .lit (.int .u8 0), .lit (.int .u8 0), .lit (.int .u8 0), .lit (.int .u8 0), .lit (.int .u8 0), .lit (.int .u8 0), .lit (.int .u8 0), .lit (.int .u8 0), .lit (.int .u8 0), .lit (.int .u8 0), .lit (.int .u8 0), .lit (.int .u8 0), .lit (.int .u8 0), .lit (.int .u8 0), .lit (.int .u8 0), .lit (.int .u8 0), .lit (.int .u8 0), .lit (.int .u8 0), .lit (.int .u8 0), .lit (.int .u8 0), .lit (.int .u8 0), .lit (.int .u8 0), .lit (.int .u8 0), .lit (.int .u8 0), .lit (.int .u8 0), .lit (.int .u8 0), .lit (.int .u8 0)]]
def laid_codicil_curve_base {H : Type} : DataW H := .agg [.agg [.lit (.int .u8 26), .lit (.int .u8 213), .lit (.int .u8 37), .lit (.int .u8 143), .lit (.int .u8 96), .lit (.int .u8 45), .lit (.int .u8 86), .lit (.int .u8 201), .lit (.int .u8 178), .lit (.int .u8 167), .lit (.int .u8 37), .lit (.int .u8 149), .lit (.int .u8 96), .lit (.int .u8 199), .lit (.int .u8 44), .lit (.int .u8 105), .lit (.int .u8 92), .lit (.int .u8 220), .lit (.int .u8 214), .lit (.int .u8 253), .lit (.int .u8 49), .lit (.int .u8 226), .lit (.int .u8 164), .lit (.int .u8 192), .lit (.int .u8 254), .lit (.int .u8 83), .lit (.int .u8 110), .lit (.int .u8 205), .lit (.int .u8 211), .lit (.int .u8 54), .lit (.int .u8 105), .lit (.int .u8 33)], .agg [.lit (.int .u8 88), .lit (.int .u8 102), .lit (.int .u8 102), .lit (.int .u8 102), .lit (.int .u8 102), .lit (.int .u8 102), .lit (.int .u8 102), .lit (.int .u8 102), .lit (.int .u8 102), .lit (.int .u8 102), .lit (.int .u8 102), .lit (.int .u8 102), .lit (.int .u8 102), .lit (.int .u8 102), .lit (.int .u8 102), .lit (.int .u8 102), .lit (.int .u8 102), .lit (.int .u8 102), .lit (.int .u8 102), .lit (.int .u8 102), .lit (.int .u8 102), .lit (.int .u8 102), .lit (.int .u8 102), .lit (.int .u8 102), .lit (.int .u8 102), .lit (.int .u8 102), .lit (.int .u8 102), .lit (.int .u8 102), .lit (.int .u8 102), .lit (.int .u8 102), .lit (.int .u8 102), .lit (.int .u8 102)], .agg [.lit (.int .u8 1), .lit (.int .u8 0), .lit (.int .u8 0), .lit (.int .u8 0), .lit (.int .u8 0), .lit (.int .u8 0), .lit (.int .u8 0), .lit (.int .u8 0), .lit (.int .u8 0), .lit (.int .u8 0), .lit (.int .u8 0), .lit (.int .u8 0), .lit (.int .u8 0), .lit (.int .u8 0), .lit (.int .u8 0), .lit (.int .u8 0), .lit (.int .u8 0), .lit (.int .u8 0), .lit (.int .u8 0), .lit (.int .u8 0), .lit (.int .u8 0), .lit (.int .u8 0), .lit (.int .u8 0), .lit (.int .u8 0), .lit (.int .u8 0), .lit (.int .u8 0), .lit (.int .u8 0), .lit (.int .u8 0), .lit (.int .u8 0), .lit (.int .u8 0), .lit (.int .u8 0), .lit (.int .u8 0)]]
def laid_codicil_curve_d {H : Type} : DataW H := .agg [.lit (.int .u8 163), .lit (.int .u8 120), .lit (.int .u8 89), .lit (.int .u8 19), .lit (.int .u8 202), .lit (.int .u8 77), .lit (.int .u8 235), .lit (.int .u8 117), .lit (.int .u8 171), .lit (.int .u8 216), .lit (.int .u8 65), .lit (.int .u8 65), .lit (.int .u8 77), .lit (.int .u8 10), .lit (.int .u8 112), .lit (.int .u8 0), .lit (.int .u8 152), .lit (.int .u8 232), .lit (.int .u8 121), .lit (.int .u8 119), .lit (.int .u8 121), .lit (.int .u8 64), .lit (.int .u8 199), .lit (.int .u8 140), .lit (.int .u8 115), .lit (.int .u8 254), .lit (.int .u8 111), .lit (.int .u8 43), .lit (.int .u8 238), .lit (.int .u8 108), .lit (.int .u8 3), .lit (.int .u8 82)]

/-- 'codicillaw06.CurveExact': WHATEVER THE INPUT: true; the input reads as it did. -/
def curveExactSpec : ChangeSpec := { name := "curveExact", fn := fun _ => fun
  | [d1, d2, d3] => { results := [.lit (.bool true)], args := [d1, d2, d3] }
  | _ => none }
def curveExactRow : OpenClaim := { program := "ytaekpoiaigklgaadoor", sum := "2ccc647b0bade1cb25ab7cc4a2c28822a7efe391b66435915392f1dcf9cf371a", func := "codicil/codicillaw06.CurveExact", spec := "curveExact", inPlace := ["math/bits.Sub64", "math/bits.Add64"], recurses := true, named := ["codicil/field.prime", "codicil/curve.d", "codicil/field.turn", "codicil/curve.nought", "codicil/curve.base"], apart := false, laid := [("codicil/field.prime", laid_codicil_field_prime), ("codicil/field.turn", laid_codicil_field_turn), ("codicil/curve.nought", laid_codicil_curve_nought), ("codicil/curve.base", laid_codicil_curve_base), ("codicil/curve.d", laid_codicil_curve_d)] }
def CurveExactSaid : Prop := curveExactRow.holds Tryd.pinned (OpenSpec.ofChange curveExactSpec)

/-- ITS FALSE NEIGHBOUR: 'it returns false'. Refute it at one input. -/
def curveExactWrong : ChangeSpec := { name := "curveExact", fn := fun _ => fun
  | [d1, d2, d3] => { results := [.lit (.bool false)], args := [d1, d2, d3] }
  | _ => none }
def CurveExactWrongFalsely : Prop := curveExactRow.holds Tryd.pinned (OpenSpec.ofChange curveExactWrong)

/-- 'codicillaw06.CurveBase': WHATEVER THE INPUT: true; the input reads as it did. -/
def curveBaseSpec : ChangeSpec := { name := "curveBase", fn := fun _ => fun
  | [d] => { results := [.lit (.bool true)], args := [d] }
  | _ => none }
def curveBaseRow : OpenClaim := { program := "ytaekpoiaigklgaadoor", sum := "2ccc647b0bade1cb25ab7cc4a2c28822a7efe391b66435915392f1dcf9cf371a", func := "codicil/codicillaw06.CurveBase", spec := "curveBase", inPlace := ["math/bits.Add64", "math/bits.Sub64"], recurses := true, named := ["codicil/curve.base", "codicil/curve.nought", "codicil/curve.d", "codicil/field.prime", "codicil/field.turn"], apart := false, laid := [("codicil/field.prime", laid_codicil_field_prime), ("codicil/field.turn", laid_codicil_field_turn), ("codicil/curve.nought", laid_codicil_curve_nought), ("codicil/curve.base", laid_codicil_curve_base), ("codicil/curve.d", laid_codicil_curve_d)] }
def CurveBaseSaid : Prop := curveBaseRow.holds Tryd.pinned (OpenSpec.ofChange curveBaseSpec)

/-- ITS FALSE NEIGHBOUR: 'it returns false'. Refute it at one input. -/
def curveBaseWrong : ChangeSpec := { name := "curveBase", fn := fun _ => fun
  | [d] => { results := [.lit (.bool false)], args := [d] }
  | _ => none }
def CurveBaseWrongFalsely : Prop := curveBaseRow.holds Tryd.pinned (OpenSpec.ofChange curveBaseWrong)

/-- 'codicillaw06.CurveGroup': WHATEVER THE INPUT: true; the input reads as it did. -/
def curveGroupSpec : ChangeSpec := { name := "curveGroup", fn := fun _ => fun
  | [d1, d2, d3] => { results := [.lit (.bool true)], args := [d1, d2, d3] }
  | _ => none }
def curveGroupRow : OpenClaim := { program := "ytaekpoiaigklgaadoor", sum := "2ccc647b0bade1cb25ab7cc4a2c28822a7efe391b66435915392f1dcf9cf371a", func := "codicil/codicillaw06.CurveGroup", spec := "curveGroup", inPlace := ["math/bits.Add64", "math/bits.Sub64"], recurses := true, named := ["codicil/curve.base", "codicil/curve.nought", "codicil/curve.d", "codicil/field.prime", "codicil/field.turn"], apart := false, laid := [("codicil/field.prime", laid_codicil_field_prime), ("codicil/field.turn", laid_codicil_field_turn), ("codicil/curve.nought", laid_codicil_curve_nought), ("codicil/curve.base", laid_codicil_curve_base), ("codicil/curve.d", laid_codicil_curve_d)] }
def CurveGroupSaid : Prop := curveGroupRow.holds Tryd.pinned (OpenSpec.ofChange curveGroupSpec)

/-- ITS FALSE NEIGHBOUR: 'it returns false'. Refute it at one input. -/
def curveGroupWrong : ChangeSpec := { name := "curveGroup", fn := fun _ => fun
  | [d1, d2, d3] => { results := [.lit (.bool false)], args := [d1, d2, d3] }
  | _ => none }
def CurveGroupWrongFalsely : Prop := curveGroupRow.holds Tryd.pinned (OpenSpec.ofChange curveGroupWrong)

/-- 'codicillaw06.CurveSmall': WHATEVER THE INPUT: true; the input reads as it did. -/
def curveSmallSpec : ChangeSpec := { name := "curveSmall", fn := fun _ => fun
  | [d1, d2] => { results := [.lit (.bool true)], args := [d1, d2] }
  | _ => none }
def curveSmallRow : OpenClaim := { program := "ytaekpoiaigklgaadoor", sum := "2ccc647b0bade1cb25ab7cc4a2c28822a7efe391b66435915392f1dcf9cf371a", func := "codicil/codicillaw06.CurveSmall", spec := "curveSmall", inPlace := ["math/bits.Add64", "math/bits.Sub64"], recurses := true, named := ["codicil/curve.base", "codicil/curve.nought", "codicil/curve.d", "codicil/field.prime", "codicil/field.turn"], apart := false, laid := [("codicil/field.prime", laid_codicil_field_prime), ("codicil/field.turn", laid_codicil_field_turn), ("codicil/curve.nought", laid_codicil_curve_nought), ("codicil/curve.base", laid_codicil_curve_base), ("codicil/curve.d", laid_codicil_curve_d)] }
def CurveSmallSaid : Prop := curveSmallRow.holds Tryd.pinned (OpenSpec.ofChange curveSmallSpec)

/-- ITS FALSE NEIGHBOUR: 'it returns false'. Refute it at one input. -/
def curveSmallWrong : ChangeSpec := { name := "curveSmall", fn := fun _ => fun
  | [d1, d2] => { results := [.lit (.bool false)], args := [d1, d2] }
  | _ => none }
def CurveSmallWrongFalsely : Prop := curveSmallRow.holds Tryd.pinned (OpenSpec.ofChange curveSmallWrong)

/-- 'codicillaw06.CurveSides': WHATEVER THE INPUT: true; the input reads as it did. -/
def curveSidesSpec : ChangeSpec := { name := "curveSides", fn := fun _ => fun
  | [d1, d2] => { results := [.lit (.bool true)], args := [d1, d2] }
  | _ => none }
def curveSidesRow : OpenClaim := { program := "ytaekpoiaigklgaadoor", sum := "2ccc647b0bade1cb25ab7cc4a2c28822a7efe391b66435915392f1dcf9cf371a", func := "codicil/codicillaw06.CurveSides", spec := "curveSides", inPlace := ["math/bits.Add64", "math/bits.Sub64"], recurses := true, named := ["codicil/curve.base", "codicil/curve.nought", "codicil/curve.d", "codicil/field.prime", "codicil/field.turn"], apart := false, laid := [("codicil/field.prime", laid_codicil_field_prime), ("codicil/field.turn", laid_codicil_field_turn), ("codicil/curve.nought", laid_codicil_curve_nought), ("codicil/curve.base", laid_codicil_curve_base), ("codicil/curve.d", laid_codicil_curve_d)] }
def CurveSidesSaid : Prop := curveSidesRow.holds Tryd.pinned (OpenSpec.ofChange curveSidesSpec)

/-- ITS FALSE NEIGHBOUR: 'it returns false'. Refute it at one input. -/
def curveSidesWrong : ChangeSpec := { name := "curveSides", fn := fun _ => fun
  | [d1, d2] => { results := [.lit (.bool false)], args := [d1, d2] }
  | _ => none }
def CurveSidesWrongFalsely : Prop := curveSidesRow.holds Tryd.pinned (OpenSpec.ofChange curveSidesWrong)

/-- 'codicillaw06.CurveTimes': WHATEVER THE INPUT: true; the input reads as it did. -/
def curveTimesSpec : ChangeSpec := { name := "curveTimes", fn := fun _ => fun
  | [d1, d2, d3] => { results := [.lit (.bool true)], args := [d1, d2, d3] }
  | _ => none }
def curveTimesRow : OpenClaim := { program := "ytaekpoiaigklgaadoor", sum := "2ccc647b0bade1cb25ab7cc4a2c28822a7efe391b66435915392f1dcf9cf371a", func := "codicil/codicillaw06.CurveTimes", spec := "curveTimes", inPlace := ["math/bits.Add64", "math/bits.Sub64"], recurses := true, named := ["codicil/curve.base", "codicil/curve.nought", "codicil/curve.d", "codicil/field.prime", "codicil/field.turn"], apart := false, laid := [("codicil/field.prime", laid_codicil_field_prime), ("codicil/field.turn", laid_codicil_field_turn), ("codicil/curve.nought", laid_codicil_curve_nought), ("codicil/curve.base", laid_codicil_curve_base), ("codicil/curve.d", laid_codicil_curve_d)] }
def CurveTimesSaid : Prop := curveTimesRow.holds Tryd.pinned (OpenSpec.ofChange curveTimesSpec)

/-- ITS FALSE NEIGHBOUR: 'it returns false'. Refute it at one input. -/
def curveTimesWrong : ChangeSpec := { name := "curveTimes", fn := fun _ => fun
  | [d1, d2, d3] => { results := [.lit (.bool false)], args := [d1, d2, d3] }
  | _ => none }
def CurveTimesWrongFalsely : Prop := curveTimesRow.holds Tryd.pinned (OpenSpec.ofChange curveTimesWrong)

/- THE SECOND FORM. 'bulk': how many values and letters a reading holds, each counted each time it is reached (what is shared counts as often as it is met; a slice's spare places count too). A statement '..UptoSaid' is the law's where the arguments, and the package variables that the reading takes, are together of bulk at most 1048576: NARROWER than '..Said'. Prove '..Said' where nothing that the law and all that it calls make is longer than what came in: it says more and counts as full. Else prove '..UptoSaid'. A law counts once. -/
mutual
def uptoBulk {H : Type} : DataW H → Nat
  | .lit (.string bytes) => bytes.length + 1
  | .lit _ => 1
  | .nil => 1
  | .ptr d => uptoBulk d + 1
  | .slice elems spare => uptoBulkAll elems + uptoBulkAll spare + 1
  | .agg parts => uptoBulkAll parts + 1
  | .iface _ d => uptoBulk d + 1
  | .map entries => uptoBulkEntries entries + 1
  | .held _ => 1
def uptoBulkAll {H : Type} : List (DataW H) → Nat
  | [] => 0
  | d :: r => uptoBulk d + uptoBulkAll r
def uptoBulkEntries {H : Type} : List (Lit × DataW H) → Nat
  | [] => 0
  | x :: r => uptoBulkEntry x + uptoBulkEntries r
def uptoBulkEntry {H : Type} : Lit × DataW H → Nat
  | (.string bytes, d) => bytes.length + uptoBulk d + 1
  | (_, d) => uptoBulk d + 1
 end
def uptoSmall : (H : Type) → List (DataW H) → Bool := fun _ ds => decide (uptoBulkAll ds ≤ 1048576)
def OpenSpec.upto (s : _root_.Go.ChangeSpec) : _root_.Go.OpenSpec := { _root_.Go.OpenSpec.ofChange s with cond := some uptoSmall }

/-- 'codicillaw06.CurveExact', WHERE WHAT IT READS IS OF BULK AT MOST 1048576: true; the input reads as it did. -/
def curveExactUptoRow : OpenClaim := { program := "ytaekpoiaigklgaadoor", sum := "2ccc647b0bade1cb25ab7cc4a2c28822a7efe391b66435915392f1dcf9cf371a", func := "codicil/codicillaw06.CurveExact", spec := "curveExact", inPlace := ["math/bits.Sub64", "math/bits.Add64"], recurses := true, named := ["codicil/field.prime", "codicil/curve.d", "codicil/field.turn", "codicil/curve.nought", "codicil/curve.base"], apart := false, laid := [("codicil/field.prime", laid_codicil_field_prime), ("codicil/field.turn", laid_codicil_field_turn), ("codicil/curve.nought", laid_codicil_curve_nought), ("codicil/curve.base", laid_codicil_curve_base), ("codicil/curve.d", laid_codicil_curve_d)], narrowed := true }
def CurveExactUptoSaid : Prop := curveExactUptoRow.holds Tryd.pinned (OpenSpec.upto curveExactSpec)

/-- 'codicillaw06.CurveBase', WHERE WHAT IT READS IS OF BULK AT MOST 1048576: true; the input reads as it did. -/
def curveBaseUptoRow : OpenClaim := { program := "ytaekpoiaigklgaadoor", sum := "2ccc647b0bade1cb25ab7cc4a2c28822a7efe391b66435915392f1dcf9cf371a", func := "codicil/codicillaw06.CurveBase", spec := "curveBase", inPlace := ["math/bits.Add64", "math/bits.Sub64"], recurses := true, named := ["codicil/curve.base", "codicil/curve.nought", "codicil/curve.d", "codicil/field.prime", "codicil/field.turn"], apart := false, laid := [("codicil/field.prime", laid_codicil_field_prime), ("codicil/field.turn", laid_codicil_field_turn), ("codicil/curve.nought", laid_codicil_curve_nought), ("codicil/curve.base", laid_codicil_curve_base), ("codicil/curve.d", laid_codicil_curve_d)], narrowed := true }
def CurveBaseUptoSaid : Prop := curveBaseUptoRow.holds Tryd.pinned (OpenSpec.upto curveBaseSpec)

/-- 'codicillaw06.CurveGroup', WHERE WHAT IT READS IS OF BULK AT MOST 1048576: true; the input reads as it did. -/
def curveGroupUptoRow : OpenClaim := { program := "ytaekpoiaigklgaadoor", sum := "2ccc647b0bade1cb25ab7cc4a2c28822a7efe391b66435915392f1dcf9cf371a", func := "codicil/codicillaw06.CurveGroup", spec := "curveGroup", inPlace := ["math/bits.Add64", "math/bits.Sub64"], recurses := true, named := ["codicil/curve.base", "codicil/curve.nought", "codicil/curve.d", "codicil/field.prime", "codicil/field.turn"], apart := false, laid := [("codicil/field.prime", laid_codicil_field_prime), ("codicil/field.turn", laid_codicil_field_turn), ("codicil/curve.nought", laid_codicil_curve_nought), ("codicil/curve.base", laid_codicil_curve_base), ("codicil/curve.d", laid_codicil_curve_d)], narrowed := true }
def CurveGroupUptoSaid : Prop := curveGroupUptoRow.holds Tryd.pinned (OpenSpec.upto curveGroupSpec)

/-- 'codicillaw06.CurveSmall', WHERE WHAT IT READS IS OF BULK AT MOST 1048576: true; the input reads as it did. -/
def curveSmallUptoRow : OpenClaim := { program := "ytaekpoiaigklgaadoor", sum := "2ccc647b0bade1cb25ab7cc4a2c28822a7efe391b66435915392f1dcf9cf371a", func := "codicil/codicillaw06.CurveSmall", spec := "curveSmall", inPlace := ["math/bits.Add64", "math/bits.Sub64"], recurses := true, named := ["codicil/curve.base", "codicil/curve.nought", "codicil/curve.d", "codicil/field.prime", "codicil/field.turn"], apart := false, laid := [("codicil/field.prime", laid_codicil_field_prime), ("codicil/field.turn", laid_codicil_field_turn), ("codicil/curve.nought", laid_codicil_curve_nought), ("codicil/curve.base", laid_codicil_curve_base), ("codicil/curve.d", laid_codicil_curve_d)], narrowed := true }
def CurveSmallUptoSaid : Prop := curveSmallUptoRow.holds Tryd.pinned (OpenSpec.upto curveSmallSpec)

/-- 'codicillaw06.CurveSides', WHERE WHAT IT READS IS OF BULK AT MOST 1048576: true; the input reads as it did. -/
def curveSidesUptoRow : OpenClaim := { program := "ytaekpoiaigklgaadoor", sum := "2ccc647b0bade1cb25ab7cc4a2c28822a7efe391b66435915392f1dcf9cf371a", func := "codicil/codicillaw06.CurveSides", spec := "curveSides", inPlace := ["math/bits.Add64", "math/bits.Sub64"], recurses := true, named := ["codicil/curve.base", "codicil/curve.nought", "codicil/curve.d", "codicil/field.prime", "codicil/field.turn"], apart := false, laid := [("codicil/field.prime", laid_codicil_field_prime), ("codicil/field.turn", laid_codicil_field_turn), ("codicil/curve.nought", laid_codicil_curve_nought), ("codicil/curve.base", laid_codicil_curve_base), ("codicil/curve.d", laid_codicil_curve_d)], narrowed := true }
def CurveSidesUptoSaid : Prop := curveSidesUptoRow.holds Tryd.pinned (OpenSpec.upto curveSidesSpec)

/-- 'codicillaw06.CurveTimes', WHERE WHAT IT READS IS OF BULK AT MOST 1048576: true; the input reads as it did. -/
def curveTimesUptoRow : OpenClaim := { program := "ytaekpoiaigklgaadoor", sum := "2ccc647b0bade1cb25ab7cc4a2c28822a7efe391b66435915392f1dcf9cf371a", func := "codicil/codicillaw06.CurveTimes", spec := "curveTimes", inPlace := ["math/bits.Add64", "math/bits.Sub64"], recurses := true, named := ["codicil/curve.base", "codicil/curve.nought", "codicil/curve.d", "codicil/field.prime", "codicil/field.turn"], apart := false, laid := [("codicil/field.prime", laid_codicil_field_prime), ("codicil/field.turn", laid_codicil_field_turn), ("codicil/curve.nought", laid_codicil_curve_nought), ("codicil/curve.base", laid_codicil_curve_base), ("codicil/curve.d", laid_codicil_curve_d)], narrowed := true }
def CurveTimesUptoSaid : Prop := curveTimesUptoRow.holds Tryd.pinned (OpenSpec.upto curveTimesSpec)

end Rows
end Go.Proofs.YtaekpoiaigklgaaDoor
