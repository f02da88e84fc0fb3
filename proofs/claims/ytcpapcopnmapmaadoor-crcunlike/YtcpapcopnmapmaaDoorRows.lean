/-
  NARROWER THAN 'FOR EVERY INPUT', by the rows' own cells (each row's printed sentence says how): CrcExact: laid · CrcRest: laid · CrcUnlike: laid · CrcLinear: laid · CrcForgets: laid.
  DERIVED. THE GIVEN ROWS OF THIS SEAT. 5 by the template 'for every input the law returns true; each argument reads behind the call as it read before'; 0 by the template 'total and deterministic' (their statements: YtcpapcopnmapmaaDoorTotals.lean).
  GIVEN WITH THE SEED: the statements are not yours to turn. If you find one false, say at which input.
  Laid BY PROGRAM, IN A SANDBOX (cutbox-rows.mjs): the forced cells as the released guide's own fill.sh prints them over the translation 8642ffc6fdd6ecf1… (all of the seat's roots in one cut). By AI agents, Wed Nov 11 2026. No macro, syntax, notation, axiom, sorry.
-/
import Derived.Test.YtcpapcopnmapmaaDoorChecked
import GoSem.Claim
import GoSem.ClaimJoined
import GoSem.ClaimMapViews
import Derived.JoinedTies
import Derived.KernelRfl
namespace Go.Proofs.YtcpapcopnmapmaaDoor
/- THE CELL 'sum', in the pinned program and in every row, IS THE sha256 OF THE DUMP (.gsa) THAT YtcpapcopnmapmaaDoorProg.lean LOADS. Nothing in Lean hashes anything: it is a label: what it is worth is what the hold of that sum in a sandbox is worth. -/
noncomputable def Tryd.pinned : Pinned := { name := "ytcpapcopnmapmaadoor", sum := "8642ffc6fdd6ecf164043b8e2725a2465f04d6dc718aba5ac5cf27896901f796", checked := Tryd.checked }
namespace Rows
def none {H : Type} : Left H := { results := [], args := [] }

/- WHAT THE LISTED PACKAGE-LEVEL VARIABLES READ AS WHEN THE CALL BEGINS. Each datum BY PROGRAM (the guide's laid-datum.mjs) off the statement by which the dump's own 'gosem.cut.vars' lays the variable. In a bare row this is a premise. The card (YtcpapcopnmapmaaDoorCards.lean) ties it to the program's text. -/
def laid_codicil_crc_quarters {H : Type} : DataW H := .agg [.lit (.int .u32 0), .lit (.int .u32 498536548), .lit (.int .u32 997073096), .lit (.int .u32 651767980), .lit (.int .u32 1994146192), .lit (.int .u32 1802195444), .lit (.int .u32 1303535960), .lit (.int .u32 1342533948), .lit (.int .u32 3988292384), .lit (.int .u32 4027552580), .lit (.int .u32 3604390888), .lit (.int .u32 3412177804), .lit (.int .u32 2607071920), .lit (.int .u32 2262029012), .lit (.int .u32 2685067896), .lit (.int .u32 3183342108)]

/-- 'codicillaw03.CrcExact': WHATEVER THE INPUT: true; the input reads as it did. -/
def crcExactSpec : ChangeSpec := { name := "crcExact", fn := fun _ => fun
  | [d] => { results := [.lit (.bool true)], args := [d] }
  | _ => none }
def crcExactRow : OpenClaim := { program := "ytcpapcopnmapmaadoor", sum := "8642ffc6fdd6ecf164043b8e2725a2465f04d6dc718aba5ac5cf27896901f796", func := "codicil/codicillaw03.CrcExact", spec := "crcExact", named := ["codicil/crc.quarters"], apart := false, laid := [("codicil/crc.quarters", laid_codicil_crc_quarters)] }
def CrcExactSaid : Prop := crcExactRow.holds Tryd.pinned (OpenSpec.ofChange crcExactSpec)

/-- ITS FALSE NEIGHBOUR: 'it returns false'. Refute it at one input. -/
def crcExactWrong : ChangeSpec := { name := "crcExact", fn := fun _ => fun
  | [d] => { results := [.lit (.bool false)], args := [d] }
  | _ => none }
def CrcExactWrongFalsely : Prop := crcExactRow.holds Tryd.pinned (OpenSpec.ofChange crcExactWrong)

/-- 'codicillaw03.CrcRest': WHATEVER THE INPUT: true; the input reads as it did. -/
def crcRestSpec : ChangeSpec := { name := "crcRest", fn := fun _ => fun
  | [d] => { results := [.lit (.bool true)], args := [d] }
  | _ => none }
def crcRestRow : OpenClaim := { program := "ytcpapcopnmapmaadoor", sum := "8642ffc6fdd6ecf164043b8e2725a2465f04d6dc718aba5ac5cf27896901f796", func := "codicil/codicillaw03.CrcRest", spec := "crcRest", named := ["codicil/crc.quarters"], apart := false, laid := [("codicil/crc.quarters", laid_codicil_crc_quarters)] }
def CrcRestSaid : Prop := crcRestRow.holds Tryd.pinned (OpenSpec.ofChange crcRestSpec)

/-- ITS FALSE NEIGHBOUR: 'it returns false'. Refute it at one input. -/
def crcRestWrong : ChangeSpec := { name := "crcRest", fn := fun _ => fun
  | [d] => { results := [.lit (.bool false)], args := [d] }
  | _ => none }
def CrcRestWrongFalsely : Prop := crcRestRow.holds Tryd.pinned (OpenSpec.ofChange crcRestWrong)

/-- 'codicillaw03.CrcUnlike': WHATEVER THE INPUT: true; the input reads as it did. -/
def crcUnlikeSpec : ChangeSpec := { name := "crcUnlike", fn := fun _ => fun
  | [d1, d2, d3] => { results := [.lit (.bool true)], args := [d1, d2, d3] }
  | _ => none }
def crcUnlikeRow : OpenClaim := { program := "ytcpapcopnmapmaadoor", sum := "8642ffc6fdd6ecf164043b8e2725a2465f04d6dc718aba5ac5cf27896901f796", func := "codicil/codicillaw03.CrcUnlike", spec := "crcUnlike", named := ["codicil/crc.quarters"], apart := false, laid := [("codicil/crc.quarters", laid_codicil_crc_quarters)] }
def CrcUnlikeSaid : Prop := crcUnlikeRow.holds Tryd.pinned (OpenSpec.ofChange crcUnlikeSpec)

/-- ITS FALSE NEIGHBOUR: 'it returns false'. Refute it at one input. -/
def crcUnlikeWrong : ChangeSpec := { name := "crcUnlike", fn := fun _ => fun
  | [d1, d2, d3] => { results := [.lit (.bool false)], args := [d1, d2, d3] }
  | _ => none }
def CrcUnlikeWrongFalsely : Prop := crcUnlikeRow.holds Tryd.pinned (OpenSpec.ofChange crcUnlikeWrong)

/-- 'codicillaw03.CrcLinear': WHATEVER THE INPUT: true; the input reads as it did. -/
def crcLinearSpec : ChangeSpec := { name := "crcLinear", fn := fun _ => fun
  | [d1, d2, d3] => { results := [.lit (.bool true)], args := [d1, d2, d3] }
  | _ => none }
def crcLinearRow : OpenClaim := { program := "ytcpapcopnmapmaadoor", sum := "8642ffc6fdd6ecf164043b8e2725a2465f04d6dc718aba5ac5cf27896901f796", func := "codicil/codicillaw03.CrcLinear", spec := "crcLinear", named := ["codicil/crc.quarters"], apart := false, laid := [("codicil/crc.quarters", laid_codicil_crc_quarters)] }
def CrcLinearSaid : Prop := crcLinearRow.holds Tryd.pinned (OpenSpec.ofChange crcLinearSpec)

/-- ITS FALSE NEIGHBOUR: 'it returns false'. Refute it at one input. -/
def crcLinearWrong : ChangeSpec := { name := "crcLinear", fn := fun _ => fun
  | [d1, d2, d3] => { results := [.lit (.bool false)], args := [d1, d2, d3] }
  | _ => none }
def CrcLinearWrongFalsely : Prop := crcLinearRow.holds Tryd.pinned (OpenSpec.ofChange crcLinearWrong)

/-- 'codicillaw03.CrcForgets': WHATEVER THE INPUT: true; the input reads as it did. -/
def crcForgetsSpec : ChangeSpec := { name := "crcForgets", fn := fun _ => fun
  | [d1, d2, d3] => { results := [.lit (.bool true)], args := [d1, d2, d3] }
  | _ => none }
def crcForgetsRow : OpenClaim := { program := "ytcpapcopnmapmaadoor", sum := "8642ffc6fdd6ecf164043b8e2725a2465f04d6dc718aba5ac5cf27896901f796", func := "codicil/codicillaw03.CrcForgets", spec := "crcForgets", named := ["codicil/crc.quarters"], apart := false, laid := [("codicil/crc.quarters", laid_codicil_crc_quarters)] }
def CrcForgetsSaid : Prop := crcForgetsRow.holds Tryd.pinned (OpenSpec.ofChange crcForgetsSpec)

/-- ITS FALSE NEIGHBOUR: 'it returns false'. Refute it at one input. -/
def crcForgetsWrong : ChangeSpec := { name := "crcForgets", fn := fun _ => fun
  | [d1, d2, d3] => { results := [.lit (.bool false)], args := [d1, d2, d3] }
  | _ => none }
def CrcForgetsWrongFalsely : Prop := crcForgetsRow.holds Tryd.pinned (OpenSpec.ofChange crcForgetsWrong)

/- THE SECOND FORM. 'bulk': how many values and letters a reading holds, each counted each time it is reached (what is shared counts as often as it is met; a slice's spare places count too). A statement '..UptoSaid' is the law's where the arguments, and the package variables that the reading takes, are together of bulk at most 1048576: NARROWER than '..Said'. Prove '..Said' where nothing that the law and all that it calls make is longer than what came in: it says more and counts as full. Else prove '..UptoSaid'. A law counts once. -/
mutual
def uptoBulk {H : Type} : DataW H → Nat
  | .lit (.string bytes) => bytes.length + 1
  | .lit _ => 1
  | .nil => 1
  | .ptr d => uptoBulk d + 1
  | .slice elems spare => uptoBulkAll elems + uptoBulkAll spare + 1
  | .agg parts => uptoBulkAll parts + 1
  | .iface _ d => uptoBulk d + 1
  | .map entries => uptoBulkEntries entries + 1
  | .held _ => 1
def uptoBulkAll {H : Type} : List (DataW H) → Nat
  | [] => 0
  | d :: r => uptoBulk d + uptoBulkAll r
def uptoBulkEntries {H : Type} : List (Lit × DataW H) → Nat
  | [] => 0
  | x :: r => uptoBulkEntry x + uptoBulkEntries r
def uptoBulkEntry {H : Type} : Lit × DataW H → Nat
  | (.string bytes, d) => bytes.length + uptoBulk d + 1
  | (_, d) => uptoBulk d + 1
 end
def uptoSmall : (H : Type) → List (DataW H) → Bool := fun _ ds => decide (uptoBulkAll ds ≤ 1048576)
def OpenSpec.upto (s : _root_.Go.ChangeSpec) : _root_.Go.OpenSpec := { _root_.Go.OpenSpec.ofChange s with cond := some uptoSmall }

/-- 'codicillaw03.CrcExact', WHERE WHAT IT READS IS OF BULK AT MOST 1048576: true; the input reads as it did. -/
def crcExactUptoRow : OpenClaim := { program := "ytcpapcopnmapmaadoor", sum := "8642ffc6fdd6ecf164043b8e2725a2465f04d6dc718aba5ac5cf27896901f796", func := "codicil/codicillaw03.CrcExact", spec := "crcExact", named := ["codicil/crc.quarters"], apart := false, laid := [("codicil/crc.quarters", laid_codicil_crc_quarters)], narrowed := true }
def CrcExactUptoSaid : Prop := crcExactUptoRow.holds Tryd.pinned (OpenSpec.upto crcExactSpec)

/-- 'codicillaw03.CrcRest', WHERE WHAT IT READS IS OF BULK AT MOST 1048576: true; the input reads as it did. -/
def crcRestUptoRow : OpenClaim := { program := "ytcpapcopnmapmaadoor", sum := "8642ffc6fdd6ecf164043b8e2725a2465f04d6dc718aba5ac5cf27896901f796", func := "codicil/codicillaw03.CrcRest", spec := "crcRest", named := ["codicil/crc.quarters"], apart := false, laid := [("codicil/crc.quarters", laid_codicil_crc_quarters)], narrowed := true }
def CrcRestUptoSaid : Prop := crcRestUptoRow.holds Tryd.pinned (OpenSpec.upto crcRestSpec)

/-- 'codicillaw03.CrcUnlike', WHERE WHAT IT READS IS OF BULK AT MOST 1048576: true; the input reads as it did. -/
def crcUnlikeUptoRow : OpenClaim := { program := "ytcpapcopnmapmaadoor", sum := "8642ffc6fdd6ecf164043b8e2725a2465f04d6dc718aba5ac5cf27896901f796", func := "codicil/codicillaw03.CrcUnlike", spec := "crcUnlike", named := ["codicil/crc.quarters"], apart := false, laid := [("codicil/crc.quarters", laid_codicil_crc_quarters)], narrowed := true }
def CrcUnlikeUptoSaid : Prop := crcUnlikeUptoRow.holds Tryd.pinned (OpenSpec.upto crcUnlikeSpec)

/-- 'codicillaw03.CrcLinear', WHERE WHAT IT READS IS OF BULK AT MOST 1048576: true; the input reads as it did. -/
def crcLinearUptoRow : OpenClaim := { program := "ytcpapcopnmapmaadoor", sum := "8642ffc6fdd6ecf164043b8e2725a2465f04d6dc718aba5ac5cf27896901f796", func := "codicil/codicillaw03.CrcLinear", spec := "crcLinear", named := ["codicil/crc.quarters"], apart := false, laid := [("codicil/crc.quarters", laid_codicil_crc_quarters)], narrowed := true }
def CrcLinearUptoSaid : Prop := crcLinearUptoRow.holds Tryd.pinned (OpenSpec.upto crcLinearSpec)

/-- 'codicillaw03.CrcForgets', WHERE WHAT IT READS IS OF BULK AT MOST 1048576: true; the input reads as it did. -/
def crcForgetsUptoRow : OpenClaim := { program := "ytcpapcopnmapmaadoor", sum := "8642ffc6fdd6ecf164043b8e2725a2465f04d6dc718aba5ac5cf27896901f796", func := "codicil/codicillaw03.CrcForgets", spec := "crcForgets", named := ["codicil/crc.quarters"], apart := false, laid := [("codicil/crc.quarters", laid_codicil_crc_quarters)], narrowed := true }
def CrcForgetsUptoSaid : Prop := crcForgetsUptoRow.holds Tryd.pinned (OpenSpec.upto crcForgetsSpec)

end Rows
end Go.Proofs.YtcpapcopnmapmaaDoor
