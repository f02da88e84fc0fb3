/- The page's numbers as values. -/
import Derived.Test.YtofoihebhdpjlabDoorE0
namespace Go.Proofs.YtofoihebhdpjlabDoor
open Go.RowKit
theorem infoNum : (Tryd.prog.info? 26).map (·.size) = some 4 := by kernel_rfl
theorem zeroNum : (Tryd.prog.info? 26).map (fun i => (i.zero, i.size)) = some (some (.agg (A4 fun _ => 0)), 4) := by kernel_rfl
theorem numA_info (n : Nat) : (Tryd.prog.info? 26).map (·.size) = some (numA n).size := infoNum
theorem zeroLit : (Tryd.prog.info? 26).map (fun i => (i.zero, i.size)) = some (some (.agg #[.int .u64 0, .int .u64 0, .int .u64 0, .int .u64 0]), 4) := by kernel_rfl
end Go.Proofs.YtofoihebhdpjlabDoor
