/- Numbers modulo the order L: what the walks of the page's and the program's functions lean on. -/
import Derived.Test.YtofoihebhdpjlaaDoorE3I
import Derived.Test.YtofoihebhdpjlaaDoorE13B
namespace Go.Proofs.YtofoihebhdpjlaaDoor
open Go.RowKit
/-- The order. -/
def LL : Nat := 7237005577332262213973186563042994240857116359379907606001950938285454250989
theorem LL_pos : 0 < LL := by decide
theorem LL_lt : LL < R256 := by decide
theorem lt_of_modL {n : Nat} : n % LL < R256 := Nat.lt_trans (Nat.mod_lt _ LL_pos) (by decide)
def R512 : Nat := 13407807929942597099574024998205846127479365820592393377723561443721764030073546976801874298166903427690031858186486050853753882811946569946433649006084096
theorem R512_eq : R512 = R256 * R256 := by decide
theorem pow8 : 18446744073709551616 ^ 8 = R512 := by decide
theorem L_cells : numA LL = #[.int .u64 6346243789798364141, .int .u64 1503914060200516822, .int .u64 0, .int .u64 1152921504606846976] := by rfl
theorem twoL : 2 * LL + 2 < R256 := by decide
end Go.Proofs.YtofoihebhdpjlaaDoor
