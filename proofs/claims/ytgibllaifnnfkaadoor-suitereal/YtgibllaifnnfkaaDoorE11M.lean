/- The mathematics of the root. -/
import Derived.Test.YtgibllaifnnfkaaDoorEA
import Derived.Test.YtgibllaifnnfkaaDoorNA
namespace Go.Proofs.YtgibllaifnnfkaaDoor
open Go.RowKit
theorem odd_word (x : Nat) : bits .and .u64 (dig x 0 : Int) 1 = ((x % 2 : Nat) : Int) := by
  rw [and1_u64 _ (dig_lt x 0)]
  unfold dig
  rw [Nat.pow_zero, Nat.div_one]
  omega
def rootOf (r a : Nat) : Option Nat := if r * r % pp = a % pp then some (evenOf r) else if (r * fi % pp) * (r * fi % pp) % pp = a % pp then some (evenOf (r * fi % pp)) else none
theorem froot_of (a : Nat) : froot a = rootOf (a ^ ((pp + 3) / 8) % pp) a := by
  unfold froot
  generalize a ^ ((pp + 3) / 8) % pp = r
  exact Eq.refl _
end Go.Proofs.YtgibllaifnnfkaaDoor
