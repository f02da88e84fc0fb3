/- The program's kinds of signatures by contract; what the laws want of memory. -/
import Derived.Test.YtgibllaifnnfkaaDoorUD
namespace Go.Proofs.YtgibllaifnnfkaaDoor
open Go Go.RowKit
/-- The program's functions, by what they answer; T: what they want of memory. -/
structure Ste (T : World → Prop) : Prop where
  keep : ∀ w w', T w → Below w.heap.size w w' → T w'
  pub : ∀ (kind : Int), kind = 1 ∨ kind = 2 → ∀ (n : Nat) w, T w → Calls Tryd.prog 5 #[.int .i64 kind, .agg (B32 (bdig n))] w fun x w' => x = .returned (.tuple #[.agg (B32 (bdig (pubK kind n))), .int .i64 0]) ∧ Below w.heap.size w w'
  pub_no : ∀ (kind : Int), kind ≠ 1 → kind ≠ 2 → ∀ (n : Nat) w, T w → Calls Tryd.prog 5 #[.int .i64 kind, .agg (B32 (bdig n))] w fun x w' => x = .returned (.tuple #[.agg (B32 fun _ => 0), .int .i64 1]) ∧ Below w.heap.size w w'
  sgn : ∀ (kind : Int), kind = 1 ∨ kind = 2 → ∀ (n : Nat) (ta : Option Addr) (tc : Nat) (m : List Int), m.length ≤ 1000 → ∀ w, T w → Txt w ta tc m → Calls Tryd.prog 6 #[.int .i64 kind, .agg (B32 (bdig n)), .slice ta m.length tc] w fun x w' => x = .returned (.tuple #[.agg (B64 (bdig (two (sgR kind n m) (sgS kind n m)))), .int .i64 0]) ∧ Below w.heap.size w w'
  sgn_no : ∀ (kind : Int), kind ≠ 1 → kind ≠ 2 → ∀ (n : Nat) (ta : Option Addr) (tc : Nat) (m : List Int), m.length ≤ 1000 → ∀ w, T w → Txt w ta tc m → Calls Tryd.prog 6 #[.int .i64 kind, .agg (B32 (bdig n)), .slice ta m.length tc] w fun x w' => x = .returned (.tuple #[.agg (B64 fun _ => 0), .int .i64 1]) ∧ Below w.heap.size w w'
  ver : ∀ (kind : Int) (p R S : Nat) (ta : Option Addr) (tc : Nat) (m : List Int), p < R256 → R < R256 → S < R256 → m.length ≤ 1000 → ∀ w, T w → Txt w ta tc m → Calls Tryd.prog 9 #[.int .i64 kind, .agg (B32 (bdig p)), .slice ta m.length tc, .agg (B64 (bdig (two R S)))] w fun x w' => x = .returned (.bool (verK kind p m R S)) ∧ Below w.heap.size w w'
end Go.Proofs.YtgibllaifnnfkaaDoor
