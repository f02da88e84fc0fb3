/- The walks of the leaves: RotateLeft32, word, putWord. -/
import Derived.Test.YtgibllaifnnfkaaDoorRows
import Derived.Test.YtgibllaifnnfkaaDoorJM1
import Derived.WalkKit
import Derived.WalkSpells
import Derived.WalkLawsBesides
import Derived.Deep.QuietTactic
import Derived.BigQuiet
import Derived.Laws.BitsAllLaws
import Derived.Deep.MidRow
namespace Go.Proofs.YtgibllaifnnfkaaDoor.J
open Go.RowKit

theorem ret_int {k : IntKind} {a b : Int} (h : a = b) : Ending.returned (.int k a) = .returned (.int k b) := by rw [h]

theorem and31 (k : Int) (h1 : -32 < k) (h2 : k < 0) : bits .and .u64 (IntKind.u64.wrap k) 31 = 32 + k := by
  have e : IntKind.u64.wrap k = 18446744073709551616 + k := by
    simp [IntKind.wrap, IntKind.bits, IntKind.signed]; omega
  rw [e]
  rw [show (31 : Int) = ((31 : Nat) : Int) from rfl]
  have := u64_and (18446744073709551616 + k) 31 (by omega) (by omega) (by omega) (by omega)
  rw [show ((31 : Nat) : Int) = (31 : Int) from rfl, this]
  rw [show (31 : Int).toNat = 31 from rfl, nat_mask5]
  omega

theorem shl_s (x k : Int) (h1 : -32 < k) (h2 : k < 0) : IntKind.u32.wrap (x * 2 ^ min (32 + k).toNat IntKind.u32.bits) = IntKind.u32.wrap (x * 2 ^ (32 + k).toNat) := by
  rw [Nat.min_eq_left (by simp [IntKind.bits]; omega)]
theorem sub_s (k : Int) (h1 : -32 < k) (h2 : k < 0) : IntKind.u64.wrap (32 - (32 + k)) = - k := by
  simp [IntKind.wrap, IntKind.bits, IntKind.signed]; omega

set_option maxHeartbeats 400000 in
theorem rot_any (x k : Int) (w : World) (h1 : -32 < k) (h2 : k < 0) :
    Calls Tryd.prog 59 #[.int .u32 x, .int .i64 k] w fun e w' => e = .returned (.int .u32 (rotl x (32 + k).toNat)) ∧ w' = w := by
  have hs := and31 k h1 h2
  have h3 : 0 ≤ 32 + k := by omega
  have hk := sub_s k h1 h2
  have h4 : 0 ≤ - k := by omega
  go_enter Tryd.func59, Tryd.ntmps59
  go_wp2
  go_ret
  refine ⟨ret_int ?_, rfl⟩
  unfold rotl
  rw [show 32 - (32 + k).toNat = (-k).toNat from by omega]

set_option maxHeartbeats 400000 in
theorem word_any (b off len cap : Nat) (x0 x1 x2 x3 : Int) (w : World) (hl : 4 ≤ len) (_ : len ≤ cap)
    (c0 : w.cell? ⟨b, off, none⟩ = some (.int .u8 x0)) (c1 : w.cell? ⟨b, off + 1, none⟩ = some (.int .u8 x1))
    (c2 : w.cell? ⟨b, off + 2, none⟩ = some (.int .u8 x2)) (c3 : w.cell? ⟨b, off + 3, none⟩ = some (.int .u8 x3))
    (b0 : 0 ≤ x0 ∧ x0 < 256) (b1 : 0 ≤ x1 ∧ x1 < 256) (b2 : 0 ≤ x2 ∧ x2 < 256) (b3 : 0 ≤ x3 ∧ x3 < 256) :
    Calls Tryd.prog 74 #[.slice (some ⟨b, off, none⟩) len cap] w fun e w' => e = .returned (.int .u32 (word4 x0 x1 x2 x3)) ∧ ∃ n, w' = w.drewN n := by
  have hl0 : (0 : Int) < (len : Int) := by omega
  have hl1 : (1 : Int) < (len : Int) := by omega
  have hl2 : (2 : Int) < (len : Int) := by omega
  have hl3 : (3 : Int) < (len : Int) := by omega
  go_enter Tryd.func74, Tryd.ntmps74
  go_wp2
  go_quiet (fail)
  go_wp2
  go_ret
  exact ⟨rfl, _, rfl⟩

set_option maxHeartbeats 400000 in
theorem putWord_any (b off len cap : Nat) (x : Int) (w : World) (v0 v1 v2 v3 : Value) (hl : 4 ≤ len) (_ : len ≤ cap) (hx : 0 ≤ x) (hx' : x < 4294967296)
    (c0 : w.cell? ⟨b, off, none⟩ = some v0) (c1 : w.cell? ⟨b, off + 1, none⟩ = some v1) (c2 : w.cell? ⟨b, off + 2, none⟩ = some v2) (c3 : w.cell? ⟨b, off + 3, none⟩ = some v3)
    (f0 : w.frozen? ⟨b, off, none⟩ = false) (f1 : w.frozen? ⟨b, off + 1, none⟩ = false) (f2 : w.frozen? ⟨b, off + 2, none⟩ = false) (f3 : w.frozen? ⟨b, off + 3, none⟩ = false) :
    Calls Tryd.prog 43 #[.slice (some ⟨b, off, none⟩) len cap, .int .u32 x] w fun e w' => e = .returned (.tuple #[]) ∧ w' = (((w.setCell ⟨b, off, none⟩ (.int .u8 (x / 16777216))).setCell ⟨b, off + 1, none⟩ (.int .u8 (x / 65536 % 256))).setCell ⟨b, off + 2, none⟩ (.int .u8 (x / 256 % 256))).setCell ⟨b, off + 3, none⟩ (.int .u8 (x % 256)) := by
  have hl0 : (0 : Int) < (len : Int) := by omega
  have hl1 : (1 : Int) < (len : Int) := by omega
  have hl2 : (2 : Int) < (len : Int) := by omega
  have hl3 : (3 : Int) < (len : Int) := by omega
  go_enter Tryd.func43, Tryd.ntmps43
  go_wp2
  go_end0
  exact ⟨rfl, rfl⟩
end Go.Proofs.YtgibllaifnnfkaaDoor.J
