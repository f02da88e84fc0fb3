/- Products of whole numbers, digit by digit. -/
import Derived.Test.YtofoihebhdpjlaaDoorE2
namespace Go.Proofs.YtofoihebhdpjlaaDoor
open Go.RowKit
theorem vl_upd_eq (o : Nat → Nat) (k x : Nat) : ∀ n, k < n → vl (upd o k x) n + o k * 18446744073709551616 ^ k = vl o n + x * 18446744073709551616 ^ k
  | 0, h => by omega
  | n + 1, h => by
    rcases Nat.lt_or_ge k n with h1 | h1
    · have := vl_upd_eq o k x n h1
      rw [vl, vl, upd_other o k x n (by omega)]
      omega
    · obtain rfl : n = k := by omega
      rw [vl, vl, vl_upd o n x n (Nat.le_refl _), upd_same]
      omega
theorem vl_none : ∀ n, vl (fun _ => 0) n = 0
  | 0 => rfl
  | n + 1 => by rw [vl, vl_none n, Nat.zero_mul]
theorem vl_first (f : Nat → Nat) : vl f 0 = 0 := rfl
theorem start_out (f g : Nat → Nat) : vl (fun _ => 0) 8 = vl f 0 * vl g 4 := by rw [vl_none, vl_first, Nat.zero_mul]
theorem start_in (V F B C : Nat) (g : Nat → Nat) : V + 0 * B = V + F * vl g 0 * C := by rw [vl_first, Nat.mul_zero, Nat.zero_mul, Nat.zero_mul]
theorem word_mul (a b : Nat) (ha : a < 18446744073709551616) (hb : b < 18446744073709551616) : a * b ≤ 340282366920938463426481119284349108225 := by
  have : a * b ≤ 18446744073709551615 * 18446744073709551615 := Nat.mul_le_mul (by omega) (by omega)
  omega
/-- One digit more of the product's row. -/
theorem times_step {o : Nat → Nat} {V F Gk gk i k c lo hi : Nat} (hk : i + k < 8) (e : vl o 8 + c * 18446744073709551616 ^ (i + k) = V + F * Gk * 18446744073709551616 ^ i) (es : F * gk + o (i + k) + c = lo + 18446744073709551616 * hi) :
    vl (upd o (i + k) lo) 8 + hi * 18446744073709551616 ^ (i + (k + 1)) = V + F * (Gk + gk * 18446744073709551616 ^ k) * 18446744073709551616 ^ i := by
  have h1 := vl_upd_eq o (i + k) lo 8 hk
  have h2 := congrArg (· * 18446744073709551616 ^ (i + k)) es
  simp only [Nat.add_mul] at h2
  have h3 : F * (Gk + gk * 18446744073709551616 ^ k) * 18446744073709551616 ^ i = F * Gk * 18446744073709551616 ^ i + F * gk * 18446744073709551616 ^ (i + k) := by
    rw [Nat.mul_add, Nat.add_mul, Nat.pow_add, ← Nat.mul_assoc F, Nat.mul_assoc (F * gk), Nat.mul_comm (18446744073709551616 ^ k)]
  have h4 : hi * 18446744073709551616 ^ (i + (k + 1)) = 18446744073709551616 * hi * 18446744073709551616 ^ (i + k) := by
    rw [← Nat.add_assoc, Nat.pow_succ, Nat.mul_comm 18446744073709551616 hi, Nat.mul_assoc, Nat.mul_comm (18446744073709551616 ^ (i + k))]
  rw [h3, h4]
  omega
theorem times_row {o : Nat → Nat} {V F G i c Vi : Nat} (hi : i + 4 < 8) (h0 : o (i + 4) = 0) (hV : V = Vi * G) (e : vl o 8 + c * 18446744073709551616 ^ (i + 4) = V + F * G * 18446744073709551616 ^ i) :
    vl (upd o (i + 4) c) 8 = (Vi + F * 18446744073709551616 ^ i) * G := by
  have h1 := vl_upd_eq o (i + 4) c 8 hi
  rw [h0, Nat.zero_mul, Nat.add_zero] at h1
  rw [h1, e, hV, Nat.add_mul, Nat.mul_assoc F, Nat.mul_assoc F, Nat.mul_comm G]
end Go.Proofs.YtofoihebhdpjlaaDoor
