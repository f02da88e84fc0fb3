/- Numbers in digits of 64 bits, the lowest first. -/
import Derived.Test.YtofoihebhdpjlaaDoorE1I
namespace Go.Proofs.YtofoihebhdpjlaaDoor
open Go.RowKit
/-- The number of the first k digits. -/
def vl (f : Nat → Nat) : Nat → Nat
  | 0 => 0
  | k + 1 => vl f k + f k * 18446744073709551616 ^ k
/-- Digits with one of them written over. -/
def upd (f : Nat → Nat) (k x : Nat) : Nat → Nat := fun j => if j = k then x else f j
theorem upd_same (f : Nat → Nat) (k x : Nat) : upd f k x k = x := by unfold upd; rw [if_pos rfl]
theorem upd_other (f : Nat → Nat) (k x j : Nat) (h : j ≠ k) : upd f k x j = f j := by unfold upd; rw [if_neg h]
/-- A number's digit. -/
def dig (n k : Nat) : Nat := n / 18446744073709551616 ^ k % 18446744073709551616
theorem dig_lt (n k : Nat) : dig n k < 18446744073709551616 := Nat.mod_lt _ (by decide)
theorem vl_upd (f : Nat → Nat) (k x : Nat) : ∀ j, j ≤ k → vl (upd f k x) j = vl f j
  | 0, _ => rfl
  | j + 1, h => by rw [vl, vl, vl_upd f k x j (by omega), upd_other f k x j (by omega)]
theorem vl_lt (f : Nat → Nat) : ∀ k, (∀ i, i < k → f i < 18446744073709551616) → vl f k < 18446744073709551616 ^ k
  | 0, _ => by rw [vl]; decide
  | k + 1, h => by
    have h1 := vl_lt f k (fun i hi => h i (by omega))
    have h2 : (f k + 1) * 18446744073709551616 ^ k ≤ 18446744073709551616 * 18446744073709551616 ^ k := Nat.mul_le_mul_right _ (h k (by omega))
    rw [vl, Nat.pow_succ, Nat.mul_comm (18446744073709551616 ^ k)]
    rw [Nat.add_mul, Nat.one_mul] at h2
    omega
theorem vl_dig (n : Nat) : ∀ k, vl (dig n) k = n % 18446744073709551616 ^ k
  | 0 => by rw [Nat.pow_zero, Nat.mod_one]; rfl
  | k + 1 => by
    rw [vl, vl_dig n k, Nat.pow_succ, Nat.mod_mul, dig, Nat.mul_comm]
theorem vl_mod (f : Nat → Nat) : ∀ k, (∀ i, i < k → f i < 18446744073709551616) → ∀ j, j ≤ k → vl f k % 18446744073709551616 ^ j = vl f j
  | 0, _, j, hj => by
    obtain rfl : j = 0 := by omega
    rw [Nat.pow_zero, Nat.mod_one]; rfl
  | k + 1, h, j, hj => by
    rcases Nat.lt_or_ge j (k + 1) with h1 | h1
    · obtain ⟨d, hd⟩ := Nat.pow_dvd_pow 18446744073709551616 (show j ≤ k by omega)
      rw [vl, hd, Nat.mul_left_comm, Nat.add_mul_mod_self_left]
      exact vl_mod f k (fun i hi => h i (by omega)) j (by omega)
    · obtain rfl : j = k + 1 := by omega
      exact Nat.mod_eq_of_lt (vl_lt f (k + 1) h)
theorem dig_vl (f : Nat → Nat) (k : Nat) (h : ∀ i, i < k → f i < 18446744073709551616) (i : Nat) (hi : i < k) : dig (vl f k) i = f i := by
  have h1 := vl_mod f k h (i + 1) (by omega)
  have h2 := vl_lt f i (fun j hj => h j (by omega))
  unfold dig
  rw [← Nat.mod_mul_right_div_self, ← Nat.pow_succ, h1, vl, Nat.add_mul_div_right _ _ (Nat.pow_pos (by decide)), Nat.div_eq_of_lt h2, Nat.zero_add]

/-- The cells of four digits, and of eight. -/
def A4 (f : Nat → Nat) : Array Value := #[.int .u64 (f 0 : Int), .int .u64 (f 1 : Int), .int .u64 (f 2 : Int), .int .u64 (f 3 : Int)]
def A8 (f : Nat → Nat) : Array Value := #[.int .u64 (f 0 : Int), .int .u64 (f 1 : Int), .int .u64 (f 2 : Int), .int .u64 (f 3 : Int), .int .u64 (f 4 : Int), .int .u64 (f 5 : Int), .int .u64 (f 6 : Int), .int .u64 (f 7 : Int)]
theorem A4_at (f : Nat → Nat) (i : Nat) (h : i < 4) : (A4 f)[i]? = some (.int .u64 (f i : Int)) := by
  rcases i with _ | _ | _ | _ | i <;> first | rfl | omega
theorem A8_at (f : Nat → Nat) (i : Nat) (h : i < 8) : (A8 f)[i]? = some (.int .u64 (f i : Int)) := by
  rcases i with _ | _ | _ | _ | _ | _ | _ | _ | i <;> first | rfl | omega
theorem A4_set (f : Nat → Nat) (k x : Nat) (h : k < 4) : (A4 f).setIfInBounds k (.int .u64 (x : Int)) = A4 (upd f k x) := by
  rcases k with _ | _ | _ | _ | k <;> first | rfl | omega
theorem A8_set (f : Nat → Nat) (k x : Nat) (h : k < 8) : (A8 f).setIfInBounds k (.int .u64 (x : Int)) = A8 (upd f k x) := by
  rcases k with _ | _ | _ | _ | _ | _ | _ | _ | k <;> first | rfl | omega
theorem A4_size (f : Nat → Nat) : (A4 f).size = 4 := rfl
theorem A8_size (f : Nat → Nat) : (A8 f).size = 8 := rfl
theorem A4_one (f : Nat → Nat) : (A4 f).all (·.oneCell') = true := by simp [A4, Value.oneCell']
theorem A8_one (f : Nat → Nat) : (A8 f).all (·.oneCell') = true := by simp [A8, Value.oneCell']
/-- The cells of a number below 2^256. -/
def numA (n : Nat) : Array Value := A4 (dig n)
def numV (n : Nat) : Value := .agg (numA n)
theorem A4_congr {f g : Nat → Nat} (h : ∀ i, i < 4 → f i = g i) : A4 f = A4 g := by
  unfold A4; rw [h 0 (by omega), h 1 (by omega), h 2 (by omega), h 3 (by omega)]
theorem A4_num (f : Nat → Nat) (h : ∀ i, i < 4 → f i < 18446744073709551616) : A4 f = numA (vl f 4) := A4_congr fun i hi => (dig_vl f 4 h i hi).symm
theorem A8_congr {f g : Nat → Nat} (h : ∀ i, i < 8 → f i = g i) : A8 f = A8 g := by
  unfold A8; rw [h 0 (by omega), h 1 (by omega), h 2 (by omega), h 3 (by omega), h 4 (by omega), h 5 (by omega), h 6 (by omega), h 7 (by omega)]
theorem A8_num (f : Nat → Nat) (h : ∀ i, i < 8 → f i < 18446744073709551616) : A8 f = A8 (dig (vl f 8)) := A8_congr fun i hi => (dig_vl f 8 h i hi).symm
/-- 2^256. -/
def R256 : Nat := 115792089237316195423570985008687907853269984665640564039457584007913129639936
theorem pow4 : 18446744073709551616 ^ 4 = R256 := by decide
theorem vl_num (n : Nat) (h : n < R256) : vl (dig n) 4 = n := by rw [vl_dig, pow4, Nat.mod_eq_of_lt h]
theorem vl4_lt (f : Nat → Nat) (h : ∀ i, i < 4 → f i < 18446744073709551616) : vl f 4 < R256 := by rw [← pow4]; exact vl_lt f 4 h
/-- One digit more, added. -/
theorem vl_add_step {f g h : Nat → Nat} {k c s c' : Nat} (e : vl f k + vl g k = vl h k + 18446744073709551616 ^ k * c) (es : f k + g k + c = s + 18446744073709551616 * c') :
    vl f (k + 1) + vl g (k + 1) = vl (upd h k s) (k + 1) + 18446744073709551616 ^ (k + 1) * c' := by
  rw [vl, vl, vl, vl_upd h k s k (Nat.le_refl _), upd_same, Nat.pow_succ]
  have := congrArg (18446744073709551616 ^ k * ·) es
  simp only [Nat.mul_add] at this
  rw [← Nat.mul_assoc] at this
  rw [Nat.mul_comm (f k), Nat.mul_comm (g k), Nat.mul_comm s]
  omega
theorem vl_sub_step {f g h : Nat → Nat} {k c s c' : Nat} (e : vl f k + 18446744073709551616 ^ k * c = vl h k + vl g k) (es : f k + 18446744073709551616 * c' = s + g k + c) :
    vl f (k + 1) + 18446744073709551616 ^ (k + 1) * c' = vl (upd h k s) (k + 1) + vl g (k + 1) := by
  rw [vl, vl, vl, vl_upd h k s k (Nat.le_refl _), upd_same, Nat.pow_succ]
  have := congrArg (18446744073709551616 ^ k * ·) es
  simp only [Nat.mul_add] at this
  rw [← Nat.mul_assoc] at this
  rw [Nat.mul_comm (f k), Nat.mul_comm (g k), Nat.mul_comm s]
  omega
end Go.Proofs.YtofoihebhdpjlaaDoor
