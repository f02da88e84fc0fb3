/- What the walk of the page's modL leans on. -/
import Derived.Test.YtofoihebhdpjlaaDoorS0
import Derived.Test.YtofoihebhdpjlaaDoorE7
import Derived.Test.YtofoihebhdpjlaaDoorE13
namespace Go.Proofs.YtofoihebhdpjlaaDoor
open Go.RowKit
/-- One bit more: what was left, doubled, and the bit. -/
theorem modL_half {t i n b : Nat} (hn : n = t / 2 ^ (i + 1) % LL) (hb : t / 2 ^ i % 2 = b) : t / 2 ^ i % LL = (n + n + b) % LL := by
  have h : t / 2 ^ i = t / 2 ^ (i + 1) * 2 + b := by
    have : t / 2 ^ (i + 1) = t / 2 ^ i / 2 := by rw [Nat.pow_succ, Nat.div_div_eq_div_mul]
    omega
  rw [h, hn]
  generalize t / 2 ^ (i + 1) = x
  rw [Nat.add_mod (x % LL + x % LL), ← Nat.add_mod x x, ← Nat.add_mod, Nat.mul_two]
theorem modL_low {t i n b s : Nat} (hn : n = t / 2 ^ (i + 1) % LL) (hb : t / 2 ^ i % 2 = b) (hs : n + n + b = s) (hl : s < LL) : s = t / 2 ^ i % LL := by
  rw [modL_half hn hb, hs, Nat.mod_eq_of_lt hl]
theorem modL_high {t i n b s y : Nat} (hn : n = t / 2 ^ (i + 1) % LL) (hb : t / 2 ^ i % 2 = b) (hs : n + n + b = s) (hy : s = y + LL) (hl : y < LL) : y = t / 2 ^ i % LL := by
  rw [modL_half hn hb, hs, hy, Nat.add_mod_right, Nat.mod_eq_of_lt hl]
theorem pow_two_add {a b n A B : Nat} (ha : 2 ^ a = A) (hb : 2 ^ b = B) (e : n = a + b) : 2 ^ n = A * B := by rw [e, Nat.pow_add, ha, hb]
theorem two512 {n : Nat} (e : n = 256 + 256) : 2 ^ n = R512 := (pow_two_add (show 2 ^ 256 = R256 by decide) (show 2 ^ 256 = R256 by decide) e).trans R512_eq.symm
theorem modL_from (t n : Nat) (e : n = 256 + 256) (ht : t < R512) : 0 = t / 2 ^ n % LL := by
  rw [two512 e, Nat.div_eq_of_lt ht, Nat.zero_mod]
theorem A4_upd {f : Nat → Nat} {k v n : Nat} (hk : k < 4) (hf : ∀ i, i < 4 → f i < 18446744073709551616) (hv : v < 18446744073709551616) (e : vl (upd f k v) 4 = n) : (A4 f).setIfInBounds k (.int .u64 (v : Int)) = numA n := by
  rw [A4_set f k v hk, ← e]
  exact A4_num _ fun i hi => by
    by_cases h : i = k
    · rw [h, upd_same]; exact hv
    · rw [upd_other _ _ _ _ h]; exact hf i hi
/-- A bit set at an even number's end. -/
theorem or_end (s b : Nat) (hb : b < 2) (hs : s % 2 = 0) : bits .or .u64 (dig s 0 : Int) (b : Int) = ((dig s 0 + b : Nat) : Int) := by
  have h0 : dig s 0 % 2 = 0 := by
    unfold dig
    rw [Nat.pow_zero, Nat.div_one]; omega
  rw [u64_or_nat (dig s 0) b (dig_lt s 0) (by omega), Nat.or_comm, nat_join1' (dig s 0) b h0 hb]
theorem num_end {s b n : Nat} (hs : s < R256) (h2 : s % 2 = 0) (hb : b < 2) (hn : s + b = n) : (numA s).setIfInBounds 0 (.int .u64 ((dig s 0 + b : Nat) : Int)) = numA n := by
  have h0 : dig s 0 % 2 = 0 := by
    unfold dig
    rw [Nat.pow_zero, Nat.div_one]; omega
  have hd := dig_lt s 0
  refine A4_upd (by decide) (fun i _ => dig_lt s i) (by omega) ?_
  have h := vl_upd_eq (dig s) 0 (dig s 0 + b) 4 (by decide)
  rw [vl_num s hs, Nat.pow_zero] at h
  omega
theorem even_sum {n s : Nat} (h : n + n = s) : s % 2 = 0 := by omega
end Go.Proofs.YtofoihebhdpjlaaDoor
