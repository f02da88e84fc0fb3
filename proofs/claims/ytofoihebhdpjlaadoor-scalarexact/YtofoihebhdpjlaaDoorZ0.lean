/- What the walks of the program's scalars lean on: words, bytes, and one word more of what is left. -/
import Derived.Test.YtofoihebhdpjlaaDoorS1L
import Derived.Test.YtofoihebhdpjlaaDoorE7M
import Derived.Test.YtofoihebhdpjlaaDoorE1
namespace Go.Proofs.YtofoihebhdpjlaaDoor
open Go.RowKit
theorem vl_more (f : Nat → Nat) (k : Nat) : vl f (k + 1) = vl f k + f k * 18446744073709551616 ^ k := rfl
/-- Eight bytes of a number are a digit of 64 bits. -/
theorem bdig_part (a j i : Nat) : bdig a (8 * j + i) = bdig (a / 18446744073709551616 ^ j) i := by
  unfold bdig
  rw [w_pow, Nat.pow_add, Nat.div_div_eq_div_mul]
theorem word_dig (a j : Nat) : vb (fun i => bdig a (8 * j + i)) 8 = dig a j := by
  rw [vb_congr 8 (fun i _ => bdig_part a j i), vb_bdig]
  unfold dig
  rw [show (256 : Nat) ^ 8 = 18446744073709551616 from rfl]
theorem dig_small {x : Nat} (h : x < 18446744073709551616) : dig x 0 = x := by
  unfold dig; rw [Nat.pow_zero, Nat.div_one, Nat.mod_eq_of_lt h]
theorem pow8_le {k : Nat} (h : k ≤ 8) : 256 ^ k ≤ 18446744073709551616 :=
  Nat.le_trans (Nat.pow_le_pow_right (by decide) h) (by decide)
/-- A byte more of a word. -/
theorem or_word {x k c : Nat} (hk : k < 8) (hx : x < 256 ^ k) (hc : c < 256) : bits .or .u64 (x : Int) ((c * 256 ^ k : Nat) : Int) = ((x + c * 256 ^ k : Nat) : Int) := by
  have h := or_byte hx hc
  rw [Nat.div_eq_of_lt hk, Nat.mod_eq_of_lt hk, dig_small (Nat.lt_of_lt_of_le hx (pow8_le (by omega)))] at h
  exact h
theorem shl_word {k c : Nat} (hk : k < 8) (hc : c < 256) : IntKind.u64.wrap ((c : Int) * 2 ^ (8 * k)) = ((c * 256 ^ k : Nat) : Int) := by
  have h := shl_byte (k := k) hc
  rw [Nat.mod_eq_of_lt hk] at h
  exact h
theorem vb_more (f : Nat → Nat) (k : Nat) : vb f (k + 1) = vb f k + f k * 256 ^ k := by
  show vb f k + _ = _
  first | rfl | rw [Nat.mul_comm]
theorem dig_above' {c k : Nat} (hc : c < R256) (hk : 4 ≤ k) : dig c k = 0 := by
  unfold dig
  have : 18446744073709551616 ^ 4 ≤ 18446744073709551616 ^ k := Nat.pow_le_pow_right (by decide) hk
  rw [pow4] at this
  rw [Nat.div_eq_of_lt (Nat.lt_of_lt_of_le hc this), Nat.zero_mod]
theorem vl_whole {c : Nat} (hc : c < R512) : vl (dig c) 8 = c := by rw [vl_dig, pow8, Nat.mod_eq_of_lt hc]
theorem small_big {c : Nat} (hc : c < R256) : c < R512 := Nat.lt_trans hc (by decide)
theorem room {a b c : Nat} (ha : a < R256) (hb : b < R256) (hc : c < R256) : a * b + c < R512 := by
  have h1 : a * b ≤ (R256 - 1) * (R256 - 1) := Nat.mul_le_mul (by omega) (by omega)
  have h2 : (R256 - 1) * (R256 - 1) + R256 < R512 := by decide
  omega
theorem A8_is {h : Nat → Nat} {t : Nat} (hh : ∀ i, i < 8 → h i < 18446744073709551616) (e : vl h 8 = t) : A8 h = A8 (dig t) := by rw [A8_num h hh, e]
/-- A row more of the product and sum. -/
theorem muladd_row {o : Nat → Nat} {V F G i c Vi C : Nat} (hi : i + 4 < 8) (h0 : o (i + 4) = 0) (hV : V = C + Vi * G) (e : vl o 8 + c * 18446744073709551616 ^ (i + 4) = V + F * G * 18446744073709551616 ^ i) :
    vl (upd o (i + 4) c) 8 = C + (Vi + F * 18446744073709551616 ^ i) * G := by
  have h1 := vl_upd_eq o (i + 4) c 8 hi
  rw [h0, Nat.zero_mul, Nat.add_zero] at h1
  rw [h1, e, hV, Nat.add_mul, Nat.mul_assoc F, Nat.mul_assoc F, Nat.mul_comm G]
  omega
/-- One word more of what is left. -/
theorem left_step {t k n d : Nat} (hn : n = t / 18446744073709551616 ^ (k + 1) % LL) (hd : dig t k = d) : t / 18446744073709551616 ^ k % LL = (d + 18446744073709551616 * n) % LL := by
  have h : t / 18446744073709551616 ^ k = t / 18446744073709551616 ^ (k + 1) * 18446744073709551616 + d := by
    have h1 : t / 18446744073709551616 ^ (k + 1) = t / 18446744073709551616 ^ k / 18446744073709551616 := by rw [Nat.pow_succ, Nat.div_div_eq_div_mul]
    rw [← hd, h1]
    unfold dig
    omega
  rw [h, hn]
  generalize t / 18446744073709551616 ^ (k + 1) = x
  rw [Nat.add_comm d, Nat.mul_comm 18446744073709551616, Nat.add_mod (x * 18446744073709551616), Nat.add_mod (x % LL * 18446744073709551616), Nat.mod_mul_mod]
/-- A number of four words. -/
def w4 (a b c d : Nat) : Nat := a + 18446744073709551616 * b + 340282366920938463463374607431768211456 * c + 6277101735386680763835789423207666416102355444464034512896 * d
theorem w4_vl (f : Nat → Nat) : vl f 4 = w4 (f 0) (f 1) (f 2) (f 3) := by
  simp only [vl]
  unfold w4
  rw [Nat.pow_zero, Nat.pow_one, show (18446744073709551616 : Nat) ^ 2 = 340282366920938463463374607431768211456 from rfl, show (18446744073709551616 : Nat) ^ 3 = 6277101735386680763835789423207666416102355444464034512896 from rfl]
  omega
theorem w4_num {n : Nat} (h : n < R256) : w4 (dig n 0) (dig n 1) (dig n 2) (dig n 3) = n := by rw [← w4_vl, vl_num n h]
/-- How often L is in it, or once too often. -/
theorem count_ok {r0 r1 r2 r3 : Nat} (h0 : r0 < 18446744073709551616) (h1 : r1 < 18446744073709551616) (h2 : r2 < 18446744073709551616) (hr : w4 r0 r1 r2 r3 < LL) : r3 ≤ 1152921504606846976 := by
  unfold w4 LL at hr; omega
theorem next_low {n s q t r v : Nat} (hs : s < 7237005577332262213973186563042994240829374041602535252466099000494570602496) (hq : q < 18446744073709551616) (hn : n < R256)
    (hv : v = 7237005577332262213973186563042994240829374041602535252466099000494570602496 * q + s) (e : n + q * LL + R256 * r = v + R256 * t) :
    (n < 57896044618658097711785492504343953926634992332820282019728792003956564819968 ∧ n < LL ∧ v = n + LL * q)
    ∨ (57896044618658097711785492504343953926634992332820282019728792003956564819968 ≤ n ∧ ∃ y q', n + LL = y + R256 ∧ y < LL ∧ v = y + LL * q') := by
  obtain ⟨k, hk⟩ : ∃ k, k = 27742317777372353535851937790883648493 * q := ⟨_, rfl⟩
  have hkl : k < 511755436050710602512057408134634712667116094845184114688 := by omega
  have e1 : q * LL = 7237005577332262213973186563042994240829374041602535252466099000494570602496 * q + k := by unfold LL; omega
  have e2 : LL * q = q * LL := Nat.mul_comm _ _
  rw [e2]
  rw [e1] at e ⊢
  have e3 : n + k + R256 * r = s + R256 * t := by omega
  have ht : t = r ∨ t = r + 1 := by unfold R256 at *; omega
  rcases ht with rfl | rfl
  · have e4 : n + k = s := by omega
    exact .inl ⟨by omega, by unfold LL; omega, by omega⟩
  · have e4 : n + k = s + R256 := by rw [Nat.mul_add, Nat.mul_one] at e3; omega
    have hq0 : 0 < q := by
      rcases Nat.eq_zero_or_pos q with h | h
      · subst h
        unfold R256 at *
        omega
      · exact h
    obtain ⟨p, rfl⟩ : ∃ p, q = p + 1 := ⟨q - 1, by omega⟩
    refine .inr ⟨by unfold R256 at *; omega, n + LL - R256, p, ?_, ?_, ?_⟩
    · unfold R256 LL at *; omega
    · unfold R256 LL at *; omega
    · unfold R256 LL at *; omega
theorem top_times : 18446744073709551615 * LL = 133499189745056880142451851058264744949207601520298514483345041537643459967955199532994860297235 := by decide
theorem next_high {n t r v q : Nat} (hr : r = 1152921504606846976) (hq : q = 18446744073709551615) (h1 : 133499189745056880149688856635597007162669032647290798121690100488888732861290034376435130433536 ≤ v) (h2 : v < 133499189745056880149688856635597007163180788083341508724202157897023367573957150471280314548224) (hn : n < R256) (e : n + q * LL + R256 * r = v + R256 * t) :
    n < 57896044618658097711785492504343953926634992332820282019728792003956564819968 ∧ n < LL ∧ v = n + LL * q := by
  have e1 : q * LL = 133499189745056880142451851058264744949207601520298514483345041537643459967955199532994860297235 := by rw [hq]; exact top_times
  rw [Nat.mul_comm LL]
  rw [e1] at e ⊢
  have e2 : R256 * r = 133499189745056880149688856635597007162669032647290798121690100488888732861290034376435130433536 := by rw [hr]; decide
  rw [e2] at e
  have hR : R256 = 115792089237316195423570985008687907853269984665640564039457584007913129639936 := rfl
  have hL : LL = 7237005577332262213973186563042994240857116359379907606001950938285454250989 := rfl
  rw [hR] at e hn
  rw [hL]
  clear e1 e2 hR hL hr hq
  obtain ⟨x, hx⟩ : ∃ x, 133499189745056880142451851058264744949207601520298514483345041537643459967955199532994860297235 + x = v := ⟨v - 133499189745056880142451851058264744949207601520298514483345041537643459967955199532994860297235, by omega⟩
  have hxl : x < 7237005577332262213973186563042994240857116359379907606001950938285454250989 := by omega
  subst hx
  have ht : t = 1152921504606846976 := by omega
  subst ht
  have : n = x := by omega
  subst this
  exact ⟨by omega, hxl, by omega⟩
theorem next_end {r0 r1 r2 r3 d q n t : Nat} (hd : d < 18446744073709551616) (h0 : r0 < 18446744073709551616) (h1 : r1 < 18446744073709551616) (h2 : r2 < 18446744073709551616) (hr : w4 r0 r1 r2 r3 < LL)
    (hq : r3 < 1152921504606846976 ∧ q = 16 * r3 + r2 / 1152921504606846976 ∨ r3 = 1152921504606846976 ∧ q = 18446744073709551615) (hn : n < R256)
    (e : n + q * LL + R256 * r3 = d + 18446744073709551616 * w4 r0 r1 r2 r3 + R256 * t) :
    (n < 57896044618658097711785492504343953926634992332820282019728792003956564819968 ∧ n < LL ∧ d + 18446744073709551616 * w4 r0 r1 r2 r3 = n + LL * q)
    ∨ (57896044618658097711785492504343953926634992332820282019728792003956564819968 ≤ n ∧ ∃ y q', n + LL = y + R256 ∧ y < LL ∧ d + 18446744073709551616 * w4 r0 r1 r2 r3 = y + LL * q') := by
  have hv : d + 18446744073709551616 * w4 r0 r1 r2 r3 = d + 18446744073709551616 * r0 + 340282366920938463463374607431768211456 * r1 + 6277101735386680763835789423207666416102355444464034512896 * r2 + 115792089237316195423570985008687907853269984665640564039457584007913129639936 * r3 := by unfold w4; omega
  have hr' : r0 + 18446744073709551616 * r1 + 340282366920938463463374607431768211456 * r2 + 6277101735386680763835789423207666416102355444464034512896 * r3 < 7237005577332262213973186563042994240857116359379907606001950938285454250989 := hr
  generalize d + 18446744073709551616 * w4 r0 r1 r2 r3 = v at *
  rcases hq with ⟨h3, hq⟩ | ⟨h3, hq⟩
  · exact next_low (s := d + 18446744073709551616 * r0 + 340282366920938463463374607431768211456 * r1 + 6277101735386680763835789423207666416102355444464034512896 * (r2 % 1152921504606846976)) (by omega) (by omega) hn (by omega) e
  · exact .inl (next_high h3 hq (by omega) (by omega) hn e)
theorem mod_is {v n q : Nat} (hn : n < LL) (e : v = n + LL * q) : n = v % LL := by
  rw [e, Nat.add_mul_mod_self_left, Nat.mod_eq_of_lt hn]
end Go.Proofs.YtofoihebhdpjlaaDoor
