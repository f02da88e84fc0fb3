/- Of the texts ZA: what the card of this claim reaches. -/
import Derived.Test.YtgibllaifnnfkaaGreatDoorXE3
namespace Go.Proofs.YtgibllaifnnfkaaGreatDoor
open Go.RowKit
theorem bdig_part (a j i : Nat) : bdig a (8 * j + i) = bdig (a / 18446744073709551616 ^ j) i := by
  unfold bdig
  rw [w_pow, Nat.pow_add, Nat.div_div_eq_div_mul]
theorem word_dig (a j : Nat) : vb (fun i => bdig a (8 * j + i)) 8 = dig a j := by
  rw [vb_congr 8 (fun i _ => bdig_part a j i), vb_bdig]
  unfold dig
  rw [show (256 : Nat) ^ 8 = 18446744073709551616 from rfl]
theorem dig_small {x : Nat} (h : x < 18446744073709551616) : dig x 0 = x := by
  unfold dig; rw [Nat.pow_zero, Nat.div_one, Nat.mod_eq_of_lt h]
theorem pow8_le {k : Nat} (h : k ≤ 8) : 256 ^ k ≤ 18446744073709551616 :=
  Nat.le_trans (Nat.pow_le_pow_right (by decide) h) (by decide)
theorem or_word {x k c : Nat} (hk : k < 8) (hx : x < 256 ^ k) (hc : c < 256) : bits .or .u64 (x : Int) ((c * 256 ^ k : Nat) : Int) = ((x + c * 256 ^ k : Nat) : Int) := by
  have h := or_byte hx hc
  rw [Nat.div_eq_of_lt hk, Nat.mod_eq_of_lt hk, dig_small (Nat.lt_of_lt_of_le hx (pow8_le (by omega)))] at h
  exact h
theorem shl_word {k c : Nat} (hk : k < 8) (hc : c < 256) : IntKind.u64.wrap ((c : Int) * 2 ^ (8 * k)) = ((c * 256 ^ k : Nat) : Int) := by
  have h := shl_byte (k := k) hc
  rw [Nat.mod_eq_of_lt hk] at h
  exact h
theorem dig_above' {c k : Nat} (hc : c < R256) (hk : 4 ≤ k) : dig c k = 0 := by
  unfold dig
  have : 18446744073709551616 ^ 4 ≤ 18446744073709551616 ^ k := Nat.pow_le_pow_right (by decide) hk
  rw [pow4] at this
  rw [Nat.div_eq_of_lt (Nat.lt_of_lt_of_le hc this), Nat.zero_mod]
theorem vl_whole {c : Nat} (hc : c < R512) : vl (dig c) 8 = c := by rw [vl_dig, pow8, Nat.mod_eq_of_lt hc]
theorem small_big {c : Nat} (hc : c < R256) : c < R512 := Nat.lt_trans hc (by decide)
theorem room {a b c : Nat} (ha : a < R256) (hb : b < R256) (hc : c < R256) : a * b + c < R512 := by
  have h1 : a * b ≤ (R256 - 1) * (R256 - 1) := Nat.mul_le_mul (by omega) (by omega)
  have h2 : (R256 - 1) * (R256 - 1) + R256 < R512 := by decide
  omega
theorem A8_is {h : Nat → Nat} {t : Nat} (hh : ∀ i, i < 8 → h i < 18446744073709551616) (e : vl h 8 = t) : A8 h = A8 (dig t) := by rw [A8_num h hh, e]
theorem muladd_row {o : Nat → Nat} {V F G i c Vi C : Nat} (hi : i + 4 < 8) (h0 : o (i + 4) = 0) (hV : V = C + Vi * G) (e : vl o 8 + c * 18446744073709551616 ^ (i + 4) = V + F * G * 18446744073709551616 ^ i) :
    vl (upd o (i + 4) c) 8 = C + (Vi + F * 18446744073709551616 ^ i) * G := by
  have h1 := vl_upd_eq o (i + 4) c 8 hi
  rw [h0, Nat.zero_mul, Nat.add_zero] at h1
  rw [h1, e, hV, Nat.add_mul, Nat.mul_assoc F, Nat.mul_assoc F, Nat.mul_comm G]
  omega
theorem left_step {t k n d : Nat} (hn : n = t / 18446744073709551616 ^ (k + 1) % LL) (hd : dig t k = d) : t / 18446744073709551616 ^ k % LL = (d + 18446744073709551616 * n) % LL := by
  have h : t / 18446744073709551616 ^ k = t / 18446744073709551616 ^ (k + 1) * 18446744073709551616 + d := by
    have h1 : t / 18446744073709551616 ^ (k + 1) = t / 18446744073709551616 ^ k / 18446744073709551616 := by rw [Nat.pow_succ, Nat.div_div_eq_div_mul]
    rw [← hd, h1]
    unfold dig
    omega
  rw [h, hn]
  generalize t / 18446744073709551616 ^ (k + 1) = x
  rw [Nat.add_comm d, Nat.mul_comm 18446744073709551616, Nat.add_mod (x * 18446744073709551616), Nat.add_mod (x % LL * 18446744073709551616), Nat.mod_mul_mod]
def w4 (a b c d : Nat) : Nat := a + 18446744073709551616 * b + 340282366920938463463374607431768211456 * c + 6277101735386680763835789423207666416102355444464034512896 * d
theorem w4_vl (f : Nat → Nat) : vl f 4 = w4 (f 0) (f 1) (f 2) (f 3) := by
  simp only [vl]
  unfold w4
  rw [Nat.pow_zero, Nat.pow_one, show (18446744073709551616 : Nat) ^ 2 = 340282366920938463463374607431768211456 from rfl, show (18446744073709551616 : Nat) ^ 3 = 6277101735386680763835789423207666416102355444464034512896 from rfl]
  omega
theorem w4_num {n : Nat} (h : n < R256) : w4 (dig n 0) (dig n 1) (dig n 2) (dig n 3) = n := by rw [← w4_vl, vl_num n h]
theorem count_ok {r0 r1 r2 r3 : Nat} (h0 : r0 < 18446744073709551616) (h1 : r1 < 18446744073709551616) (h2 : r2 < 18446744073709551616) (hr : w4 r0 r1 r2 r3 < LL) : r3 ≤ 1152921504606846976 := by
  unfold w4 LL at hr; omega
theorem next_low {n s q t r v : Nat} (hs : s < 7237005577332262213973186563042994240829374041602535252466099000494570602496) (hq : q < 18446744073709551616) (hn : n < R256)
    (hv : v = 7237005577332262213973186563042994240829374041602535252466099000494570602496 * q + s) (e : n + q * LL + R256 * r = v + R256 * t) :
    (n < 57896044618658097711785492504343953926634992332820282019728792003956564819968 ∧ n < LL ∧ v = n + LL * q)
    ∨ (57896044618658097711785492504343953926634992332820282019728792003956564819968 ≤ n ∧ ∃ y q', n + LL = y + R256 ∧ y < LL ∧ v = y + LL * q') := by
  obtain ⟨k, hk⟩ : ∃ k, k = 27742317777372353535851937790883648493 * q := ⟨_, rfl⟩
  have hkl : k < 511755436050710602512057408134634712667116094845184114688 := by omega
  have e1 : q * LL = 7237005577332262213973186563042994240829374041602535252466099000494570602496 * q + k := by unfold LL; omega
  have e2 : LL * q = q * LL := Nat.mul_comm _ _
  rw [e2]
  rw [e1] at e ⊢
  have e3 : n + k + R256 * r = s + R256 * t := by omega
  have ht : t = r ∨ t = r + 1 := by unfold R256 at *; omega
  rcases ht with rfl | rfl
  · have e4 : n + k = s := by omega
    exact .inl ⟨by omega, by unfold LL; omega, by omega⟩
  · have e4 : n + k = s + R256 := by rw [Nat.mul_add, Nat.mul_one] at e3; omega
    have hq0 : 0 < q := by
      rcases Nat.eq_zero_or_pos q with h | h
      · subst h
        unfold R256 at *
        omega
      · exact h
    obtain ⟨p, rfl⟩ : ∃ p, q = p + 1 := ⟨q - 1, by omega⟩
    refine .inr ⟨by unfold R256 at *; omega, n + LL - R256, p, ?_, ?_, ?_⟩
    · unfold R256 LL at *; omega
    · unfold R256 LL at *; omega
    · unfold R256 LL at *; omega
theorem top_times : 18446744073709551615 * LL = 133499189745056880142451851058264744949207601520298514483345041537643459967955199532994860297235 := by decide
theorem next_high {n t r v q : Nat} (hr : r = 1152921504606846976) (hq : q = 18446744073709551615) (h1 : 133499189745056880149688856635597007162669032647290798121690100488888732861290034376435130433536 ≤ v) (h2 : v < 133499189745056880149688856635597007163180788083341508724202157897023367573957150471280314548224) (hn : n < R256) (e : n + q * LL + R256 * r = v + R256 * t) :
    n < 57896044618658097711785492504343953926634992332820282019728792003956564819968 ∧ n < LL ∧ v = n + LL * q := by
  have e1 : q * LL = 133499189745056880142451851058264744949207601520298514483345041537643459967955199532994860297235 := by rw [hq]; exact top_times
  rw [Nat.mul_comm LL]
  rw [e1] at e ⊢
  have e2 : R256 * r = 133499189745056880149688856635597007162669032647290798121690100488888732861290034376435130433536 := by rw [hr]; decide
  rw [e2] at e
  have hR : R256 = 115792089237316195423570985008687907853269984665640564039457584007913129639936 := rfl
  have hL : LL = 7237005577332262213973186563042994240857116359379907606001950938285454250989 := rfl
  rw [hR] at e hn
  rw [hL]
  clear e1 e2 hR hL hr hq
  obtain ⟨x, hx⟩ : ∃ x, 133499189745056880142451851058264744949207601520298514483345041537643459967955199532994860297235 + x = v := ⟨v - 133499189745056880142451851058264744949207601520298514483345041537643459967955199532994860297235, by omega⟩
  have hxl : x < 7237005577332262213973186563042994240857116359379907606001950938285454250989 := by omega
  subst hx
  have ht : t = 1152921504606846976 := by omega
  subst ht
  have : n = x := by omega
  subst this
  exact ⟨by omega, hxl, by omega⟩
theorem next_end {r0 r1 r2 r3 d q n t : Nat} (hd : d < 18446744073709551616) (h0 : r0 < 18446744073709551616) (h1 : r1 < 18446744073709551616) (h2 : r2 < 18446744073709551616) (hr : w4 r0 r1 r2 r3 < LL)
    (hq : r3 < 1152921504606846976 ∧ q = 16 * r3 + r2 / 1152921504606846976 ∨ r3 = 1152921504606846976 ∧ q = 18446744073709551615) (hn : n < R256)
    (e : n + q * LL + R256 * r3 = d + 18446744073709551616 * w4 r0 r1 r2 r3 + R256 * t) :
    (n < 57896044618658097711785492504343953926634992332820282019728792003956564819968 ∧ n < LL ∧ d + 18446744073709551616 * w4 r0 r1 r2 r3 = n + LL * q)
    ∨ (57896044618658097711785492504343953926634992332820282019728792003956564819968 ≤ n ∧ ∃ y q', n + LL = y + R256 ∧ y < LL ∧ d + 18446744073709551616 * w4 r0 r1 r2 r3 = y + LL * q') := by
  have hv : d + 18446744073709551616 * w4 r0 r1 r2 r3 = d + 18446744073709551616 * r0 + 340282366920938463463374607431768211456 * r1 + 6277101735386680763835789423207666416102355444464034512896 * r2 + 115792089237316195423570985008687907853269984665640564039457584007913129639936 * r3 := by unfold w4; omega
  have hr' : r0 + 18446744073709551616 * r1 + 340282366920938463463374607431768211456 * r2 + 6277101735386680763835789423207666416102355444464034512896 * r3 < 7237005577332262213973186563042994240857116359379907606001950938285454250989 := hr
  generalize d + 18446744073709551616 * w4 r0 r1 r2 r3 = v at *
  rcases hq with ⟨h3, hq⟩ | ⟨h3, hq⟩
  · exact next_low (s := d + 18446744073709551616 * r0 + 340282366920938463463374607431768211456 * r1 + 6277101735386680763835789423207666416102355444464034512896 * (r2 % 1152921504606846976)) (by omega) (by omega) hn (by omega) e
  · exact .inl (next_high h3 hq (by omega) (by omega) hn e)
theorem mod_is {v n q : Nat} (hn : n < LL) (e : v = n + LL * q) : n = v % LL := by
  rw [e, Nat.add_mul_mod_self_left, Nat.mod_eq_of_lt hn]
end Go.Proofs.YtgibllaifnnfkaaGreatDoor
namespace Go.Proofs.YtgibllaifnnfkaaGreatDoor
open Go.RowKit
theorem infoSN : (Tryz.prog.info? 83).map (·.size) = some 4 := by kernel_rfl
theorem zeroSN : (Tryz.prog.info? 83).map (fun i => (i.zero, i.size)) = some (some (.agg (A4 fun _ => 0)), 4) := by kernel_rfl
set_option maxRecDepth 100000 in
set_option maxHeartbeats 4000000 in
theorem step_anyZ (x y e k : Nat) (hx : x < 18446744073709551616) (hy : y < 18446744073709551616) (he : e < 18446744073709551616) (hk : k < 18446744073709551616) (w : World) :
    Calls Tryz.prog 60 #[.int .u64 (x : Int), .int .u64 (y : Int), .int .u64 (e : Int), .int .u64 (k : Int)] w fun r w' => (∃ l h : Nat, r = .returned (.tuple #[.int .u64 (l : Int), .int .u64 (h : Int)]) ∧ l < 18446744073709551616 ∧ h < 18446744073709551616 ∧ x * y + e + k = l + 18446744073709551616 * h) ∧ w' = w := by
  have hxy := word_mul x y hx hy
  go_enter Tryz.func60, Tryz.ntmps60
  go_wp2_with fail
  refine (mul64_any x y hx hy w).mono ?_
  rintro r w1 ⟨⟨h, l, rfl, hh, hl, hp⟩, rfl⟩
  obtain ⟨l1, c1, r1, hl1, hc1, e1⟩ := add64_any l e 0 hl he (by omega)
  obtain ⟨l2, c2, r2, hl2, hc2, e2⟩ := add64_any l1 k 0 hl1 hk (by omega)
  have r1 : ∀ w, (callFunc 85 #[.int .u64 (l : Int), .int .u64 (e : Int), .int .u64 0]).run Tryz.prog w = .ok (.value (.tuple #[.int .u64 (l1 : Int), .int .u64 (c1 : Int)])) w := r1
  have r2 : ∀ w, (callFunc 85 #[.int .u64 (l1 : Int), .int .u64 (k : Int), .int .u64 0]).run Tryz.prog w = .ok (.value (.tuple #[.int .u64 (l2 : Int), .int .u64 (c2 : Int)])) w := r2
  obtain ⟨p, Hx⟩ : ∃ p, Hid (x * y = p) := ⟨_, rfl⟩
  rw [Hx.out] at hp hxy
  have hw1 : IntKind.u64.wrap ((h : Int) + (c1 : Int)) = ((h + c1 : Nat) : Int) := by
    rw [show (h : Int) + (c1 : Int) = ((h + c1 : Nat) : Int) by omega]; exact wrap_small _ (by omega)
  have hw2 : IntKind.u64.wrap (((h + c1 : Nat) : Int) + (c2 : Int)) = ((h + c1 + c2 : Nat) : Int) := by
    rw [show ((h + c1 : Nat) : Int) + (c2 : Int) = ((h + c1 + c2 : Nat) : Int) by omega]; exact wrap_small _ (by omega)
  have Hend : Hid (p + e + k = l2 + 18446744073709551616 * (h + c1 + c2)) := by show _ = _; omega
  have hlt : h + c1 + c2 < 18446744073709551616 := by omega
  clear hp e1 e2 hxy
  generalize h + c1 + c2 = h2 at *
  generalize h + c1 = h1 at *
  go_wp2_with fail
  exact bodyPost_ret (results_tmp2 Tryz.results60 _ _ _) rfl ⟨⟨l2, h2, rfl, hl2, hlt, by rw [Hx.out]; exact Hend.out⟩, rfl⟩
set_option maxRecDepth 100000 in
set_option maxHeartbeats 4000000 in
theorem word_anyZ (f : Nat → Nat) (b o cap : Nat) (hf : ∀ i, i < 8 → f i < 256) (w : World) (hcell : ∀ i, i < 8 → w.cell? ⟨b, o + i, none⟩ = some (.int .u8 (f i : Int))) :
    Calls Tryz.prog 53 #[.slice (some ⟨b, o, none⟩) 8 cap] w fun x w' => x = .returned (.int .u64 (vb f 8 : Int)) ∧ w' = w := by
  go_enter Tryz.func53, Tryz.ntmps53
  go_wp2_with fail
  go_loopw [8, 3] (fun ii vv wr => ∃ (k x : Nat), k ≤ 8 ∧ ii = .int .i64 (k : Int) ∧ vv = .int .u64 (x : Int) ∧ x < 256 ^ k ∧ Hid (vb f k = x) ∧ wr = w) (fun ii _ _ => 8 - (intOf ii).toNat)
  case atStart => exact ⟨0, 0, by omega, rfl, rfl, by decide, rfl, rfl⟩
  case round =>
    obtain ⟨k, x, hk, rfl, rfl, hx, Hx, rfl⟩ := hrel
    have hk0 : (0 : Int) ≤ (k : Int) := by omega
    by_cases hlt : k < 8
    · have hki : (k : Int) < 8 := by omega
      have cA := hcell k hlt
      have hc := hf k hlt
      have hm0 : (0 : Int) ≤ 8 * (k : Int) := by omega
      have hm1 : 8 * (k : Int) < 64 := by omega
      have hs := shl_word hlt hc
      have hor := or_word hlt hx hc
      have Hnew : Hid (x + f k * 256 ^ k < 256 ^ (k + 1) ∧ vb f (k + 1) = x + f k * 256 ^ k) := by
        have e : vb f (k + 1) = x + f k * 256 ^ k := by rw [vb, Hx.out]
        exact ⟨by rw [← e]; exact vb_lt f (k + 1) fun i hi => hf i (by omega), e⟩
      have hc0 : (0 : Int) ≤ ((f k : Nat) : Int) := by omega
      have hc1 : ((f k : Nat) : Int) < 256 := by omega
      generalize x + f k * 256 ^ k = x' at *
      generalize f k * 256 ^ k = u at *
      generalize hCC : f k = c at cA hs hc0 hc1
      clear hCC hcell hf
      go_wp2_with fail
      exact ⟨⟨k + 1, x', by omega, by go_num, rfl, Hnew.out.1, Hnew.out.2, by trivial⟩, by simp [intOf]; omega⟩
    · have hki : ¬ (k : Int) < 8 := by omega
      have He : Hid (vb f 8 = x) := by
        show _ = _
        rw [← Hx.out, show k = 8 by omega]
      go_wp2_with fail
      go_ret
      exact ⟨by rw [He.out]; rfl, rfl⟩
set_option maxRecDepth 100000 in
set_option maxHeartbeats 8000000 in
theorem write_anyZ (n : Nat) (w : World) : Calls Tryz.prog 54 #[.agg (numA n)] w fun x w' => x = .returned (.agg (B32 (bdig n))) ∧ Below w.heap.size w w' := by
  have hz := (zero_of_info zeroB32).1
  go_enter Tryz.func54, Tryz.ntmps54
  go_wp2_with fail
  have hK0 := (((Kp.nil w).alloc (numA n) 83).alloc (B32 fun _ => 0) 22).alloc (B32 fun _ => 0) 22
  rw [World.size_alloc, World.size_alloc] at hK0
  generalize ((w.alloc (.cells (numA n) 83)).alloc (.cells (B32 fun _ => 0) 22)).alloc (.cells (B32 fun _ => 0) 22) = W at *
  obtain ⟨bA, HA⟩ : ∃ bA, Hid (w.heap.size = bA) := ⟨_, rfl⟩
  obtain ⟨bR, HR⟩ : ∃ bR, Hid (bA + 1 = bR) := ⟨_, rfl⟩
  obtain ⟨bO, HO⟩ : ∃ bO, Hid (bR + 1 = bO) := ⟨_, rfl⟩
  have hle : w.heap.size ≤ bR := by have := HA.out; have := HR.out; omega
  have hleO : w.heap.size ≤ bO := by have := HO.out; omega
  have n1 : bA ≠ bO := by have := HR.out; have := HO.out; omega
  have n2 : bR ≠ bO := by have := HO.out; omega
  rw [HA.out, HR.out, HO.out] at hK0 ⊢
  go_loopw [5] (fun ii wr => ∃ (k : Nat) (h : Nat → Nat), k ≤ 32 ∧ ii = .int .i64 (k : Int) ∧ (∀ j, j < k → h j = bdig n j) ∧ Kp [(bO, B32 h, 22), (bR, B32 fun _ => 0, 22), (bA, numA n, 83)] w wr) (fun ii _ => 32 - (intOf ii).toNat)
  case atStart => exact ⟨0, fun _ => 0, by omega, rfl, fun j hj => by omega, hK0⟩
  case round =>
    obtain ⟨k, h, hk, rfl, hh, hKr⟩ := hrel
    have hk0 : (0 : Int) ≤ (k : Int) := by omega
    by_cases hlt : k < 32
    · have hki : (k : Int) < 32 := by omega
      have hd4 : k / 8 < 4 := by omega
      have cA := (hKr.at bA (numA n) 83 (by simp)).cell (numA_at n (k / 8) hd4)
      have cO := (hKr.at bO (B32 h) 22 (by simp)).cell (B32_at h k hlt)
      have fO := (hKr.at bO (B32 h) 22 (by simp)).frozen k
      have hdv : (k : Int).tdiv 8 = ((k / 8 : Nat) : Int) := by rw [Int.tdiv_eq_ediv_of_nonneg (by omega)]; omega
      have hmd : (k : Int).tmod 8 = ((k % 8 : Nat) : Int) := by rw [Int.tmod_eq_emod_of_nonneg (by omega)]; omega
      have hd40 : (0 : Int) ≤ ((k / 8 : Nat) : Int) := by omega
      have hd41 : ((k / 8 : Nat) : Int) < 4 := by omega
      have hm0 : (0 : Int) ≤ ((k % 8 : Nat) : Int) * 8 := by omega
      have hm1 : ((k % 8 : Nat) : Int) * 8 < 64 := by omega
      have hm2 : ((k % 8 : Nat) : Int) < 8 := by omega
      have hm3 : (0 : Int) ≤ ((k % 8 : Nat) : Int) := by omega
      have hb := byte_of n k
      have hb' : (dig n (k / 8) : Int) / 2 ^ (k % 8 * 8) % 256 = ((bdig n k : Nat) : Int) := by
        rw [← hb, Nat.mul_comm]; push_cast; rfl
      have Hb := show Hid _ from hb'
      clear hb hb'
      obtain ⟨v, Hv⟩ : ∃ v, Hid (bdig n k = v) := ⟨_, rfl⟩
      rw [Hv.out] at Hb
      generalize dig n (k / 8) = d at *
      generalize k / 8 = D at *
      generalize k % 8 = M at *
      go_wp2_with fail
      rw [Hb.out]
      have hK1 := Kp.setCell (i := k) (v := .int .u8 (v : Int)) hKr (by simp; omega) hleO
      rw [B32_set h k v hlt] at hK1
      refine ⟨⟨k + 1, upd h k v, by omega, by go_num, fun j hj => ?_, hK1⟩, by simp [intOf]; omega⟩
      by_cases e : j = k
      · rw [e, upd_same]; exact Hv.out.symm
      · rw [upd_other _ _ _ _ e]; exact hh j (by omega)
    · have hki : ¬ (k : Int) < 32 := by omega
      have He : Hid (B32 h = B32 (bdig n)) := B32_ext fun i hi => hh i (by omega)
      go_upto_region 7 with fail
      go_wp2_with (first
        | refine wpList_load_own (by rfl) 22 (.tmp 3) (by rfl) bO (by rfl) (B32 h) _ (hKr.at bO (B32 h) 22 (by simp)) Tryz.underlying22 (by rfl) (B32_info h) ?_
        | refine wpList_store_own (by rfl) 22 (.tmp 2) (.tmp 20) (by rfl) bR 0 (B32 h) (by rfl) (by rfl) (hKr.at bR (B32 fun _ => 0) 22 (by simp)) (by rw [B32_size, B32_size]; exact Nat.le_refl _) (B32_info h) (B32_one h) (by rfl) ?_)
      refine bodyPost_ret (results_own Tryz.results54 _ _ bR (B32 h) _ (by rfl) (own_setCells (hKr.at bR (B32 fun _ => 0) 22 (by simp)) (by rw [B32_size, B32_size])) Tryz.underlying22 rfl (B32_info h)) rfl ⟨by rw [He.out], ?_⟩
      exact Below.setCells _ _ _ _ hle hKr.2
end Go.Proofs.YtgibllaifnnfkaaGreatDoor
namespace Go.Proofs.YtgibllaifnnfkaaGreatDoor
open Go.RowKit
theorem word_atZ (a k b o cap : Nat) (w : World) (hk : k < 4) (ho : 8 * k = o) {t : TypeId} (hO : Own w b (B32 (bdig a)) t) :
    Calls Tryz.prog 53 #[.slice (some ⟨b, o, none⟩) 8 cap] w fun r w' => r = .returned (.int .u64 (dig a k : Int)) ∧ Below w.heap.size w w' := by
  refine (word_anyZ (fun i => bdig a (8 * k + i)) b o cap (fun i _ => bdig_lt _ _) w (fun i hi => ?_)).mono ?_
  · rw [← ho]; exact hO.cell (B32_at _ _ (by omega))
  · rintro x w' ⟨rfl, rfl⟩
    exact ⟨by rw [word_dig], Below.refl _ _⟩
def valReadZ (a bB : Nat) : Nat → Value
  | 0 => .slice (some ⟨bB, 0, none⟩) 8 32
  | 1 => .int .u64 (dig a 0 : Int)
  | 2 => .slice (some ⟨bB, 8, none⟩) 8 24
  | 3 => .int .u64 (dig a 1 : Int)
  | 4 => .slice (some ⟨bB, 16, none⟩) 8 16
  | 5 => .int .u64 (dig a 2 : Int)
  | 6 => .slice (some ⟨bB, 24, none⟩) 8 8
  | 7 => .int .u64 (dig a 3 : Int)
  | 8 => .agg (numA a)
  | _ => undef
set_option maxRecDepth 100000 in
set_option maxHeartbeats 8000000 in
theorem read_anyZ (a : Nat) (w : World) :
    Calls Tryz.prog 59 #[.agg (B32 (bdig a))] w fun r w' => r = .returned (.agg (numA a)) ∧ Below w.heap.size w w' := by
  have hz := (zero_of_info zeroSN).1
  go_enter Tryz.func59, Tryz.ntmps59
  go_upto_region 1 with fail
  have hK := ((Kp.nil w).alloc (B32 (bdig a)) 22).alloc (numA 0) 83
  rw [World.size_alloc] at hK
  rw [← zero_num]
  generalize (w.alloc (.cells (B32 (bdig a)) 22)).alloc (.cells (numA 0) 83) = W at *
  obtain ⟨bB, H1⟩ : ∃ bB, Hid (w.heap.size = bB) := ⟨_, rfl⟩
  obtain ⟨bR, H2⟩ : ∃ bR, Hid (bB + 1 = bR) := ⟨_, rfl⟩
  have hleR : w.heap.size ≤ bR := by have := H1.out; have := H2.out; omega
  have nB : bB ≠ bR := by have := H2.out; omega
  rw [H1.out, H2.out] at hK ⊢
  refine wp_region_vals 12 (by kernel_rfl) (by kernel_rfl) (by rfl) (valReadZ a bB) (fun L => Kp [(bR, if L 9 then numA a else numA 0, 83), (bB, B32 (bdig a), 22)] w) hK.drew ?_ ?_
  · intro L ac wc i o hF hLi ho hd K hK
    rcases i with _ | _ | _ | _ | _ | _ | _ | _ | _ | _ | i
    · have ho' := ho
      obtain rfl := Option.some.inj ho
      have f1 : ac.tmps.getD 1 undef = .pointer (some ⟨bB, 0, none⟩) := slotv hF 0 hLi 1 (by kernel_rfl)
      refine step_do ho' (wanted_free rfl) ?_
      unfold Oper.wp
      go_simp
      exact hK _ _ (.inr rfl) hF.j
    · have ho' := ho
      obtain rfl := Option.some.inj ho
      have f3 : ac.tmps.getD 3 undef = .slice (some ⟨bB, 0, none⟩) 8 32 := valv hF hd 0 rfl rfl (by kernel_rfl)
      refine step_do ho' (wanted_free rfl) ?_
      unfold Oper.wp
      go_simp
      refine (word_atZ a 0 bB 0 32 _ (by decide) rfl hF.j.h2).mono ?_
      rintro e w' ⟨rfl, hB⟩
      exact hK _ _ (.inr rfl) (hF.j.below hB)
    · have ho' := ho
      obtain rfl := Option.some.inj ho
      have f1 : ac.tmps.getD 1 undef = .pointer (some ⟨bB, 0, none⟩) := slotv hF 2 hLi 1 (by kernel_rfl)
      refine step_do ho' (wanted_free rfl) ?_
      unfold Oper.wp
      go_simp
      exact hK _ _ (.inr rfl) hF.j
    · have ho' := ho
      obtain rfl := Option.some.inj ho
      have f5 : ac.tmps.getD 5 undef = .slice (some ⟨bB, 8, none⟩) 8 24 := valv hF hd 2 rfl rfl (by kernel_rfl)
      refine step_do ho' (wanted_free rfl) ?_
      unfold Oper.wp
      go_simp
      refine (word_atZ a 1 bB 8 24 _ (by decide) rfl hF.j.h2).mono ?_
      rintro e w' ⟨rfl, hB⟩
      exact hK _ _ (.inr rfl) (hF.j.below hB)
    · have ho' := ho
      obtain rfl := Option.some.inj ho
      have f1 : ac.tmps.getD 1 undef = .pointer (some ⟨bB, 0, none⟩) := slotv hF 4 hLi 1 (by kernel_rfl)
      refine step_do ho' (wanted_free rfl) ?_
      unfold Oper.wp
      go_simp
      exact hK _ _ (.inr rfl) hF.j
    · have ho' := ho
      obtain rfl := Option.some.inj ho
      have f7 : ac.tmps.getD 7 undef = .slice (some ⟨bB, 16, none⟩) 8 16 := valv hF hd 4 rfl rfl (by kernel_rfl)
      refine step_do ho' (wanted_free rfl) ?_
      unfold Oper.wp
      go_simp
      refine (word_atZ a 2 bB 16 16 _ (by decide) rfl hF.j.h2).mono ?_
      rintro e w' ⟨rfl, hB⟩
      exact hK _ _ (.inr rfl) (hF.j.below hB)
    · have ho' := ho
      obtain rfl := Option.some.inj ho
      have f1 : ac.tmps.getD 1 undef = .pointer (some ⟨bB, 0, none⟩) := slotv hF 6 hLi 1 (by kernel_rfl)
      refine step_do ho' (wanted_free rfl) ?_
      unfold Oper.wp
      go_simp
      exact hK _ _ (.inr rfl) hF.j
    · have ho' := ho
      obtain rfl := Option.some.inj ho
      have f9 : ac.tmps.getD 9 undef = .slice (some ⟨bB, 24, none⟩) 8 8 := valv hF hd 6 rfl rfl (by kernel_rfl)
      refine step_do ho' (wanted_free rfl) ?_
      unfold Oper.wp
      go_simp
      refine (word_atZ a 3 bB 24 8 _ (by decide) rfl hF.j.h2).mono ?_
      rintro e w' ⟨rfl, hB⟩
      exact hK _ _ (.inr rfl) (hF.j.below hB)
    · have ho' := ho
      obtain rfl := Option.some.inj ho
      have f4 : ac.tmps.getD 4 undef = .int .u64 (dig a 0 : Int) := valv hF hd 1 rfl rfl (by kernel_rfl)
      have f6 : ac.tmps.getD 6 undef = .int .u64 (dig a 1 : Int) := valv hF hd 3 rfl rfl (by kernel_rfl)
      have f8 : ac.tmps.getD 8 undef = .int .u64 (dig a 2 : Int) := valv hF hd 5 rfl rfl (by kernel_rfl)
      have f10 : ac.tmps.getD 10 undef = .int .u64 (dig a 3 : Int) := valv hF hd 7 rfl rfl (by kernel_rfl)
      refine step_do ho' (wanted_free rfl) ?_
      have g4 := getq f4
      have g6 := getq f6
      have g8 := getq f8
      have g10 := getq f10
      unfold Oper.wp
      go_simp
      exact hK _ _ (.inr rfl) hF.j
    · have ho' := ho
      obtain rfl := Option.some.inj ho
      have f2 : ac.tmps.getD 2 undef = .pointer (some ⟨bR, 0, none⟩) := slotv hF 9 hLi 2 (by kernel_rfl)
      have f11 : ac.tmps.getD 11 undef = .agg (numA a) := valv hF hd 8 rfl rfl (by kernel_rfl)
      refine step_do ho' (wanted_free rfl) ?_
      have hj := hF.j
      rw [hLi] at hj
      refine wp_store_own 83 (.tmp 2) (.tmp 11) rfl bR (numA a) f2 f11 hj.h1 rfl infoSN (numA_one _) rfl ?_
      exact hK undef _ (.inl rfl) (Kp.set hj (by simp; omega) hleR rfl)
    · cases ho
  · intro L wq hL hKq
    rw [hL 9 (by decide)] at hKq
    simp only [putAll, valReadZ, Act.put, List.setIfInBounds_toArray, List.set_cons_succ, List.set_cons_zero]
    go_wp2_with fail
    exact bodyPost_ret (results_own Tryz.results59 _ _ bR (numA a) _ (by rfl) hKq.h1 Tryz.underlying83 rfl infoSN) rfl ⟨rfl, hKq.2⟩
end Go.Proofs.YtgibllaifnnfkaaGreatDoor
