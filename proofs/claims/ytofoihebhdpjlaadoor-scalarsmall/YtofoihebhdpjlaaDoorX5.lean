/- The walk of the law ScalarSmall, over the program's functions by their contracts. -/
import Derived.Test.YtofoihebhdpjlaaDoorS3
import Derived.Laws.BitsLemmas
namespace Go.Proofs.YtofoihebhdpjlaaDoor
open Go.RowKit
theorem and30 (n : Int) : bits .and .i64 n 1073741823 = ((n % 1073741824).toNat : Int) := by
  have h1 : (BitVec.ofInt 64 1073741823).toNat = 2 ^ 30 - 1 := by decide
  have key : (BitVec.ofInt 64 n &&& BitVec.ofInt 64 1073741823).toNat = (n % ((2 ^ 64 : Nat) : Int)).toNat % 2 ^ 30 := by
    rw [BitVec.toNat_and, BitVec.toNat_ofInt, h1, Nat.and_two_pow_sub_one_eq_mod]
  show IntKind.i64.wrap ((BitVec.ofInt 64 n &&& BitVec.ofInt 64 1073741823).toNat : Nat) = _
  rw [key, IntKind.wrap_i64]
  omega
theorem small_modL {n : Nat} (h : n < 9223372036854775808) : n % LL = n := Nat.mod_eq_of_lt (Nat.lt_trans h (by decide))
theorem small_R {n : Nat} (h : n < 9223372036854775808) : n < R256 := Nat.lt_trans h (by decide)
theorem wrap63 (n : Nat) (h : n < 9223372036854775808) : IntKind.i64.wrap (n : Int) = (n : Int) := by rw [IntKind.wrap_i64]; omega
set_option maxRecDepth 100000 in
set_option maxHeartbeats 16000000 in
theorem ssmall_any {T : World → Prop} (F : Scl T) (a b c : Int) (w : World) (hT : T w) : Calls Tryd.prog 7 #[.int .i64 a, .int .i64 b, .int .i64 c] w fun x w' => x = .returned (.bool true) ∧ Below w.heap.size w w' := by
  have ea := and30 a
  have eb := and30 b
  have ec := and30 c
  have hx30 : (a % 1073741824).toNat < 1073741824 := by omega
  have hy30 : (b % 1073741824).toNat < 1073741824 := by omega
  have hv30 : (c % 1073741824).toNat < 1073741824 := by omega
  generalize (a % 1073741824).toNat = x at *
  generalize (b % 1073741824).toNat = y at *
  generalize (c % 1073741824).toNat = v at *
  have hx : x < 9223372036854775808 := by omega
  have hy : y < 9223372036854775808 := by omega
  have hv : v < 9223372036854775808 := by omega
  have hxy : x * y ≤ 1152921504606846976 := Nat.le_trans (Nat.mul_le_mul (Nat.le_of_lt hx30) (Nat.le_of_lt hy30)) (by decide)
  obtain ⟨p, Hp⟩ : ∃ p, Hid (x * y = p) := ⟨_, rfl⟩
  have hp : p < 4611686018427387904 := by rw [← Hp.out]; omega
  obtain ⟨s, Hs⟩ : ∃ s, Hid (p + v = s) := ⟨_, rfl⟩
  have hs : s < 9223372036854775808 := by have := Hs.out; omega
  have wp' : IntKind.i64.wrap ((x : Int) * (y : Int)) = (p : Int) := by
    rw [show (x : Int) * (y : Int) = (p : Int) by rw [← Hp.out]; push_cast; rfl]; exact wrap63 p (by omega)
  have ws : IntKind.i64.wrap ((p : Int) + (v : Int)) = (s : Int) := by rw [show (p : Int) + (v : Int) = (s : Int) by have := Hs.out; omega]; exact wrap63 s hs
  have ss := B32_same s (small_R hs)
  have sx := B32_same x (small_R hx)
  have Hma : Hid ((x * y + v) % LL = s) := by show _ = _; rw [Hp.out, Hs.out]; exact small_modL hs
  have Hmx : Hid (x % LL = x) := small_modL hx
  clear hxy hx30 hy30 hv30
  go_enter Tryd.func7, Tryd.ntmps7
  go_wp2_with fail
  refine (num_any x hx w).mono ?_
  rintro r w0 ⟨rfl, b0⟩
  have bw := b0
  go_wp2_with fail
  refine (num_any y hy w0).mono ?_
  rintro r w1 ⟨rfl, b1⟩
  have bw := bel bw b1
  go_wp2_with fail
  refine (num_any v hv w1).mono ?_
  rintro r w2 ⟨rfl, b2⟩
  have bw := bel bw b2
  go_wp2_with fail
  refine (F.muladdA (small_R hx) (small_R hy) (small_R hv) Hma.out w2 (F.keep _ _ hT bw)).mono ?_
  rintro r w3 ⟨rfl, b3⟩
  have bw := bel bw b3
  go_wp2_with fail
  refine (num_any s hs w3).mono ?_
  rintro r w4 ⟨rfl, b4⟩
  have bw := bel bw b4
  go_wp2_with fail
  refine (num_any x hx w4).mono ?_
  rintro r w5 ⟨rfl, b5⟩
  have bw := bel bw b5
  go_wp2_with fail
  refine (F.modA (small_R hx) Hmx.out w5 (F.keep _ _ hT bw)).mono ?_
  rintro r w6 ⟨rfl, b6⟩
  have bw := bel bw b6
  go_wp2_with fail
  refine (num_any x hx w6).mono ?_
  rintro r w7 ⟨rfl, b7⟩
  have bw := bel bw b7
  go_wp2_with fail
  refine (num_any y hy w7).mono ?_
  rintro r w8 ⟨rfl, b8⟩
  have bw := bel bw b8
  go_wp2_with fail
  refine (F.check y (small_R hy) w8 (F.keep _ _ hT bw)).mono ?_
  rintro r w9 ⟨rfl, b9⟩
  have bw := bel bw b9
  rw [decide_eq_true (show y < LL from Nat.lt_trans hy (by decide))]
  go_wp2_with fail
  refine (swakes_any F.toSclT w9 (F.keep _ _ hT bw)).mono ?_
  rintro r w10 ⟨rfl, b10⟩
  have bw := bel bw b10
  go_wp2
  go_ret
  exact ⟨rfl, bw⟩
end Go.Proofs.YtofoihebhdpjlaaDoor
