/- The walk of the law FieldSmall, over the program's functions by their contracts. -/
import Derived.Test.YtaefjbklioljnabDoorE14
import Derived.Laws.BitsLemmas
namespace Go.Proofs.YtaefjbklioljnabDoor
open Go.RowKit
theorem and30 (n : Int) : bits .and .i64 n 1073741823 = ((n % 1073741824).toNat : Int) := by
  have h1 : (BitVec.ofInt 64 1073741823).toNat = 2 ^ 30 - 1 := by decide
  have key : (BitVec.ofInt 64 n &&& BitVec.ofInt 64 1073741823).toNat = (n % ((2 ^ 64 : Nat) : Int)).toNat % 2 ^ 30 := by
    rw [BitVec.toNat_and, BitVec.toNat_ofInt, h1, Nat.and_two_pow_sub_one_eq_mod]
  show IntKind.i64.wrap ((BitVec.ofInt 64 n &&& BitVec.ofInt 64 1073741823).toNat : Nat) = _
  rw [key, IntKind.wrap_i64]
  omega
theorem small_mod {n : Nat} (h : n < 9223372036854775808) : n % pp = n := Nat.mod_eq_of_lt (Nat.lt_trans h (by decide))
theorem small_R {n : Nat} (h : n < 9223372036854775808) : n < R256 := Nat.lt_trans h (by decide)
theorem small_dif {x y d : Nat} (hx : x < 9223372036854775808) (hy : y < 9223372036854775808) (h : x = d + y) : (x % pp + pp - y % pp) % pp = d := by
  rw [small_mod hx, small_mod hy, show x + pp - y = d + pp by omega, Nat.add_mod_right, small_mod (by omega)]
theorem wrap63 (n : Nat) (h : n < 9223372036854775808) : IntKind.i64.wrap (n : Int) = (n : Int) := by rw [IntKind.wrap_i64]; omega
set_option maxRecDepth 100000 in
set_option maxHeartbeats 16000000 in
theorem small_any {T : World → Prop} (F : Fld T) (a b : Int) (w : World) (hT : T w) : Calls Tryd.prog 4 #[.int .i64 a, .int .i64 b] w fun x w' => x = .returned (.bool true) ∧ Below w.heap.size w w' := by
  have ea := and30 a
  have eb := and30 b
  have hx30 : (a % 1073741824).toNat < 1073741824 := by omega
  have hy30 : (b % 1073741824).toNat < 1073741824 := by omega
  generalize (a % 1073741824).toNat = x at *
  generalize (b % 1073741824).toNat = y at *
  have hx : x < 9223372036854775808 := by omega
  have hy : y < 9223372036854775808 := by omega
  have hxy : x * y < 9223372036854775808 := Nat.lt_of_le_of_lt (Nat.mul_le_mul (Nat.le_of_lt hx30) (Nat.le_of_lt hy30)) (by decide)
  obtain ⟨s, Hs⟩ : ∃ s, Hid (x + y = s) := ⟨_, rfl⟩
  obtain ⟨p, Hp⟩ : ∃ p, Hid (x * y = p) := ⟨_, rfl⟩
  have hs : s < 9223372036854775808 := by have := Hs.out; omega
  have hp : p < 9223372036854775808 := by rw [← Hp.out]; exact hxy
  have ws : IntKind.i64.wrap ((x : Int) + (y : Int)) = (s : Int) := by rw [show (x : Int) + (y : Int) = (s : Int) by have := Hs.out; omega]; exact wrap63 s hs
  have wp' : IntKind.i64.wrap ((x : Int) * (y : Int)) = (p : Int) := by
    rw [show (x : Int) * (y : Int) = (p : Int) by rw [← Hp.out]; push_cast; rfl]; exact wrap63 p hp
  have ss := B32_same s (small_R hs)
  have sp := B32_same p (small_R hp)
  have Hadd : Hid ((x + y) % pp = s) := by show _ = _; rw [Hs.out]; exact small_mod hs
  have Hmul : Hid (x * y % pp = p) := by show _ = _; rw [Hp.out]; exact small_mod hp
  clear hxy
  have h3 : x < y ∨ y < x ∨ x = y := by omega
  rcases h3 with h3 | h3 | h3
  · obtain ⟨d, Hd⟩ : ∃ d, Hid (y = d + x) := ⟨y - x, by show _ = _; omega⟩
    have hdd : d < 9223372036854775808 := by have := Hd.out; omega
    have wd : IntKind.i64.wrap ((y : Int) - (x : Int)) = (d : Int) := by rw [show (y : Int) - (x : Int) = (d : Int) by have := Hd.out; omega]; exact wrap63 d hdd
    have sd := B32_same d (small_R hdd)
    have Hsub : Hid ((y % pp + pp - x % pp) % pp = d) := small_dif hy hx Hd.out
    have g1 : (x : Int) < (y : Int) := by omega
    have g2 : ¬ (y : Int) < (x : Int) := by omega
    go_enter Tryd.func4, Tryd.ntmps4
    go_wp2_with fail
    refine (num_any x hx w).mono ?_
    rintro r w0 ⟨rfl, b0⟩
    have bw := b0
    go_wp2_with fail
    refine (num_any y hy w0).mono ?_
    rintro r w1 ⟨rfl, b1⟩
    have bw := bel bw b1
    go_wp2_with fail
    refine (F.addA (small_R hx) (small_R hy) Hadd.out w1 (F.keep _ _ hT bw)).mono ?_
    rintro r w2 ⟨rfl, b2⟩
    have bw := bel bw b2
    go_wp2_with fail
    refine (num_any s hs w2).mono ?_
    rintro r w3 ⟨rfl, b3⟩
    have bw := bel bw b3
    go_wp2_with fail
    refine (num_any x hx w3).mono ?_
    rintro r w4 ⟨rfl, b4⟩
    have bw := bel bw b4
    go_wp2_with fail
    refine (num_any y hy w4).mono ?_
    rintro r w5 ⟨rfl, b5⟩
    have bw := bel bw b5
    go_wp2_with fail
    refine (F.mulA (small_R hx) (small_R hy) Hmul.out w5 (F.keep _ _ hT bw)).mono ?_
    rintro r w6 ⟨rfl, b6⟩
    have bw := bel bw b6
    go_wp2_with fail
    refine (num_any p hp w6).mono ?_
    rintro r w7 ⟨rfl, b7⟩
    have bw := bel bw b7
    go_wp2_with fail
    refine (num_any y hy w7).mono ?_
    rintro r w8 ⟨rfl, b8⟩
    have bw := bel bw b8
    go_wp2_with fail
    refine (num_any x hx w8).mono ?_
    rintro r w9 ⟨rfl, b9⟩
    have bw := bel bw b9
    go_wp2_with fail
    refine (F.subA (small_R hy) (small_R hx) Hsub.out w9 (F.keep _ _ hT bw)).mono ?_
    rintro r w10 ⟨rfl, b10⟩
    have bw := bel bw b10
    go_wp2_with fail
    refine (num_any d hdd w10).mono ?_
    rintro r w11 ⟨rfl, b11⟩
    have bw := bel bw b11
    go_wp2_with fail
    refine (num_any x hx w11).mono ?_
    rintro r w12 ⟨rfl, b12⟩
    have bw := bel bw b12
    go_wp2_with fail
    refine (F.check x (small_R hx) w12 (F.keep _ _ hT bw)).mono ?_
    rintro r w13 ⟨rfl, b13⟩
    have bw := bel bw b13
    rw [decide_eq_true (show x < pp from Nat.lt_trans hx (by decide))]
    go_wp2_with fail
    refine (wakes_any F w13 (F.keep _ _ hT bw)).mono ?_
    rintro r w14 ⟨rfl, b14⟩
    have bw := bel bw b14
    go_wp2
    go_ret
    exact ⟨rfl, bw⟩
  · obtain ⟨d, Hd⟩ : ∃ d, Hid (x = d + y) := ⟨x - y, by show _ = _; omega⟩
    have hdd : d < 9223372036854775808 := by have := Hd.out; omega
    have wd : IntKind.i64.wrap ((x : Int) - (y : Int)) = (d : Int) := by rw [show (x : Int) - (y : Int) = (d : Int) by have := Hd.out; omega]; exact wrap63 d hdd
    have sd := B32_same d (small_R hdd)
    have Hsub : Hid ((x % pp + pp - y % pp) % pp = d) := small_dif hx hy Hd.out
    have g1 : ¬ (x : Int) < (y : Int) := by omega
    have g2 : (y : Int) < (x : Int) := by omega
    go_enter Tryd.func4, Tryd.ntmps4
    go_wp2_with fail
    refine (num_any x hx w).mono ?_
    rintro r w0 ⟨rfl, b0⟩
    have bw := b0
    go_wp2_with fail
    refine (num_any y hy w0).mono ?_
    rintro r w1 ⟨rfl, b1⟩
    have bw := bel bw b1
    go_wp2_with fail
    refine (F.addA (small_R hx) (small_R hy) Hadd.out w1 (F.keep _ _ hT bw)).mono ?_
    rintro r w2 ⟨rfl, b2⟩
    have bw := bel bw b2
    go_wp2_with fail
    refine (num_any s hs w2).mono ?_
    rintro r w3 ⟨rfl, b3⟩
    have bw := bel bw b3
    go_wp2_with fail
    refine (num_any x hx w3).mono ?_
    rintro r w4 ⟨rfl, b4⟩
    have bw := bel bw b4
    go_wp2_with fail
    refine (num_any y hy w4).mono ?_
    rintro r w5 ⟨rfl, b5⟩
    have bw := bel bw b5
    go_wp2_with fail
    refine (F.mulA (small_R hx) (small_R hy) Hmul.out w5 (F.keep _ _ hT bw)).mono ?_
    rintro r w6 ⟨rfl, b6⟩
    have bw := bel bw b6
    go_wp2_with fail
    refine (num_any p hp w6).mono ?_
    rintro r w7 ⟨rfl, b7⟩
    have bw := bel bw b7
    go_wp2_with fail
    refine (num_any x hx w7).mono ?_
    rintro r w8 ⟨rfl, b8⟩
    have bw := bel bw b8
    go_wp2_with fail
    refine (num_any y hy w8).mono ?_
    rintro r w9 ⟨rfl, b9⟩
    have bw := bel bw b9
    go_wp2_with fail
    refine (F.subA (small_R hx) (small_R hy) Hsub.out w9 (F.keep _ _ hT bw)).mono ?_
    rintro r w10 ⟨rfl, b10⟩
    have bw := bel bw b10
    go_wp2_with fail
    refine (num_any d hdd w10).mono ?_
    rintro r w11 ⟨rfl, b11⟩
    have bw := bel bw b11
    go_wp2_with fail
    refine (num_any x hx w11).mono ?_
    rintro r w12 ⟨rfl, b12⟩
    have bw := bel bw b12
    go_wp2_with fail
    refine (F.check x (small_R hx) w12 (F.keep _ _ hT bw)).mono ?_
    rintro r w13 ⟨rfl, b13⟩
    have bw := bel bw b13
    rw [decide_eq_true (show x < pp from Nat.lt_trans hx (by decide))]
    go_wp2_with fail
    refine (wakes_any F w13 (F.keep _ _ hT bw)).mono ?_
    rintro r w14 ⟨rfl, b14⟩
    have bw := bel bw b14
    go_wp2
    go_ret
    exact ⟨rfl, bw⟩
  · have sd := B32_same 0 (by decide)
    have Hsub : Hid ((x % pp + pp - x % pp) % pp = 0) := small_dif hx hx (by omega)
    have g1 : ¬ (x : Int) < (y : Int) := by omega
    have g2 : ¬ (y : Int) < (x : Int) := by omega
    have H3 := show Hid _ from h3
    clear h3
    go_enter Tryd.func4, Tryd.ntmps4
    go_wp2_with fail
    refine (num_any x hx w).mono ?_
    rintro r w0 ⟨rfl, b0⟩
    have bw := b0
    go_wp2_with fail
    refine (num_any y hy w0).mono ?_
    rintro r w1 ⟨rfl, b1⟩
    have bw := bel bw b1
    go_wp2_with fail
    refine (F.addA (small_R hx) (small_R hy) Hadd.out w1 (F.keep _ _ hT bw)).mono ?_
    rintro r w2 ⟨rfl, b2⟩
    have bw := bel bw b2
    go_wp2_with fail
    refine (num_any s hs w2).mono ?_
    rintro r w3 ⟨rfl, b3⟩
    have bw := bel bw b3
    go_wp2_with fail
    refine (num_any x hx w3).mono ?_
    rintro r w4 ⟨rfl, b4⟩
    have bw := bel bw b4
    go_wp2_with fail
    refine (num_any y hy w4).mono ?_
    rintro r w5 ⟨rfl, b5⟩
    have bw := bel bw b5
    go_wp2_with fail
    refine (F.mulA (small_R hx) (small_R hy) Hmul.out w5 (F.keep _ _ hT bw)).mono ?_
    rintro r w6 ⟨rfl, b6⟩
    have bw := bel bw b6
    go_wp2_with fail
    refine (num_any p hp w6).mono ?_
    rintro r w7 ⟨rfl, b7⟩
    have bw := bel bw b7
    go_wp2_with fail
    refine (num_any x hx w7).mono ?_
    rintro r w8 ⟨rfl, b8⟩
    have bw := bel bw b8
    go_wp2_with fail
    refine (num_any x hx w8).mono ?_
    rintro r w9 ⟨rfl, b9⟩
    have bw := bel bw b9
    go_wp2_with fail
    refine (F.subA (small_R hx) (small_R hx) Hsub.out w9 (F.keep _ _ hT bw)).mono ?_
    rintro r w10 ⟨rfl, b10⟩
    have bw := bel bw b10
    go_wp2_with fail
    refine (num_any 0 (by decide) w10).mono ?_
    rintro r w11 ⟨rfl, b11⟩
    have bw := bel bw b11
    go_wp2_with fail
    refine (num_any x hx w11).mono ?_
    rintro r w12 ⟨rfl, b12⟩
    have bw := bel bw b12
    go_wp2_with fail
    refine (F.check x (small_R hx) w12 (F.keep _ _ hT bw)).mono ?_
    rintro r w13 ⟨rfl, b13⟩
    have bw := bel bw b13
    rw [decide_eq_true (show x < pp from Nat.lt_trans hx (by decide))]
    go_wp2_with fail
    refine (wakes_any F w13 (F.keep _ _ hT bw)).mono ?_
    rintro r w14 ⟨rfl, b14⟩
    have bw := bel bw b14
    go_wp2
    go_ret
    exact ⟨rfl, bw⟩
end Go.Proofs.YtaefjbklioljnabDoor
