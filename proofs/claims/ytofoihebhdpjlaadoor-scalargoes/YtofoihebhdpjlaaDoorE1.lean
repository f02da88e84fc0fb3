/- Words added, taken away, multiplied, with what is carried. -/
import Derived.Test.YtofoihebhdpjlaaDoorE1I
namespace Go.Proofs.YtofoihebhdpjlaaDoor
open Go.RowKit
theorem add64k (x y k : Nat) (hk : k ≤ 1) (w : World) : (callFunc 29 #[.int .u64 (x : Int), .int .u64 (y : Int), .int .u64 (k : Int)]).run Tryd.prog w = .ok (.value (Extern.MathBitsCarry.pair ((x + y + k) % Extern.MathBitsCarry.m64) ((x + y + k) / Extern.MathBitsCarry.m64))) w := by
  have : k = 0 ∨ k = 1 := by omega
  rcases this with rfl | rfl <;> rfl
theorem sub64k (x y k : Nat) (hk : k ≤ 1) (w : World) : (callFunc 34 #[.int .u64 (x : Int), .int .u64 (y : Int), .int .u64 (k : Int)]).run Tryd.prog w = .ok (.value (Extern.MathBitsCarry.pair ((x + Extern.MathBitsCarry.m64 - y - k) % Extern.MathBitsCarry.m64) (if x < y + k then 1 else 0))) w := by
  have : k = 0 ∨ k = 1 := by omega
  rcases this with rfl | rfl <;> rfl
/-- Two words and what is carried in: their sum, and what is carried on. -/
theorem add64_any (x y k : Nat) (hx : x < 18446744073709551616) (hy : y < 18446744073709551616) (hk : k ≤ 1) : ∃ s c : Nat, (∀ w, (callFunc 29 #[.int .u64 (x : Int), .int .u64 (y : Int), .int .u64 (k : Int)]).run Tryd.prog w = .ok (.value (.tuple #[.int .u64 (s : Int), .int .u64 (c : Int)])) w) ∧ s < 18446744073709551616 ∧ c ≤ 1 ∧ x + y + k = s + 18446744073709551616 * c := by
  refine ⟨(x + y + k) % 18446744073709551616, (x + y + k) / 18446744073709551616, fun w => add64k x y k hk w, by omega, by omega, by omega⟩
theorem sub64_any (x y k : Nat) (hx : x < 18446744073709551616) (hy : y < 18446744073709551616) (hk : k ≤ 1) : ∃ s c : Nat, (∀ w, (callFunc 34 #[.int .u64 (x : Int), .int .u64 (y : Int), .int .u64 (k : Int)]).run Tryd.prog w = .ok (.value (.tuple #[.int .u64 (s : Int), .int .u64 (c : Int)])) w) ∧ s < 18446744073709551616 ∧ c ≤ 1 ∧ x + 18446744073709551616 * c = s + y + k := by
  refine ⟨(x + 18446744073709551616 - y - k) % 18446744073709551616, if x < y + k then 1 else 0, fun w => sub64k x y k hk w, by omega, by split <;> omega, by split <;> omega⟩

theorem low32 (x : Nat) (h : x < 18446744073709551616) : bits .and .u64 (x : Int) 4294967295 = ((x % 4294967296 : Nat) : Int) := by
  have := u64_and_nat x 4294967295 h (by decide)
  have e := Nat.and_two_pow_sub_one_eq_mod x 32
  rw [show (4294967295 : Nat) = 2 ^ 32 - 1 from rfl, e] at this
  exact this
theorem half_mul (a b : Nat) (ha : a < 4294967296) (hb : b < 4294967296) : a * b ≤ 18446744065119617025 := by
  have : a * b ≤ 4294967295 * 4294967295 := Nat.mul_le_mul (by omega) (by omega)
  omega
set_option maxHeartbeats 1000000 in
/-- The product of two words, in two words. -/
theorem mul64_any (x y : Nat) (hx : x < 18446744073709551616) (hy : y < 18446744073709551616) (w : World) :
    Calls Tryd.prog 33 #[.int .u64 (x : Int), .int .u64 (y : Int)] w fun e w' => (∃ h l : Nat, e = .returned (.tuple #[.int .u64 (h : Int), .int .u64 (l : Int)]) ∧ h < 18446744073709551616 ∧ l < 18446744073709551616 ∧ x * y = l + 18446744073709551616 * h) ∧ w' = w := by
  have a0 := low32 x hx
  have b0 := low32 y hy
  have a1 : (x : Int) / 4294967296 = ((x / 4294967296 : Nat) : Int) := by omega
  have b1 : (y : Int) / 4294967296 = ((y / 4294967296 : Nat) : Int) := by omega
  have hx0 : x % 4294967296 < 4294967296 := Nat.mod_lt _ (by decide)
  have hy0 : y % 4294967296 < 4294967296 := Nat.mod_lt _ (by decide)
  have hx1 : x / 4294967296 < 4294967296 := by omega
  have hy1 : y / 4294967296 < 4294967296 := by omega
  have ex : x = x % 4294967296 + 4294967296 * (x / 4294967296) := by omega
  have ey : y = y % 4294967296 + 4294967296 * (y / 4294967296) := by omega
  have Hxy : Hid (x * y = x % 4294967296 * (y % 4294967296) + 4294967296 * (x / 4294967296 * (y % 4294967296) + x % 4294967296 * (y / 4294967296)) + 18446744073709551616 * (x / 4294967296 * (y / 4294967296))) := by
    show _ = _
    conv => lhs; rw [ex, ey]
    generalize x % 4294967296 = p
    generalize y % 4294967296 = q
    generalize x / 4294967296 = r
    generalize y / 4294967296 = s
    have e1 : 4294967296 * r * (4294967296 * s) = 18446744073709551616 * (r * s) := by
      rw [Nat.mul_assoc, Nat.mul_left_comm r, ← Nat.mul_assoc 4294967296]
    have e2 : p * (4294967296 * s) = 4294967296 * (p * s) := Nat.mul_left_comm ..
    have e3 : 4294967296 * r * q = 4294967296 * (r * q) := Nat.mul_assoc ..
    rw [Nat.add_mul, Nat.mul_add, Nat.mul_add, e1, e2, e3]
    omega
  have Hlo : Hid (IntKind.u64.wrap ((x : Int) * (y : Int)) = ((x * y % 18446744073709551616 : Nat) : Int)) := by
    show _ = _
    rw [show (x : Int) * (y : Int) = ((x * y : Nat) : Int) by push_cast; rfl]
    simp [IntKind.wrap, IntKind.bits, IntKind.signed]
  clear ex ey
  generalize x % 4294967296 = p at *
  generalize y % 4294967296 = q at *
  generalize x / 4294967296 = r at *
  generalize y / 4294967296 = s at *
  have m0 := half_mul p q hx0 hy0
  have m1 := half_mul r q hx1 hy0
  have m2 := half_mul p s hx0 hy1
  have m3 := half_mul r s hx1 hy1
  have w0 : IntKind.u64.wrap ((p : Int) * (q : Int)) = ((p * q : Nat) : Int) := by rw [show (p : Int) * (q : Int) = ((p * q : Nat) : Int) by push_cast; rfl]; exact wrap_small _ (by omega)
  have w1 : IntKind.u64.wrap ((r : Int) * (q : Int)) = ((r * q : Nat) : Int) := by rw [show (r : Int) * (q : Int) = ((r * q : Nat) : Int) by push_cast; rfl]; exact wrap_small _ (by omega)
  have w2 : IntKind.u64.wrap ((p : Int) * (s : Int)) = ((p * s : Nat) : Int) := by rw [show (p : Int) * (s : Int) = ((p * s : Nat) : Int) by push_cast; rfl]; exact wrap_small _ (by omega)
  have w3 : IntKind.u64.wrap ((r : Int) * (s : Int)) = ((r * s : Nat) : Int) := by rw [show (r : Int) * (s : Int) = ((r * s : Nat) : Int) by push_cast; rfl]; exact wrap_small _ (by omega)
  generalize p * q = A at *
  generalize r * q = B at *
  generalize p * s = C at *
  generalize r * s = D at *
  generalize x * y = XY at *
  have t1 : IntKind.u64.wrap ((B : Int) + (A : Int) / 4294967296) = ((B + A / 4294967296 : Nat) : Int) := by
    rw [show (B : Int) + (A : Int) / 4294967296 = ((B + A / 4294967296 : Nat) : Int) by omega]; exact wrap_small _ (by omega)
  have hT : B + A / 4294967296 < 18446744073709551616 := by omega
  have Ht := show Hid (B + A / 4294967296 = B + A / 4294967296) from rfl
  generalize hTT : B + A / 4294967296 = T at t1 hT
  have t2 := low32 T hT
  have t3 : IntKind.u64.wrap (((T % 4294967296 : Nat) : Int) + (C : Int)) = ((T % 4294967296 + C : Nat) : Int) := by
    rw [show ((T % 4294967296 : Nat) : Int) + (C : Int) = ((T % 4294967296 + C : Nat) : Int) by omega]; exact wrap_small _ (by omega)
  have t4 : IntKind.u64.wrap ((D : Int) + (T : Int) / 4294967296) = ((D + T / 4294967296 : Nat) : Int) := by
    rw [show (D : Int) + (T : Int) / 4294967296 = ((D + T / 4294967296 : Nat) : Int) by omega]; exact wrap_small _ (by omega)
  have HTT := show Hid _ from hTT
  have Hu := show Hid (T % 4294967296 < 4294967296) from Nat.mod_lt _ (by decide)
  have hXY := Hxy.out
  have hDt : D + T / 4294967296 + (T % 4294967296 + C) / 4294967296 < 18446744073709551616 := by omega
  have t5 : IntKind.u64.wrap (((D + T / 4294967296 : Nat) : Int) + ((T % 4294967296 + C : Nat) : Int) / 4294967296) = ((D + T / 4294967296 + (T % 4294967296 + C) / 4294967296 : Nat) : Int) := by
    rw [show ((D + T / 4294967296 : Nat) : Int) + ((T % 4294967296 + C : Nat) : Int) / 4294967296 = ((D + T / 4294967296 + (T % 4294967296 + C) / 4294967296 : Nat) : Int) by omega]; exact wrap_small _ hDt
  have Hend : Hid (XY = XY % 18446744073709551616 + 18446744073709551616 * (D + T / 4294967296 + (T % 4294967296 + C) / 4294967296)) := by
    show _ = _
    omega
  clear hXY hTT hDt
  generalize D + T / 4294967296 + (T % 4294967296 + C) / 4294967296 = H at *
  generalize hE : T % 4294967296 + C = E at *
  generalize hF : D + T / 4294967296 = F at *
  generalize hG : T % 4294967296 = G at *
  clear hE hF hG
  go_enter Tryd.func33, Tryd.ntmps33
  go_wp2_with fail
  refine bodyPost_ret (results_tmp2 Tryd.results33 _ _ _) rfl ⟨⟨H, XY % 18446744073709551616, ?_, ?_, ?_, ?_⟩, rfl⟩
  · show Ending.returned (.tuple #[.int .u64 (H : Int), .int .u64 (IntKind.u64.wrap ((x : Int) * (y : Int)))]) = _
    rw [Hlo.out]
  · have := Hend.out
    have := Hxy.out
    omega
  · exact Nat.mod_lt _ (by decide)
  · exact Hend.out
end Go.Proofs.YtofoihebhdpjlaaDoor
