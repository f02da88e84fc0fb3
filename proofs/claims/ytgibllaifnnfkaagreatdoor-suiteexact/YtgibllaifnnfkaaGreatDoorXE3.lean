/- Of the texts EA: what the card of this claim reaches. -/
import Derived.Test.YtgibllaifnnfkaaGreatDoorRows
import Derived.Test.YtgibllaifnnfkaaGreatDoorXE1
import Derived.WalkKit
import Derived.WalkSpells
import Derived.WalkLawsBesides
import Derived.Deep.QuietTactic
import Derived.Deep.DeepCutAuto
import Derived.Deep.DrawnRows
import Derived.Laws.BitsAllLaws
import Derived.Test.YtgibllaifnnfkaaGreatDoorXE2
import Derived.Laws.ResultCell
namespace Go.Proofs.YtgibllaifnnfkaaGreatDoor
open Go.RowKit
theorem wrap_small (x : Nat) (h : x < 18446744073709551616) : IntKind.u64.wrap (x : Int) = (x : Int) := by
  simp [IntKind.wrap, IntKind.bits, IntKind.signed]; omega
end Go.Proofs.YtgibllaifnnfkaaGreatDoor
namespace Go.Proofs.YtgibllaifnnfkaaGreatDoor
open Go.RowKit
set_option maxRecDepth 100000 in
theorem add64k (x y k : Nat) (hk : k ≤ 1) (w : World) : (callFunc 85 #[.int .u64 (x : Int), .int .u64 (y : Int), .int .u64 (k : Int)]).run Tryz.prog w = .ok (.value (Extern.MathBitsCarry.pair ((x + y + k) % Extern.MathBitsCarry.m64) ((x + y + k) / Extern.MathBitsCarry.m64))) w := by
  have : k = 0 ∨ k = 1 := by omega
  rcases this with rfl | rfl <;> rfl
set_option maxRecDepth 100000 in
theorem sub64k (x y k : Nat) (hk : k ≤ 1) (w : World) : (callFunc 115 #[.int .u64 (x : Int), .int .u64 (y : Int), .int .u64 (k : Int)]).run Tryz.prog w = .ok (.value (Extern.MathBitsCarry.pair ((x + Extern.MathBitsCarry.m64 - y - k) % Extern.MathBitsCarry.m64) (if x < y + k then 1 else 0))) w := by
  have : k = 0 ∨ k = 1 := by omega
  rcases this with rfl | rfl <;> rfl
theorem add64_any (x y k : Nat) (hx : x < 18446744073709551616) (hy : y < 18446744073709551616) (hk : k ≤ 1) : ∃ s c : Nat, (∀ w, (callFunc 85 #[.int .u64 (x : Int), .int .u64 (y : Int), .int .u64 (k : Int)]).run Tryz.prog w = .ok (.value (.tuple #[.int .u64 (s : Int), .int .u64 (c : Int)])) w) ∧ s < 18446744073709551616 ∧ c ≤ 1 ∧ x + y + k = s + 18446744073709551616 * c := by
  refine ⟨(x + y + k) % 18446744073709551616, (x + y + k) / 18446744073709551616, fun w => add64k x y k hk w, by omega, by omega, by omega⟩
theorem sub64_any (x y k : Nat) (hx : x < 18446744073709551616) (hy : y < 18446744073709551616) (hk : k ≤ 1) : ∃ s c : Nat, (∀ w, (callFunc 115 #[.int .u64 (x : Int), .int .u64 (y : Int), .int .u64 (k : Int)]).run Tryz.prog w = .ok (.value (.tuple #[.int .u64 (s : Int), .int .u64 (c : Int)])) w) ∧ s < 18446744073709551616 ∧ c ≤ 1 ∧ x + 18446744073709551616 * c = s + y + k := by
  refine ⟨(x + 18446744073709551616 - y - k) % 18446744073709551616, if x < y + k then 1 else 0, fun w => sub64k x y k hk w, by omega, by split <;> omega, by split <;> omega⟩
theorem low32 (x : Nat) (h : x < 18446744073709551616) : bits .and .u64 (x : Int) 4294967295 = ((x % 4294967296 : Nat) : Int) := by
  have := u64_and_nat x 4294967295 h (by decide)
  have e := Nat.and_two_pow_sub_one_eq_mod x 32
  rw [show (4294967295 : Nat) = 2 ^ 32 - 1 from rfl, e] at this
  exact this
theorem half_mul (a b : Nat) (ha : a < 4294967296) (hb : b < 4294967296) : a * b ≤ 18446744065119617025 := by
  have : a * b ≤ 4294967295 * 4294967295 := Nat.mul_le_mul (by omega) (by omega)
  omega
set_option maxHeartbeats 1000000 in
theorem mul64_any (x y : Nat) (hx : x < 18446744073709551616) (hy : y < 18446744073709551616) (w : World) :
    Calls Tryz.prog 95 #[.int .u64 (x : Int), .int .u64 (y : Int)] w fun e w' => (∃ h l : Nat, e = .returned (.tuple #[.int .u64 (h : Int), .int .u64 (l : Int)]) ∧ h < 18446744073709551616 ∧ l < 18446744073709551616 ∧ x * y = l + 18446744073709551616 * h) ∧ w' = w := by
  have a0 := low32 x hx
  have b0 := low32 y hy
  have a1 : (x : Int) / 4294967296 = ((x / 4294967296 : Nat) : Int) := by omega
  have b1 : (y : Int) / 4294967296 = ((y / 4294967296 : Nat) : Int) := by omega
  have hx0 : x % 4294967296 < 4294967296 := Nat.mod_lt _ (by decide)
  have hy0 : y % 4294967296 < 4294967296 := Nat.mod_lt _ (by decide)
  have hx1 : x / 4294967296 < 4294967296 := by omega
  have hy1 : y / 4294967296 < 4294967296 := by omega
  have ex : x = x % 4294967296 + 4294967296 * (x / 4294967296) := by omega
  have ey : y = y % 4294967296 + 4294967296 * (y / 4294967296) := by omega
  have Hxy : Hid (x * y = x % 4294967296 * (y % 4294967296) + 4294967296 * (x / 4294967296 * (y % 4294967296) + x % 4294967296 * (y / 4294967296)) + 18446744073709551616 * (x / 4294967296 * (y / 4294967296))) := by
    show _ = _
    conv => lhs; rw [ex, ey]
    generalize x % 4294967296 = p
    generalize y % 4294967296 = q
    generalize x / 4294967296 = r
    generalize y / 4294967296 = s
    have e1 : 4294967296 * r * (4294967296 * s) = 18446744073709551616 * (r * s) := by
      rw [Nat.mul_assoc, Nat.mul_left_comm r, ← Nat.mul_assoc 4294967296]
    have e2 : p * (4294967296 * s) = 4294967296 * (p * s) := Nat.mul_left_comm ..
    have e3 : 4294967296 * r * q = 4294967296 * (r * q) := Nat.mul_assoc ..
    rw [Nat.add_mul, Nat.mul_add, Nat.mul_add, e1, e2, e3]
    omega
  have Hlo : Hid (IntKind.u64.wrap ((x : Int) * (y : Int)) = ((x * y % 18446744073709551616 : Nat) : Int)) := by
    show _ = _
    rw [show (x : Int) * (y : Int) = ((x * y : Nat) : Int) by push_cast; rfl]
    simp [IntKind.wrap, IntKind.bits, IntKind.signed]
  clear ex ey
  generalize x % 4294967296 = p at *
  generalize y % 4294967296 = q at *
  generalize x / 4294967296 = r at *
  generalize y / 4294967296 = s at *
  have m0 := half_mul p q hx0 hy0
  have m1 := half_mul r q hx1 hy0
  have m2 := half_mul p s hx0 hy1
  have m3 := half_mul r s hx1 hy1
  have w0 : IntKind.u64.wrap ((p : Int) * (q : Int)) = ((p * q : Nat) : Int) := by rw [show (p : Int) * (q : Int) = ((p * q : Nat) : Int) by push_cast; rfl]; exact wrap_small _ (by omega)
  have w1 : IntKind.u64.wrap ((r : Int) * (q : Int)) = ((r * q : Nat) : Int) := by rw [show (r : Int) * (q : Int) = ((r * q : Nat) : Int) by push_cast; rfl]; exact wrap_small _ (by omega)
  have w2 : IntKind.u64.wrap ((p : Int) * (s : Int)) = ((p * s : Nat) : Int) := by rw [show (p : Int) * (s : Int) = ((p * s : Nat) : Int) by push_cast; rfl]; exact wrap_small _ (by omega)
  have w3 : IntKind.u64.wrap ((r : Int) * (s : Int)) = ((r * s : Nat) : Int) := by rw [show (r : Int) * (s : Int) = ((r * s : Nat) : Int) by push_cast; rfl]; exact wrap_small _ (by omega)
  generalize p * q = A at *
  generalize r * q = B at *
  generalize p * s = C at *
  generalize r * s = D at *
  generalize x * y = XY at *
  have t1 : IntKind.u64.wrap ((B : Int) + (A : Int) / 4294967296) = ((B + A / 4294967296 : Nat) : Int) := by
    rw [show (B : Int) + (A : Int) / 4294967296 = ((B + A / 4294967296 : Nat) : Int) by omega]; exact wrap_small _ (by omega)
  have hT : B + A / 4294967296 < 18446744073709551616 := by omega
  have Ht := show Hid (B + A / 4294967296 = B + A / 4294967296) from rfl
  generalize hTT : B + A / 4294967296 = T at t1 hT
  have t2 := low32 T hT
  have t3 : IntKind.u64.wrap (((T % 4294967296 : Nat) : Int) + (C : Int)) = ((T % 4294967296 + C : Nat) : Int) := by
    rw [show ((T % 4294967296 : Nat) : Int) + (C : Int) = ((T % 4294967296 + C : Nat) : Int) by omega]; exact wrap_small _ (by omega)
  have t4 : IntKind.u64.wrap ((D : Int) + (T : Int) / 4294967296) = ((D + T / 4294967296 : Nat) : Int) := by
    rw [show (D : Int) + (T : Int) / 4294967296 = ((D + T / 4294967296 : Nat) : Int) by omega]; exact wrap_small _ (by omega)
  have HTT := show Hid _ from hTT
  have Hu := show Hid (T % 4294967296 < 4294967296) from Nat.mod_lt _ (by decide)
  have hXY := Hxy.out
  have hDt : D + T / 4294967296 + (T % 4294967296 + C) / 4294967296 < 18446744073709551616 := by omega
  have t5 : IntKind.u64.wrap (((D + T / 4294967296 : Nat) : Int) + ((T % 4294967296 + C : Nat) : Int) / 4294967296) = ((D + T / 4294967296 + (T % 4294967296 + C) / 4294967296 : Nat) : Int) := by
    rw [show ((D + T / 4294967296 : Nat) : Int) + ((T % 4294967296 + C : Nat) : Int) / 4294967296 = ((D + T / 4294967296 + (T % 4294967296 + C) / 4294967296 : Nat) : Int) by omega]; exact wrap_small _ hDt
  have Hend : Hid (XY = XY % 18446744073709551616 + 18446744073709551616 * (D + T / 4294967296 + (T % 4294967296 + C) / 4294967296)) := by
    show _ = _
    omega
  clear hXY hTT hDt
  generalize D + T / 4294967296 + (T % 4294967296 + C) / 4294967296 = H at *
  generalize hE : T % 4294967296 + C = E at *
  generalize hF : D + T / 4294967296 = F at *
  generalize hG : T % 4294967296 = G at *
  clear hE hF hG
  go_enter Tryz.func95, Tryz.ntmps95
  go_wp2_with fail
  refine bodyPost_ret (results_tmp2 Tryz.results95 _ _ _) rfl ⟨⟨H, XY % 18446744073709551616, ?_, ?_, ?_, ?_⟩, rfl⟩
  · show Ending.returned (.tuple #[.int .u64 (H : Int), .int .u64 (IntKind.u64.wrap ((x : Int) * (y : Int)))]) = _
    rw [Hlo.out]
  · have := Hend.out
    have := Hxy.out
    omega
  · exact Nat.mod_lt _ (by decide)
  · exact Hend.out
end Go.Proofs.YtgibllaifnnfkaaGreatDoor
namespace Go.Proofs.YtgibllaifnnfkaaGreatDoor
open Go.RowKit
def vl (f : Nat → Nat) : Nat → Nat
  | 0 => 0
  | k + 1 => vl f k + f k * 18446744073709551616 ^ k
def upd (f : Nat → Nat) (k x : Nat) : Nat → Nat := fun j => if j = k then x else f j
theorem upd_same (f : Nat → Nat) (k x : Nat) : upd f k x k = x := by unfold upd; rw [if_pos rfl]
theorem upd_other (f : Nat → Nat) (k x j : Nat) (h : j ≠ k) : upd f k x j = f j := by unfold upd; rw [if_neg h]
def dig (n k : Nat) : Nat := n / 18446744073709551616 ^ k % 18446744073709551616
theorem dig_lt (n k : Nat) : dig n k < 18446744073709551616 := Nat.mod_lt _ (by decide)
theorem vl_upd (f : Nat → Nat) (k x : Nat) : ∀ j, j ≤ k → vl (upd f k x) j = vl f j
  | 0, _ => rfl
  | j + 1, h => by rw [vl, vl, vl_upd f k x j (by omega), upd_other f k x j (by omega)]
theorem vl_lt (f : Nat → Nat) : ∀ k, (∀ i, i < k → f i < 18446744073709551616) → vl f k < 18446744073709551616 ^ k
  | 0, _ => by rw [vl]; decide
  | k + 1, h => by
    have h1 := vl_lt f k (fun i hi => h i (by omega))
    have h2 : (f k + 1) * 18446744073709551616 ^ k ≤ 18446744073709551616 * 18446744073709551616 ^ k := Nat.mul_le_mul_right _ (h k (by omega))
    rw [vl, Nat.pow_succ, Nat.mul_comm (18446744073709551616 ^ k)]
    rw [Nat.add_mul, Nat.one_mul] at h2
    omega
theorem vl_dig (n : Nat) : ∀ k, vl (dig n) k = n % 18446744073709551616 ^ k
  | 0 => by rw [Nat.pow_zero, Nat.mod_one]; rfl
  | k + 1 => by
    rw [vl, vl_dig n k, Nat.pow_succ, Nat.mod_mul, dig, Nat.mul_comm]
theorem vl_mod (f : Nat → Nat) : ∀ k, (∀ i, i < k → f i < 18446744073709551616) → ∀ j, j ≤ k → vl f k % 18446744073709551616 ^ j = vl f j
  | 0, _, j, hj => by
    obtain rfl : j = 0 := by omega
    rw [Nat.pow_zero, Nat.mod_one]; rfl
  | k + 1, h, j, hj => by
    rcases Nat.lt_or_ge j (k + 1) with h1 | h1
    · obtain ⟨d, hd⟩ := Nat.pow_dvd_pow 18446744073709551616 (show j ≤ k by omega)
      rw [vl, hd, Nat.mul_left_comm, Nat.add_mul_mod_self_left]
      exact vl_mod f k (fun i hi => h i (by omega)) j (by omega)
    · obtain rfl : j = k + 1 := by omega
      exact Nat.mod_eq_of_lt (vl_lt f (k + 1) h)
theorem dig_vl (f : Nat → Nat) (k : Nat) (h : ∀ i, i < k → f i < 18446744073709551616) (i : Nat) (hi : i < k) : dig (vl f k) i = f i := by
  have h1 := vl_mod f k h (i + 1) (by omega)
  have h2 := vl_lt f i (fun j hj => h j (by omega))
  unfold dig
  rw [← Nat.mod_mul_right_div_self, ← Nat.pow_succ, h1, vl, Nat.add_mul_div_right _ _ (Nat.pow_pos (by decide)), Nat.div_eq_of_lt h2, Nat.zero_add]
def A4 (f : Nat → Nat) : Array Value := #[.int .u64 (f 0 : Int), .int .u64 (f 1 : Int), .int .u64 (f 2 : Int), .int .u64 (f 3 : Int)]
def A8 (f : Nat → Nat) : Array Value := #[.int .u64 (f 0 : Int), .int .u64 (f 1 : Int), .int .u64 (f 2 : Int), .int .u64 (f 3 : Int), .int .u64 (f 4 : Int), .int .u64 (f 5 : Int), .int .u64 (f 6 : Int), .int .u64 (f 7 : Int)]
theorem A4_at (f : Nat → Nat) (i : Nat) (h : i < 4) : (A4 f)[i]? = some (.int .u64 (f i : Int)) := by
  rcases i with _ | _ | _ | _ | i <;> first | rfl | omega
theorem A8_at (f : Nat → Nat) (i : Nat) (h : i < 8) : (A8 f)[i]? = some (.int .u64 (f i : Int)) := by
  rcases i with _ | _ | _ | _ | _ | _ | _ | _ | i <;> first | rfl | omega
theorem A4_set (f : Nat → Nat) (k x : Nat) (h : k < 4) : (A4 f).setIfInBounds k (.int .u64 (x : Int)) = A4 (upd f k x) := by
  rcases k with _ | _ | _ | _ | k <;> first | rfl | omega
theorem A8_set (f : Nat → Nat) (k x : Nat) (h : k < 8) : (A8 f).setIfInBounds k (.int .u64 (x : Int)) = A8 (upd f k x) := by
  rcases k with _ | _ | _ | _ | _ | _ | _ | _ | k <;> first | rfl | omega
theorem A4_one (f : Nat → Nat) : (A4 f).all (·.oneCell') = true := by simp [A4, Value.oneCell']
theorem A8_one (f : Nat → Nat) : (A8 f).all (·.oneCell') = true := by simp [A8, Value.oneCell']
def numA (n : Nat) : Array Value := A4 (dig n)
theorem A4_congr {f g : Nat → Nat} (h : ∀ i, i < 4 → f i = g i) : A4 f = A4 g := by
  unfold A4; rw [h 0 (by omega), h 1 (by omega), h 2 (by omega), h 3 (by omega)]
theorem A4_num (f : Nat → Nat) (h : ∀ i, i < 4 → f i < 18446744073709551616) : A4 f = numA (vl f 4) := A4_congr fun i hi => (dig_vl f 4 h i hi).symm
theorem A8_congr {f g : Nat → Nat} (h : ∀ i, i < 8 → f i = g i) : A8 f = A8 g := by
  unfold A8; rw [h 0 (by omega), h 1 (by omega), h 2 (by omega), h 3 (by omega), h 4 (by omega), h 5 (by omega), h 6 (by omega), h 7 (by omega)]
theorem A8_num (f : Nat → Nat) (h : ∀ i, i < 8 → f i < 18446744073709551616) : A8 f = A8 (dig (vl f 8)) := A8_congr fun i hi => (dig_vl f 8 h i hi).symm
def R256 : Nat := 115792089237316195423570985008687907853269984665640564039457584007913129639936
theorem pow4 : 18446744073709551616 ^ 4 = R256 := by decide
theorem vl_num (n : Nat) (h : n < R256) : vl (dig n) 4 = n := by rw [vl_dig, pow4, Nat.mod_eq_of_lt h]
theorem vl4_lt (f : Nat → Nat) (h : ∀ i, i < 4 → f i < 18446744073709551616) : vl f 4 < R256 := by rw [← pow4]; exact vl_lt f 4 h
theorem vl_add_step {f g h : Nat → Nat} {k c s c' : Nat} (e : vl f k + vl g k = vl h k + 18446744073709551616 ^ k * c) (es : f k + g k + c = s + 18446744073709551616 * c') :
    vl f (k + 1) + vl g (k + 1) = vl (upd h k s) (k + 1) + 18446744073709551616 ^ (k + 1) * c' := by
  rw [vl, vl, vl, vl_upd h k s k (Nat.le_refl _), upd_same, Nat.pow_succ]
  have := congrArg (18446744073709551616 ^ k * ·) es
  simp only [Nat.mul_add] at this
  rw [← Nat.mul_assoc] at this
  rw [Nat.mul_comm (f k), Nat.mul_comm (g k), Nat.mul_comm s]
  omega
theorem vl_sub_step {f g h : Nat → Nat} {k c s c' : Nat} (e : vl f k + 18446744073709551616 ^ k * c = vl h k + vl g k) (es : f k + 18446744073709551616 * c' = s + g k + c) :
    vl f (k + 1) + 18446744073709551616 ^ (k + 1) * c' = vl (upd h k s) (k + 1) + vl g (k + 1) := by
  rw [vl, vl, vl, vl_upd h k s k (Nat.le_refl _), upd_same, Nat.pow_succ]
  have := congrArg (18446744073709551616 ^ k * ·) es
  simp only [Nat.mul_add] at this
  rw [← Nat.mul_assoc] at this
  rw [Nat.mul_comm (f k), Nat.mul_comm (g k), Nat.mul_comm s]
  omega
end Go.Proofs.YtgibllaifnnfkaaGreatDoor
namespace Go.Proofs.YtgibllaifnnfkaaGreatDoor
open Go.RowKit
theorem four_blocks (w : World) (a b c d : Array Value) (t : TypeId) : Own ((((w.alloc (.cells a t)).alloc (.cells b t)).alloc (.cells c t)).alloc (.cells d t)) w.heap.size a t ∧ Own ((((w.alloc (.cells a t)).alloc (.cells b t)).alloc (.cells c t)).alloc (.cells d t)) (w.heap.size + 1) b t ∧ Own ((((w.alloc (.cells a t)).alloc (.cells b t)).alloc (.cells c t)).alloc (.cells d t)) (w.heap.size + 1 + 1) c t ∧ Own ((((w.alloc (.cells a t)).alloc (.cells b t)).alloc (.cells c t)).alloc (.cells d t)) (w.heap.size + 1 + 1 + 1) d t ∧ Below w.heap.size w ((((w.alloc (.cells a t)).alloc (.cells b t)).alloc (.cells c t)).alloc (.cells d t)) := by
  refine ⟨(((own_new w a t).alloc _).alloc _).alloc _, ?_, ?_, ?_, ((((Below.refl _ _).alloc (Nat.le_refl _) _).alloc (by simp) _).alloc (by simp; omega) _).alloc (by simp; omega) _⟩
  · have := ((own_new (w.alloc (.cells a t)) b t).alloc (.cells c t)).alloc (.cells d t)
    rwa [World.size_alloc] at this
  · have := (own_new ((w.alloc (.cells a t)).alloc (.cells b t)) c t).alloc (.cells d t)
    rwa [World.size_alloc, World.size_alloc] at this
  · have := own_new (((w.alloc (.cells a t)).alloc (.cells b t)).alloc (.cells c t)) d t
    rwa [World.size_alloc, World.size_alloc, World.size_alloc] at this
theorem results_own_tmp {P : Program} {fn : Func} {p u : Tmp} {ty : TypeId} (h : fn.results = #[.cell p ty, .tmp u]) (tmps : Array Value) (w : World) (b : Nat) (A : Array Value) (d : TypeDesc)
    (hp : tmps.getD p undef = .pointer (some ⟨b, 0, none⟩)) {t : TypeId} (ho : Own w b A t) (hu : P.underlying ty = some d) (hd : d.isRow = true) (hi : (P.info? ty).map (·.size) = some A.size) :
    (results fn tmps).run P w = .ok (.tuple #[.agg A, tmps.getD u undef]) w := by
  have := run_loadVar_mid w b 0 ty A.toList d ho.range hu hd (by simpa using hi)
  rw [results_cell_tmp h, hp]
  simp [asAddr, this]
theorem numA_at (n i : Nat) (h : i < 4) : (numA n)[i]? = some (.int .u64 (dig n i : Int)) := A4_at _ i h
theorem numA_one (n : Nat) : (numA n).all (·.oneCell') = true := A4_one _
theorem numA_size (n : Nat) : (numA n).size = 4 := rfl
theorem zero_num : numA 0 = A4 (fun _ => 0) := rfl
theorem bor_lt {a b c d : Nat} (hd : d < R256) (hc : c ≤ 1) (h : a + R256 * c = d + b) : ((c : Int) == 1) = decide (a < b) := by
  have : c = 0 ∨ c = 1 := by omega
  rcases this with rfl | rfl
  · rw [decide_eq_false (by omega)]; rfl
  · rw [decide_eq_true (by omega)]; rfl
theorem bel {w a b : World} (h : Below w.heap.size w a) (k : Below a.heap.size a b) : Below w.heap.size w b := h.trans (k.mono h.size)
theorem alloc_below (w : World) (o : Obj) : Below w.heap.size w (w.alloc o) := (Below.refl _ _).alloc (Nat.le_refl _) _
theorem P_cells : numA pp = #[.int .u64 18446744073709551597, .int .u64 18446744073709551615, .int .u64 18446744073709551615, .int .u64 9223372036854775807] := by rfl
theorem R256_lt : R256 < 3 * pp := by decide
def Mk (l : List (Nat × Array Value × TypeId)) (w0 : World) (A0 A1 : Array Value) (t : TypeId) (m s : Bool) (v : Value) (w : World) : Prop :=
  Kp l w0 w ∧ (m = true → ∃ g, v = .pointer (some ⟨g, 0, none⟩) ∧ w0.heap.size ≤ g ∧ (∀ p ∈ l, p.1 ≠ g) ∧ Own w g (if s = true then A1 else A0) t)
theorem Mk.below {l : List (Nat × Array Value × TypeId)} {w0 : World} {A0 A1 : Array Value} {t : TypeId} {m s : Bool} {v : Value} {w w' : World} (h : Mk l w0 A0 A1 t m s v w) (hB : Below w.heap.size w w') : Mk l w0 A0 A1 t m s v w' :=
  ⟨h.1.below hB, fun hm => by
    obtain ⟨g, h1, h2, h3, h4⟩ := h.2 hm
    exact ⟨g, h1, h2, h3, h4.below hB h4.lt⟩⟩
theorem Mk.alloc {l : List (Nat × Array Value × TypeId)} {w0 : World} {A0 A1 : Array Value} {t : TypeId} {s : Bool} {w : World} (h : Kp l w0 w) (hs : s = false) : Mk l w0 A0 A1 t true s (.pointer (some ⟨w.heap.size, 0, none⟩)) (w.alloc (.cells A0 t)) := by
  subst hs
  refine ⟨h.below ((Below.refl _ _).alloc (Nat.le_refl _) _), fun _ => ⟨_, rfl, h.2.size, fun p hp => Nat.ne_of_lt (h.1 p hp).lt, own_new w A0 t⟩⟩
theorem Mk.at {l : List (Nat × Array Value × TypeId)} {w0 : World} {A0 A1 : Array Value} {t : TypeId} {m s : Bool} {v : Value} {w : World} {g : Nat} (h : Mk l w0 A0 A1 t m s v w) (hm : m = true) (hv : v = .pointer (some ⟨g, 0, none⟩)) (hs : s = false) : w0.heap.size ≤ g ∧ (∀ p ∈ l, p.1 ≠ g) ∧ Own w g A0 t := by
  subst hs
  obtain ⟨g', h1, h2, h3, h4⟩ := h.2 hm
  rw [hv] at h1
  simp only [Value.pointer.injEq, Option.some.injEq, Addr.mk.injEq, and_true] at h1
  subst h1
  exact ⟨h2, h3, h4⟩
theorem Mk.store {l : List (Nat × Array Value × TypeId)} {w0 : World} {A0 A1 : Array Value} {t : TypeId} {m s : Bool} {v : Value} {w : World} {g : Nat} (h : Mk l w0 A0 A1 t m s v w) (hm : m = true) (hv : v = .pointer (some ⟨g, 0, none⟩)) (hs : s = false) (hsz : A1.size = A0.size) : Mk l w0 A0 A1 t m true v (w.setCells g 0 A1.toList) := by
  obtain ⟨h2, h3, h4⟩ := h.at hm hv hs
  refine ⟨⟨fun p hp => Own.setCells_other (h3 p hp) _ _ _ (h.1.1 p hp), Below.setCells _ _ _ _ h2 h.1.2⟩, fun _ => ⟨g, hv, h2, h3, own_setCells h4 hsz⟩⟩
theorem Mk.done {l : List (Nat × Array Value × TypeId)} {w0 : World} {A0 A1 : Array Value} {t : TypeId} {m s : Bool} {v : Value} {w : World} {g : Nat} (h : Mk l w0 A0 A1 t m s v w) (hm : m = true) (hv : v = .pointer (some ⟨g, 0, none⟩)) (hs : s = true) : Kp ((g, A1, t) :: l) w0 w ∧ w0.heap.size ≤ g ∧ ∀ p ∈ l, p.1 ≠ g := by
  subst hs
  obtain ⟨g', h1, h2, h3, h4⟩ := h.2 hm
  rw [hv] at h1
  simp only [Value.pointer.injEq, Option.some.injEq, Addr.mk.injEq, and_true] at h1
  subst h1
  refine ⟨⟨fun p hp => ?_, h.1.2⟩, h2, h3⟩
  rcases List.mem_cons.1 hp with rfl | hp
  · exact h4
  · exact h.1.1 p hp
theorem Mk.drew {l : List (Nat × Array Value × TypeId)} {w0 : World} {A0 A1 : Array Value} {t : TypeId} {s : Bool} {v : Value} {w : World} (h : Kp l w0 w) : Mk l w0 A0 A1 t false s v { w with drawn := w.drawn + 1 } := ⟨h.drew, fun e => by (cases e)⟩
theorem notyett {ops : Array Oper} {a0 : Act} {F : Nat → Value → Prop} {J : (Nat → Bool) → (Nat → Value) → World → Prop} {L : Nat → Bool} {vs : Nat → Value} {a : Act} {w : World} (h : Told ops a0 F J L vs a w) (i : Nat) (hi : L i = false) (k : Nat) {o : Oper} (ho : ops[k]? = some o)
    (hB : (o.after.toList.any fun e => e.on == i && Region.binds .any e) = true) : L k = false := by
  cases hk : L k with
  | false => rfl
  | true =>
    obtain ⟨ed, he, h2⟩ := List.any_eq_true.1 hB
    simp only [Bool.and_eq_true, beq_iff_eq] at h2
    have := h.closed k o ho hk ed (by simpa using he) h2.2
    rw [h2.1, hi] at this
    cases this
theorem lit4_size (a b c d : Value) (n : Nat) : (#[a, b, c, d] : Array Value).size = (numA n).size := rfl
theorem numA_sizes (m n : Nat) : (numA m).size = (numA n).size := rfl
theorem getq {a : Act} {s : Nat} {v : Value} (h : a.tmps.getD s undef = v) : a.tmps[s]?.getD undef = v := by rw [← h]; simp
theorem numA_word (n : Nat) (h : n < 18446744073709551616) : numA n = #[.int .u64 (n : Int), .int .u64 0, .int .u64 0, .int .u64 0] := by
  have e0 : dig n 0 = n := by unfold dig; rw [Nat.pow_zero, Nat.div_one, Nat.mod_eq_of_lt h]
  have e : ∀ k, 0 < k → dig n k = 0 := fun k hk => by
    unfold dig
    have : 18446744073709551616 ^ 1 ≤ 18446744073709551616 ^ k := Nat.pow_le_pow_right (by decide) hk
    rw [Nat.pow_one] at this
    rw [Nat.div_eq_of_lt (by omega), Nat.zero_mod]
  unfold numA A4
  rw [e0, e 1 (by decide), e 2 (by decide), e 3 (by decide)]
  rfl
theorem vl_congr {f g : Nat → Nat} : ∀ n, (∀ i, i < n → f i = g i) → vl f n = vl g n
  | 0, _ => rfl
  | n + 1, h => by rw [vl, vl, vl_congr n (fun i hi => h i (by omega)), h n (by omega)]
theorem fold_mod (lo hi s h : Nat) (e : lo + 38 * hi = s + R256 * h) : (s + R256 * h) % pp = (lo + R256 * hi) % pp := by
  rw [← e]
  have h1 : R256 = 38 + pp * 2 := by decide
  rw [h1, Nat.add_mul, Nat.mul_assoc, ← Nat.add_assoc, Nat.add_mul_mod_self_left]
theorem bit_dig (e i : Nat) : dig e (i / 64) / 2 ^ (i % 64) % 2 = e / 2 ^ i % 2 := by
  unfold dig
  have h1 : (18446744073709551616 : Nat) ^ (i / 64) = 2 ^ (64 * (i / 64)) := by rw [Nat.pow_mul]
  rw [h1, ← Nat.toNat_testBit, ← Nat.toNat_testBit, show (18446744073709551616 : Nat) = 2 ^ 64 from rfl, Nat.testBit_mod_two_pow, Nat.testBit_div_two_pow, decide_eq_true (Nat.mod_lt i (by decide)), Bool.true_and]
  rw [show i % 64 + 64 * (i / 64) = i by omega]
theorem and1_u64 (x : Nat) (h : x < 18446744073709551616) : bits .and .u64 (x : Int) 1 = ((x % 2 : Nat) : Int) := by
  have := u64_and_nat x 1 h (by decide)
  rw [nat_mask1] at this; exact this
theorem bit_u64 (e i : Nat) : bits .and .u64 ((dig e (i / 64) : Int) / 2 ^ (i % 64)) 1 = ((e / 2 ^ i % 2 : Nat) : Int) := by
  have h := dig_lt e (i / 64)
  have h1 : dig e (i / 64) / 2 ^ (i % 64) < 18446744073709551616 := Nat.lt_of_le_of_lt (Nat.div_le_self _ _) h
  rw [show (dig e (i / 64) : Int) / 2 ^ (i % 64) = ((dig e (i / 64) / 2 ^ (i % 64) : Nat) : Int) by push_cast; rfl, and1_u64 _ h1, bit_dig]
theorem lt_of_mod {n : Nat} : n % pp < R256 := Nat.lt_trans (Nat.mod_lt _ pp_pos) (by decide)
def vb (f : Nat → Nat) : Nat → Nat
  | 0 => 0
  | k + 1 => vb f k + f k * 256 ^ k
def bdig (n k : Nat) : Nat := n / 256 ^ k % 256
theorem bdig_lt (n k : Nat) : bdig n k < 256 := Nat.mod_lt _ (by decide)
theorem vb_lt (f : Nat → Nat) : ∀ k, (∀ i, i < k → f i < 256) → vb f k < 256 ^ k
  | 0, _ => by rw [vb]; decide
  | k + 1, h => by
    have h1 := vb_lt f k (fun i hi => h i (by omega))
    have h2 : (f k + 1) * 256 ^ k ≤ 256 * 256 ^ k := Nat.mul_le_mul_right _ (h k (by omega))
    rw [vb, Nat.pow_succ, Nat.mul_comm (256 ^ k)]
    rw [Nat.add_mul, Nat.one_mul] at h2
    omega
theorem vb_bdig (n : Nat) : ∀ k, vb (bdig n) k = n % 256 ^ k
  | 0 => by rw [Nat.pow_zero, Nat.mod_one]; rfl
  | k + 1 => by
    rw [vb, vb_bdig n k, Nat.pow_succ, Nat.mod_mul, bdig, Nat.mul_comm]
theorem vb_mod (f : Nat → Nat) : ∀ k, (∀ i, i < k → f i < 256) → ∀ j, j ≤ k → vb f k % 256 ^ j = vb f j
  | 0, _, j, hj => by
    obtain rfl : j = 0 := by omega
    rw [Nat.pow_zero, Nat.mod_one]; rfl
  | k + 1, h, j, hj => by
    rcases Nat.lt_or_ge j (k + 1) with h1 | h1
    · obtain ⟨d, hd⟩ := Nat.pow_dvd_pow 256 (show j ≤ k by omega)
      rw [vb, hd, Nat.mul_left_comm, Nat.add_mul_mod_self_left]
      exact vb_mod f k (fun i hi => h i (by omega)) j (by omega)
    · obtain rfl : j = k + 1 := by omega
      exact Nat.mod_eq_of_lt (vb_lt f (k + 1) h)
theorem bdig_vb (f : Nat → Nat) (k : Nat) (h : ∀ i, i < k → f i < 256) (i : Nat) (hi : i < k) : bdig (vb f k) i = f i := by
  have h1 := vb_mod f k h (i + 1) (by omega)
  have h2 := vb_lt f i (fun j hj => h j (by omega))
  unfold bdig
  rw [← Nat.mod_mul_right_div_self, ← Nat.pow_succ, h1, vb, Nat.add_mul_div_right _ _ (Nat.pow_pos (by decide)), Nat.div_eq_of_lt h2, Nat.zero_add]
def B32 (f : Nat → Nat) : Array Value := ((List.range 32).map fun i => Value.int .u8 (f i : Int)).toArray
theorem B32_size (f : Nat → Nat) : (B32 f).size = 32 := by unfold B32; simp
theorem B32_at (f : Nat → Nat) (i : Nat) (h : i < 32) : (B32 f)[i]? = some (.int .u8 (f i : Int)) := by
  unfold B32; simp [h]
theorem B32_ext {f g : Nat → Nat} (h : ∀ i, i < 32 → f i = g i) : B32 f = B32 g := by
  unfold B32
  congr 1
  apply List.map_congr_left
  intro i hi
  rw [h i (List.mem_range.1 hi)]
theorem B32_set (f : Nat → Nat) (k x : Nat) (hk : k < 32) : (B32 f).setIfInBounds k (.int .u8 (x : Int)) = B32 (upd f k x) := by
  apply Array.ext_getElem?
  intro i
  by_cases hi : i < 32
  · rw [B32_at _ i hi]
    by_cases e : i = k
    · subst e
      rw [Array.getElem?_setIfInBounds_self_of_lt (by rw [B32_size]; exact hi), upd_same]
    · rw [Array.getElem?_setIfInBounds_ne (Ne.symm e), B32_at _ i hi, upd_other _ _ _ _ e]
  · rw [Array.getElem?_eq_none (by rw [Array.size_setIfInBounds, B32_size]; omega), Array.getElem?_eq_none (by rw [B32_size]; omega)]
theorem B32_one (f : Nat → Nat) : (B32 f).all (·.oneCell') = true := all_oneCell_toArray fun v hv => by
  obtain ⟨i, _, rfl⟩ := List.mem_map.1 hv
  rfl
theorem infoB32 : (Tryz.prog.info? 22).map (·.size) = some 32 := by kernel_rfl
theorem B32_info (f : Nat → Nat) : (Tryz.prog.info? 22).map (·.size) = some (B32 f).size := by rw [infoB32, B32_size]
theorem zeroB32 : (Tryz.prog.info? 22).map (fun i => (i.zero, i.size)) = some (some (.agg (B32 fun _ => 0)), 32) := by kernel_rfl
theorem w_pow (d : Nat) : (18446744073709551616 : Nat) ^ d = 256 ^ (8 * d) := by rw [Nat.pow_mul]
theorem byte_of (n k : Nat) : dig n (k / 8) / 2 ^ (8 * (k % 8)) % 256 = bdig n k := by
  unfold dig bdig
  rw [show (2 : Nat) ^ (8 * (k % 8)) = 256 ^ (k % 8) by rw [Nat.pow_mul], w_pow, show (18446744073709551616 : Nat) = 256 ^ (k % 8) * 256 ^ (8 - k % 8) by rw [← Nat.pow_add, show k % 8 + (8 - k % 8) = 8 by omega]]
  rw [Nat.mod_mul_right_div_self, Nat.div_div_eq_div_mul, ← Nat.pow_add, show 8 * (k / 8) + k % 8 = k by omega]
  have : 256 ^ (8 - k % 8) = 256 * 256 ^ (7 - k % 8) := by rw [← Nat.pow_succ', show (7 - k % 8).succ = 8 - k % 8 by omega]
  rw [this, Nat.mod_mul_right_mod]
theorem k_parts (k : Nat) : (256 : Nat) ^ k = 18446744073709551616 ^ (k / 8) * 256 ^ (k % 8) := by
  rw [w_pow, ← Nat.pow_add, show 8 * (k / 8) + k % 8 = k by omega]
theorem pow_le8 (r : Nat) (h : r < 8) : 256 * 256 ^ r ≤ 18446744073709551616 := by
  have : (256 : Nat) ^ (r + 1) ≤ 256 ^ 8 := Nat.pow_le_pow_right (by decide) (by omega)
  rw [Nat.pow_succ, Nat.mul_comm] at this
  exact this
theorem low_div {x k : Nat} (hx : x < 256 ^ k) : x / 18446744073709551616 ^ (k / 8) < 256 ^ (k % 8) := by
  rw [k_parts] at hx
  exact Nat.div_lt_of_lt_mul hx
theorem dig_low {x k : Nat} (hx : x < 256 ^ k) : dig x (k / 8) = x / 18446744073709551616 ^ (k / 8) := by
  unfold dig
  have h1 := low_div hx
  have h2 := pow_le8 (k % 8) (Nat.mod_lt _ (by decide))
  exact Nat.mod_eq_of_lt (by omega)
theorem dig_more {x k c : Nat} (hx : x < 256 ^ k) (hc : c < 256) (j : Nat) : dig (x + 256 ^ k * c) j = upd (dig x) (k / 8) (dig x (k / 8) + c * 256 ^ (k % 8)) j := by
  rcases Nat.lt_trichotomy j (k / 8) with h | h | h
  · rw [upd_other _ _ _ _ (by omega)]
    unfold dig
    have e : (18446744073709551616 : Nat) ^ (k / 8) = 18446744073709551616 ^ j * (18446744073709551616 * 18446744073709551616 ^ (k / 8 - j - 1)) := by
      rw [← Nat.pow_succ', ← Nat.pow_add]
      congr 1
      omega
    rw [k_parts, e, Nat.mul_assoc, Nat.mul_assoc, Nat.add_mul_div_left _ _ (Nat.pow_pos (by decide)), Nat.mul_assoc, Nat.add_mul_mod_self_left]
  · subst h
    rw [upd_same, dig_low hx]
    unfold dig
    rw [k_parts, Nat.mul_assoc, Nat.add_mul_div_left _ _ (Nat.pow_pos (by decide)), Nat.mul_comm (256 ^ (k % 8))]
    have h1 := low_div hx
    have h2 := pow_le8 (k % 8) (Nat.mod_lt _ (by decide))
    have h3 : c * 256 ^ (k % 8) ≤ 255 * 256 ^ (k % 8) := Nat.mul_le_mul_right _ (by omega)
    exact Nat.mod_eq_of_lt (by omega)
  · rw [upd_other _ _ _ _ (by omega)]
    have h1 : (256 : Nat) ^ (k + 1) ≤ 18446744073709551616 ^ j := by
      rw [w_pow]; exact Nat.pow_le_pow_right (by decide) (by omega)
    have h2 : 256 ^ k * c ≤ 256 ^ k * 255 := Nat.mul_le_mul_left _ (by omega)
    rw [Nat.pow_succ] at h1
    unfold dig
    rw [Nat.div_eq_of_lt (by omega), Nat.div_eq_of_lt (by omega)]
theorem or_byte {x k c : Nat} (hx : x < 256 ^ k) (hc : c < 256) : bits .or .u64 (dig x (k / 8) : Int) ((c * 256 ^ (k % 8) : Nat) : Int) = ((dig x (k / 8) + c * 256 ^ (k % 8) : Nat) : Int) := by
  have h1 := low_div hx
  have h2 := pow_le8 (k % 8) (Nat.mod_lt _ (by decide))
  have h3 : c * 256 ^ (k % 8) ≤ 255 * 256 ^ (k % 8) := Nat.mul_le_mul_right _ (by omega)
  rw [dig_low hx, u64_or_nat _ _ (by omega) (by omega), Nat.or_comm]
  have e : (256 : Nat) ^ (k % 8) = 2 ^ (8 * (k % 8)) := by rw [Nat.pow_mul]
  rw [e] at h1 ⊢
  rw [nat_join (8 * (k % 8)) _ _ (Nat.mul_mod_left _ _) h1, Nat.add_comm]
theorem shl_byte {k c : Nat} (hc : c < 256) : IntKind.u64.wrap ((c : Int) * 2 ^ (8 * (k % 8))) = ((c * 256 ^ (k % 8) : Nat) : Int) := by
  have h2 := pow_le8 (k % 8) (Nat.mod_lt _ (by decide))
  have h3 : c * 256 ^ (k % 8) ≤ 255 * 256 ^ (k % 8) := Nat.mul_le_mul_right _ (by omega)
  have e : (256 : Nat) ^ (k % 8) = 2 ^ (8 * (k % 8)) := by rw [Nat.pow_mul]
  rw [show (c : Int) * 2 ^ (8 * (k % 8)) = ((c * 256 ^ (k % 8) : Nat) : Int) by rw [e]; push_cast; rfl]
  exact wrap_small _ (by omega)
theorem mod_more (a k : Nat) : a % 256 ^ (k + 1) = a % 256 ^ k + 256 ^ k * bdig a k := by
  unfold bdig; rw [Nat.pow_succ, Nat.mod_mul]
theorem B32_sizes (f g : Nat → Nat) : (B32 f).size = (B32 g).size := by rw [B32_size, B32_size]
theorem B32_le (f g : Nat → Nat) : 0 + (B32 f).size ≤ (B32 g).size := by rw [B32_size, B32_size]; exact Nat.le_refl _
theorem vb_num (n : Nat) (h : n < R256) : vb (bdig n) 32 = n := by
  rw [vb_bdig]; exact Nat.mod_eq_of_lt h
theorem vb_congr {f g : Nat → Nat} : ∀ n, (∀ i, i < n → f i = g i) → vb f n = vb g n
  | 0, _ => rfl
  | n + 1, h => by rw [vb, vb, vb_congr n (fun i hi => h i (by omega)), h n (by omega)]
theorem B32_list (f : Nat → Nat) : B32 f = (((List.range 32).map fun i => (f i : Int)).map (Value.int .u8)).toArray := by
  unfold B32; rw [List.map_map]; rfl
theorem B32_eq (x y : Nat) (hx : x < R256) (hy : y < R256) (w : World) : (Op.equalIn 10000 22 (.agg (B32 (bdig x))) (.agg (B32 (bdig y)))).run Tryz.prog w = .ok (decide (x = y)) w := by
  have h := run_equalIn_ints (P := Tryz.prog) w 9998 22 5 32 .u8 Tryz.underlying22 Tryz.underlying5 (by kernel_rfl) ((List.range 32).map fun i => (bdig x i : Int)) ((List.range 32).map fun i => (bdig y i : Int)) (by simp) (by simp)
  rw [← B32_list, ← B32_list] at h
  have e : (((List.range 32).map fun i => (bdig x i : Int)) == ((List.range 32).map fun i => (bdig y i : Int))) = decide (x = y) := by
    by_cases hxy : x = y
    · rw [hxy, decide_eq_true rfl]; simp
    · rw [decide_eq_false hxy, beq_eq_false_iff_ne]
      intro hl
      apply hxy
      rw [← vb_num x hx, ← vb_num y hy]
      refine vb_congr 32 fun i hi => ?_
      have := List.map_inj_left.1 hl i (List.mem_range.2 hi)
      exact Int.ofNat.inj this
  rw [e] at h
  exact h
end Go.Proofs.YtgibllaifnnfkaaGreatDoor
namespace Go.Proofs.YtgibllaifnnfkaaGreatDoor
open Go.RowKit
theorem infoNum : (Tryz.prog.info? 54).map (·.size) = some 4 := by kernel_rfl
theorem zeroNum : (Tryz.prog.info? 54).map (fun i => (i.zero, i.size)) = some (some (.agg (A4 fun _ => 0)), 4) := by kernel_rfl
theorem numA_info (n : Nat) : (Tryz.prog.info? 54).map (·.size) = some (numA n).size := infoNum
theorem zeroLit : (Tryz.prog.info? 54).map (fun i => (i.zero, i.size)) = some (some (.agg #[.int .u64 0, .int .u64 0, .int .u64 0, .int .u64 0]), 4) := by kernel_rfl
end Go.Proofs.YtgibllaifnnfkaaGreatDoor
namespace Go.Proofs.YtgibllaifnnfkaaGreatDoor
open Go Go.RowKit
theorem ptr_eq {g g' : Nat} (h : Value.pointer (some ⟨g, 0, none⟩) = .pointer (some ⟨g', 0, none⟩)) : g = g' := by
  simpa only [Value.pointer.injEq, Option.some.injEq, Addr.mk.injEq, and_true] using h
def MkN (n : Nat) (l : List (Nat × Array Value × TypeId)) (w0 : World) (A0 A1 : Nat → Array Value) (t : Nat → TypeId) (m s : Nat → Bool) (v : Nat → Value) (w : World) : Prop :=
  Kp l w0 w ∧ (∀ i, i < n → m i = true → ∃ g, v i = .pointer (some ⟨g, 0, none⟩) ∧ w0.heap.size ≤ g ∧ (∀ p ∈ l, p.1 ≠ g) ∧ Own w g (if s i = true then A1 i else A0 i) (t i))
    ∧ ∀ i j, i < n → j < n → i ≠ j → m i = true → m j = true → v i ≠ v j
section
variable {n : Nat} {l : List (Nat × Array Value × TypeId)} {w0 : World} {A0 A1 : Nat → Array Value} {t : Nat → TypeId} {m s m' s' : Nat → Bool} {v v' : Nat → Value} {w : World}
theorem MkN.below {w' : World} (h : MkN n l w0 A0 A1 t m s v w) (hB : Below w.heap.size w w') : MkN n l w0 A0 A1 t m s v w' :=
  ⟨h.1.below hB, fun i hi hm => by
    obtain ⟨g, h1, h2, h3, h4⟩ := h.2.1 i hi hm
    exact ⟨g, h1, h2, h3, h4.below hB h4.lt⟩, h.2.2⟩
theorem MkN.drew (h : Kp l w0 w) (hm : ∀ i, i < n → m i = false) : MkN n l w0 A0 A1 t m s v { w with drawn := w.drawn + 1 } :=
  ⟨h.drew, fun i hi e => by (rw [hm i hi] at e; cases e), fun i _ hi _ _ e => by (rw [hm i hi] at e; cases e)⟩
theorem MkN.congr (h : MkN n l w0 A0 A1 t m s v w) (hm : ∀ i, i < n → m' i = m i) (hs : ∀ i, i < n → s' i = s i) (hv : ∀ i, i < n → v' i = v i) : MkN n l w0 A0 A1 t m' s' v' w := by
  refine ⟨h.1, fun i hi e => ?_, fun i j hi hj hij ei ej => ?_⟩
  · rw [hm i hi] at e
    rw [hs i hi, hv i hi]
    exact h.2.1 i hi e
  · rw [hm i hi] at ei
    rw [hm j hj] at ej
    rw [hv i hi, hv j hj]
    exact h.2.2 i j hi hj hij ei ej
theorem MkN.alloc (h : MkN n l w0 A0 A1 t m s v w) (k : Nat) (hm : ∀ i, i < n → i ≠ k → m' i = m i) (hs : ∀ i, i < n → s' i = s i) (hv : ∀ i, i < n → i ≠ k → v' i = v i) (hvk : v' k = .pointer (some ⟨w.heap.size, 0, none⟩)) (hsk : s k = false) :
    MkN n l w0 A0 A1 t m' s' v' (w.alloc (.cells (A0 k) (t k))) := by
  have hb := h.below ((Below.refl w.heap.size w).alloc (Nat.le_refl _) (.cells (A0 k) (t k)))
  have key : ∀ i, i < n → i ≠ k → m' i = true → v' i ≠ .pointer (some ⟨w.heap.size, 0, none⟩) := fun i hi hik e => by
    rw [hm i hi hik] at e
    rw [hv i hi hik]
    obtain ⟨g, h1, -, -, h4⟩ := h.2.1 i hi e
    rw [h1]
    intro he
    have := ptr_eq he
    have := h4.lt
    omega
  refine ⟨hb.1, fun i hi e => ?_, fun i j hi hj hij ei ej => ?_⟩
  · by_cases hik : i = k
    · subst hik
      refine ⟨_, hvk, h.1.2.size, fun p hp => Nat.ne_of_lt (h.1.1 p hp).lt, ?_⟩
      rw [hs i hi, hsk]
      exact own_new w _ _
    · rw [hm i hi hik] at e
      rw [hs i hi, hv i hi hik]
      exact hb.2.1 i hi e
  · by_cases hik : i = k
    · subst hik
      rw [hvk]
      exact Ne.symm (key j hj (Ne.symm hij) ej)
    · by_cases hjk : j = k
      · subst hjk
        rw [hvk]
        exact key i hi hik ei
      · rw [hv i hi hik, hv j hj hjk]
        rw [hm i hi hik] at ei
        rw [hm j hj hjk] at ej
        exact h.2.2 i j hi hj hij ei ej
theorem MkN.at {g : Nat} (h : MkN n l w0 A0 A1 t m s v w) {k : Nat} (hk : k < n) (hm : m k = true) (hv : v k = .pointer (some ⟨g, 0, none⟩)) (hs : s k = false) : w0.heap.size ≤ g ∧ (∀ p ∈ l, p.1 ≠ g) ∧ Own w g (A0 k) (t k) := by
  obtain ⟨g', h1, h2, h3, h4⟩ := h.2.1 k hk hm
  obtain rfl := ptr_eq (hv.symm.trans h1)
  rw [hs] at h4
  exact ⟨h2, h3, h4⟩
theorem MkN.store {g : Nat} (h : MkN n l w0 A0 A1 t m s v w) {k : Nat} (hk : k < n) (hm : m k = true) (hvk : v k = .pointer (some ⟨g, 0, none⟩)) (hsk : s k = false) (hsz : (A1 k).size = (A0 k).size)
    (hm' : ∀ i, i < n → m' i = m i) (hs' : ∀ i, i < n → i ≠ k → s' i = s i) (hv' : ∀ i, i < n → v' i = v i) (hsk' : s' k = true) : MkN n l w0 A0 A1 t m' s' v' (w.setCells g 0 (A1 k).toList) := by
  obtain ⟨h2, h3, h4⟩ := h.at hk hm hvk hsk
  refine ⟨⟨fun p hp => Own.setCells_other (h3 p hp) _ _ _ (h.1.1 p hp), Below.setCells _ _ _ _ h2 h.1.2⟩, fun i hi e => ?_, fun i j hi hj hij ei ej => ?_⟩
  · rw [hm' i hi] at e
    rw [hv' i hi]
    by_cases hik : i = k
    · subst hik
      rw [hsk']
      exact ⟨g, hvk, h2, h3, own_setCells h4 hsz⟩
    · rw [hs' i hi hik]
      obtain ⟨g', k1, k2, k3, k4⟩ := h.2.1 i hi e
      refine ⟨g', k1, k2, k3, Own.setCells_other (fun e' => ?_) _ _ _ k4⟩
      exact h.2.2 i k hi hk hik e hm (by rw [hvk, k1, e'])
  · rw [hm' i hi] at ei
    rw [hm' j hj] at ej
    rw [hv' i hi, hv' j hj]
    exact h.2.2 i j hi hj hij ei ej
theorem MkN.storeA {g : Nat} {A : Array Value} (h : MkN n l w0 A0 A1 t m s v w) {k : Nat} (hA : A1 k = A) (hk : k < n) (hm : m k = true) (hvk : v k = .pointer (some ⟨g, 0, none⟩)) (hsk : s k = false) (hsz : A.size = (A0 k).size)
    (hm' : ∀ i, i < n → m' i = m i) (hs' : ∀ i, i < n → i ≠ k → s' i = s i) (hv' : ∀ i, i < n → v' i = v i) (hsk' : s' k = true) : MkN n l w0 A0 A1 t m' s' v' (w.setCells g 0 A.toList) := by
  subst hA
  exact h.store hk hm hvk hsk hsz hm' hs' hv' hsk'
theorem MkN.gotA {g : Nat} {A : Array Value} (h : MkN n l w0 A0 A1 t m s v w) {k : Nat} (hA : A1 k = A) (hk : k < n) (hm : m k = true) (hv : v k = .pointer (some ⟨g, 0, none⟩)) (hs : s k = true) : w0.heap.size ≤ g ∧ (∀ p ∈ l, p.1 ≠ g) ∧ Own w g A (t k) := by
  subst hA
  obtain ⟨g', h1, h2, h3, h4⟩ := h.2.1 k hk hm
  obtain rfl := ptr_eq (hv.symm.trans h1)
  rw [hs] at h4
  exact ⟨h2, h3, h4⟩
theorem MkN.got {g : Nat} (h : MkN n l w0 A0 A1 t m s v w) {k : Nat} (hk : k < n) (hm : m k = true) (hv : v k = .pointer (some ⟨g, 0, none⟩)) (hs : s k = true) : w0.heap.size ≤ g ∧ (∀ p ∈ l, p.1 ≠ g) ∧ Own w g (A1 k) (t k) := by
  obtain ⟨g', h1, h2, h3, h4⟩ := h.2.1 k hk hm
  obtain rfl := ptr_eq (hv.symm.trans h1)
  rw [hs] at h4
  exact ⟨h2, h3, h4⟩
theorem MkN.apart {g g' : Nat} (h : MkN n l w0 A0 A1 t m s v w) {i j : Nat} (hi : i < n) (hj : j < n) (hij : i ≠ j) (hmi : m i = true) (hmj : m j = true) (hvi : v i = .pointer (some ⟨g, 0, none⟩)) (hvj : v j = .pointer (some ⟨g', 0, none⟩)) : g ≠ g' := fun e =>
  h.2.2 i j hi hj hij hmi hmj (by rw [hvi, hvj, e])
end
theorem if_off {α : Type} {a i j n : Nat} {x y : α} (h : j < a ∨ a + n ≤ j) (hi : i < n) : (if a + i = j then x else y) = y := if_neg (by omega)
theorem if_oth {α : Type} {a i j k : Nat} {x y : α} (hj : j = a + k) (h : i ≠ k) : (if a + i = j then x else y) = y := if_neg (by omega)
theorem Kp.cons {l : List (Nat × Array Value × TypeId)} {w0 w : World} {b : Nat} {A : Array Value} {t : TypeId} (h : Kp l w0 w) (ho : Own w b A t) : Kp ((b, A, t) :: l) w0 w :=
  ⟨fun p hp => by
    rcases List.mem_cons.1 hp with rfl | hp
    · exact ho
    · exact h.1 p hp, h.2⟩
theorem Kp.none {l : List (Nat × Array Value × TypeId)} {w0 w : World} (h : Kp l w0 w) : Kp [] w0 w := ⟨fun _ h => by (cases h), h.2⟩
end Go.Proofs.YtgibllaifnnfkaaGreatDoor
namespace Go.Proofs.YtgibllaifnnfkaaGreatDoor
open Go.RowKit
set_option maxRecDepth 100000 in
set_option maxHeartbeats 8000000 in
theorem bytesOf_any (n : Nat) (w : World) : Calls Tryz.prog 78 #[.agg (numA n)] w fun x w' => x = .returned (.agg (B32 (bdig n))) ∧ Below w.heap.size w w' := by
  have hz := (zero_of_info zeroB32).1
  go_enter Tryz.func78, Tryz.ntmps78
  go_wp2_with fail
  have hK0 := (((Kp.nil w).alloc (numA n) 54).alloc (B32 fun _ => 0) 22).alloc (B32 fun _ => 0) 22
  rw [World.size_alloc, World.size_alloc] at hK0
  generalize ((w.alloc (.cells (numA n) 54)).alloc (.cells (B32 fun _ => 0) 22)).alloc (.cells (B32 fun _ => 0) 22) = W at *
  obtain ⟨bA, HA⟩ : ∃ bA, Hid (w.heap.size = bA) := ⟨_, rfl⟩
  obtain ⟨bR, HR⟩ : ∃ bR, Hid (bA + 1 = bR) := ⟨_, rfl⟩
  obtain ⟨bO, HO⟩ : ∃ bO, Hid (bR + 1 = bO) := ⟨_, rfl⟩
  have hle : w.heap.size ≤ bR := by have := HA.out; have := HR.out; omega
  have hleO : w.heap.size ≤ bO := by have := HO.out; omega
  have n1 : bA ≠ bO := by have := HR.out; have := HO.out; omega
  have n2 : bR ≠ bO := by have := HO.out; omega
  rw [HA.out, HR.out, HO.out] at hK0 ⊢
  go_loopw [4] (fun ii wr => ∃ (k : Nat) (h : Nat → Nat), k ≤ 32 ∧ ii = .int .i64 (k : Int) ∧ (∀ j, j < k → h j = bdig n j) ∧ Kp [(bO, B32 h, 22), (bR, B32 fun _ => 0, 22), (bA, numA n, 54)] w wr) (fun ii _ => 32 - (intOf ii).toNat)
  case atStart => exact ⟨0, fun _ => 0, by omega, rfl, fun j hj => by omega, hK0⟩
  case round =>
    obtain ⟨k, h, hk, rfl, hh, hKr⟩ := hrel
    have hk0 : (0 : Int) ≤ (k : Int) := by omega
    by_cases hlt : k < 32
    · have hki : (k : Int) < 32 := by omega
      have hd4 : k / 8 < 4 := by omega
      have cA := (hKr.at bA (numA n) 54 (by simp)).cell (numA_at n (k / 8) hd4)
      have cO := (hKr.at bO (B32 h) 22 (by simp)).cell (B32_at h k hlt)
      have fO := (hKr.at bO (B32 h) 22 (by simp)).frozen k
      have hdv : (k : Int).tdiv 8 = ((k / 8 : Nat) : Int) := by rw [Int.tdiv_eq_ediv_of_nonneg (by omega)]; omega
      have hmd : (k : Int).tmod 8 = ((k % 8 : Nat) : Int) := by rw [Int.tmod_eq_emod_of_nonneg (by omega)]; omega
      have hd40 : (0 : Int) ≤ ((k / 8 : Nat) : Int) := by omega
      have hd41 : ((k / 8 : Nat) : Int) < 4 := by omega
      have hm0 : (0 : Int) ≤ 8 * ((k % 8 : Nat) : Int) := by omega
      have hm1 : 8 * ((k % 8 : Nat) : Int) < 64 := by omega
      have hm2 : ((k % 8 : Nat) : Int) < 8 := by omega
      have hm3 : (0 : Int) ≤ ((k % 8 : Nat) : Int) := by omega
      have hb := byte_of n k
      have hb' : (dig n (k / 8) : Int) / 2 ^ (8 * (k % 8)) % 256 = ((bdig n k : Nat) : Int) := by
        rw [← hb]; push_cast; rfl
      have Hb := show Hid _ from hb'
      clear hb hb'
      obtain ⟨v, Hv⟩ : ∃ v, Hid (bdig n k = v) := ⟨_, rfl⟩
      rw [Hv.out] at Hb
      generalize dig n (k / 8) = d at *
      generalize k / 8 = D at *
      generalize k % 8 = M at *
      go_wp2_with fail
      rw [Hb.out]
      have hK1 := Kp.setCell (i := k) (v := .int .u8 (v : Int)) hKr (by simp; omega) hleO
      rw [B32_set h k v hlt] at hK1
      refine ⟨⟨k + 1, upd h k v, by omega, by go_num, fun j hj => ?_, hK1⟩, by simp [intOf]; omega⟩
      by_cases e : j = k
      · rw [e, upd_same]; exact Hv.out.symm
      · rw [upd_other _ _ _ _ e]; exact hh j (by omega)
    · have hki : ¬ (k : Int) < 32 := by omega
      have He : Hid (B32 h = B32 (bdig n)) := B32_ext fun i hi => hh i (by omega)
      go_upto_region 6 with fail
      go_wp2_with (first
        | refine wpList_load_own (by rfl) 22 (.tmp 3) (by rfl) bO (by rfl) (B32 h) _ (hKr.at bO (B32 h) 22 (by simp)) Tryz.underlying22 (by rfl) (B32_info h) ?_
        | refine wpList_store_own (by rfl) 22 (.tmp 2) (.tmp 21) (by rfl) bR 0 (B32 h) (by rfl) (by rfl) (hKr.at bR (B32 fun _ => 0) 22 (by simp)) (by rw [B32_size, B32_size]; exact Nat.le_refl _) (B32_info h) (B32_one h) (by rfl) ?_)
      refine bodyPost_ret (results_own Tryz.results78 _ _ bR (B32 h) _ (by rfl) (own_setCells (hKr.at bR (B32 fun _ => 0) 22 (by simp)) (by rw [B32_size, B32_size])) Tryz.underlying22 rfl (B32_info h)) rfl ⟨by rw [He.out], ?_⟩
      exact Below.setCells _ _ _ _ hle hKr.2
end Go.Proofs.YtgibllaifnnfkaaGreatDoor
namespace Go.Proofs.YtgibllaifnnfkaaGreatDoor
open Go.RowKit
def LL : Nat := 7237005577332262213973186563042994240857116359379907606001950938285454250989
theorem LL_pos : 0 < LL := by decide
theorem LL_lt : LL < R256 := by decide
theorem lt_of_modL {n : Nat} : n % LL < R256 := Nat.lt_trans (Nat.mod_lt _ LL_pos) (by decide)
def R512 : Nat := 13407807929942597099574024998205846127479365820592393377723561443721764030073546976801874298166903427690031858186486050853753882811946569946433649006084096
theorem R512_eq : R512 = R256 * R256 := by decide
theorem pow8 : 18446744073709551616 ^ 8 = R512 := by decide
theorem L_cells : numA LL = #[.int .u64 6346243789798364141, .int .u64 1503914060200516822, .int .u64 0, .int .u64 1152921504606846976] := by rfl
theorem twoL : 2 * LL + 2 < R256 := by decide
end Go.Proofs.YtgibllaifnnfkaaGreatDoor
namespace Go.Proofs.YtgibllaifnnfkaaGreatDoor
open Go.RowKit
theorem Kp.h1 {b : Nat} {A : Array Value} {t : TypeId} {l : List (Nat × Array Value × TypeId)} {w0 w : World} (h : Kp ((b, A, t) :: l) w0 w) : Own w b A t := h.at b A t (by simp)
theorem Kp.h2 {p1 : Nat × Array Value × TypeId} {b : Nat} {A : Array Value} {t : TypeId} {l : List (Nat × Array Value × TypeId)} {w0 w : World} (h : Kp (p1 :: (b, A, t) :: l) w0 w) : Own w b A t := h.at b A t (by simp)
theorem Kp.h3 {p1 p2 : Nat × Array Value × TypeId} {b : Nat} {A : Array Value} {t : TypeId} {l : List (Nat × Array Value × TypeId)} {w0 w : World} (h : Kp (p1 :: p2 :: (b, A, t) :: l) w0 w) : Own w b A t := h.at b A t (by simp)
theorem Kp.h4 {p1 p2 p3 : Nat × Array Value × TypeId} {b : Nat} {A : Array Value} {t : TypeId} {l : List (Nat × Array Value × TypeId)} {w0 w : World} (h : Kp (p1 :: p2 :: p3 :: (b, A, t) :: l) w0 w) : Own w b A t := h.at b A t (by simp)
set_option maxRecDepth 100000 in
theorem L_any (w : World) : Calls Tryz.prog 66 #[] w fun e w' => e = .returned (.agg (numA LL)) ∧ Below w.heap.size w w' := by
  have hz := (zero_of_info zeroLit).1
  obtain ⟨A, HA⟩ : ∃ A, Hid (numA LL = A) := ⟨_, rfl⟩
  have hc : Hid (A = _) := HA.out.symm.trans L_cells
  have hi : (Tryz.prog.info? 54).map (·.size) = some A.size := by rw [← HA.out]; exact numA_info LL
  have h1 : A.all (·.oneCell') = true := by rw [← HA.out]; exact numA_one LL
  have hs : 4 = A.size := by rw [← HA.out]; exact (numA_size LL).symm
  rw [HA.out]
  clear HA
  go_enter Tryz.func66, Tryz.ntmps66
  go_upto_region 1 with fail
  go_wp2_with (refine wpList_store_new (by rfl) 54 (.tmp 0) (.tmp 1) (by rfl) _ A (by rfl) (by rw [hc.out]; rfl) hi hs h1 (by rfl) ?_)
  refine bodyPost_ret (results_own Tryz.results66 _ _ w.heap.size A _ (by rfl) (own_new w A 54) Tryz.underlying54 rfl hi) rfl ⟨rfl, alloc_below _ _⟩
end Go.Proofs.YtgibllaifnnfkaaGreatDoor
namespace Go.Proofs.YtgibllaifnnfkaaGreatDoor
open Go.RowKit
theorem vl_upd_eq (o : Nat → Nat) (k x : Nat) : ∀ n, k < n → vl (upd o k x) n + o k * 18446744073709551616 ^ k = vl o n + x * 18446744073709551616 ^ k
  | 0, h => by omega
  | n + 1, h => by
    rcases Nat.lt_or_ge k n with h1 | h1
    · have := vl_upd_eq o k x n h1
      rw [vl, vl, upd_other o k x n (by omega)]
      omega
    · obtain rfl : n = k := by omega
      rw [vl, vl, vl_upd o n x n (Nat.le_refl _), upd_same]
      omega
theorem vl_none : ∀ n, vl (fun _ => 0) n = 0
  | 0 => rfl
  | n + 1 => by rw [vl, vl_none n, Nat.zero_mul]
theorem vl_first (f : Nat → Nat) : vl f 0 = 0 := rfl
theorem start_out (f g : Nat → Nat) : vl (fun _ => 0) 8 = vl f 0 * vl g 4 := by rw [vl_none, vl_first, Nat.zero_mul]
theorem start_in (V F B C : Nat) (g : Nat → Nat) : V + 0 * B = V + F * vl g 0 * C := by rw [vl_first, Nat.mul_zero, Nat.zero_mul, Nat.zero_mul]
theorem word_mul (a b : Nat) (ha : a < 18446744073709551616) (hb : b < 18446744073709551616) : a * b ≤ 340282366920938463426481119284349108225 := by
  have : a * b ≤ 18446744073709551615 * 18446744073709551615 := Nat.mul_le_mul (by omega) (by omega)
  omega
theorem times_step {o : Nat → Nat} {V F Gk gk i k c lo hi : Nat} (hk : i + k < 8) (e : vl o 8 + c * 18446744073709551616 ^ (i + k) = V + F * Gk * 18446744073709551616 ^ i) (es : F * gk + o (i + k) + c = lo + 18446744073709551616 * hi) :
    vl (upd o (i + k) lo) 8 + hi * 18446744073709551616 ^ (i + (k + 1)) = V + F * (Gk + gk * 18446744073709551616 ^ k) * 18446744073709551616 ^ i := by
  have h1 := vl_upd_eq o (i + k) lo 8 hk
  have h2 := congrArg (· * 18446744073709551616 ^ (i + k)) es
  simp only [Nat.add_mul] at h2
  have h3 : F * (Gk + gk * 18446744073709551616 ^ k) * 18446744073709551616 ^ i = F * Gk * 18446744073709551616 ^ i + F * gk * 18446744073709551616 ^ (i + k) := by
    rw [Nat.mul_add, Nat.add_mul, Nat.pow_add, ← Nat.mul_assoc F, Nat.mul_assoc (F * gk), Nat.mul_comm (18446744073709551616 ^ k)]
  have h4 : hi * 18446744073709551616 ^ (i + (k + 1)) = 18446744073709551616 * hi * 18446744073709551616 ^ (i + k) := by
    rw [← Nat.add_assoc, Nat.pow_succ, Nat.mul_comm 18446744073709551616 hi, Nat.mul_assoc, Nat.mul_comm (18446744073709551616 ^ (i + k))]
  rw [h3, h4]
  omega
theorem times_row {o : Nat → Nat} {V F G i c Vi : Nat} (hi : i + 4 < 8) (h0 : o (i + 4) = 0) (hV : V = Vi * G) (e : vl o 8 + c * 18446744073709551616 ^ (i + 4) = V + F * G * 18446744073709551616 ^ i) :
    vl (upd o (i + 4) c) 8 = (Vi + F * 18446744073709551616 ^ i) * G := by
  have h1 := vl_upd_eq o (i + 4) c 8 hi
  rw [h0, Nat.zero_mul, Nat.add_zero] at h1
  rw [h1, e, hV, Nat.add_mul, Nat.mul_assoc F, Nat.mul_assoc F, Nat.mul_comm G]
end Go.Proofs.YtgibllaifnnfkaaGreatDoor
namespace Go.Proofs.YtgibllaifnnfkaaGreatDoor
open Go.RowKit
end Go.Proofs.YtgibllaifnnfkaaGreatDoor
namespace Go.Proofs.YtgibllaifnnfkaaGreatDoor
open Go.RowKit
def B64 (f : Nat → Nat) : Array Value := ((List.range 64).map fun i => Value.int .u8 (f i : Int)).toArray
theorem B64_size (f : Nat → Nat) : (B64 f).size = 64 := by unfold B64; simp
theorem B64_at (f : Nat → Nat) (i : Nat) (h : i < 64) : (B64 f)[i]? = some (.int .u8 (f i : Int)) := by
  unfold B64; simp [h]
theorem B64_ext {f g : Nat → Nat} (h : ∀ i, i < 64 → f i = g i) : B64 f = B64 g := by
  apply Array.ext_getElem?
  intro i
  by_cases hi : i < 64
  · rw [B64_at f i hi, B64_at g i hi, h i hi]
  · rw [Array.getElem?_eq_none (by rw [B64_size]; omega), Array.getElem?_eq_none (by rw [B64_size]; omega)]
theorem B64_one (f : Nat → Nat) : (B64 f).all (·.oneCell') = true := all_oneCell_toArray fun v hv => by
  obtain ⟨i, -, rfl⟩ := List.mem_map.1 hv
  rfl
theorem infoB64 : (Tryz.prog.info? 24).map (·.size) = some 64 := by kernel_rfl
theorem B64_info (f : Nat → Nat) : (Tryz.prog.info? 24).map (·.size) = some (B64 f).size := by rw [infoB64, B64_size]
theorem zeroB64 : (Tryz.prog.info? 24).map (fun i => (i.zero, i.size)) = some (some (.agg (B64 fun _ => 0)), 64) := by kernel_rfl
theorem B64_sizes (f g : Nat → Nat) : (B64 f).size = (B64 g).size := by rw [B64_size, B64_size]
theorem vb64 {n : Nat} (h : n < R512) : vb (bdig n) 64 = n := by rw [vb_bdig, Nat.mod_eq_of_lt (Nat.lt_of_lt_of_le h (by decide))]
end Go.Proofs.YtgibllaifnnfkaaGreatDoor
