/- The walk of the page's root. -/
import Derived.Test.YtaefjbklioljnaaDoorE10
namespace Go.Proofs.YtaefjbklioljnaaDoor
open Go.RowKit
theorem num_eq (x y : Nat) (hx : x < R256) (hy : y < R256) (w : World) : (Op.equalIn 10000 25 (.agg (numA x)) (.agg (numA y))).run Tryd.prog w = .ok (decide (x = y)) w := by
  have h := run_equalIn_ints (P := Tryd.prog) w 9998 25 23 4 .u64 Tryd.underlying25 Tryd.underlying23 (by kernel_rfl) [(dig x 0 : Int), (dig x 1 : Int), (dig x 2 : Int), (dig x 3 : Int)] [(dig y 0 : Int), (dig y 1 : Int), (dig y 2 : Int), (dig y 3 : Int)] rfl rfl
  have e : ([(dig x 0 : Int), (dig x 1 : Int), (dig x 2 : Int), (dig x 3 : Int)] == [(dig y 0 : Int), (dig y 1 : Int), (dig y 2 : Int), (dig y 3 : Int)]) = decide (x = y) := by
    by_cases hxy : x = y
    · rw [hxy, decide_eq_true rfl]; simp
    · rw [decide_eq_false hxy]
      rw [beq_eq_false_iff_ne]
      intro hl
      apply hxy
      simp only [List.cons.injEq, and_true] at hl
      obtain ⟨h0, h1, h2, h3⟩ := hl
      rw [← vl_num x hx, ← vl_num y hy]
      refine vl_congr 4 fun i hi => ?_
      rcases i with _ | _ | _ | _ | i
      · exact Int.ofNat.inj h0
      · exact Int.ofNat.inj h1
      · exact Int.ofNat.inj h2
      · exact Int.ofNat.inj h3
      · omega
  rw [e] at h
  exact h
theorem half_at {a b : Nat} (ha : a < R256) (hb : a / 2 = b) (w : World) : Calls Tryd.prog 42 #[.agg (numA a)] w fun x w' => x = .returned (.agg (numA b)) ∧ Below w.heap.size w w' := by
  rw [← hb]; exact half_any a ha w
theorem pow_at {a e b : Nat} (ha : a < R256) (he : e < R256) (hb : a ^ e % pp = b) (w : World) : Calls Tryd.prog 40 #[.agg (numA a), .agg (numA e)] w fun x w' => x = .returned (.agg (numA b)) ∧ Below w.heap.size w w' := by
  rw [← hb]; exact pow_any a e ha he w
theorem mul_at {a e b : Nat} (ha : a < R256) (he : e < R256) (hb : a * e % pp = b) (w : World) : Calls Tryd.prog 20 #[.agg (numA a), .agg (numA e)] w fun x w' => x = .returned (.agg (numA b)) ∧ Below w.heap.size w w' := by
  rw [← hb]; exact fmul_any a e ha he w
theorem add_fit {a b s : Nat} (ha : a < R256) (hb : b < R256) (hs : a + b = s) (h : s < R256) (w : World) :
    Calls Tryd.prog 34 #[.agg (numA a), .agg (numA b)] w fun e w' => e = .returned (.tuple #[.agg (numA s), .int .u64 0]) ∧ Below w.heap.size w w' := by
  refine (add_any a b ha hb w).mono ?_
  rintro e w' ⟨⟨d, c, rfl, hd, hc, he⟩, hB⟩
  have : c = 0 ∨ c = 1 := by omega
  rcases this with rfl | rfl
  · obtain rfl : d = s := by omega
    exact ⟨rfl, hB⟩
  · omega
theorem odd_word (x : Nat) : bits .and .u64 (dig x 0 : Int) 1 = ((x % 2 : Nat) : Int) := by
  rw [and1_u64 _ (dig_lt x 0)]
  unfold dig
  rw [Nat.pow_zero, Nat.div_one]
  omega
theorem neg_of (x : Nat) (hx : x < pp) (h2 : x % 2 = 1) : (0 % pp + pp - x % pp) % pp = pp - x := by
  rw [Nat.zero_mod, Nat.zero_add, Nat.mod_eq_of_lt hx, Nat.mod_eq_of_lt]
  have : 0 < x := by omega
  have := pp_pos
  omega
/-- What the page's root answers. -/
def rootVo : Option Nat → Value
  | some z => .tuple #[.agg (numA z), .bool true]
  | none => .tuple #[.agg (numA 0), .bool false]
def rootV (a : Nat) : Value := rootVo (froot a)
def rootOf (r a : Nat) : Option Nat := if r * r % pp = a % pp then some (evenOf r) else if (r * fi % pp) * (r * fi % pp) % pp = a % pp then some (evenOf (r * fi % pp)) else none
theorem froot_of (a : Nat) : froot a = rootOf (a ^ ((pp + 3) / 8) % pp) a := by
  unfold froot
  generalize a ^ ((pp + 3) / 8) % pp = r
  exact Eq.refl _
theorem rootV_first {a r y m : Nat} (h1 : a ^ ((pp + 3) / 8) % pp = r) (h2 : r * r % pp = y) (hm : a % pp = m) (hym : y = m) : rootV a = .tuple #[.agg (numA (evenOf r)), .bool true] := by
  have : froot a = some (evenOf r) := by
    rw [froot_of, h1]
    unfold rootOf
    rw [if_pos (by rw [h2, hm, hym])]
  unfold rootV
  rw [this, rootVo]
theorem rootV_second {a r y m x z : Nat} (h1 : a ^ ((pp + 3) / 8) % pp = r) (h2 : r * r % pp = y) (hm : a % pp = m) (hym : ¬ y = m) (hx : r * fi % pp = x) (hz : x * x % pp = z) (hzm : z = m) : rootV a = .tuple #[.agg (numA (evenOf x)), .bool true] := by
  have : froot a = some (evenOf x) := by
    rw [froot_of, h1]
    unfold rootOf
    rw [if_neg (by rw [h2, hm]; exact hym), if_pos (by rw [hx, hz, hm, hzm]), hx]
  unfold rootV
  rw [this, rootVo]
theorem rootV_none {a r y m x z : Nat} (h1 : a ^ ((pp + 3) / 8) % pp = r) (h2 : r * r % pp = y) (hm : a % pp = m) (hym : ¬ y = m) (hx : r * fi % pp = x) (hz : x * x % pp = z) (hzm : ¬ z = m) : rootV a = .tuple #[.agg (numA 0), .bool false] := by
  have : froot a = none := by
    rw [froot_of, h1]
    unfold rootOf
    rw [if_neg (by rw [h2, hm]; exact hym), if_neg (by rw [hx, hz, hm]; exact hzm)]
  unfold rootV
  rw [this, rootVo]
def factR (m e0 e1 e2 e3 r : Nat) : Nat → Value → Prop
  | 0, v => v = .agg (numA m)
  | 1, v => v = .agg (numA e0)
  | 2, v => v = .agg (numA e1)
  | 3, v => v = .agg (numA e2)
  | 4, v => v = .agg (numA e3)
  | 5, v => v = .agg (numA r)
  | _, v => ∃ g, v = .pointer (some ⟨g, 0, none⟩)
def valX (x y m : Nat) : Nat → Value
  | 2 => .agg (numA y)
  | 3 => .agg (numA m)
  | 4 => .bool (!decide (y = m))
  | _ => .agg (numA x)
def valY (r g0 g1 g2 x : Nat) : Nat → Value
  | 0 => .agg (numA r)
  | 1 => .agg (numA 2)
  | 2 => .agg (numA g0)
  | 3 => .agg (numA g1)
  | 4 => .agg (numA g2)
  | 5 => .agg (numA fi)
  | _ => .agg (numA x)

end Go.Proofs.YtaefjbklioljnaaDoor
