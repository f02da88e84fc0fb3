/- The walk of the law CurveEquation, over the program's functions by their contracts. -/
import Derived.Test.YtaekpoiaigklgabDoorW0
import Derived.Test.YtaekpoiaigklgabDoorGA
namespace Go.Proofs.YtaekpoiaigklgabDoor
open Go Go.RowKit
theorem wanted_undef3 {ops : Array Oper} {o og : Oper} {a : Act} {g d : Nat} {b : Bool} (h : o.guard = some (g, b)) (hg : ops[g]? = some og) (hd : og.dst = some d) (hv : a.tmps.getD d undef = undef) : Region.wanted o (yielded ops a.tmps) = false := by
  by_cases hs : d < a.tmps.size
  · have h1 : a.tmps[d]? = some undef := by simp [Array.getD, hs] at hv; simp [hs, hv]
    simp [Region.wanted, h, yielded, hg, hd, h1, undef]
  · have h1 : a.tmps[d]? = none := by simp; omega
    simp [Region.wanted, h, yielded, hg, hd, h1]
/-- The law's d. -/
theorem dd_law : subp 0 121665 * finv 121666 % pp = dd := by
  have h1 : subp 0 121665 = 121666 * dd % pp := by decide +kernel
  have h2 := finv_mul (a := 121666) (by decide)
  generalize finv 121666 = x at *
  rw [h1, Nat.mod_mul_mod, Nat.mul_right_comm, Nat.mul_mod, h2, Nat.one_mul, Nat.mod_mod, Nat.mod_eq_of_lt dd_lt]
theorem root_case (o : Option Nat) : ∃ x b, rootBo o = .tuple #[.agg (B32 (bdig x)), .bool b] ∧ ((o = none ∧ b = false) ∨ (o = some x ∧ b = true)) := by
  cases o with
  | none => exact ⟨0, false, rfl, .inl ⟨rfl, rfl⟩⟩
  | some z => exact ⟨z, true, rfl, .inr ⟨rfl, rfl⟩⟩
theorem odd_bool {a : Nat} (ha : a < R256) : ∃ o : Bool, decide ((128 : Int) ≤ (bdig a 31 : Int)) = o ∧ (o = true ↔ a / HH = 1) := by
  refine ⟨_, rfl, ?_⟩
  rw [decide_eq_true_iff, ← top_odd ha]
  omega
theorem even_half {a : Nat} (ha : a < R256) (h : false = true ↔ a / HH = 1) : a / HH = 0 := by
  have h1 := half_lt ha
  have h2 : ¬ a / HH = 1 := fun e => by (have := h.2 e; cases this)
  generalize a / HH = q at *
  omega
theorem B32_yes {x : Nat} (hx : x < R256) (h : x = 0) (w : World) : (Op.equalIn 10000 22 (.agg (B32 (bdig x))) (.agg (B32 (bdig 0)))).run Tryd.prog w = .ok true w :=
  (B32_eq x 0 hx (by decide) w).trans (by rw [decide_eq_true h])
theorem B32_no {x : Nat} (hx : x < R256) (h : x ≠ 0) (w : World) : (Op.equalIn 10000 22 (.agg (B32 (bdig x))) (.agg (B32 (bdig 0)))).run Tryd.prog w = .ok false w :=
  (B32_eq x 0 hx (by decide) w).trans (by rw [decide_eq_false h])
def factEq7 (D yy s e g v q x : Nat) (b : Bool) : Nat → Value → Prop
  | 0, vq => vq = .agg (B32 (bdig yy))
  | 1, vq => vq = .func (Fn.func 5) #[] #[]
  | 2, vq => vq = .agg (B32 (bdig 1))
  | 3, vq => vq = .agg (B32 (bdig s))
  | 4, vq => vq = .agg (B32 (bdig D))
  | 5, vq => vq = .agg (B32 (bdig yy))
  | 6, vq => vq = .agg (B32 (bdig e))
  | 7, vq => vq = .func (Fn.func 5) #[] #[]
  | 8, vq => vq = .agg (B32 (bdig 1))
  | 9, vq => vq = .agg (B32 (bdig g))
  | 10, vq => vq = .agg (B32 (bdig v))
  | 11, vq => vq = .agg (B32 (bdig q))
  | 12, vq => vq = .tuple #[.agg (B32 (bdig x)), .bool b]
  | 13, vq => vq = .tuple #[.agg (B32 (bdig x)), .bool b]
  | 14, vq => vq = .agg (B32 (bdig x))
  | 15, vq => vq = .bool b
  | 18, vq => vq = .bool b
  | 16, vq => ∃ g, vq = .pointer (some ⟨g, 0, none⟩)
  | _, _ => True
def valEqfnnt (a y : Nat) : Nat → Value
  | 0 => .agg (B32 (bdig a))
  | 1 => .bool false
  | 2 => .agg (B32 (bdig y))
  | 3 => .bool true
  | 4 => .bool true
  | 5 => .bool false
  | 6 => .bool false
  | 7 => .bool false
  | 8 => undef
  | 9 => undef
  | 10 => undef
  | 11 => undef
  | 12 => undef
  | 13 => undef
  | 14 => undef
  | 15 => undef
  | 16 => .bool false
  | 17 => .bool true
  | 18 => .bool true
  | 19 => .bool true
  | 20 => .bool true
  | 21 => .bool true
  | _ => undef
def valEqtnnt (a y : Nat) : Nat → Value
  | 0 => .agg (B32 (bdig a))
  | 1 => .bool false
  | 2 => .agg (B32 (bdig y))
  | 3 => .bool true
  | 4 => .bool true
  | 5 => .bool false
  | 6 => .bool false
  | 7 => .bool false
  | 8 => undef
  | 9 => undef
  | 10 => undef
  | 11 => undef
  | 12 => undef
  | 13 => undef
  | 14 => undef
  | 15 => undef
  | 16 => .bool false
  | 17 => .bool true
  | 18 => .bool true
  | 19 => .bool true
  | 20 => .bool true
  | 21 => .bool true
  | _ => undef
def valEqfbtt (a y x : Nat) : Nat → Value
  | 0 => .agg (B32 (bdig a))
  | 1 => .bool true
  | 2 => .agg (B32 (bdig y))
  | 3 => .bool true
  | 4 => .bool true
  | 5 => .bool true
  | 6 => .bool true
  | 7 => .bool true
  | 8 => .agg (B32 (bdig x))
  | 9 => .func (Fn.func 5) #[] #[]
  | 10 => .agg (B32 (bdig 0))
  | 11 => .bool true
  | 12 => .bool true
  | 13 => .bool false
  | 14 => .bool false
  | 15 => .bool true
  | 16 => .bool true
  | 17 => .bool true
  | 18 => .bool true
  | 19 => .bool true
  | 20 => .bool true
  | 21 => .bool true
  | _ => undef
def valEqfbft (a y x : Nat) : Nat → Value
  | 0 => .agg (B32 (bdig a))
  | 1 => .bool true
  | 2 => .agg (B32 (bdig y))
  | 3 => .bool true
  | 4 => .bool true
  | 5 => .bool true
  | 6 => .bool true
  | 7 => .bool true
  | 8 => .agg (B32 (bdig x))
  | 9 => .func (Fn.func 5) #[] #[]
  | 10 => .agg (B32 (bdig 0))
  | 11 => .bool false
  | 12 => .bool false
  | 13 => undef
  | 14 => .bool false
  | 15 => .bool true
  | 16 => .bool true
  | 17 => .bool true
  | 18 => .bool true
  | 19 => .bool true
  | 20 => .bool true
  | 21 => .bool true
  | _ => undef
def valEqtbtt (a y x : Nat) : Nat → Value
  | 0 => .agg (B32 (bdig a))
  | 1 => .bool false
  | 2 => .agg (B32 (bdig y))
  | 3 => .bool true
  | 4 => .bool true
  | 5 => .bool true
  | 6 => .bool true
  | 7 => .bool true
  | 8 => .agg (B32 (bdig x))
  | 9 => .func (Fn.func 5) #[] #[]
  | 10 => .agg (B32 (bdig 0))
  | 11 => .bool true
  | 12 => .bool true
  | 13 => .bool true
  | 14 => .bool true
  | 15 => .bool false
  | 16 => .bool false
  | 17 => .bool true
  | 18 => .bool true
  | 19 => .bool true
  | 20 => .bool true
  | 21 => .bool true
  | _ => undef
def valEqtbft (a y x : Nat) : Nat → Value
  | 0 => .agg (B32 (bdig a))
  | 1 => .bool true
  | 2 => .agg (B32 (bdig y))
  | 3 => .bool true
  | 4 => .bool true
  | 5 => .bool true
  | 6 => .bool true
  | 7 => .bool true
  | 8 => .agg (B32 (bdig x))
  | 9 => .func (Fn.func 5) #[] #[]
  | 10 => .agg (B32 (bdig 0))
  | 11 => .bool false
  | 12 => .bool false
  | 13 => undef
  | 14 => .bool false
  | 15 => .bool true
  | 16 => .bool true
  | 17 => .bool true
  | 18 => .bool true
  | 19 => .bool true
  | 20 => .bool true
  | 21 => .bool true
  | _ => undef
def valEqfvnf (a y : Nat) : Nat → Value
  | 0 => .agg (B32 (bdig a))
  | 1 => .bool false
  | 2 => .agg (B32 (bdig y))
  | 3 => .bool false
  | 4 => .bool false
  | 5 => undef
  | 6 => .bool false
  | 7 => .bool false
  | 8 => undef
  | 9 => undef
  | 10 => undef
  | 11 => undef
  | 12 => undef
  | 13 => undef
  | 14 => undef
  | 15 => undef
  | 16 => .bool false
  | 17 => .bool true
  | 18 => .bool true
  | 19 => .bool true
  | 20 => .bool true
  | 21 => .bool true
  | _ => undef
def valEqtvnf (a y : Nat) : Nat → Value
  | 0 => .agg (B32 (bdig a))
  | 1 => .bool false
  | 2 => .agg (B32 (bdig y))
  | 3 => .bool false
  | 4 => .bool false
  | 5 => undef
  | 6 => .bool false
  | 7 => .bool false
  | 8 => undef
  | 9 => undef
  | 10 => undef
  | 11 => undef
  | 12 => undef
  | 13 => undef
  | 14 => undef
  | 15 => undef
  | 16 => .bool false
  | 17 => .bool true
  | 18 => .bool true
  | 19 => .bool true
  | 20 => .bool true
  | 21 => .bool true
  | _ => undef

set_option maxRecDepth 100000 in
set_option maxHeartbeats 8000000 in
theorem cequation_any (F : Crv TC) (a : Nat) (ha' : a < R256) (w : World) (hT : TC w) : Calls Tryd.prog 3 #[.agg (B32 (bdig a))] w fun x w' => x = .returned (.bool true) ∧ Below w.heap.size w w' := by
  have ha := show Hid _ from ha'
  have hz := (zero_of_info zeroB32).1
  obtain ⟨y, Hy⟩ : ∃ y, Hid (a % HH = y) := ⟨_, rfl⟩
  have hy : Hid (y < R256) := by show _ < _; rw [← Hy.out]; exact Nat.lt_of_le_of_lt (Nat.mod_le _ _) ha.out
  obtain ⟨s0, Hs0⟩ : ∃ z, Hid (subp 0 121665 = z) := ⟨_, rfl⟩
  have hs0 : Hid (s0 < R256) := by show _ < _; rw [← Hs0.out]; exact subp_R _ _
  obtain ⟨i0, Hi0⟩ : ∃ z, Hid (finv 121666 = z) := ⟨_, rfl⟩
  have hi0 : Hid (i0 < R256) := by show _ < _; rw [← Hi0.out]; exact finv_lR _
  obtain ⟨D, HDd⟩ : ∃ z, Hid (dd = z) := ⟨_, rfl⟩
  have hD : Hid (D < R256) := by show _ < _; rw [← HDd.out]; exact ddR
  have HD : Hid (s0 * i0 % pp = D) := by show _ = _; rw [← HDd.out, ← Hs0.out, ← Hi0.out]; exact dd_law
  obtain ⟨yy, Hyy⟩ : ∃ z, Hid (y * y % pp = z) := ⟨_, rfl⟩
  have hyy : Hid (yy < R256) := by show _ < _; rw [← Hyy.out]; exact lt_of_mod
  obtain ⟨s, Hs⟩ : ∃ z, Hid (subp yy 1 = z) := ⟨_, rfl⟩
  have hs : Hid (s < R256) := by show _ < _; rw [← Hs.out]; exact subp_R _ _
  obtain ⟨e, He⟩ : ∃ z, Hid (D * yy % pp = z) := ⟨_, rfl⟩
  have he : Hid (e < R256) := by show _ < _; rw [← He.out]; exact lt_of_mod
  obtain ⟨g, Hg⟩ : ∃ z, Hid ((e + 1) % pp = z) := ⟨_, rfl⟩
  have hg : Hid (g < R256) := by show _ < _; rw [← Hg.out]; exact lt_of_mod
  obtain ⟨v, Hv⟩ : ∃ z, Hid (finv g = z) := ⟨_, rfl⟩
  have hv : Hid (v < R256) := by show _ < _; rw [← Hv.out]; exact finv_lR _
  obtain ⟨q, Hq⟩ : ∃ z, Hid (s * v % pp = z) := ⟨_, rfl⟩
  have hq : Hid (q < R256) := by show _ < _; rw [← Hq.out]; exact lt_of_mod
  have Hqu : Hid (usq y = q) := by show _ = _; rw [← Hq.out, ← Hs.out, ← Hv.out, ← Hg.out, ← He.out, ← Hyy.out, ← HDd.out]; rfl
  obtain ⟨x, b, hro, hcase⟩ := root_case (froot q)
  have Hro := show Hid _ from hro
  obtain ⟨o, hge, hod⟩ := odd_bool ha'
  have Hod := show Hid _ from hod
  have Hand := show Hid _ from and_top a
  obtain ⟨d31, Hd⟩ : ∃ d, Hid (bdig a 31 = d) := ⟨_, rfl⟩
  rw [Hd.out] at hge Hand
  obtain ⟨u, Hu⟩ : ∃ u, Hid (d31 % 128 = u) := ⟨_, rfl⟩
  rw [Hu.out] at Hand
  have Hge := show Hid _ from hge
  clear ha' hro hge hod
  go_enter Tryd.func3, Tryd.ntmps3
  go_upto_region 1 with fail
  have hK := (Kp.nil w).alloc (B32 (bdig a)) 22
  generalize w.alloc (.cells (B32 (bdig a)) 22) = W at *
  obtain ⟨bA, HbA⟩ : ∃ b, Hid (w.heap.size = b) := ⟨_, rfl⟩
  have le_bA : Hid (w.heap.size ≤ bA) := by show _ ≤ _; have := HbA.out; omega
  rw [HbA.out] at hK ⊢
  go_upto_region 2 with (first
    | refine wpList_load_own (by rfl) 22 (.tmp 1) (by rfl) bA (by rfl) (B32 (bdig a)) _ (hK.at bA (B32 (bdig a)) 22 (.head _)) Tryd.underlying22 (by rfl) (B32_info _) ?_
    | refine wpList_store_new (by rfl) 22 (.tmp 3) (.tmp 10) (by rfl) _ (B32 (bdig a)) (by rfl) (by rfl) (B32_info _) (B32_sizes _ _) (B32_one _) (by rfl) ?_)
  have lt_bA := (hK.at bA (B32 (bdig a)) 22 (.head _)).lt
  have le_b1 := show Hid _ from hK.2.size
  have hK := hK.alloc (B32 (bdig a)) 22
  generalize W.alloc (.cells (B32 (bdig a)) 22) = V2 at *
  obtain ⟨b1, Hb1⟩ : ∃ b, Hid (W.heap.size = b) := ⟨_, rfl⟩
  have ne_bA_b1 : Hid (bA ≠ b1) := by show _ ≠ _; rw [← Hb1.out]; exact Nat.ne_of_lt lt_bA
  have le_b1 : Hid (w.heap.size ≤ b1) := by show _ ≤ _; rw [← Hb1.out]; exact le_b1.out
  rw [Hb1.out] at hK ⊢
  clear lt_bA
  have cY : V2.cell? ⟨b1, 31, none⟩ = some (.int .u8 (d31 : Int)) := by rw [← Hd.out]; exact (hK.at b1 (B32 (bdig a)) 22 (.head _)).cell (B32_at (bdig a) 31 (by decide))
  have fY := (hK.at b1 (B32 (bdig a)) 22 (.head _)).frozen 31
  have hK := Kp.setCell (i := 31) (v := .int .u8 (u : Int)) hK (by simp only [List.forall_mem_cons, List.not_mem_nil, false_implies, implies_true, and_true]; exact ne_bA_b1.out) le_b1.out
  rw [B32_set _ 31 _ (by decide), ← Hu.out, ← Hd.out, B32_low ha.out, Hy.out, Hd.out, Hu.out] at hK
  have hand := show _ = _ from Hand.out
  go_upto_region 3 with fail
  generalize V2.setCell ⟨b1, 31, none⟩ (.int .u8 (u : Int)) = V0 at *
  clear cY fY hand
  have cA : V0.cell? ⟨bA, 31, none⟩ = some (.int .u8 (d31 : Int)) := by rw [← Hd.out]; exact (hK.at bA (B32 (bdig a)) 22 (.tail _ (.head _))).cell (B32_at (bdig a) 31 (by decide))
  have hge := show _ = _ from Hge.out
  go_upto_region 5 with fail
  clear cA hge
  go_wp2_with fail
  refine (num_any 0 (by decide) _).mono ?_
  rintro e V3 ⟨rfl, bw⟩
  have hK := hK.below bw
  clear bw
  go_wp2_with fail
  refine (num_any 121665 (by decide) _).mono ?_
  rintro e V4 ⟨rfl, bw⟩
  have hK := hK.below bw
  clear bw
  go_wp2_with fail
  refine (csub (by decide) (by decide) Hs0.out _ (TC.keep hT hK.2)).mono ?_
  rintro e V5 ⟨rfl, bw⟩
  have hK := hK.below bw
  clear bw
  go_wp2_with fail
  refine (num_any 121666 (by decide) _).mono ?_
  rintro e V6 ⟨rfl, bw⟩
  have hK := hK.below bw
  clear bw
  go_wp2_with fail
  refine (cinv (by decide) Hi0.out _ (TC.keep hT hK.2)).mono ?_
  rintro e V7 ⟨rfl, bw⟩
  have hK := hK.below bw
  clear bw
  go_wp2_with fail
  refine (cmul hs0.out hi0.out HD.out _ (TC.keep hT hK.2)).mono ?_
  rintro e V8 ⟨rfl, bw⟩
  have hK := hK.below bw
  clear bw
  go_upto_region 6 with (refine wpList_store_new (by rfl) 22 (.tmp 6) (.tmp 26) (by rfl) _ (B32 (bdig D)) (by rfl) (by rfl) (B32_info _) (B32_sizes _ _) (B32_one _) (by rfl) ?_)
  have lt_b1 := (hK.at b1 (B32 (bdig y)) 22 (.head _)).lt
  have lt_bA := (hK.at bA (B32 (bdig a)) 22 (.tail _ (.head _))).lt
  have le_b9 := show Hid _ from hK.2.size
  have hK := hK.alloc (B32 (bdig D)) 22
  generalize V8.alloc (.cells (B32 (bdig D)) 22) = V10 at *
  obtain ⟨b9, Hb9⟩ : ∃ b, Hid (V8.heap.size = b) := ⟨_, rfl⟩
  have ne_b1_b9 : Hid (b1 ≠ b9) := by show _ ≠ _; rw [← Hb9.out]; exact Nat.ne_of_lt lt_b1
  have ne_bA_b9 : Hid (bA ≠ b9) := by show _ ≠ _; rw [← Hb9.out]; exact Nat.ne_of_lt lt_bA
  have le_b9 : Hid (w.heap.size ≤ b9) := by show _ ≤ _; rw [← Hb9.out]; exact le_b9.out
  rw [Hb9.out] at hK ⊢
  clear lt_b1 lt_bA
  go_wp2_with (first
    | refine wpList_load_own (by rfl) 22 (.tmp 3) (by rfl) b1 (by rfl) (B32 (bdig y)) _ (hK.at b1 (B32 (bdig y)) 22 (.tail _ (.head _))) Tryd.underlying22 (by rfl) (B32_info _) ?_
    | refine wpList_load_own (by rfl) 22 (.tmp 3) (by rfl) b1 (by rfl) (B32 (bdig y)) _ (hK.at b1 (B32 (bdig y)) 22 (.tail _ (.head _))) Tryd.underlying22 (by rfl) (B32_info _) ?_)
  refine (cmul hy.out hy.out Hyy.out _ (TC.keep hT hK.2)).mono ?_
  rintro e V11 ⟨rfl, bw⟩
  have hK := hK.below bw
  clear bw
  go_upto_region 7 with (refine wpList_store_new (by rfl) 22 (.tmp 7) (.tmp 29) (by rfl) _ (B32 (bdig yy)) (by rfl) (by rfl) (B32_info _) (B32_sizes _ _) (B32_one _) (by rfl) ?_)
  have lt_b9 := (hK.at b9 (B32 (bdig D)) 22 (.head _)).lt
  have lt_b1 := (hK.at b1 (B32 (bdig y)) 22 (.tail _ (.head _))).lt
  have lt_bA := (hK.at bA (B32 (bdig a)) 22 (.tail _ (.tail _ (.head _)))).lt
  have le_b12 := show Hid _ from hK.2.size
  have hK := hK.alloc (B32 (bdig yy)) 22
  generalize V11.alloc (.cells (B32 (bdig yy)) 22) = V13 at *
  obtain ⟨b12, Hb12⟩ : ∃ b, Hid (V11.heap.size = b) := ⟨_, rfl⟩
  have ne_b9_b12 : Hid (b9 ≠ b12) := by show _ ≠ _; rw [← Hb12.out]; exact Nat.ne_of_lt lt_b9
  have ne_b1_b12 : Hid (b1 ≠ b12) := by show _ ≠ _; rw [← Hb12.out]; exact Nat.ne_of_lt lt_b1
  have ne_bA_b12 : Hid (bA ≠ b12) := by show _ ≠ _; rw [← Hb12.out]; exact Nat.ne_of_lt lt_bA
  have le_b12 : Hid (w.heap.size ≤ b12) := by show _ ≤ _; rw [← Hb12.out]; exact le_b12.out
  rw [Hb12.out] at hK ⊢
  clear lt_b9 lt_b1 lt_bA
  refine wp_region_told 67 (by kernel_rfl) (by kernel_rfl) (by rfl) (factEq7 D yy s e g v q x b) (fun L vs => MkN 1 [(b12, B32 (bdig yy), 22), (b9, B32 (bdig D), 22), (b1, B32 (bdig y), 22), (bA, B32 (bdig a), 22)] w (fun _ => B32 fun _ => 0) (fun _ => B32 (bdig x)) (fun _ => 22) (fun i => L (16 + i)) (fun i => L (17 + i)) (fun i => vs (16 + i))) (fun _ => MkN.drew hK (fun _ _ => rfl)) ?_ ?_
  · intro L vs ac wc i o hF hLi ho hd K hK
    rcases i with _ | _ | _ | _ | _ | _ | _ | _ | _ | _ | _ | _ | _ | _ | _ | _ | _ | _ | _ | i
    · have ho' := ho
      obtain rfl := Option.some.inj ho
      have f7 : ac.tmps.getD 7 undef = .pointer (some ⟨b12, 0, none⟩) := slott hF 0 hLi 7 (by kernel_rfl)
      refine step_do ho' (wanted_free rfl) ?_
      exact wp_load_own 22 (.tmp 7) rfl b12 f7 (B32 (bdig yy)) _ 22 (hF.j.1.at b12 (B32 (bdig yy)) 22 (.head _)) Tryd.underlying22 rfl (B32_info _) (hK _ _ (.inr rfl) (hF.j.congr (fun i hi => if_off (by decide) hi) (fun i hi => if_off (by decide) hi) (fun i hi => if_off (by decide) hi)))
    · have ho' := ho
      obtain rfl := Option.some.inj ho
      have f5 : ac.tmps.getD 5 undef = .func (Fn.func 5) #[] #[] := slott hF 1 hLi 5 (by kernel_rfl)
      refine step_do ho' (wanted_free rfl) ?_
      unfold Oper.wp
      go_simp
      exact hK _ _ (.inr rfl) (hF.j.congr (fun i hi => if_off (by decide) hi) (fun i hi => if_off (by decide) hi) (fun i hi => if_off (by decide) hi))
    · have ho' := ho
      obtain rfl := Option.some.inj ho
      have f32 : ac.tmps.getD 32 undef = .func (Fn.func 5) #[] #[] := (factt hF hd 1 rfl rfl (by kernel_rfl)).1.trans (factt hF hd 1 rfl rfl (by kernel_rfl)).2
      refine step_do ho' (wanted_free rfl) ?_
      unfold Oper.wp
      go_simp
      refine (num_any 1 (by decide) _).mono ?_
      rintro e w' ⟨rfl, hB⟩
      exact hK _ _ (.inr rfl) ((hF.j.congr (fun i hi => if_off (by decide) hi) (fun i hi => if_off (by decide) hi) (fun i hi => if_off (by decide) hi)).below hB)
    · have ho' := ho
      obtain rfl := Option.some.inj ho
      have f31 : ac.tmps.getD 31 undef = .agg (B32 (bdig yy)) := (factt hF hd 0 rfl rfl (by kernel_rfl)).1.trans (factt hF hd 0 rfl rfl (by kernel_rfl)).2
      have f33 : ac.tmps.getD 33 undef = .agg (B32 (bdig 1)) := (factt hF hd 2 rfl rfl (by kernel_rfl)).1.trans (factt hF hd 2 rfl rfl (by kernel_rfl)).2
      refine step_do ho' (wanted_free rfl) ?_
      unfold Oper.wp
      go_simp
      refine (csub hyy.out one_R Hs.out _ (TC.keep hT hF.j.1.2)).mono ?_
      rintro e w' ⟨rfl, hB⟩
      exact hK _ _ (.inr rfl) ((hF.j.congr (fun i hi => if_off (by decide) hi) (fun i hi => if_off (by decide) hi) (fun i hi => if_off (by decide) hi)).below hB)
    · have ho' := ho
      obtain rfl := Option.some.inj ho
      have f6 : ac.tmps.getD 6 undef = .pointer (some ⟨b9, 0, none⟩) := slott hF 4 hLi 6 (by kernel_rfl)
      refine step_do ho' (wanted_free rfl) ?_
      exact wp_load_own 22 (.tmp 6) rfl b9 f6 (B32 (bdig D)) _ 22 (hF.j.1.at b9 (B32 (bdig D)) 22 (.tail _ (.head _))) Tryd.underlying22 rfl (B32_info _) (hK _ _ (.inr rfl) (hF.j.congr (fun i hi => if_off (by decide) hi) (fun i hi => if_off (by decide) hi) (fun i hi => if_off (by decide) hi)))
    · have ho' := ho
      obtain rfl := Option.some.inj ho
      have f7 : ac.tmps.getD 7 undef = .pointer (some ⟨b12, 0, none⟩) := slott hF 5 hLi 7 (by kernel_rfl)
      refine step_do ho' (wanted_free rfl) ?_
      exact wp_load_own 22 (.tmp 7) rfl b12 f7 (B32 (bdig yy)) _ 22 (hF.j.1.at b12 (B32 (bdig yy)) 22 (.head _)) Tryd.underlying22 rfl (B32_info _) (hK _ _ (.inr rfl) (hF.j.congr (fun i hi => if_off (by decide) hi) (fun i hi => if_off (by decide) hi) (fun i hi => if_off (by decide) hi)))
    · have ho' := ho
      obtain rfl := Option.some.inj ho
      have f35 : ac.tmps.getD 35 undef = .agg (B32 (bdig D)) := (factt hF hd 4 rfl rfl (by kernel_rfl)).1.trans (factt hF hd 4 rfl rfl (by kernel_rfl)).2
      have f36 : ac.tmps.getD 36 undef = .agg (B32 (bdig yy)) := (factt hF hd 5 rfl rfl (by kernel_rfl)).1.trans (factt hF hd 5 rfl rfl (by kernel_rfl)).2
      refine step_do ho' (wanted_free rfl) ?_
      unfold Oper.wp
      go_simp
      refine (cmul hD.out hyy.out He.out _ (TC.keep hT hF.j.1.2)).mono ?_
      rintro e w' ⟨rfl, hB⟩
      exact hK _ _ (.inr rfl) ((hF.j.congr (fun i hi => if_off (by decide) hi) (fun i hi => if_off (by decide) hi) (fun i hi => if_off (by decide) hi)).below hB)
    · have ho' := ho
      obtain rfl := Option.some.inj ho
      have f5 : ac.tmps.getD 5 undef = .func (Fn.func 5) #[] #[] := slott hF 7 hLi 5 (by kernel_rfl)
      refine step_do ho' (wanted_free rfl) ?_
      unfold Oper.wp
      go_simp
      exact hK _ _ (.inr rfl) (hF.j.congr (fun i hi => if_off (by decide) hi) (fun i hi => if_off (by decide) hi) (fun i hi => if_off (by decide) hi))
    · have ho' := ho
      obtain rfl := Option.some.inj ho
      have f38 : ac.tmps.getD 38 undef = .func (Fn.func 5) #[] #[] := (factt hF hd 7 rfl rfl (by kernel_rfl)).1.trans (factt hF hd 7 rfl rfl (by kernel_rfl)).2
      refine step_do ho' (wanted_free rfl) ?_
      unfold Oper.wp
      go_simp
      refine (num_any 1 (by decide) _).mono ?_
      rintro e w' ⟨rfl, hB⟩
      exact hK _ _ (.inr rfl) ((hF.j.congr (fun i hi => if_off (by decide) hi) (fun i hi => if_off (by decide) hi) (fun i hi => if_off (by decide) hi)).below hB)
    · have ho' := ho
      obtain rfl := Option.some.inj ho
      have f37 : ac.tmps.getD 37 undef = .agg (B32 (bdig e)) := (factt hF hd 6 rfl rfl (by kernel_rfl)).1.trans (factt hF hd 6 rfl rfl (by kernel_rfl)).2
      have f39 : ac.tmps.getD 39 undef = .agg (B32 (bdig 1)) := (factt hF hd 8 rfl rfl (by kernel_rfl)).1.trans (factt hF hd 8 rfl rfl (by kernel_rfl)).2
      refine step_do ho' (wanted_free rfl) ?_
      unfold Oper.wp
      go_simp
      refine (cadd he.out one_R Hg.out _ (TC.keep hT hF.j.1.2)).mono ?_
      rintro e w' ⟨rfl, hB⟩
      exact hK _ _ (.inr rfl) ((hF.j.congr (fun i hi => if_off (by decide) hi) (fun i hi => if_off (by decide) hi) (fun i hi => if_off (by decide) hi)).below hB)
    · have ho' := ho
      obtain rfl := Option.some.inj ho
      have f40 : ac.tmps.getD 40 undef = .agg (B32 (bdig g)) := (factt hF hd 9 rfl rfl (by kernel_rfl)).1.trans (factt hF hd 9 rfl rfl (by kernel_rfl)).2
      refine step_do ho' (wanted_free rfl) ?_
      unfold Oper.wp
      go_simp
      refine (cinv hg.out Hv.out _ (TC.keep hT hF.j.1.2)).mono ?_
      rintro e w' ⟨rfl, hB⟩
      exact hK _ _ (.inr rfl) ((hF.j.congr (fun i hi => if_off (by decide) hi) (fun i hi => if_off (by decide) hi) (fun i hi => if_off (by decide) hi)).below hB)
    · have ho' := ho
      obtain rfl := Option.some.inj ho
      have f34 : ac.tmps.getD 34 undef = .agg (B32 (bdig s)) := (factt hF hd 3 rfl rfl (by kernel_rfl)).1.trans (factt hF hd 3 rfl rfl (by kernel_rfl)).2
      have f41 : ac.tmps.getD 41 undef = .agg (B32 (bdig v)) := (factt hF hd 10 rfl rfl (by kernel_rfl)).1.trans (factt hF hd 10 rfl rfl (by kernel_rfl)).2
      refine step_do ho' (wanted_free rfl) ?_
      unfold Oper.wp
      go_simp
      refine (cmul hs.out hv.out Hq.out _ (TC.keep hT hF.j.1.2)).mono ?_
      rintro e w' ⟨rfl, hB⟩
      exact hK _ _ (.inr rfl) ((hF.j.congr (fun i hi => if_off (by decide) hi) (fun i hi => if_off (by decide) hi) (fun i hi => if_off (by decide) hi)).below hB)
    · have ho' := ho
      obtain rfl := Option.some.inj ho
      have f42 : ac.tmps.getD 42 undef = .agg (B32 (bdig q)) := (factt hF hd 11 rfl rfl (by kernel_rfl)).1.trans (factt hF hd 11 rfl rfl (by kernel_rfl)).2
      refine step_do ho' (wanted_free rfl) ?_
      unfold Oper.wp
      go_simp
      refine (croot hq.out Hro.out _ (TC.keep hT hF.j.1.2)).mono ?_
      rintro e w' ⟨rfl, hB⟩
      exact hK _ _ (.inr rfl) ((hF.j.congr (fun i hi => if_off (by decide) hi) (fun i hi => if_off (by decide) hi) (fun i hi => if_off (by decide) hi)).below hB)
    · have ho' := ho
      obtain rfl := Option.some.inj ho
      have f43 : ac.tmps.getD 43 undef = .tuple #[.agg (B32 (bdig x)), .bool b] := (factt hF hd 12 rfl rfl (by kernel_rfl)).1.trans (factt hF hd 12 rfl rfl (by kernel_rfl)).2
      refine step_do ho' (wanted_free rfl) ?_
      unfold Oper.wp
      go_simp
      exact hK _ _ (.inr rfl) (hF.j.congr (fun i hi => if_off (by decide) hi) (fun i hi => if_off (by decide) hi) (fun i hi => if_off (by decide) hi))
    · have ho' := ho
      obtain rfl := Option.some.inj ho
      have f30 : ac.tmps.getD 30 undef = .tuple #[.agg (B32 (bdig x)), .bool b] := (factt hF hd 13 rfl rfl (by kernel_rfl)).1.trans (factt hF hd 13 rfl rfl (by kernel_rfl)).2
      refine step_do ho' (wanted_free rfl) ?_
      unfold Oper.wp
      go_simp
      exact hK _ _ (.inr rfl) (hF.j.congr (fun i hi => if_off (by decide) hi) (fun i hi => if_off (by decide) hi) (fun i hi => if_off (by decide) hi))
    · have ho' := ho
      obtain rfl := Option.some.inj ho
      have f30 : ac.tmps.getD 30 undef = .tuple #[.agg (B32 (bdig x)), .bool b] := (factt hF hd 13 rfl rfl (by kernel_rfl)).1.trans (factt hF hd 13 rfl rfl (by kernel_rfl)).2
      refine step_do ho' (wanted_free rfl) ?_
      unfold Oper.wp
      go_simp
      exact hK _ _ (.inr rfl) (hF.j.congr (fun i hi => if_off (by decide) hi) (fun i hi => if_off (by decide) hi) (fun i hi => if_off (by decide) hi))
    · have ho' := ho
      obtain rfl := Option.some.inj ho
      refine step_do ho' (wanted_free rfl) ?_
      have hs := notyett hF 16 hLi 17 rfl (by kernel_rfl)
      unfold Oper.wp
      go_simp
      exact hK _ _ (.inr ⟨_, rfl⟩) (hF.j.alloc 0 (fun i _ hne => if_oth (k := 0) rfl hne) (fun i hi => if_off (by decide) hi) (fun i _ hne => if_oth (k := 0) rfl hne) rfl hs)
    · have ho' := ho
      obtain rfl := Option.some.inj ho
      have f44 : ac.tmps.getD 44 undef = .agg (B32 (bdig x)) := (factt hF hd 14 rfl rfl (by kernel_rfl)).1.trans (factt hF hd 14 rfl rfl (by kernel_rfl)).2
      refine step_do ho' (wanted_free rfl) ?_
      obtain ⟨fg, gq, hg⟩ := factt hF hd 16 rfl rfl (by kernel_rfl)
      have hm := dep hd 16 (by kernel_rfl)
      have hj := hF.j
      rw [hg] at fg
      have hj2 := hj.at (k := 0) (by decide) hm hg hLi
      refine wp_store_own 22 (.tmp 8) (.tmp 44) rfl gq (B32 (bdig x)) fg f44 hj2.2.2 (B32_sizes _ _) (B32_info _) (B32_one _) rfl ?_
      exact hK undef _ (.inl rfl) (hj.store (k := 0) (by decide) hm hg hLi (B32_sizes _ _) (fun i hi => if_off (by decide) hi) (fun i _ hne => if_oth (k := 0) rfl hne) (fun i hi => if_off (by decide) hi) rfl)
    · have ho' := ho
      obtain rfl := Option.some.inj ho
      have f45 : ac.tmps.getD 45 undef = .bool b := (factt hF hd 15 rfl rfl (by kernel_rfl)).1.trans (factt hF hd 15 rfl rfl (by kernel_rfl)).2
      refine step_do ho' (wanted_free rfl) ?_
      unfold Oper.wp
      go_simp
      exact hK _ _ (.inr rfl) (hF.j.congr (fun i hi => if_off (by decide) hi) (fun i hi => if_off (by decide) hi) (fun i hi => if_off (by decide) hi))
    · cases ho
  intro L vs V14 hL hJ hf
  obtain ⟨g15, hgg15⟩ := hf 16 _ _ rfl rfl
  obtain ⟨le0, apg15, owng15⟩ := hJ.got (k := 0) (by decide) (hL 16 (by decide)) hgg15 (hL 17 (by decide))
  have le_g15 := show Hid _ from le0
  clear le0
  have hK : Kp [(g15, B32 (bdig x), 22), (b12, B32 (bdig yy), 22), (b9, B32 (bdig D), 22), (b1, B32 (bdig y), 22), (bA, B32 (bdig a), 22)] w V14 := (hJ.1.cons owng15)
  have e0 : vs 0 = _ := hf 0 _ _ rfl rfl
  have e1 : vs 1 = _ := hf 1 _ _ rfl rfl
  have e2 : vs 2 = _ := hf 2 _ _ rfl rfl
  have e3 : vs 3 = _ := hf 3 _ _ rfl rfl
  have e4 : vs 4 = _ := hf 4 _ _ rfl rfl
  have e5 : vs 5 = _ := hf 5 _ _ rfl rfl
  have e6 : vs 6 = _ := hf 6 _ _ rfl rfl
  have e7 : vs 7 = _ := hf 7 _ _ rfl rfl
  have e8 : vs 8 = _ := hf 8 _ _ rfl rfl
  have e9 : vs 9 = _ := hf 9 _ _ rfl rfl
  have e10 : vs 10 = _ := hf 10 _ _ rfl rfl
  have e11 : vs 11 = _ := hf 11 _ _ rfl rfl
  have e12 : vs 12 = _ := hf 12 _ _ rfl rfl
  have e13 : vs 13 = _ := hf 13 _ _ rfl rfl
  have e14 : vs 14 = _ := hf 14 _ _ rfl rfl
  have e15 : vs 15 = _ := hf 15 _ _ rfl rfl
  have e18 : vs 18 = _ := hf 18 _ _ rfl rfl
  simp only [putAll, Nat.zero_add, Nat.reduceAdd, e0, e1, e2, e3, e4, e5, e6, e7, e8, e9, e10, e11, e12, e13, e14, e15, e18, hgg15, Act.put, List.setIfInBounds_toArray, List.set_cons_succ, List.set_cons_zero]
  clear hJ hf hL e0 e1 e2 e3 e4 e5 e6 e7 e8 e9 e10 e11 e12 e13 e14 e15 e18 hgg15 apg15 owng15
  go_upto_region 8 with fail
  have hK : Kp [(g15, B32 (bdig x), 22), (b1, B32 (bdig y), 22), (bA, B32 (bdig a), 22)] w V14 := (((hK.none.cons (hK.at bA (B32 (bdig a)) 22 (.tail _ (.tail _ (.tail _ (.tail _ (.head _))))))).cons (hK.at b1 (B32 (bdig y)) 22 (.tail _ (.tail _ (.tail _ (.head _)))))).cons (hK.at g15 (B32 (bdig x)) 22 (.head _)))
  by_cases hlt : y < pp
  · have Hlt := show Hid _ from hlt
    have hyH : a % HH < pp := by rw [Hy.out]; exact hlt
    clear hlt
    rcases hcase with ⟨hf, rfl⟩ | ⟨hf, rfl⟩
    · have Hca : Hid (∀ w, TC w → Calls Tryd.prog 11 #[.agg (B32 (bdig a))] w fun x w' => x = .returned (.bool false) ∧ Below w.heap.size w w') := fun w hT => F.check_not a ha.out (dec_noroot (by rw [Hy.out, Hqu.out]; exact hf)) w hT
      clear hf
      cases o
      · skip
        refine wp_region_vals 67 (by kernel_rfl) (by kernel_rfl) (by rfl) (valEqfnnt a y) (fun _ => Kp [(g15, B32 (bdig x), 22), (b1, B32 (bdig y), 22), (bA, B32 (bdig a), 22)] w) hK.drew ?_ ?_
        · intro L ac wc i o hF hLi ho hd K hK
          rcases i with _ | _ | _ | _ | _ | _ | _ | _ | _ | _ | _ | _ | _ | _ | _ | _ | _ | _ | _ | _ | _ | _ | i
          · have ho' := ho
            obtain rfl := Option.some.inj ho
            have f1 : ac.tmps.getD 1 undef = .pointer (some ⟨bA, 0, none⟩) := slotv hF 0 hLi 1 (by kernel_rfl)
            refine step_do ho' (wanted_free rfl) ?_
            exact wp_load_own 22 (.tmp 1) rfl bA f1 (B32 (bdig a)) _ 22 (hF.j.at bA (B32 (bdig a)) 22 (.tail _ (.tail _ (.head _)))) Tryd.underlying22 rfl (B32_info _) (hK _ _ (.inr rfl) hF.j)
          · have ho' := ho
            obtain rfl := Option.some.inj ho
            have f46 : ac.tmps.getD 46 undef = .agg (B32 (bdig a)) := valv hF hd 0 rfl rfl (by kernel_rfl)
            refine step_do ho' (wanted_free rfl) ?_
            unfold Oper.wp
            go_simp
            refine (Hca.out _ (TC.keep hT hF.j.2)).mono ?_
            rintro e w' ⟨rfl, hB⟩
            exact hK _ _ (.inr rfl) (hF.j.below hB)
          · have ho' := ho
            obtain rfl := Option.some.inj ho
            have f3 : ac.tmps.getD 3 undef = .pointer (some ⟨b1, 0, none⟩) := slotv hF 2 hLi 3 (by kernel_rfl)
            refine step_do ho' (wanted_free rfl) ?_
            exact wp_load_own 22 (.tmp 3) rfl b1 f3 (B32 (bdig y)) _ 22 (hF.j.at b1 (B32 (bdig y)) 22 (.tail _ (.head _))) Tryd.underlying22 rfl (B32_info _) (hK _ _ (.inr rfl) hF.j)
          · have ho' := ho
            obtain rfl := Option.some.inj ho
            have f48 : ac.tmps.getD 48 undef = .agg (B32 (bdig y)) := valv hF hd 2 rfl rfl (by kernel_rfl)
            refine step_do ho' (wanted_free rfl) ?_
            unfold Oper.wp
            go_simp
            refine (ccheck_yes hy.out Hlt.out _ (TC.keep hT hF.j.2)).mono ?_
            rintro e w' ⟨rfl, hB⟩
            exact hK _ _ (.inr rfl) (hF.j.below hB)
          · have ho' := ho
            obtain rfl := Option.some.inj ho
            have f49 : ac.tmps.getD 49 undef = .bool true := valv hF hd 3 rfl rfl (by kernel_rfl)
            refine step_do ho' (wanted_free rfl) ?_
            unfold Oper.wp
            go_simp
            exact hK _ _ (.inr rfl) hF.j
          · have ho' := ho
            obtain rfl := Option.some.inj ho
            have f9 : ac.tmps.getD 9 undef = .bool false := slotv hF 5 hLi 9 (by kernel_rfl)
            have fg : ac.tmps.getD 50 undef = .bool true := valv hF hd 4 rfl rfl (by kernel_rfl)
            refine step_do ho' (wanted_so (g := 4) rfl rfl rfl fg) ?_
            unfold Oper.wp
            go_simp
            exact hK _ _ (.inr rfl) hF.j
          · have ho' := ho
            obtain rfl := Option.some.inj ho
            have f50 : ac.tmps.getD 50 undef = .bool true := valv hF hd 4 rfl rfl (by kernel_rfl)
            have f51 : ac.tmps.getD 51 undef = .bool false := valv hF hd 5 rfl rfl (by kernel_rfl)
            refine step_do ho' (wanted_free rfl) ?_
            unfold Oper.wp
            go_simp
            exact hK _ _ (.inr rfl) hF.j
          · have ho' := ho
            obtain rfl := Option.some.inj ho
            have f52 : ac.tmps.getD 52 undef = .bool false := valv hF hd 6 rfl rfl (by kernel_rfl)
            refine step_do ho' (wanted_free rfl) ?_
            unfold Oper.wp
            go_simp
            exact hK _ _ (.inr rfl) hF.j
          · have ho' := ho
            obtain rfl := Option.some.inj ho
            have fg : ac.tmps.getD 53 undef = .bool false := valv hF hd 7 rfl rfl (by kernel_rfl)
            exact step_pass ho' (wanted_not (g := 7) rfl rfl rfl fg (by decide)) (hK _ _ (.inr rfl) hF.j)
          · have ho' := ho
            obtain rfl := Option.some.inj ho
            have fg : ac.tmps.getD 53 undef = .bool false := valv hF hd 7 rfl rfl (by kernel_rfl)
            exact step_pass ho' (wanted_not (g := 7) rfl rfl rfl fg (by decide)) (hK _ _ (.inr rfl) hF.j)
          · have ho' := ho
            obtain rfl := Option.some.inj ho
            have fg : ac.tmps.getD 53 undef = .bool false := valv hF hd 7 rfl rfl (by kernel_rfl)
            exact step_pass ho' (wanted_not (g := 7) rfl rfl rfl fg (by decide)) (hK _ _ (.inr rfl) hF.j)
          · have ho' := ho
            obtain rfl := Option.some.inj ho
            have fg : ac.tmps.getD 53 undef = .bool false := valv hF hd 7 rfl rfl (by kernel_rfl)
            exact step_pass ho' (wanted_not (g := 7) rfl rfl rfl fg (by decide)) (hK _ _ (.inr rfl) hF.j)
          · have ho' := ho
            obtain rfl := Option.some.inj ho
            have fg : ac.tmps.getD 53 undef = .bool false := valv hF hd 7 rfl rfl (by kernel_rfl)
            exact step_pass ho' (wanted_not (g := 7) rfl rfl rfl fg (by decide)) (hK _ _ (.inr rfl) hF.j)
          · have ho' := ho
            obtain rfl := Option.some.inj ho
            have fg : ac.tmps.getD 58 undef = undef := valv hF hd 12 rfl rfl (by kernel_rfl)
            exact step_pass ho' (wanted_undef3 (g := 12) rfl rfl rfl fg) (hK _ _ (.inr rfl) hF.j)
          · have ho' := ho
            obtain rfl := Option.some.inj ho
            have fg : ac.tmps.getD 53 undef = .bool false := valv hF hd 7 rfl rfl (by kernel_rfl)
            exact step_pass ho' (wanted_not (g := 7) rfl rfl rfl fg (by decide)) (hK _ _ (.inr rfl) hF.j)
          · have ho' := ho
            obtain rfl := Option.some.inj ho
            have fg : ac.tmps.getD 53 undef = .bool false := valv hF hd 7 rfl rfl (by kernel_rfl)
            exact step_pass ho' (wanted_not (g := 7) rfl rfl rfl fg (by decide)) (hK _ _ (.inr rfl) hF.j)
          · have ho' := ho
            obtain rfl := Option.some.inj ho
            have f53 : ac.tmps.getD 53 undef = .bool false := valv hF hd 7 rfl rfl (by kernel_rfl)
            have f61 : ac.tmps.getD 61 undef = undef := valv hF hd 15 rfl rfl (by kernel_rfl)
            refine step_do ho' (wanted_free rfl) ?_
            unfold Oper.wp
            go_simp
            exact hK _ _ (.inr rfl) hF.j
          · have ho' := ho
            obtain rfl := Option.some.inj ho
            have f47 : ac.tmps.getD 47 undef = .bool false := valv hF hd 1 rfl rfl (by kernel_rfl)
            have f62 : ac.tmps.getD 62 undef = .bool false := valv hF hd 16 rfl rfl (by kernel_rfl)
            refine step_do ho' (wanted_free rfl) ?_
            unfold Oper.wp
            go_simp
            exact hK _ _ (.inr rfl) hF.j
          · have ho' := ho
            obtain rfl := Option.some.inj ho
            have f63 : ac.tmps.getD 63 undef = .bool true := valv hF hd 17 rfl rfl (by kernel_rfl)
            refine step_do ho' (wanted_free rfl) ?_
            unfold Oper.wp
            go_simp
            exact hK _ _ (.inr rfl) hF.j
          · have ho' := ho
            obtain rfl := Option.some.inj ho
            have fg : ac.tmps.getD 64 undef = .bool true := valv hF hd 18 rfl rfl (by kernel_rfl)
            refine step_do ho' (wanted_so (g := 18) rfl rfl rfl fg) ?_
            unfold Oper.wp
            go_simp
            refine (cwakes_any F _ (TC.keep hT hF.j.2)).mono ?_
            rintro e w' ⟨rfl, hB⟩
            exact hK _ _ (.inr rfl) (hF.j.below hB)
          · have ho' := ho
            obtain rfl := Option.some.inj ho
            have f64 : ac.tmps.getD 64 undef = .bool true := valv hF hd 18 rfl rfl (by kernel_rfl)
            have f65 : ac.tmps.getD 65 undef = .bool true := valv hF hd 19 rfl rfl (by kernel_rfl)
            refine step_do ho' (wanted_free rfl) ?_
            unfold Oper.wp
            go_simp
            exact hK _ _ (.inr rfl) hF.j
          · have ho' := ho
            obtain rfl := Option.some.inj ho
            have f66 : ac.tmps.getD 66 undef = .bool true := valv hF hd 20 rfl rfl (by kernel_rfl)
            refine step_do ho' (wanted_free rfl) ?_
            unfold Oper.wp
            go_simp
            exact hK _ _ (.inr rfl) hF.j
          · cases ho
        intro L V16 hL hKq
        have hK : Kp [(g15, B32 (bdig x), 22), (b1, B32 (bdig y), 22), (bA, B32 (bdig a), 22)] w V16 := hKq
        clear hKq hL
        simp only [putAll, valEqfnnt, Act.put, List.setIfInBounds_toArray, List.set_cons_succ, List.set_cons_zero]
        go_wp2_with fail
        go_ret
        exact ⟨rfl, hK.2⟩
      · skip
        refine wp_region_vals 67 (by kernel_rfl) (by kernel_rfl) (by rfl) (valEqtnnt a y) (fun _ => Kp [(g15, B32 (bdig x), 22), (b1, B32 (bdig y), 22), (bA, B32 (bdig a), 22)] w) hK.drew ?_ ?_
        · intro L ac wc i o hF hLi ho hd K hK
          rcases i with _ | _ | _ | _ | _ | _ | _ | _ | _ | _ | _ | _ | _ | _ | _ | _ | _ | _ | _ | _ | _ | _ | i
          · have ho' := ho
            obtain rfl := Option.some.inj ho
            have f1 : ac.tmps.getD 1 undef = .pointer (some ⟨bA, 0, none⟩) := slotv hF 0 hLi 1 (by kernel_rfl)
            refine step_do ho' (wanted_free rfl) ?_
            exact wp_load_own 22 (.tmp 1) rfl bA f1 (B32 (bdig a)) _ 22 (hF.j.at bA (B32 (bdig a)) 22 (.tail _ (.tail _ (.head _)))) Tryd.underlying22 rfl (B32_info _) (hK _ _ (.inr rfl) hF.j)
          · have ho' := ho
            obtain rfl := Option.some.inj ho
            have f46 : ac.tmps.getD 46 undef = .agg (B32 (bdig a)) := valv hF hd 0 rfl rfl (by kernel_rfl)
            refine step_do ho' (wanted_free rfl) ?_
            unfold Oper.wp
            go_simp
            refine (Hca.out _ (TC.keep hT hF.j.2)).mono ?_
            rintro e w' ⟨rfl, hB⟩
            exact hK _ _ (.inr rfl) (hF.j.below hB)
          · have ho' := ho
            obtain rfl := Option.some.inj ho
            have f3 : ac.tmps.getD 3 undef = .pointer (some ⟨b1, 0, none⟩) := slotv hF 2 hLi 3 (by kernel_rfl)
            refine step_do ho' (wanted_free rfl) ?_
            exact wp_load_own 22 (.tmp 3) rfl b1 f3 (B32 (bdig y)) _ 22 (hF.j.at b1 (B32 (bdig y)) 22 (.tail _ (.head _))) Tryd.underlying22 rfl (B32_info _) (hK _ _ (.inr rfl) hF.j)
          · have ho' := ho
            obtain rfl := Option.some.inj ho
            have f48 : ac.tmps.getD 48 undef = .agg (B32 (bdig y)) := valv hF hd 2 rfl rfl (by kernel_rfl)
            refine step_do ho' (wanted_free rfl) ?_
            unfold Oper.wp
            go_simp
            refine (ccheck_yes hy.out Hlt.out _ (TC.keep hT hF.j.2)).mono ?_
            rintro e w' ⟨rfl, hB⟩
            exact hK _ _ (.inr rfl) (hF.j.below hB)
          · have ho' := ho
            obtain rfl := Option.some.inj ho
            have f49 : ac.tmps.getD 49 undef = .bool true := valv hF hd 3 rfl rfl (by kernel_rfl)
            refine step_do ho' (wanted_free rfl) ?_
            unfold Oper.wp
            go_simp
            exact hK _ _ (.inr rfl) hF.j
          · have ho' := ho
            obtain rfl := Option.some.inj ho
            have f9 : ac.tmps.getD 9 undef = .bool false := slotv hF 5 hLi 9 (by kernel_rfl)
            have fg : ac.tmps.getD 50 undef = .bool true := valv hF hd 4 rfl rfl (by kernel_rfl)
            refine step_do ho' (wanted_so (g := 4) rfl rfl rfl fg) ?_
            unfold Oper.wp
            go_simp
            exact hK _ _ (.inr rfl) hF.j
          · have ho' := ho
            obtain rfl := Option.some.inj ho
            have f50 : ac.tmps.getD 50 undef = .bool true := valv hF hd 4 rfl rfl (by kernel_rfl)
            have f51 : ac.tmps.getD 51 undef = .bool false := valv hF hd 5 rfl rfl (by kernel_rfl)
            refine step_do ho' (wanted_free rfl) ?_
            unfold Oper.wp
            go_simp
            exact hK _ _ (.inr rfl) hF.j
          · have ho' := ho
            obtain rfl := Option.some.inj ho
            have f52 : ac.tmps.getD 52 undef = .bool false := valv hF hd 6 rfl rfl (by kernel_rfl)
            refine step_do ho' (wanted_free rfl) ?_
            unfold Oper.wp
            go_simp
            exact hK _ _ (.inr rfl) hF.j
          · have ho' := ho
            obtain rfl := Option.some.inj ho
            have fg : ac.tmps.getD 53 undef = .bool false := valv hF hd 7 rfl rfl (by kernel_rfl)
            exact step_pass ho' (wanted_not (g := 7) rfl rfl rfl fg (by decide)) (hK _ _ (.inr rfl) hF.j)
          · have ho' := ho
            obtain rfl := Option.some.inj ho
            have fg : ac.tmps.getD 53 undef = .bool false := valv hF hd 7 rfl rfl (by kernel_rfl)
            exact step_pass ho' (wanted_not (g := 7) rfl rfl rfl fg (by decide)) (hK _ _ (.inr rfl) hF.j)
          · have ho' := ho
            obtain rfl := Option.some.inj ho
            have fg : ac.tmps.getD 53 undef = .bool false := valv hF hd 7 rfl rfl (by kernel_rfl)
            exact step_pass ho' (wanted_not (g := 7) rfl rfl rfl fg (by decide)) (hK _ _ (.inr rfl) hF.j)
          · have ho' := ho
            obtain rfl := Option.some.inj ho
            have fg : ac.tmps.getD 53 undef = .bool false := valv hF hd 7 rfl rfl (by kernel_rfl)
            exact step_pass ho' (wanted_not (g := 7) rfl rfl rfl fg (by decide)) (hK _ _ (.inr rfl) hF.j)
          · have ho' := ho
            obtain rfl := Option.some.inj ho
            have fg : ac.tmps.getD 53 undef = .bool false := valv hF hd 7 rfl rfl (by kernel_rfl)
            exact step_pass ho' (wanted_not (g := 7) rfl rfl rfl fg (by decide)) (hK _ _ (.inr rfl) hF.j)
          · have ho' := ho
            obtain rfl := Option.some.inj ho
            have fg : ac.tmps.getD 58 undef = undef := valv hF hd 12 rfl rfl (by kernel_rfl)
            exact step_pass ho' (wanted_undef3 (g := 12) rfl rfl rfl fg) (hK _ _ (.inr rfl) hF.j)
          · have ho' := ho
            obtain rfl := Option.some.inj ho
            have fg : ac.tmps.getD 53 undef = .bool false := valv hF hd 7 rfl rfl (by kernel_rfl)
            exact step_pass ho' (wanted_not (g := 7) rfl rfl rfl fg (by decide)) (hK _ _ (.inr rfl) hF.j)
          · have ho' := ho
            obtain rfl := Option.some.inj ho
            have fg : ac.tmps.getD 53 undef = .bool false := valv hF hd 7 rfl rfl (by kernel_rfl)
            exact step_pass ho' (wanted_not (g := 7) rfl rfl rfl fg (by decide)) (hK _ _ (.inr rfl) hF.j)
          · have ho' := ho
            obtain rfl := Option.some.inj ho
            have f53 : ac.tmps.getD 53 undef = .bool false := valv hF hd 7 rfl rfl (by kernel_rfl)
            have f61 : ac.tmps.getD 61 undef = undef := valv hF hd 15 rfl rfl (by kernel_rfl)
            refine step_do ho' (wanted_free rfl) ?_
            unfold Oper.wp
            go_simp
            exact hK _ _ (.inr rfl) hF.j
          · have ho' := ho
            obtain rfl := Option.some.inj ho
            have f47 : ac.tmps.getD 47 undef = .bool false := valv hF hd 1 rfl rfl (by kernel_rfl)
            have f62 : ac.tmps.getD 62 undef = .bool false := valv hF hd 16 rfl rfl (by kernel_rfl)
            refine step_do ho' (wanted_free rfl) ?_
            unfold Oper.wp
            go_simp
            exact hK _ _ (.inr rfl) hF.j
          · have ho' := ho
            obtain rfl := Option.some.inj ho
            have f63 : ac.tmps.getD 63 undef = .bool true := valv hF hd 17 rfl rfl (by kernel_rfl)
            refine step_do ho' (wanted_free rfl) ?_
            unfold Oper.wp
            go_simp
            exact hK _ _ (.inr rfl) hF.j
          · have ho' := ho
            obtain rfl := Option.some.inj ho
            have fg : ac.tmps.getD 64 undef = .bool true := valv hF hd 18 rfl rfl (by kernel_rfl)
            refine step_do ho' (wanted_so (g := 18) rfl rfl rfl fg) ?_
            unfold Oper.wp
            go_simp
            refine (cwakes_any F _ (TC.keep hT hF.j.2)).mono ?_
            rintro e w' ⟨rfl, hB⟩
            exact hK _ _ (.inr rfl) (hF.j.below hB)
          · have ho' := ho
            obtain rfl := Option.some.inj ho
            have f64 : ac.tmps.getD 64 undef = .bool true := valv hF hd 18 rfl rfl (by kernel_rfl)
            have f65 : ac.tmps.getD 65 undef = .bool true := valv hF hd 19 rfl rfl (by kernel_rfl)
            refine step_do ho' (wanted_free rfl) ?_
            unfold Oper.wp
            go_simp
            exact hK _ _ (.inr rfl) hF.j
          · have ho' := ho
            obtain rfl := Option.some.inj ho
            have f66 : ac.tmps.getD 66 undef = .bool true := valv hF hd 20 rfl rfl (by kernel_rfl)
            refine step_do ho' (wanted_free rfl) ?_
            unfold Oper.wp
            go_simp
            exact hK _ _ (.inr rfl) hF.j
          · cases ho
        intro L V16 hL hKq
        have hK : Kp [(g15, B32 (bdig x), 22), (b1, B32 (bdig y), 22), (bA, B32 (bdig a), 22)] w V16 := hKq
        clear hKq hL
        simp only [putAll, valEqtnnt, Act.put, List.setIfInBounds_toArray, List.set_cons_succ, List.set_cons_zero]
        go_wp2_with fail
        go_ret
        exact ⟨rfl, hK.2⟩
    · have hfy : froot (usq (a % HH)) = some x := by rw [Hy.out, Hqu.out]; exact hf
      have hx : Hid (x < R256) := by show _ < _; exact Nat.lt_trans (froot_some hf).1 (by decide)
      cases o
      · by_cases hx0 : x = 0
        · have ho0 : a / HH = 0 := even_half ha.out Hod.out
          have Hca : Hid (∀ w, TC w → Calls Tryd.prog 11 #[.agg (B32 (bdig a))] w fun x w' => x = .returned (.bool true) ∧ Below w.heap.size w w') := by obtain ⟨P, hP, -, -⟩ := dec_even hyH hfy ho0; exact fun w hT => F.checkA hP w hT
          have hq0 := B32_yes hx.out hx0
          clear hx0 hfy hyH hf
          refine wp_region_vals 67 (by kernel_rfl) (by kernel_rfl) (by rfl) (valEqfbtt a y x) (fun _ => Kp [(g15, B32 (bdig x), 22), (b1, B32 (bdig y), 22), (bA, B32 (bdig a), 22)] w) hK.drew ?_ ?_
          · intro L ac wc i o hF hLi ho hd K hK
            rcases i with _ | _ | _ | _ | _ | _ | _ | _ | _ | _ | _ | _ | _ | _ | _ | _ | _ | _ | _ | _ | _ | _ | i
            · have ho' := ho
              obtain rfl := Option.some.inj ho
              have f1 : ac.tmps.getD 1 undef = .pointer (some ⟨bA, 0, none⟩) := slotv hF 0 hLi 1 (by kernel_rfl)
              refine step_do ho' (wanted_free rfl) ?_
              exact wp_load_own 22 (.tmp 1) rfl bA f1 (B32 (bdig a)) _ 22 (hF.j.at bA (B32 (bdig a)) 22 (.tail _ (.tail _ (.head _)))) Tryd.underlying22 rfl (B32_info _) (hK _ _ (.inr rfl) hF.j)
            · have ho' := ho
              obtain rfl := Option.some.inj ho
              have f46 : ac.tmps.getD 46 undef = .agg (B32 (bdig a)) := valv hF hd 0 rfl rfl (by kernel_rfl)
              refine step_do ho' (wanted_free rfl) ?_
              unfold Oper.wp
              go_simp
              refine (Hca.out _ (TC.keep hT hF.j.2)).mono ?_
              rintro e w' ⟨rfl, hB⟩
              exact hK _ _ (.inr rfl) (hF.j.below hB)
            · have ho' := ho
              obtain rfl := Option.some.inj ho
              have f3 : ac.tmps.getD 3 undef = .pointer (some ⟨b1, 0, none⟩) := slotv hF 2 hLi 3 (by kernel_rfl)
              refine step_do ho' (wanted_free rfl) ?_
              exact wp_load_own 22 (.tmp 3) rfl b1 f3 (B32 (bdig y)) _ 22 (hF.j.at b1 (B32 (bdig y)) 22 (.tail _ (.head _))) Tryd.underlying22 rfl (B32_info _) (hK _ _ (.inr rfl) hF.j)
            · have ho' := ho
              obtain rfl := Option.some.inj ho
              have f48 : ac.tmps.getD 48 undef = .agg (B32 (bdig y)) := valv hF hd 2 rfl rfl (by kernel_rfl)
              refine step_do ho' (wanted_free rfl) ?_
              unfold Oper.wp
              go_simp
              refine (ccheck_yes hy.out Hlt.out _ (TC.keep hT hF.j.2)).mono ?_
              rintro e w' ⟨rfl, hB⟩
              exact hK _ _ (.inr rfl) (hF.j.below hB)
            · have ho' := ho
              obtain rfl := Option.some.inj ho
              have f49 : ac.tmps.getD 49 undef = .bool true := valv hF hd 3 rfl rfl (by kernel_rfl)
              refine step_do ho' (wanted_free rfl) ?_
              unfold Oper.wp
              go_simp
              exact hK _ _ (.inr rfl) hF.j
            · have ho' := ho
              obtain rfl := Option.some.inj ho
              have f9 : ac.tmps.getD 9 undef = .bool true := slotv hF 5 hLi 9 (by kernel_rfl)
              have fg : ac.tmps.getD 50 undef = .bool true := valv hF hd 4 rfl rfl (by kernel_rfl)
              refine step_do ho' (wanted_so (g := 4) rfl rfl rfl fg) ?_
              unfold Oper.wp
              go_simp
              exact hK _ _ (.inr rfl) hF.j
            · have ho' := ho
              obtain rfl := Option.some.inj ho
              have f50 : ac.tmps.getD 50 undef = .bool true := valv hF hd 4 rfl rfl (by kernel_rfl)
              have f51 : ac.tmps.getD 51 undef = .bool true := valv hF hd 5 rfl rfl (by kernel_rfl)
              refine step_do ho' (wanted_free rfl) ?_
              unfold Oper.wp
              go_simp
              exact hK _ _ (.inr rfl) hF.j
            · have ho' := ho
              obtain rfl := Option.some.inj ho
              have f52 : ac.tmps.getD 52 undef = .bool true := valv hF hd 6 rfl rfl (by kernel_rfl)
              refine step_do ho' (wanted_free rfl) ?_
              unfold Oper.wp
              go_simp
              exact hK _ _ (.inr rfl) hF.j
            · have ho' := ho
              obtain rfl := Option.some.inj ho
              have f8 : ac.tmps.getD 8 undef = .pointer (some ⟨g15, 0, none⟩) := slotv hF 8 hLi 8 (by kernel_rfl)
              have fg : ac.tmps.getD 53 undef = .bool true := valv hF hd 7 rfl rfl (by kernel_rfl)
              refine step_do ho' (wanted_so (g := 7) rfl rfl rfl fg) ?_
              exact wp_load_own 22 (.tmp 8) rfl g15 f8 (B32 (bdig x)) _ 22 (hF.j.at g15 (B32 (bdig x)) 22 (.head _)) Tryd.underlying22 rfl (B32_info _) (hK _ _ (.inr rfl) hF.j)
            · have ho' := ho
              obtain rfl := Option.some.inj ho
              have f5 : ac.tmps.getD 5 undef = .func (Fn.func 5) #[] #[] := slotv hF 9 hLi 5 (by kernel_rfl)
              have fg : ac.tmps.getD 53 undef = .bool true := valv hF hd 7 rfl rfl (by kernel_rfl)
              refine step_do ho' (wanted_so (g := 7) rfl rfl rfl fg) ?_
              unfold Oper.wp
              go_simp
              exact hK _ _ (.inr rfl) hF.j
            · have ho' := ho
              obtain rfl := Option.some.inj ho
              have f55 : ac.tmps.getD 55 undef = .func (Fn.func 5) #[] #[] := valv hF hd 9 rfl rfl (by kernel_rfl)
              have fg : ac.tmps.getD 53 undef = .bool true := valv hF hd 7 rfl rfl (by kernel_rfl)
              refine step_do ho' (wanted_so (g := 7) rfl rfl rfl fg) ?_
              unfold Oper.wp
              go_simp
              refine (num_any 0 (by decide) _).mono ?_
              rintro e w' ⟨rfl, hB⟩
              exact hK _ _ (.inr rfl) (hF.j.below hB)
            · have ho' := ho
              obtain rfl := Option.some.inj ho
              have f54 : ac.tmps.getD 54 undef = .agg (B32 (bdig x)) := valv hF hd 8 rfl rfl (by kernel_rfl)
              have f56 : ac.tmps.getD 56 undef = .agg (B32 (bdig 0)) := valv hF hd 10 rfl rfl (by kernel_rfl)
              have fg : ac.tmps.getD 53 undef = .bool true := valv hF hd 7 rfl rfl (by kernel_rfl)
              refine step_do ho' (wanted_so (g := 7) rfl rfl rfl fg) ?_
              unfold Oper.wp
              go_simp
              exact hK _ _ (.inr rfl) hF.j
            · have ho' := ho
              obtain rfl := Option.some.inj ho
              have f57 : ac.tmps.getD 57 undef = .bool true := valv hF hd 11 rfl rfl (by kernel_rfl)
              have fg : ac.tmps.getD 53 undef = .bool true := valv hF hd 7 rfl rfl (by kernel_rfl)
              refine step_do ho' (wanted_so (g := 7) rfl rfl rfl fg) ?_
              unfold Oper.wp
              go_simp
              exact hK _ _ (.inr rfl) hF.j
            · have ho' := ho
              obtain rfl := Option.some.inj ho
              have f4 : ac.tmps.getD 4 undef = .bool false := slotv hF 13 hLi 4 (by kernel_rfl)
              have fg : ac.tmps.getD 58 undef = .bool true := valv hF hd 12 rfl rfl (by kernel_rfl)
              refine step_do ho' (wanted_so (g := 12) rfl rfl rfl fg) ?_
              unfold Oper.wp
              go_simp
              exact hK _ _ (.inr rfl) hF.j
            · have ho' := ho
              obtain rfl := Option.some.inj ho
              have f58 : ac.tmps.getD 58 undef = .bool true := valv hF hd 12 rfl rfl (by kernel_rfl)
              have f59 : ac.tmps.getD 59 undef = .bool false := valv hF hd 13 rfl rfl (by kernel_rfl)
              have fg : ac.tmps.getD 53 undef = .bool true := valv hF hd 7 rfl rfl (by kernel_rfl)
              refine step_do ho' (wanted_so (g := 7) rfl rfl rfl fg) ?_
              unfold Oper.wp
              go_simp
              exact hK _ _ (.inr rfl) hF.j
            · have ho' := ho
              obtain rfl := Option.some.inj ho
              have f60 : ac.tmps.getD 60 undef = .bool false := valv hF hd 14 rfl rfl (by kernel_rfl)
              have fg : ac.tmps.getD 53 undef = .bool true := valv hF hd 7 rfl rfl (by kernel_rfl)
              refine step_do ho' (wanted_so (g := 7) rfl rfl rfl fg) ?_
              unfold Oper.wp
              go_simp
              exact hK _ _ (.inr rfl) hF.j
            · have ho' := ho
              obtain rfl := Option.some.inj ho
              have f53 : ac.tmps.getD 53 undef = .bool true := valv hF hd 7 rfl rfl (by kernel_rfl)
              have f61 : ac.tmps.getD 61 undef = .bool true := valv hF hd 15 rfl rfl (by kernel_rfl)
              refine step_do ho' (wanted_free rfl) ?_
              unfold Oper.wp
              go_simp
              exact hK _ _ (.inr rfl) hF.j
            · have ho' := ho
              obtain rfl := Option.some.inj ho
              have f47 : ac.tmps.getD 47 undef = .bool true := valv hF hd 1 rfl rfl (by kernel_rfl)
              have f62 : ac.tmps.getD 62 undef = .bool true := valv hF hd 16 rfl rfl (by kernel_rfl)
              refine step_do ho' (wanted_free rfl) ?_
              unfold Oper.wp
              go_simp
              exact hK _ _ (.inr rfl) hF.j
            · have ho' := ho
              obtain rfl := Option.some.inj ho
              have f63 : ac.tmps.getD 63 undef = .bool true := valv hF hd 17 rfl rfl (by kernel_rfl)
              refine step_do ho' (wanted_free rfl) ?_
              unfold Oper.wp
              go_simp
              exact hK _ _ (.inr rfl) hF.j
            · have ho' := ho
              obtain rfl := Option.some.inj ho
              have fg : ac.tmps.getD 64 undef = .bool true := valv hF hd 18 rfl rfl (by kernel_rfl)
              refine step_do ho' (wanted_so (g := 18) rfl rfl rfl fg) ?_
              unfold Oper.wp
              go_simp
              refine (cwakes_any F _ (TC.keep hT hF.j.2)).mono ?_
              rintro e w' ⟨rfl, hB⟩
              exact hK _ _ (.inr rfl) (hF.j.below hB)
            · have ho' := ho
              obtain rfl := Option.some.inj ho
              have f64 : ac.tmps.getD 64 undef = .bool true := valv hF hd 18 rfl rfl (by kernel_rfl)
              have f65 : ac.tmps.getD 65 undef = .bool true := valv hF hd 19 rfl rfl (by kernel_rfl)
              refine step_do ho' (wanted_free rfl) ?_
              unfold Oper.wp
              go_simp
              exact hK _ _ (.inr rfl) hF.j
            · have ho' := ho
              obtain rfl := Option.some.inj ho
              have f66 : ac.tmps.getD 66 undef = .bool true := valv hF hd 20 rfl rfl (by kernel_rfl)
              refine step_do ho' (wanted_free rfl) ?_
              unfold Oper.wp
              go_simp
              exact hK _ _ (.inr rfl) hF.j
            · cases ho
          intro L V16 hL hKq
          have hK : Kp [(g15, B32 (bdig x), 22), (b1, B32 (bdig y), 22), (bA, B32 (bdig a), 22)] w V16 := hKq
          clear hKq hL
          simp only [putAll, valEqfbtt, Act.put, List.setIfInBounds_toArray, List.set_cons_succ, List.set_cons_zero]
          go_wp2_with fail
          go_ret
          exact ⟨rfl, hK.2⟩
        · have ho0 : a / HH = 0 := even_half ha.out Hod.out
          have Hca : Hid (∀ w, TC w → Calls Tryd.prog 11 #[.agg (B32 (bdig a))] w fun x w' => x = .returned (.bool true) ∧ Below w.heap.size w w') := by obtain ⟨P, hP, -, -⟩ := dec_even hyH hfy ho0; exact fun w hT => F.checkA hP w hT
          have hq0 := B32_no hx.out hx0
          clear hx0 hfy hyH hf
          refine wp_region_vals 67 (by kernel_rfl) (by kernel_rfl) (by rfl) (valEqfbft a y x) (fun _ => Kp [(g15, B32 (bdig x), 22), (b1, B32 (bdig y), 22), (bA, B32 (bdig a), 22)] w) hK.drew ?_ ?_
          · intro L ac wc i o hF hLi ho hd K hK
            rcases i with _ | _ | _ | _ | _ | _ | _ | _ | _ | _ | _ | _ | _ | _ | _ | _ | _ | _ | _ | _ | _ | _ | i
            · have ho' := ho
              obtain rfl := Option.some.inj ho
              have f1 : ac.tmps.getD 1 undef = .pointer (some ⟨bA, 0, none⟩) := slotv hF 0 hLi 1 (by kernel_rfl)
              refine step_do ho' (wanted_free rfl) ?_
              exact wp_load_own 22 (.tmp 1) rfl bA f1 (B32 (bdig a)) _ 22 (hF.j.at bA (B32 (bdig a)) 22 (.tail _ (.tail _ (.head _)))) Tryd.underlying22 rfl (B32_info _) (hK _ _ (.inr rfl) hF.j)
            · have ho' := ho
              obtain rfl := Option.some.inj ho
              have f46 : ac.tmps.getD 46 undef = .agg (B32 (bdig a)) := valv hF hd 0 rfl rfl (by kernel_rfl)
              refine step_do ho' (wanted_free rfl) ?_
              unfold Oper.wp
              go_simp
              refine (Hca.out _ (TC.keep hT hF.j.2)).mono ?_
              rintro e w' ⟨rfl, hB⟩
              exact hK _ _ (.inr rfl) (hF.j.below hB)
            · have ho' := ho
              obtain rfl := Option.some.inj ho
              have f3 : ac.tmps.getD 3 undef = .pointer (some ⟨b1, 0, none⟩) := slotv hF 2 hLi 3 (by kernel_rfl)
              refine step_do ho' (wanted_free rfl) ?_
              exact wp_load_own 22 (.tmp 3) rfl b1 f3 (B32 (bdig y)) _ 22 (hF.j.at b1 (B32 (bdig y)) 22 (.tail _ (.head _))) Tryd.underlying22 rfl (B32_info _) (hK _ _ (.inr rfl) hF.j)
            · have ho' := ho
              obtain rfl := Option.some.inj ho
              have f48 : ac.tmps.getD 48 undef = .agg (B32 (bdig y)) := valv hF hd 2 rfl rfl (by kernel_rfl)
              refine step_do ho' (wanted_free rfl) ?_
              unfold Oper.wp
              go_simp
              refine (ccheck_yes hy.out Hlt.out _ (TC.keep hT hF.j.2)).mono ?_
              rintro e w' ⟨rfl, hB⟩
              exact hK _ _ (.inr rfl) (hF.j.below hB)
            · have ho' := ho
              obtain rfl := Option.some.inj ho
              have f49 : ac.tmps.getD 49 undef = .bool true := valv hF hd 3 rfl rfl (by kernel_rfl)
              refine step_do ho' (wanted_free rfl) ?_
              unfold Oper.wp
              go_simp
              exact hK _ _ (.inr rfl) hF.j
            · have ho' := ho
              obtain rfl := Option.some.inj ho
              have f9 : ac.tmps.getD 9 undef = .bool true := slotv hF 5 hLi 9 (by kernel_rfl)
              have fg : ac.tmps.getD 50 undef = .bool true := valv hF hd 4 rfl rfl (by kernel_rfl)
              refine step_do ho' (wanted_so (g := 4) rfl rfl rfl fg) ?_
              unfold Oper.wp
              go_simp
              exact hK _ _ (.inr rfl) hF.j
            · have ho' := ho
              obtain rfl := Option.some.inj ho
              have f50 : ac.tmps.getD 50 undef = .bool true := valv hF hd 4 rfl rfl (by kernel_rfl)
              have f51 : ac.tmps.getD 51 undef = .bool true := valv hF hd 5 rfl rfl (by kernel_rfl)
              refine step_do ho' (wanted_free rfl) ?_
              unfold Oper.wp
              go_simp
              exact hK _ _ (.inr rfl) hF.j
            · have ho' := ho
              obtain rfl := Option.some.inj ho
              have f52 : ac.tmps.getD 52 undef = .bool true := valv hF hd 6 rfl rfl (by kernel_rfl)
              refine step_do ho' (wanted_free rfl) ?_
              unfold Oper.wp
              go_simp
              exact hK _ _ (.inr rfl) hF.j
            · have ho' := ho
              obtain rfl := Option.some.inj ho
              have f8 : ac.tmps.getD 8 undef = .pointer (some ⟨g15, 0, none⟩) := slotv hF 8 hLi 8 (by kernel_rfl)
              have fg : ac.tmps.getD 53 undef = .bool true := valv hF hd 7 rfl rfl (by kernel_rfl)
              refine step_do ho' (wanted_so (g := 7) rfl rfl rfl fg) ?_
              exact wp_load_own 22 (.tmp 8) rfl g15 f8 (B32 (bdig x)) _ 22 (hF.j.at g15 (B32 (bdig x)) 22 (.head _)) Tryd.underlying22 rfl (B32_info _) (hK _ _ (.inr rfl) hF.j)
            · have ho' := ho
              obtain rfl := Option.some.inj ho
              have f5 : ac.tmps.getD 5 undef = .func (Fn.func 5) #[] #[] := slotv hF 9 hLi 5 (by kernel_rfl)
              have fg : ac.tmps.getD 53 undef = .bool true := valv hF hd 7 rfl rfl (by kernel_rfl)
              refine step_do ho' (wanted_so (g := 7) rfl rfl rfl fg) ?_
              unfold Oper.wp
              go_simp
              exact hK _ _ (.inr rfl) hF.j
            · have ho' := ho
              obtain rfl := Option.some.inj ho
              have f55 : ac.tmps.getD 55 undef = .func (Fn.func 5) #[] #[] := valv hF hd 9 rfl rfl (by kernel_rfl)
              have fg : ac.tmps.getD 53 undef = .bool true := valv hF hd 7 rfl rfl (by kernel_rfl)
              refine step_do ho' (wanted_so (g := 7) rfl rfl rfl fg) ?_
              unfold Oper.wp
              go_simp
              refine (num_any 0 (by decide) _).mono ?_
              rintro e w' ⟨rfl, hB⟩
              exact hK _ _ (.inr rfl) (hF.j.below hB)
            · have ho' := ho
              obtain rfl := Option.some.inj ho
              have f54 : ac.tmps.getD 54 undef = .agg (B32 (bdig x)) := valv hF hd 8 rfl rfl (by kernel_rfl)
              have f56 : ac.tmps.getD 56 undef = .agg (B32 (bdig 0)) := valv hF hd 10 rfl rfl (by kernel_rfl)
              have fg : ac.tmps.getD 53 undef = .bool true := valv hF hd 7 rfl rfl (by kernel_rfl)
              refine step_do ho' (wanted_so (g := 7) rfl rfl rfl fg) ?_
              unfold Oper.wp
              go_simp
              exact hK _ _ (.inr rfl) hF.j
            · have ho' := ho
              obtain rfl := Option.some.inj ho
              have f57 : ac.tmps.getD 57 undef = .bool false := valv hF hd 11 rfl rfl (by kernel_rfl)
              have fg : ac.tmps.getD 53 undef = .bool true := valv hF hd 7 rfl rfl (by kernel_rfl)
              refine step_do ho' (wanted_so (g := 7) rfl rfl rfl fg) ?_
              unfold Oper.wp
              go_simp
              exact hK _ _ (.inr rfl) hF.j
            · have ho' := ho
              obtain rfl := Option.some.inj ho
              have fg : ac.tmps.getD 58 undef = .bool false := valv hF hd 12 rfl rfl (by kernel_rfl)
              exact step_pass ho' (wanted_not (g := 12) rfl rfl rfl fg (by decide)) (hK _ _ (.inr rfl) hF.j)
            · have ho' := ho
              obtain rfl := Option.some.inj ho
              have f58 : ac.tmps.getD 58 undef = .bool false := valv hF hd 12 rfl rfl (by kernel_rfl)
              have f59 : ac.tmps.getD 59 undef = undef := valv hF hd 13 rfl rfl (by kernel_rfl)
              have fg : ac.tmps.getD 53 undef = .bool true := valv hF hd 7 rfl rfl (by kernel_rfl)
              refine step_do ho' (wanted_so (g := 7) rfl rfl rfl fg) ?_
              unfold Oper.wp
              go_simp
              exact hK _ _ (.inr rfl) hF.j
            · have ho' := ho
              obtain rfl := Option.some.inj ho
              have f60 : ac.tmps.getD 60 undef = .bool false := valv hF hd 14 rfl rfl (by kernel_rfl)
              have fg : ac.tmps.getD 53 undef = .bool true := valv hF hd 7 rfl rfl (by kernel_rfl)
              refine step_do ho' (wanted_so (g := 7) rfl rfl rfl fg) ?_
              unfold Oper.wp
              go_simp
              exact hK _ _ (.inr rfl) hF.j
            · have ho' := ho
              obtain rfl := Option.some.inj ho
              have f53 : ac.tmps.getD 53 undef = .bool true := valv hF hd 7 rfl rfl (by kernel_rfl)
              have f61 : ac.tmps.getD 61 undef = .bool true := valv hF hd 15 rfl rfl (by kernel_rfl)
              refine step_do ho' (wanted_free rfl) ?_
              unfold Oper.wp
              go_simp
              exact hK _ _ (.inr rfl) hF.j
            · have ho' := ho
              obtain rfl := Option.some.inj ho
              have f47 : ac.tmps.getD 47 undef = .bool true := valv hF hd 1 rfl rfl (by kernel_rfl)
              have f62 : ac.tmps.getD 62 undef = .bool true := valv hF hd 16 rfl rfl (by kernel_rfl)
              refine step_do ho' (wanted_free rfl) ?_
              unfold Oper.wp
              go_simp
              exact hK _ _ (.inr rfl) hF.j
            · have ho' := ho
              obtain rfl := Option.some.inj ho
              have f63 : ac.tmps.getD 63 undef = .bool true := valv hF hd 17 rfl rfl (by kernel_rfl)
              refine step_do ho' (wanted_free rfl) ?_
              unfold Oper.wp
              go_simp
              exact hK _ _ (.inr rfl) hF.j
            · have ho' := ho
              obtain rfl := Option.some.inj ho
              have fg : ac.tmps.getD 64 undef = .bool true := valv hF hd 18 rfl rfl (by kernel_rfl)
              refine step_do ho' (wanted_so (g := 18) rfl rfl rfl fg) ?_
              unfold Oper.wp
              go_simp
              refine (cwakes_any F _ (TC.keep hT hF.j.2)).mono ?_
              rintro e w' ⟨rfl, hB⟩
              exact hK _ _ (.inr rfl) (hF.j.below hB)
            · have ho' := ho
              obtain rfl := Option.some.inj ho
              have f64 : ac.tmps.getD 64 undef = .bool true := valv hF hd 18 rfl rfl (by kernel_rfl)
              have f65 : ac.tmps.getD 65 undef = .bool true := valv hF hd 19 rfl rfl (by kernel_rfl)
              refine step_do ho' (wanted_free rfl) ?_
              unfold Oper.wp
              go_simp
              exact hK _ _ (.inr rfl) hF.j
            · have ho' := ho
              obtain rfl := Option.some.inj ho
              have f66 : ac.tmps.getD 66 undef = .bool true := valv hF hd 20 rfl rfl (by kernel_rfl)
              refine step_do ho' (wanted_free rfl) ?_
              unfold Oper.wp
              go_simp
              exact hK _ _ (.inr rfl) hF.j
            · cases ho
          intro L V16 hL hKq
          have hK : Kp [(g15, B32 (bdig x), 22), (b1, B32 (bdig y), 22), (bA, B32 (bdig a), 22)] w V16 := hKq
          clear hKq hL
          simp only [putAll, valEqfbft, Act.put, List.setIfInBounds_toArray, List.set_cons_succ, List.set_cons_zero]
          go_wp2_with fail
          go_ret
          exact ⟨rfl, hK.2⟩
      · by_cases hx0 : x = 0
        · have ho1 : a / HH = 1 := Hod.out.1 rfl
          have Hca : Hid (∀ w, TC w → Calls Tryd.prog 11 #[.agg (B32 (bdig a))] w fun x w' => x = .returned (.bool false) ∧ Below w.heap.size w w') := fun w hT => F.check_not a ha.out (dec_noside (by rw [hfy, hx0]) ho1) w hT
          have hq0 := B32_yes hx.out hx0
          clear hx0 hfy hyH hf
          refine wp_region_vals 67 (by kernel_rfl) (by kernel_rfl) (by rfl) (valEqtbtt a y x) (fun _ => Kp [(g15, B32 (bdig x), 22), (b1, B32 (bdig y), 22), (bA, B32 (bdig a), 22)] w) hK.drew ?_ ?_
          · intro L ac wc i o hF hLi ho hd K hK
            rcases i with _ | _ | _ | _ | _ | _ | _ | _ | _ | _ | _ | _ | _ | _ | _ | _ | _ | _ | _ | _ | _ | _ | i
            · have ho' := ho
              obtain rfl := Option.some.inj ho
              have f1 : ac.tmps.getD 1 undef = .pointer (some ⟨bA, 0, none⟩) := slotv hF 0 hLi 1 (by kernel_rfl)
              refine step_do ho' (wanted_free rfl) ?_
              exact wp_load_own 22 (.tmp 1) rfl bA f1 (B32 (bdig a)) _ 22 (hF.j.at bA (B32 (bdig a)) 22 (.tail _ (.tail _ (.head _)))) Tryd.underlying22 rfl (B32_info _) (hK _ _ (.inr rfl) hF.j)
            · have ho' := ho
              obtain rfl := Option.some.inj ho
              have f46 : ac.tmps.getD 46 undef = .agg (B32 (bdig a)) := valv hF hd 0 rfl rfl (by kernel_rfl)
              refine step_do ho' (wanted_free rfl) ?_
              unfold Oper.wp
              go_simp
              refine (Hca.out _ (TC.keep hT hF.j.2)).mono ?_
              rintro e w' ⟨rfl, hB⟩
              exact hK _ _ (.inr rfl) (hF.j.below hB)
            · have ho' := ho
              obtain rfl := Option.some.inj ho
              have f3 : ac.tmps.getD 3 undef = .pointer (some ⟨b1, 0, none⟩) := slotv hF 2 hLi 3 (by kernel_rfl)
              refine step_do ho' (wanted_free rfl) ?_
              exact wp_load_own 22 (.tmp 3) rfl b1 f3 (B32 (bdig y)) _ 22 (hF.j.at b1 (B32 (bdig y)) 22 (.tail _ (.head _))) Tryd.underlying22 rfl (B32_info _) (hK _ _ (.inr rfl) hF.j)
            · have ho' := ho
              obtain rfl := Option.some.inj ho
              have f48 : ac.tmps.getD 48 undef = .agg (B32 (bdig y)) := valv hF hd 2 rfl rfl (by kernel_rfl)
              refine step_do ho' (wanted_free rfl) ?_
              unfold Oper.wp
              go_simp
              refine (ccheck_yes hy.out Hlt.out _ (TC.keep hT hF.j.2)).mono ?_
              rintro e w' ⟨rfl, hB⟩
              exact hK _ _ (.inr rfl) (hF.j.below hB)
            · have ho' := ho
              obtain rfl := Option.some.inj ho
              have f49 : ac.tmps.getD 49 undef = .bool true := valv hF hd 3 rfl rfl (by kernel_rfl)
              refine step_do ho' (wanted_free rfl) ?_
              unfold Oper.wp
              go_simp
              exact hK _ _ (.inr rfl) hF.j
            · have ho' := ho
              obtain rfl := Option.some.inj ho
              have f9 : ac.tmps.getD 9 undef = .bool true := slotv hF 5 hLi 9 (by kernel_rfl)
              have fg : ac.tmps.getD 50 undef = .bool true := valv hF hd 4 rfl rfl (by kernel_rfl)
              refine step_do ho' (wanted_so (g := 4) rfl rfl rfl fg) ?_
              unfold Oper.wp
              go_simp
              exact hK _ _ (.inr rfl) hF.j
            · have ho' := ho
              obtain rfl := Option.some.inj ho
              have f50 : ac.tmps.getD 50 undef = .bool true := valv hF hd 4 rfl rfl (by kernel_rfl)
              have f51 : ac.tmps.getD 51 undef = .bool true := valv hF hd 5 rfl rfl (by kernel_rfl)
              refine step_do ho' (wanted_free rfl) ?_
              unfold Oper.wp
              go_simp
              exact hK _ _ (.inr rfl) hF.j
            · have ho' := ho
              obtain rfl := Option.some.inj ho
              have f52 : ac.tmps.getD 52 undef = .bool true := valv hF hd 6 rfl rfl (by kernel_rfl)
              refine step_do ho' (wanted_free rfl) ?_
              unfold Oper.wp
              go_simp
              exact hK _ _ (.inr rfl) hF.j
            · have ho' := ho
              obtain rfl := Option.some.inj ho
              have f8 : ac.tmps.getD 8 undef = .pointer (some ⟨g15, 0, none⟩) := slotv hF 8 hLi 8 (by kernel_rfl)
              have fg : ac.tmps.getD 53 undef = .bool true := valv hF hd 7 rfl rfl (by kernel_rfl)
              refine step_do ho' (wanted_so (g := 7) rfl rfl rfl fg) ?_
              exact wp_load_own 22 (.tmp 8) rfl g15 f8 (B32 (bdig x)) _ 22 (hF.j.at g15 (B32 (bdig x)) 22 (.head _)) Tryd.underlying22 rfl (B32_info _) (hK _ _ (.inr rfl) hF.j)
            · have ho' := ho
              obtain rfl := Option.some.inj ho
              have f5 : ac.tmps.getD 5 undef = .func (Fn.func 5) #[] #[] := slotv hF 9 hLi 5 (by kernel_rfl)
              have fg : ac.tmps.getD 53 undef = .bool true := valv hF hd 7 rfl rfl (by kernel_rfl)
              refine step_do ho' (wanted_so (g := 7) rfl rfl rfl fg) ?_
              unfold Oper.wp
              go_simp
              exact hK _ _ (.inr rfl) hF.j
            · have ho' := ho
              obtain rfl := Option.some.inj ho
              have f55 : ac.tmps.getD 55 undef = .func (Fn.func 5) #[] #[] := valv hF hd 9 rfl rfl (by kernel_rfl)
              have fg : ac.tmps.getD 53 undef = .bool true := valv hF hd 7 rfl rfl (by kernel_rfl)
              refine step_do ho' (wanted_so (g := 7) rfl rfl rfl fg) ?_
              unfold Oper.wp
              go_simp
              refine (num_any 0 (by decide) _).mono ?_
              rintro e w' ⟨rfl, hB⟩
              exact hK _ _ (.inr rfl) (hF.j.below hB)
            · have ho' := ho
              obtain rfl := Option.some.inj ho
              have f54 : ac.tmps.getD 54 undef = .agg (B32 (bdig x)) := valv hF hd 8 rfl rfl (by kernel_rfl)
              have f56 : ac.tmps.getD 56 undef = .agg (B32 (bdig 0)) := valv hF hd 10 rfl rfl (by kernel_rfl)
              have fg : ac.tmps.getD 53 undef = .bool true := valv hF hd 7 rfl rfl (by kernel_rfl)
              refine step_do ho' (wanted_so (g := 7) rfl rfl rfl fg) ?_
              unfold Oper.wp
              go_simp
              exact hK _ _ (.inr rfl) hF.j
            · have ho' := ho
              obtain rfl := Option.some.inj ho
              have f57 : ac.tmps.getD 57 undef = .bool true := valv hF hd 11 rfl rfl (by kernel_rfl)
              have fg : ac.tmps.getD 53 undef = .bool true := valv hF hd 7 rfl rfl (by kernel_rfl)
              refine step_do ho' (wanted_so (g := 7) rfl rfl rfl fg) ?_
              unfold Oper.wp
              go_simp
              exact hK _ _ (.inr rfl) hF.j
            · have ho' := ho
              obtain rfl := Option.some.inj ho
              have f4 : ac.tmps.getD 4 undef = .bool true := slotv hF 13 hLi 4 (by kernel_rfl)
              have fg : ac.tmps.getD 58 undef = .bool true := valv hF hd 12 rfl rfl (by kernel_rfl)
              refine step_do ho' (wanted_so (g := 12) rfl rfl rfl fg) ?_
              unfold Oper.wp
              go_simp
              exact hK _ _ (.inr rfl) hF.j
            · have ho' := ho
              obtain rfl := Option.some.inj ho
              have f58 : ac.tmps.getD 58 undef = .bool true := valv hF hd 12 rfl rfl (by kernel_rfl)
              have f59 : ac.tmps.getD 59 undef = .bool true := valv hF hd 13 rfl rfl (by kernel_rfl)
              have fg : ac.tmps.getD 53 undef = .bool true := valv hF hd 7 rfl rfl (by kernel_rfl)
              refine step_do ho' (wanted_so (g := 7) rfl rfl rfl fg) ?_
              unfold Oper.wp
              go_simp
              exact hK _ _ (.inr rfl) hF.j
            · have ho' := ho
              obtain rfl := Option.some.inj ho
              have f60 : ac.tmps.getD 60 undef = .bool true := valv hF hd 14 rfl rfl (by kernel_rfl)
              have fg : ac.tmps.getD 53 undef = .bool true := valv hF hd 7 rfl rfl (by kernel_rfl)
              refine step_do ho' (wanted_so (g := 7) rfl rfl rfl fg) ?_
              unfold Oper.wp
              go_simp
              exact hK _ _ (.inr rfl) hF.j
            · have ho' := ho
              obtain rfl := Option.some.inj ho
              have f53 : ac.tmps.getD 53 undef = .bool true := valv hF hd 7 rfl rfl (by kernel_rfl)
              have f61 : ac.tmps.getD 61 undef = .bool false := valv hF hd 15 rfl rfl (by kernel_rfl)
              refine step_do ho' (wanted_free rfl) ?_
              unfold Oper.wp
              go_simp
              exact hK _ _ (.inr rfl) hF.j
            · have ho' := ho
              obtain rfl := Option.some.inj ho
              have f47 : ac.tmps.getD 47 undef = .bool false := valv hF hd 1 rfl rfl (by kernel_rfl)
              have f62 : ac.tmps.getD 62 undef = .bool false := valv hF hd 16 rfl rfl (by kernel_rfl)
              refine step_do ho' (wanted_free rfl) ?_
              unfold Oper.wp
              go_simp
              exact hK _ _ (.inr rfl) hF.j
            · have ho' := ho
              obtain rfl := Option.some.inj ho
              have f63 : ac.tmps.getD 63 undef = .bool true := valv hF hd 17 rfl rfl (by kernel_rfl)
              refine step_do ho' (wanted_free rfl) ?_
              unfold Oper.wp
              go_simp
              exact hK _ _ (.inr rfl) hF.j
            · have ho' := ho
              obtain rfl := Option.some.inj ho
              have fg : ac.tmps.getD 64 undef = .bool true := valv hF hd 18 rfl rfl (by kernel_rfl)
              refine step_do ho' (wanted_so (g := 18) rfl rfl rfl fg) ?_
              unfold Oper.wp
              go_simp
              refine (cwakes_any F _ (TC.keep hT hF.j.2)).mono ?_
              rintro e w' ⟨rfl, hB⟩
              exact hK _ _ (.inr rfl) (hF.j.below hB)
            · have ho' := ho
              obtain rfl := Option.some.inj ho
              have f64 : ac.tmps.getD 64 undef = .bool true := valv hF hd 18 rfl rfl (by kernel_rfl)
              have f65 : ac.tmps.getD 65 undef = .bool true := valv hF hd 19 rfl rfl (by kernel_rfl)
              refine step_do ho' (wanted_free rfl) ?_
              unfold Oper.wp
              go_simp
              exact hK _ _ (.inr rfl) hF.j
            · have ho' := ho
              obtain rfl := Option.some.inj ho
              have f66 : ac.tmps.getD 66 undef = .bool true := valv hF hd 20 rfl rfl (by kernel_rfl)
              refine step_do ho' (wanted_free rfl) ?_
              unfold Oper.wp
              go_simp
              exact hK _ _ (.inr rfl) hF.j
            · cases ho
          intro L V16 hL hKq
          have hK : Kp [(g15, B32 (bdig x), 22), (b1, B32 (bdig y), 22), (bA, B32 (bdig a), 22)] w V16 := hKq
          clear hKq hL
          simp only [putAll, valEqtbtt, Act.put, List.setIfInBounds_toArray, List.set_cons_succ, List.set_cons_zero]
          go_wp2_with fail
          go_ret
          exact ⟨rfl, hK.2⟩
        · have ho1 : a / HH = 1 := Hod.out.1 rfl
          have Hca : Hid (∀ w, TC w → Calls Tryd.prog 11 #[.agg (B32 (bdig a))] w fun x w' => x = .returned (.bool true) ∧ Below w.heap.size w w') := by obtain ⟨P, hP, -, -⟩ := dec_side hyH hfy ho1 hx0; exact fun w hT => F.checkA hP w hT
          have hq0 := B32_no hx.out hx0
          clear hx0 hfy hyH hf
          refine wp_region_vals 67 (by kernel_rfl) (by kernel_rfl) (by rfl) (valEqtbft a y x) (fun _ => Kp [(g15, B32 (bdig x), 22), (b1, B32 (bdig y), 22), (bA, B32 (bdig a), 22)] w) hK.drew ?_ ?_
          · intro L ac wc i o hF hLi ho hd K hK
            rcases i with _ | _ | _ | _ | _ | _ | _ | _ | _ | _ | _ | _ | _ | _ | _ | _ | _ | _ | _ | _ | _ | _ | i
            · have ho' := ho
              obtain rfl := Option.some.inj ho
              have f1 : ac.tmps.getD 1 undef = .pointer (some ⟨bA, 0, none⟩) := slotv hF 0 hLi 1 (by kernel_rfl)
              refine step_do ho' (wanted_free rfl) ?_
              exact wp_load_own 22 (.tmp 1) rfl bA f1 (B32 (bdig a)) _ 22 (hF.j.at bA (B32 (bdig a)) 22 (.tail _ (.tail _ (.head _)))) Tryd.underlying22 rfl (B32_info _) (hK _ _ (.inr rfl) hF.j)
            · have ho' := ho
              obtain rfl := Option.some.inj ho
              have f46 : ac.tmps.getD 46 undef = .agg (B32 (bdig a)) := valv hF hd 0 rfl rfl (by kernel_rfl)
              refine step_do ho' (wanted_free rfl) ?_
              unfold Oper.wp
              go_simp
              refine (Hca.out _ (TC.keep hT hF.j.2)).mono ?_
              rintro e w' ⟨rfl, hB⟩
              exact hK _ _ (.inr rfl) (hF.j.below hB)
            · have ho' := ho
              obtain rfl := Option.some.inj ho
              have f3 : ac.tmps.getD 3 undef = .pointer (some ⟨b1, 0, none⟩) := slotv hF 2 hLi 3 (by kernel_rfl)
              refine step_do ho' (wanted_free rfl) ?_
              exact wp_load_own 22 (.tmp 3) rfl b1 f3 (B32 (bdig y)) _ 22 (hF.j.at b1 (B32 (bdig y)) 22 (.tail _ (.head _))) Tryd.underlying22 rfl (B32_info _) (hK _ _ (.inr rfl) hF.j)
            · have ho' := ho
              obtain rfl := Option.some.inj ho
              have f48 : ac.tmps.getD 48 undef = .agg (B32 (bdig y)) := valv hF hd 2 rfl rfl (by kernel_rfl)
              refine step_do ho' (wanted_free rfl) ?_
              unfold Oper.wp
              go_simp
              refine (ccheck_yes hy.out Hlt.out _ (TC.keep hT hF.j.2)).mono ?_
              rintro e w' ⟨rfl, hB⟩
              exact hK _ _ (.inr rfl) (hF.j.below hB)
            · have ho' := ho
              obtain rfl := Option.some.inj ho
              have f49 : ac.tmps.getD 49 undef = .bool true := valv hF hd 3 rfl rfl (by kernel_rfl)
              refine step_do ho' (wanted_free rfl) ?_
              unfold Oper.wp
              go_simp
              exact hK _ _ (.inr rfl) hF.j
            · have ho' := ho
              obtain rfl := Option.some.inj ho
              have f9 : ac.tmps.getD 9 undef = .bool true := slotv hF 5 hLi 9 (by kernel_rfl)
              have fg : ac.tmps.getD 50 undef = .bool true := valv hF hd 4 rfl rfl (by kernel_rfl)
              refine step_do ho' (wanted_so (g := 4) rfl rfl rfl fg) ?_
              unfold Oper.wp
              go_simp
              exact hK _ _ (.inr rfl) hF.j
            · have ho' := ho
              obtain rfl := Option.some.inj ho
              have f50 : ac.tmps.getD 50 undef = .bool true := valv hF hd 4 rfl rfl (by kernel_rfl)
              have f51 : ac.tmps.getD 51 undef = .bool true := valv hF hd 5 rfl rfl (by kernel_rfl)
              refine step_do ho' (wanted_free rfl) ?_
              unfold Oper.wp
              go_simp
              exact hK _ _ (.inr rfl) hF.j
            · have ho' := ho
              obtain rfl := Option.some.inj ho
              have f52 : ac.tmps.getD 52 undef = .bool true := valv hF hd 6 rfl rfl (by kernel_rfl)
              refine step_do ho' (wanted_free rfl) ?_
              unfold Oper.wp
              go_simp
              exact hK _ _ (.inr rfl) hF.j
            · have ho' := ho
              obtain rfl := Option.some.inj ho
              have f8 : ac.tmps.getD 8 undef = .pointer (some ⟨g15, 0, none⟩) := slotv hF 8 hLi 8 (by kernel_rfl)
              have fg : ac.tmps.getD 53 undef = .bool true := valv hF hd 7 rfl rfl (by kernel_rfl)
              refine step_do ho' (wanted_so (g := 7) rfl rfl rfl fg) ?_
              exact wp_load_own 22 (.tmp 8) rfl g15 f8 (B32 (bdig x)) _ 22 (hF.j.at g15 (B32 (bdig x)) 22 (.head _)) Tryd.underlying22 rfl (B32_info _) (hK _ _ (.inr rfl) hF.j)
            · have ho' := ho
              obtain rfl := Option.some.inj ho
              have f5 : ac.tmps.getD 5 undef = .func (Fn.func 5) #[] #[] := slotv hF 9 hLi 5 (by kernel_rfl)
              have fg : ac.tmps.getD 53 undef = .bool true := valv hF hd 7 rfl rfl (by kernel_rfl)
              refine step_do ho' (wanted_so (g := 7) rfl rfl rfl fg) ?_
              unfold Oper.wp
              go_simp
              exact hK _ _ (.inr rfl) hF.j
            · have ho' := ho
              obtain rfl := Option.some.inj ho
              have f55 : ac.tmps.getD 55 undef = .func (Fn.func 5) #[] #[] := valv hF hd 9 rfl rfl (by kernel_rfl)
              have fg : ac.tmps.getD 53 undef = .bool true := valv hF hd 7 rfl rfl (by kernel_rfl)
              refine step_do ho' (wanted_so (g := 7) rfl rfl rfl fg) ?_
              unfold Oper.wp
              go_simp
              refine (num_any 0 (by decide) _).mono ?_
              rintro e w' ⟨rfl, hB⟩
              exact hK _ _ (.inr rfl) (hF.j.below hB)
            · have ho' := ho
              obtain rfl := Option.some.inj ho
              have f54 : ac.tmps.getD 54 undef = .agg (B32 (bdig x)) := valv hF hd 8 rfl rfl (by kernel_rfl)
              have f56 : ac.tmps.getD 56 undef = .agg (B32 (bdig 0)) := valv hF hd 10 rfl rfl (by kernel_rfl)
              have fg : ac.tmps.getD 53 undef = .bool true := valv hF hd 7 rfl rfl (by kernel_rfl)
              refine step_do ho' (wanted_so (g := 7) rfl rfl rfl fg) ?_
              unfold Oper.wp
              go_simp
              exact hK _ _ (.inr rfl) hF.j
            · have ho' := ho
              obtain rfl := Option.some.inj ho
              have f57 : ac.tmps.getD 57 undef = .bool false := valv hF hd 11 rfl rfl (by kernel_rfl)
              have fg : ac.tmps.getD 53 undef = .bool true := valv hF hd 7 rfl rfl (by kernel_rfl)
              refine step_do ho' (wanted_so (g := 7) rfl rfl rfl fg) ?_
              unfold Oper.wp
              go_simp
              exact hK _ _ (.inr rfl) hF.j
            · have ho' := ho
              obtain rfl := Option.some.inj ho
              have fg : ac.tmps.getD 58 undef = .bool false := valv hF hd 12 rfl rfl (by kernel_rfl)
              exact step_pass ho' (wanted_not (g := 12) rfl rfl rfl fg (by decide)) (hK _ _ (.inr rfl) hF.j)
            · have ho' := ho
              obtain rfl := Option.some.inj ho
              have f58 : ac.tmps.getD 58 undef = .bool false := valv hF hd 12 rfl rfl (by kernel_rfl)
              have f59 : ac.tmps.getD 59 undef = undef := valv hF hd 13 rfl rfl (by kernel_rfl)
              have fg : ac.tmps.getD 53 undef = .bool true := valv hF hd 7 rfl rfl (by kernel_rfl)
              refine step_do ho' (wanted_so (g := 7) rfl rfl rfl fg) ?_
              unfold Oper.wp
              go_simp
              exact hK _ _ (.inr rfl) hF.j
            · have ho' := ho
              obtain rfl := Option.some.inj ho
              have f60 : ac.tmps.getD 60 undef = .bool false := valv hF hd 14 rfl rfl (by kernel_rfl)
              have fg : ac.tmps.getD 53 undef = .bool true := valv hF hd 7 rfl rfl (by kernel_rfl)
              refine step_do ho' (wanted_so (g := 7) rfl rfl rfl fg) ?_
              unfold Oper.wp
              go_simp
              exact hK _ _ (.inr rfl) hF.j
            · have ho' := ho
              obtain rfl := Option.some.inj ho
              have f53 : ac.tmps.getD 53 undef = .bool true := valv hF hd 7 rfl rfl (by kernel_rfl)
              have f61 : ac.tmps.getD 61 undef = .bool true := valv hF hd 15 rfl rfl (by kernel_rfl)
              refine step_do ho' (wanted_free rfl) ?_
              unfold Oper.wp
              go_simp
              exact hK _ _ (.inr rfl) hF.j
            · have ho' := ho
              obtain rfl := Option.some.inj ho
              have f47 : ac.tmps.getD 47 undef = .bool true := valv hF hd 1 rfl rfl (by kernel_rfl)
              have f62 : ac.tmps.getD 62 undef = .bool true := valv hF hd 16 rfl rfl (by kernel_rfl)
              refine step_do ho' (wanted_free rfl) ?_
              unfold Oper.wp
              go_simp
              exact hK _ _ (.inr rfl) hF.j
            · have ho' := ho
              obtain rfl := Option.some.inj ho
              have f63 : ac.tmps.getD 63 undef = .bool true := valv hF hd 17 rfl rfl (by kernel_rfl)
              refine step_do ho' (wanted_free rfl) ?_
              unfold Oper.wp
              go_simp
              exact hK _ _ (.inr rfl) hF.j
            · have ho' := ho
              obtain rfl := Option.some.inj ho
              have fg : ac.tmps.getD 64 undef = .bool true := valv hF hd 18 rfl rfl (by kernel_rfl)
              refine step_do ho' (wanted_so (g := 18) rfl rfl rfl fg) ?_
              unfold Oper.wp
              go_simp
              refine (cwakes_any F _ (TC.keep hT hF.j.2)).mono ?_
              rintro e w' ⟨rfl, hB⟩
              exact hK _ _ (.inr rfl) (hF.j.below hB)
            · have ho' := ho
              obtain rfl := Option.some.inj ho
              have f64 : ac.tmps.getD 64 undef = .bool true := valv hF hd 18 rfl rfl (by kernel_rfl)
              have f65 : ac.tmps.getD 65 undef = .bool true := valv hF hd 19 rfl rfl (by kernel_rfl)
              refine step_do ho' (wanted_free rfl) ?_
              unfold Oper.wp
              go_simp
              exact hK _ _ (.inr rfl) hF.j
            · have ho' := ho
              obtain rfl := Option.some.inj ho
              have f66 : ac.tmps.getD 66 undef = .bool true := valv hF hd 20 rfl rfl (by kernel_rfl)
              refine step_do ho' (wanted_free rfl) ?_
              unfold Oper.wp
              go_simp
              exact hK _ _ (.inr rfl) hF.j
            · cases ho
          intro L V16 hL hKq
          have hK : Kp [(g15, B32 (bdig x), 22), (b1, B32 (bdig y), 22), (bA, B32 (bdig a), 22)] w V16 := hKq
          clear hKq hL
          simp only [putAll, valEqtbft, Act.put, List.setIfInBounds_toArray, List.set_cons_succ, List.set_cons_zero]
          go_wp2_with fail
          go_ret
          exact ⟨rfl, hK.2⟩
  · have Hlt := show Hid _ from hlt
    have Hca : Hid (∀ w, TC w → Calls Tryd.prog 11 #[.agg (B32 (bdig a))] w fun x w' => x = .returned (.bool false) ∧ Below w.heap.size w w') := fun w hT => F.check_not a ha.out (dec_big (by rw [Hy.out]; exact Nat.le_of_not_lt hlt)) w hT
    clear hlt hcase
    cases o
    · skip
      refine wp_region_vals 67 (by kernel_rfl) (by kernel_rfl) (by rfl) (valEqfvnf a y) (fun _ => Kp [(g15, B32 (bdig x), 22), (b1, B32 (bdig y), 22), (bA, B32 (bdig a), 22)] w) hK.drew ?_ ?_
      · intro L ac wc i o hF hLi ho hd K hK
        rcases i with _ | _ | _ | _ | _ | _ | _ | _ | _ | _ | _ | _ | _ | _ | _ | _ | _ | _ | _ | _ | _ | _ | i
        · have ho' := ho
          obtain rfl := Option.some.inj ho
          have f1 : ac.tmps.getD 1 undef = .pointer (some ⟨bA, 0, none⟩) := slotv hF 0 hLi 1 (by kernel_rfl)
          refine step_do ho' (wanted_free rfl) ?_
          exact wp_load_own 22 (.tmp 1) rfl bA f1 (B32 (bdig a)) _ 22 (hF.j.at bA (B32 (bdig a)) 22 (.tail _ (.tail _ (.head _)))) Tryd.underlying22 rfl (B32_info _) (hK _ _ (.inr rfl) hF.j)
        · have ho' := ho
          obtain rfl := Option.some.inj ho
          have f46 : ac.tmps.getD 46 undef = .agg (B32 (bdig a)) := valv hF hd 0 rfl rfl (by kernel_rfl)
          refine step_do ho' (wanted_free rfl) ?_
          unfold Oper.wp
          go_simp
          refine (Hca.out _ (TC.keep hT hF.j.2)).mono ?_
          rintro e w' ⟨rfl, hB⟩
          exact hK _ _ (.inr rfl) (hF.j.below hB)
        · have ho' := ho
          obtain rfl := Option.some.inj ho
          have f3 : ac.tmps.getD 3 undef = .pointer (some ⟨b1, 0, none⟩) := slotv hF 2 hLi 3 (by kernel_rfl)
          refine step_do ho' (wanted_free rfl) ?_
          exact wp_load_own 22 (.tmp 3) rfl b1 f3 (B32 (bdig y)) _ 22 (hF.j.at b1 (B32 (bdig y)) 22 (.tail _ (.head _))) Tryd.underlying22 rfl (B32_info _) (hK _ _ (.inr rfl) hF.j)
        · have ho' := ho
          obtain rfl := Option.some.inj ho
          have f48 : ac.tmps.getD 48 undef = .agg (B32 (bdig y)) := valv hF hd 2 rfl rfl (by kernel_rfl)
          refine step_do ho' (wanted_free rfl) ?_
          unfold Oper.wp
          go_simp
          refine (ccheck_no hy.out Hlt.out _ (TC.keep hT hF.j.2)).mono ?_
          rintro e w' ⟨rfl, hB⟩
          exact hK _ _ (.inr rfl) (hF.j.below hB)
        · have ho' := ho
          obtain rfl := Option.some.inj ho
          have f49 : ac.tmps.getD 49 undef = .bool false := valv hF hd 3 rfl rfl (by kernel_rfl)
          refine step_do ho' (wanted_free rfl) ?_
          unfold Oper.wp
          go_simp
          exact hK _ _ (.inr rfl) hF.j
        · have ho' := ho
          obtain rfl := Option.some.inj ho
          have fg : ac.tmps.getD 50 undef = .bool false := valv hF hd 4 rfl rfl (by kernel_rfl)
          exact step_pass ho' (wanted_not (g := 4) rfl rfl rfl fg (by decide)) (hK _ _ (.inr rfl) hF.j)
        · have ho' := ho
          obtain rfl := Option.some.inj ho
          have f50 : ac.tmps.getD 50 undef = .bool false := valv hF hd 4 rfl rfl (by kernel_rfl)
          have f51 : ac.tmps.getD 51 undef = undef := valv hF hd 5 rfl rfl (by kernel_rfl)
          refine step_do ho' (wanted_free rfl) ?_
          unfold Oper.wp
          go_simp
          exact hK _ _ (.inr rfl) hF.j
        · have ho' := ho
          obtain rfl := Option.some.inj ho
          have f52 : ac.tmps.getD 52 undef = .bool false := valv hF hd 6 rfl rfl (by kernel_rfl)
          refine step_do ho' (wanted_free rfl) ?_
          unfold Oper.wp
          go_simp
          exact hK _ _ (.inr rfl) hF.j
        · have ho' := ho
          obtain rfl := Option.some.inj ho
          have fg : ac.tmps.getD 53 undef = .bool false := valv hF hd 7 rfl rfl (by kernel_rfl)
          exact step_pass ho' (wanted_not (g := 7) rfl rfl rfl fg (by decide)) (hK _ _ (.inr rfl) hF.j)
        · have ho' := ho
          obtain rfl := Option.some.inj ho
          have fg : ac.tmps.getD 53 undef = .bool false := valv hF hd 7 rfl rfl (by kernel_rfl)
          exact step_pass ho' (wanted_not (g := 7) rfl rfl rfl fg (by decide)) (hK _ _ (.inr rfl) hF.j)
        · have ho' := ho
          obtain rfl := Option.some.inj ho
          have fg : ac.tmps.getD 53 undef = .bool false := valv hF hd 7 rfl rfl (by kernel_rfl)
          exact step_pass ho' (wanted_not (g := 7) rfl rfl rfl fg (by decide)) (hK _ _ (.inr rfl) hF.j)
        · have ho' := ho
          obtain rfl := Option.some.inj ho
          have fg : ac.tmps.getD 53 undef = .bool false := valv hF hd 7 rfl rfl (by kernel_rfl)
          exact step_pass ho' (wanted_not (g := 7) rfl rfl rfl fg (by decide)) (hK _ _ (.inr rfl) hF.j)
        · have ho' := ho
          obtain rfl := Option.some.inj ho
          have fg : ac.tmps.getD 53 undef = .bool false := valv hF hd 7 rfl rfl (by kernel_rfl)
          exact step_pass ho' (wanted_not (g := 7) rfl rfl rfl fg (by decide)) (hK _ _ (.inr rfl) hF.j)
        · have ho' := ho
          obtain rfl := Option.some.inj ho
          have fg : ac.tmps.getD 58 undef = undef := valv hF hd 12 rfl rfl (by kernel_rfl)
          exact step_pass ho' (wanted_undef3 (g := 12) rfl rfl rfl fg) (hK _ _ (.inr rfl) hF.j)
        · have ho' := ho
          obtain rfl := Option.some.inj ho
          have fg : ac.tmps.getD 53 undef = .bool false := valv hF hd 7 rfl rfl (by kernel_rfl)
          exact step_pass ho' (wanted_not (g := 7) rfl rfl rfl fg (by decide)) (hK _ _ (.inr rfl) hF.j)
        · have ho' := ho
          obtain rfl := Option.some.inj ho
          have fg : ac.tmps.getD 53 undef = .bool false := valv hF hd 7 rfl rfl (by kernel_rfl)
          exact step_pass ho' (wanted_not (g := 7) rfl rfl rfl fg (by decide)) (hK _ _ (.inr rfl) hF.j)
        · have ho' := ho
          obtain rfl := Option.some.inj ho
          have f53 : ac.tmps.getD 53 undef = .bool false := valv hF hd 7 rfl rfl (by kernel_rfl)
          have f61 : ac.tmps.getD 61 undef = undef := valv hF hd 15 rfl rfl (by kernel_rfl)
          refine step_do ho' (wanted_free rfl) ?_
          unfold Oper.wp
          go_simp
          exact hK _ _ (.inr rfl) hF.j
        · have ho' := ho
          obtain rfl := Option.some.inj ho
          have f47 : ac.tmps.getD 47 undef = .bool false := valv hF hd 1 rfl rfl (by kernel_rfl)
          have f62 : ac.tmps.getD 62 undef = .bool false := valv hF hd 16 rfl rfl (by kernel_rfl)
          refine step_do ho' (wanted_free rfl) ?_
          unfold Oper.wp
          go_simp
          exact hK _ _ (.inr rfl) hF.j
        · have ho' := ho
          obtain rfl := Option.some.inj ho
          have f63 : ac.tmps.getD 63 undef = .bool true := valv hF hd 17 rfl rfl (by kernel_rfl)
          refine step_do ho' (wanted_free rfl) ?_
          unfold Oper.wp
          go_simp
          exact hK _ _ (.inr rfl) hF.j
        · have ho' := ho
          obtain rfl := Option.some.inj ho
          have fg : ac.tmps.getD 64 undef = .bool true := valv hF hd 18 rfl rfl (by kernel_rfl)
          refine step_do ho' (wanted_so (g := 18) rfl rfl rfl fg) ?_
          unfold Oper.wp
          go_simp
          refine (cwakes_any F _ (TC.keep hT hF.j.2)).mono ?_
          rintro e w' ⟨rfl, hB⟩
          exact hK _ _ (.inr rfl) (hF.j.below hB)
        · have ho' := ho
          obtain rfl := Option.some.inj ho
          have f64 : ac.tmps.getD 64 undef = .bool true := valv hF hd 18 rfl rfl (by kernel_rfl)
          have f65 : ac.tmps.getD 65 undef = .bool true := valv hF hd 19 rfl rfl (by kernel_rfl)
          refine step_do ho' (wanted_free rfl) ?_
          unfold Oper.wp
          go_simp
          exact hK _ _ (.inr rfl) hF.j
        · have ho' := ho
          obtain rfl := Option.some.inj ho
          have f66 : ac.tmps.getD 66 undef = .bool true := valv hF hd 20 rfl rfl (by kernel_rfl)
          refine step_do ho' (wanted_free rfl) ?_
          unfold Oper.wp
          go_simp
          exact hK _ _ (.inr rfl) hF.j
        · cases ho
      intro L V16 hL hKq
      have hK : Kp [(g15, B32 (bdig x), 22), (b1, B32 (bdig y), 22), (bA, B32 (bdig a), 22)] w V16 := hKq
      clear hKq hL
      simp only [putAll, valEqfvnf, Act.put, List.setIfInBounds_toArray, List.set_cons_succ, List.set_cons_zero]
      go_wp2_with fail
      go_ret
      exact ⟨rfl, hK.2⟩
    · skip
      refine wp_region_vals 67 (by kernel_rfl) (by kernel_rfl) (by rfl) (valEqtvnf a y) (fun _ => Kp [(g15, B32 (bdig x), 22), (b1, B32 (bdig y), 22), (bA, B32 (bdig a), 22)] w) hK.drew ?_ ?_
      · intro L ac wc i o hF hLi ho hd K hK
        rcases i with _ | _ | _ | _ | _ | _ | _ | _ | _ | _ | _ | _ | _ | _ | _ | _ | _ | _ | _ | _ | _ | _ | i
        · have ho' := ho
          obtain rfl := Option.some.inj ho
          have f1 : ac.tmps.getD 1 undef = .pointer (some ⟨bA, 0, none⟩) := slotv hF 0 hLi 1 (by kernel_rfl)
          refine step_do ho' (wanted_free rfl) ?_
          exact wp_load_own 22 (.tmp 1) rfl bA f1 (B32 (bdig a)) _ 22 (hF.j.at bA (B32 (bdig a)) 22 (.tail _ (.tail _ (.head _)))) Tryd.underlying22 rfl (B32_info _) (hK _ _ (.inr rfl) hF.j)
        · have ho' := ho
          obtain rfl := Option.some.inj ho
          have f46 : ac.tmps.getD 46 undef = .agg (B32 (bdig a)) := valv hF hd 0 rfl rfl (by kernel_rfl)
          refine step_do ho' (wanted_free rfl) ?_
          unfold Oper.wp
          go_simp
          refine (Hca.out _ (TC.keep hT hF.j.2)).mono ?_
          rintro e w' ⟨rfl, hB⟩
          exact hK _ _ (.inr rfl) (hF.j.below hB)
        · have ho' := ho
          obtain rfl := Option.some.inj ho
          have f3 : ac.tmps.getD 3 undef = .pointer (some ⟨b1, 0, none⟩) := slotv hF 2 hLi 3 (by kernel_rfl)
          refine step_do ho' (wanted_free rfl) ?_
          exact wp_load_own 22 (.tmp 3) rfl b1 f3 (B32 (bdig y)) _ 22 (hF.j.at b1 (B32 (bdig y)) 22 (.tail _ (.head _))) Tryd.underlying22 rfl (B32_info _) (hK _ _ (.inr rfl) hF.j)
        · have ho' := ho
          obtain rfl := Option.some.inj ho
          have f48 : ac.tmps.getD 48 undef = .agg (B32 (bdig y)) := valv hF hd 2 rfl rfl (by kernel_rfl)
          refine step_do ho' (wanted_free rfl) ?_
          unfold Oper.wp
          go_simp
          refine (ccheck_no hy.out Hlt.out _ (TC.keep hT hF.j.2)).mono ?_
          rintro e w' ⟨rfl, hB⟩
          exact hK _ _ (.inr rfl) (hF.j.below hB)
        · have ho' := ho
          obtain rfl := Option.some.inj ho
          have f49 : ac.tmps.getD 49 undef = .bool false := valv hF hd 3 rfl rfl (by kernel_rfl)
          refine step_do ho' (wanted_free rfl) ?_
          unfold Oper.wp
          go_simp
          exact hK _ _ (.inr rfl) hF.j
        · have ho' := ho
          obtain rfl := Option.some.inj ho
          have fg : ac.tmps.getD 50 undef = .bool false := valv hF hd 4 rfl rfl (by kernel_rfl)
          exact step_pass ho' (wanted_not (g := 4) rfl rfl rfl fg (by decide)) (hK _ _ (.inr rfl) hF.j)
        · have ho' := ho
          obtain rfl := Option.some.inj ho
          have f50 : ac.tmps.getD 50 undef = .bool false := valv hF hd 4 rfl rfl (by kernel_rfl)
          have f51 : ac.tmps.getD 51 undef = undef := valv hF hd 5 rfl rfl (by kernel_rfl)
          refine step_do ho' (wanted_free rfl) ?_
          unfold Oper.wp
          go_simp
          exact hK _ _ (.inr rfl) hF.j
        · have ho' := ho
          obtain rfl := Option.some.inj ho
          have f52 : ac.tmps.getD 52 undef = .bool false := valv hF hd 6 rfl rfl (by kernel_rfl)
          refine step_do ho' (wanted_free rfl) ?_
          unfold Oper.wp
          go_simp
          exact hK _ _ (.inr rfl) hF.j
        · have ho' := ho
          obtain rfl := Option.some.inj ho
          have fg : ac.tmps.getD 53 undef = .bool false := valv hF hd 7 rfl rfl (by kernel_rfl)
          exact step_pass ho' (wanted_not (g := 7) rfl rfl rfl fg (by decide)) (hK _ _ (.inr rfl) hF.j)
        · have ho' := ho
          obtain rfl := Option.some.inj ho
          have fg : ac.tmps.getD 53 undef = .bool false := valv hF hd 7 rfl rfl (by kernel_rfl)
          exact step_pass ho' (wanted_not (g := 7) rfl rfl rfl fg (by decide)) (hK _ _ (.inr rfl) hF.j)
        · have ho' := ho
          obtain rfl := Option.some.inj ho
          have fg : ac.tmps.getD 53 undef = .bool false := valv hF hd 7 rfl rfl (by kernel_rfl)
          exact step_pass ho' (wanted_not (g := 7) rfl rfl rfl fg (by decide)) (hK _ _ (.inr rfl) hF.j)
        · have ho' := ho
          obtain rfl := Option.some.inj ho
          have fg : ac.tmps.getD 53 undef = .bool false := valv hF hd 7 rfl rfl (by kernel_rfl)
          exact step_pass ho' (wanted_not (g := 7) rfl rfl rfl fg (by decide)) (hK _ _ (.inr rfl) hF.j)
        · have ho' := ho
          obtain rfl := Option.some.inj ho
          have fg : ac.tmps.getD 53 undef = .bool false := valv hF hd 7 rfl rfl (by kernel_rfl)
          exact step_pass ho' (wanted_not (g := 7) rfl rfl rfl fg (by decide)) (hK _ _ (.inr rfl) hF.j)
        · have ho' := ho
          obtain rfl := Option.some.inj ho
          have fg : ac.tmps.getD 58 undef = undef := valv hF hd 12 rfl rfl (by kernel_rfl)
          exact step_pass ho' (wanted_undef3 (g := 12) rfl rfl rfl fg) (hK _ _ (.inr rfl) hF.j)
        · have ho' := ho
          obtain rfl := Option.some.inj ho
          have fg : ac.tmps.getD 53 undef = .bool false := valv hF hd 7 rfl rfl (by kernel_rfl)
          exact step_pass ho' (wanted_not (g := 7) rfl rfl rfl fg (by decide)) (hK _ _ (.inr rfl) hF.j)
        · have ho' := ho
          obtain rfl := Option.some.inj ho
          have fg : ac.tmps.getD 53 undef = .bool false := valv hF hd 7 rfl rfl (by kernel_rfl)
          exact step_pass ho' (wanted_not (g := 7) rfl rfl rfl fg (by decide)) (hK _ _ (.inr rfl) hF.j)
        · have ho' := ho
          obtain rfl := Option.some.inj ho
          have f53 : ac.tmps.getD 53 undef = .bool false := valv hF hd 7 rfl rfl (by kernel_rfl)
          have f61 : ac.tmps.getD 61 undef = undef := valv hF hd 15 rfl rfl (by kernel_rfl)
          refine step_do ho' (wanted_free rfl) ?_
          unfold Oper.wp
          go_simp
          exact hK _ _ (.inr rfl) hF.j
        · have ho' := ho
          obtain rfl := Option.some.inj ho
          have f47 : ac.tmps.getD 47 undef = .bool false := valv hF hd 1 rfl rfl (by kernel_rfl)
          have f62 : ac.tmps.getD 62 undef = .bool false := valv hF hd 16 rfl rfl (by kernel_rfl)
          refine step_do ho' (wanted_free rfl) ?_
          unfold Oper.wp
          go_simp
          exact hK _ _ (.inr rfl) hF.j
        · have ho' := ho
          obtain rfl := Option.some.inj ho
          have f63 : ac.tmps.getD 63 undef = .bool true := valv hF hd 17 rfl rfl (by kernel_rfl)
          refine step_do ho' (wanted_free rfl) ?_
          unfold Oper.wp
          go_simp
          exact hK _ _ (.inr rfl) hF.j
        · have ho' := ho
          obtain rfl := Option.some.inj ho
          have fg : ac.tmps.getD 64 undef = .bool true := valv hF hd 18 rfl rfl (by kernel_rfl)
          refine step_do ho' (wanted_so (g := 18) rfl rfl rfl fg) ?_
          unfold Oper.wp
          go_simp
          refine (cwakes_any F _ (TC.keep hT hF.j.2)).mono ?_
          rintro e w' ⟨rfl, hB⟩
          exact hK _ _ (.inr rfl) (hF.j.below hB)
        · have ho' := ho
          obtain rfl := Option.some.inj ho
          have f64 : ac.tmps.getD 64 undef = .bool true := valv hF hd 18 rfl rfl (by kernel_rfl)
          have f65 : ac.tmps.getD 65 undef = .bool true := valv hF hd 19 rfl rfl (by kernel_rfl)
          refine step_do ho' (wanted_free rfl) ?_
          unfold Oper.wp
          go_simp
          exact hK _ _ (.inr rfl) hF.j
        · have ho' := ho
          obtain rfl := Option.some.inj ho
          have f66 : ac.tmps.getD 66 undef = .bool true := valv hF hd 20 rfl rfl (by kernel_rfl)
          refine step_do ho' (wanted_free rfl) ?_
          unfold Oper.wp
          go_simp
          exact hK _ _ (.inr rfl) hF.j
        · cases ho
      intro L V16 hL hKq
      have hK : Kp [(g15, B32 (bdig x), 22), (b1, B32 (bdig y), 22), (bA, B32 (bdig a), 22)] w V16 := hKq
      clear hKq hL
      simp only [putAll, valEqtvnf, Act.put, List.setIfInBounds_toArray, List.set_cons_succ, List.set_cons_zero]
      go_wp2_with fail
      go_ret
      exact ⟨rfl, hK.2⟩
end Go.Proofs.YtaekpoiaigklgabDoor
