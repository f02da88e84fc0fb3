/- The walk of the law FieldFermat, over the program's functions by their contracts. -/
import Derived.Test.YtaefjbklioljnaaDoorE14
namespace Go.Proofs.YtaefjbklioljnaaDoor
open Go.RowKit
def sqs (a k : Nat) : Nat := a ^ (2 ^ k) % pp
def pws (a j : Nat) : Nat := a ^ (j + 1) % pp
theorem sqs_zero (a : Nat) : sqs a 0 = a % pp := by unfold sqs; rw [Nat.pow_zero, Nat.pow_one]
theorem pws_zero (a : Nat) : pws a 0 = a % pp := by unfold pws; rw [Nat.zero_add, Nat.pow_one]
theorem sq_step {a x k : Nat} (h : x = sqs a k) : x * x % pp = sqs a (k + 1) := by
  unfold sqs at *
  rw [Nat.pow_succ, Nat.pow_mul, Nat.pow_two, h, ← Nat.mul_mod]
theorem mul_step {a y k : Nat} (h : y = pws a k) : y * a % pp = pws a (k + 1) := by
  unfold pws at *
  rw [Nat.pow_succ, h, Nat.mod_mul_mod]
theorem fermat_end {a x y k j : Nat} (hk : k = 255) (hj : j = 19) (hx : x = sqs a k) (hy : y = pws a j) : x = y := by
  subst hk hj
  unfold sqs at hx
  unfold pws at hy
  exact hx.trans ((pow_255 a).trans hy.symm)

set_option maxRecDepth 100000 in
set_option maxHeartbeats 8000000 in
theorem fermat_any {T : World → Prop} (F : Fld T) (a : Nat) (ha : a < R256) (w : World) (hT : T w) : Calls Tryd.prog 8 #[.agg (B32 (bdig a))] w fun x w' => x = .returned (.bool true) ∧ Below w.heap.size w w' := by
  have hz := (zero_of_info zeroB32).1
  obtain ⟨m, Hm⟩ : ∃ m, Hid (a % pp = m) := ⟨_, rfl⟩
  have hm : m < R256 := by rw [← Hm.out]; exact lt_of_mod
  go_enter Tryd.func8, Tryd.ntmps8
  go_upto_region 1 with fail
  have hK0 := (Kp.nil w).alloc (B32 (bdig a)) 22
  generalize w.alloc (.cells (B32 (bdig a)) 22) = W at *
  obtain ⟨bA, HA⟩ : ∃ bA, Hid (w.heap.size = bA) := ⟨_, rfl⟩
  rw [HA.out] at hK0 ⊢
  go_wp2_with (refine wpList_load_own (by rfl) 22 (.tmp 1) (by rfl) bA (by rfl) (B32 (bdig a)) _ (hK0.at bA (B32 (bdig a)) 22 (by simp)) Tryd.underlying22 (by rfl) (B32_info _) ?_)
  refine (F.modA ha Hm.out W (F.keep _ _ hT hK0.2)).mono ?_
  rintro e w1 ⟨rfl, hB1⟩
  have hK1 := hK0.below hB1
  have hK2 := hK1.alloc (B32 (bdig m)) 22
  have ne2 := fun p hp => Nat.ne_of_lt (hK1.1 p hp).lt
  have hle3 := hK1.2.size
  go_upto_region 2 with (refine wpList_store_new (by rfl) 22 (.tmp 3) (.tmp 8) (by rfl) _ (B32 (bdig m)) (by rfl) (by rfl) (B32_info _) (B32_sizes _ _) (B32_one _) (by rfl) ?_)
  generalize w1.alloc (.cells (B32 (bdig m)) 22) = W1 at *
  generalize w1.heap.size = b3 at *
  have n1 : bA ≠ b3 := ne2 (bA, B32 (bdig a), 22) (by simp)
  clear hK0 hK1 ne2
  go_wp2_with fail
  go_loopw [4] (fun ii wr => ∃ (k x : Nat), k ≤ 255 ∧ ii = .int .i64 (k : Int) ∧ x < R256 ∧ Hid (x = sqs a k) ∧ Kp [(b3, B32 (bdig x), 22), (bA, B32 (bdig a), 22)] w wr) (fun ii _ => 255 - (intOf ii).toNat)
  case atStart => exact ⟨0, m, by omega, rfl, hm, by show _ = _; rw [sqs_zero, Hm.out], hK2⟩
  case round =>
    obtain ⟨k, x, hk, rfl, hx, Hx, hKr⟩ := hrel
    have hk0 : (0 : Int) ≤ (k : Int) := by omega
    by_cases hlt : k < 255
    · have hki : (k : Int) < 255 := by omega
      obtain ⟨q, Hq⟩ : ∃ q, Hid (x * x % pp = q) := ⟨_, rfl⟩
      have hq : q < R256 := by rw [← Hq.out]; exact lt_of_mod
      go_upto_region 5 with fail
      go_wp2_with (refine wpList_load_own (by rfl) 22 (.tmp 3) (by rfl) b3 (by rfl) (B32 (bdig x)) _ (hKr.at b3 (B32 (bdig x)) 22 (by simp)) Tryd.underlying22 (by rfl) (B32_info _) ?_)
      refine (F.mulA hx hx Hq.out wr (F.keep _ _ hT hKr.2)).mono ?_
      rintro e w2 ⟨rfl, hB2⟩
      have hK3 := hKr.below hB2
      have hK4 := hK3.set (A' := B32 (bdig q)) (by simp; omega) hle3 (B32_sizes _ _)
      go_upto_region 4 with (refine wpList_store_own (by rfl) 22 (.tmp 3) (.tmp 15) (by rfl) b3 0 (B32 (bdig q)) (by rfl) (by rfl) (hK3.at b3 (B32 (bdig x)) 22 (by simp)) (B32_le _ _) (B32_info _) (B32_one _) (by rfl) ?_)
      generalize w2.setCells b3 0 (B32 (bdig q)).toList = W9 at *
      go_wp2_with fail
      exact ⟨⟨k + 1, q, by omega, by go_num, hq, by show _ = _; rw [← Hq.out]; exact sq_step Hx.out, hK4⟩, by simp [intOf]; omega⟩
    · have hki : ¬ (k : Int) < 255 := by omega
      have Hk : Hid (k = 255) := by show _ = _; omega
      go_upto_region 6 with fail
      go_wp2_with (refine wpList_load_own (by rfl) 22 (.tmp 1) (by rfl) bA (by rfl) (B32 (bdig a)) _ (hKr.at bA (B32 (bdig a)) 22 (by simp)) Tryd.underlying22 (by rfl) (B32_info _) ?_)
      refine (F.modA ha Hm.out wr (F.keep _ _ hT hKr.2)).mono ?_
      rintro e w2 ⟨rfl, hB2⟩
      have hK3 := hKr.below hB2
      have hK4 := hK3.alloc (B32 (bdig m)) 22
      have ne4 := fun p hp => Nat.ne_of_lt (hK3.1 p hp).lt
      have hle5 := hK3.2.size
      go_upto_region 7 with (refine wpList_store_new (by rfl) 22 (.tmp 5) (.tmp 17) (by rfl) _ (B32 (bdig m)) (by rfl) (by rfl) (B32_info _) (B32_sizes _ _) (B32_one _) (by rfl) ?_)
      generalize w2.alloc (.cells (B32 (bdig m)) 22) = W2 at *
      generalize w2.heap.size = b5 at *
      have n2 : bA ≠ b5 := ne4 (bA, B32 (bdig a), 22) (by simp)
      have n3 : b3 ≠ b5 := ne4 (b3, B32 (bdig x), 22) (by simp)
      clear hKr hK3 ne4
      go_wp2_with fail
      go_loopw [6] (fun ii wr => ∃ (j y : Nat), j ≤ 19 ∧ ii = .int .i64 (j : Int) ∧ y < R256 ∧ Hid (y = pws a j) ∧ Kp [(b5, B32 (bdig y), 22), (b3, B32 (bdig x), 22), (bA, B32 (bdig a), 22)] w wr) (fun ii _ => 19 - (intOf ii).toNat)
      case atStart => exact ⟨0, m, by omega, rfl, hm, by show _ = _; rw [pws_zero, Hm.out], hK4⟩
      case round =>
        obtain ⟨j, y, hj, rfl, hy, Hy, hKs⟩ := hrel
        have hj0 : (0 : Int) ≤ (j : Int) := by omega
        by_cases hjl : j < 19
        · have hji : (j : Int) < 19 := by omega
          obtain ⟨q, Hq⟩ : ∃ q, Hid (y * a % pp = q) := ⟨_, rfl⟩
          have hq : q < R256 := by rw [← Hq.out]; exact lt_of_mod
          go_upto_region 10 with fail
          go_wp2_with (first
            | refine wpList_load_own (by rfl) 22 (.tmp 5) (by rfl) b5 (by rfl) (B32 (bdig y)) _ (hKs.at b5 (B32 (bdig y)) 22 (by simp)) Tryd.underlying22 (by rfl) (B32_info _) ?_
            | refine wpList_load_own (by rfl) 22 (.tmp 1) (by rfl) bA (by rfl) (B32 (bdig a)) _ (hKs.at bA (B32 (bdig a)) 22 (by simp)) Tryd.underlying22 (by rfl) (B32_info _) ?_)
          refine (F.mulA hy ha Hq.out _ (F.keep _ _ hT hKs.2)).mono ?_
          rintro e w4 ⟨rfl, hB4⟩
          have hK5 := hKs.below hB4
          have hK6 := hK5.set (A' := B32 (bdig q)) (by simp; omega) hle5 (B32_sizes _ _)
          go_upto_region 9 with (refine wpList_store_own (by rfl) 22 (.tmp 5) (.tmp 24) (by rfl) b5 0 (B32 (bdig q)) (by rfl) (by rfl) (hK5.at b5 (B32 (bdig y)) 22 (by simp)) (B32_le _ _) (B32_info _) (B32_one _) (by rfl) ?_)
          generalize w4.setCells b5 0 (B32 (bdig q)).toList = W9 at *
          go_wp2_with fail
          exact ⟨⟨j + 1, q, by omega, by go_num, hq, by show _ = _; rw [← Hq.out]; exact mul_step Hy.out, hK6⟩, by simp [intOf]; omega⟩
        · have hji : ¬ (j : Int) < 19 := by omega
          have hxy : x = y := fermat_end Hk.out (by omega) Hx.out Hy.out
          have heq : ∀ w, (Op.equalIn 10000 22 (.agg (B32 (bdig x))) (.agg (B32 (bdig y)))).run Tryd.prog w = .ok true w := by
            rw [hxy]; exact B32_same y hy
          clear hxy
          go_upto_region 11 with fail
          go_wp2_with (first
            | refine wpList_load_own (by rfl) 22 (.tmp 3) (by rfl) b3 (by rfl) (B32 (bdig x)) _ (hKs.at b3 (B32 (bdig x)) 22 (by simp)) Tryd.underlying22 (by rfl) (B32_info _) ?_
            | refine wpList_load_own (by rfl) 22 (.tmp 5) (by rfl) b5 (by rfl) (B32 (bdig y)) _ (hKs.at b5 (B32 (bdig y)) 22 (by simp)) Tryd.underlying22 (by rfl) (B32_info _) ?_)
          refine (wakes_any F _ (F.keep _ _ hT hKs.2)).mono ?_
          rintro e w5 ⟨rfl, hB5⟩
          go_wp2
          go_ret
          exact ⟨rfl, (hKs.below hB5).2⟩
end Go.Proofs.YtaefjbklioljnaaDoor
