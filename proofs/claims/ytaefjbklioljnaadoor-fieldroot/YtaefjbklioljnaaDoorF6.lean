/- Sums and opposites of the program's numbers. -/
import Derived.Test.YtaefjbklioljnaaDoorF5
namespace Go.Proofs.YtaefjbklioljnaaDoor
open Go.RowKit

set_option maxRecDepth 100000 in
set_option maxHeartbeats 8000000 in
theorem plus_any (x y : Nat) (hx : x < R256) (hy : y < R256) (hxy : x + y < R256) (w : World) :
    Calls Tryd.prog 32 #[.agg (numA x), .agg (numA y)] w fun r w' => r = .returned (.agg (numA (x + y))) ∧ Below w.heap.size w w' := by
  have hz := (zero_of_info zeroFN).1
  obtain ⟨a0, a1, a2, a3, eX, ha0, ha1, ha2, ha3, vX⟩ := open4 hx
  obtain ⟨b0, b1, b2, b3, eY, hb0, hb1, hb2, hb3, vY⟩ := open4 hy
  obtain ⟨s0, k0, r0, hs0, hk0, e0⟩ := add64_any a0 b0 0 ha0 hb0 (by omega)
  obtain ⟨s1, k1, r1, hs1, hk1, e1⟩ := add64_any a1 b1 k0 ha1 hb1 hk0
  obtain ⟨s2, k2, r2, hs2, hk2, e2⟩ := add64_any a2 b2 k1 ha2 hb2 hk1
  obtain ⟨s3, k3, r3, hs3, hk3, e3⟩ := add64_any a3 b3 k2 ha3 hb3 hk2
  have Hend : Hid (Q4 s0 s1 s2 s3 = numA (x + y)) := by
    refine Q4_num hs0 hs1 hs2 hs3 ?_
    rw [← vX, ← vY] at hxy ⊢
    unfold v4 R256 at *
    omega
  rw [eX, eY]
  clear e0 e1 e2 e3 vX vY eX eY
  have r0 : ∀ w, (callFunc 46 #[.int .u64 (a0 : Int), .int .u64 (b0 : Int), .int .u64 0]).run Tryd.prog w = .ok (.value (.tuple #[.int .u64 (s0 : Int), .int .u64 (k0 : Int)])) w := r0
  go_enter Tryd.func32, Tryd.ntmps32
  go_upto_region 1 with fail
  have hK := (((Kp.nil w).alloc (Q4 a0 a1 a2 a3) 46).alloc (Q4 b0 b1 b2 b3) 46).alloc (Q4 0 0 0 0) 46
  rw [World.size_alloc, World.size_alloc] at hK
  rw [Q4_zero]
  generalize ((w.alloc (.cells (Q4 a0 a1 a2 a3) 46)).alloc (.cells (Q4 b0 b1 b2 b3) 46)).alloc (.cells (Q4 0 0 0 0) 46) = W at *
  obtain ⟨bX, H1⟩ : ∃ bX, Hid (w.heap.size = bX) := ⟨_, rfl⟩
  obtain ⟨bY, H2⟩ : ∃ bY, Hid (bX + 1 = bY) := ⟨_, rfl⟩
  obtain ⟨bR, H3⟩ : ∃ bR, Hid (bY + 1 = bR) := ⟨_, rfl⟩
  have hleX : w.heap.size ≤ bX := Nat.le_of_eq H1.out
  have hleR : w.heap.size ≤ bR := by have := H1.out; have := H2.out; have := H3.out; omega
  have nY : bY ≠ bX := by have := H2.out; omega
  have nR : bR ≠ bX := by have := H2.out; have := H3.out; omega
  rw [H1.out, H2.out, H3.out] at hK ⊢
  have hK : Kp [(bX, Q4 a0 a1 a2 a3, 46), (bY, Q4 b0 b1 b2 b3, 46), (bR, Q4 0 0 0 0, 46)] w W := hK.sub (by simp)
  have cA := hK.h1.cell (Q4_0 a0 a1 a2 a3)
  have cB := hK.h2.cell (Q4_0 b0 b1 b2 b3)
  have fA := hK.h1.frozen 0
  go_upto_region 3 with fail
  have hK := Kp.setCell (i := 0) (v := .int .u64 (s0 : Int)) hK (by simp; omega) hleX
  rw [Q4_set0] at hK
  generalize W.setCell ⟨bX, 0, none⟩ (.int .u64 (s0 : Int)) = W0 at *
  clear cA fA cB r0
  have cA := hK.h1.cell (Q4_1 s0 a1 a2 a3)
  have cB := hK.h2.cell (Q4_1 b0 b1 b2 b3)
  have fA := hK.h1.frozen 1
  go_upto_region 4 with fail
  have hK := Kp.setCell (i := 1) (v := .int .u64 (s1 : Int)) hK (by simp; omega) hleX
  rw [Q4_set1] at hK
  generalize W0.setCell ⟨bX, 1, none⟩ (.int .u64 (s1 : Int)) = W01 at *
  clear cA fA cB r1
  have cA := hK.h1.cell (Q4_2 s0 s1 a2 a3)
  have cB := hK.h2.cell (Q4_2 b0 b1 b2 b3)
  have fA := hK.h1.frozen 2
  go_upto_region 5 with fail
  have hK := Kp.setCell (i := 2) (v := .int .u64 (s2 : Int)) hK (by simp; omega) hleX
  rw [Q4_set2] at hK
  generalize W01.setCell ⟨bX, 2, none⟩ (.int .u64 (s2 : Int)) = W012 at *
  clear cA fA cB r2
  have cA := hK.h1.cell (Q4_3 s0 s1 s2 a3)
  have cB := hK.h2.cell (Q4_3 b0 b1 b2 b3)
  have fA := hK.h1.frozen 3
  go_upto_region 6 with fail
  have hK := Kp.setCell (i := 3) (v := .int .u64 (s3 : Int)) hK (by simp; omega) hleX
  rw [Q4_set3] at hK
  generalize W012.setCell ⟨bX, 3, none⟩ (.int .u64 (s3 : Int)) = W0123 at *
  clear cA fA cB r3
  go_wp2_with (first
    | refine wpList_load_own (by rfl) 46 (.tmp 2) (by rfl) bX (by rfl) (Q4 s0 s1 s2 s3) _ hK.h1 Tryd.underlying46 (by rfl) (Q4_info _ _ _ _) ?_
    | refine wpList_store_own (by rfl) 46 (.tmp 4) (.tmp 45) (by rfl) bR 0 (Q4 s0 s1 s2 s3) (by rfl) (by rfl) hK.h3 (Q4_le _ _ _ _ _ _ _ _) (Q4_info _ _ _ _) (Q4_one _ _ _ _) (by rfl) ?_)
  exact bodyPost_ret (results_own Tryd.results32 _ _ bR (Q4 s0 s1 s2 s3) _ (by rfl) (own_setCells hK.h3 (Q4_sizes _ _ _ _ _ _ _ _)) Tryd.underlying46 rfl (Q4_info _ _ _ _)) rfl ⟨by rw [Hend.out], Below.setCells _ _ _ _ hleR hK.2⟩

set_option maxRecDepth 100000 in
set_option maxHeartbeats 8000000 in
theorem opp_any (n : Nat) (hn : n < R256) (w : World) (hT : TP w) :
    Calls Tryd.prog 35 #[.agg (numA n)] w fun r w' => r = .returned (.agg (numA (pp - n % pp))) ∧ Below w.heap.size w w' := by
  have hz := (zero_of_info zeroFN).1
  have hm : n % pp < pp := Nat.mod_lt _ pp_pos
  obtain ⟨m, Hm⟩ : ∃ m, Hid (n % pp = m) := ⟨_, rfl⟩
  rw [Hm.out] at hm ⊢
  have hmR : m < R256 := Nat.lt_trans hm (by decide)
  obtain ⟨a0, a1, a2, a3, eX, ha0, ha1, ha2, ha3, vX⟩ := open4 hmR
  obtain ⟨s0, k0, r0, hs0, hk0, e0⟩ := sub64_any 18446744073709551597 a0 0 (by decide) ha0 (by omega)
  obtain ⟨s1, k1, r1, hs1, hk1, e1⟩ := sub64_any 18446744073709551615 a1 k0 (by decide) ha1 hk0
  obtain ⟨s2, k2, r2, hs2, hk2, e2⟩ := sub64_any 18446744073709551615 a2 k1 (by decide) ha2 hk1
  obtain ⟨s3, k3, r3, hs3, hk3, e3⟩ := sub64_any 9223372036854775807 a3 k2 (by decide) ha3 hk2
  have Hend : Hid (Q4 s0 s1 s2 s3 = numA (pp - m)) := by
    refine Q4_num hs0 hs1 hs2 hs3 ?_
    have hp : pp = 57896044618658097711785492504343953926634992332820282019728792003956564819949 := rfl
    rw [hp, ← vX] at hm ⊢
    unfold v4 at *
    omega
  have EX := show Hid _ from eX
  clear e0 e1 e2 e3 vX eX
  have r0 : ∀ w, (callFunc 45 #[.int .u64 18446744073709551597, .int .u64 (a0 : Int), .int .u64 0]).run Tryd.prog w = .ok (.value (.tuple #[.int .u64 (s0 : Int), .int .u64 (k0 : Int)])) w := r0
  have r1 : ∀ w, (callFunc 45 #[.int .u64 18446744073709551615, .int .u64 (a1 : Int), .int .u64 (k0 : Int)]).run Tryd.prog w = .ok (.value (.tuple #[.int .u64 (s1 : Int), .int .u64 (k1 : Int)])) w := r1
  have r2 : ∀ w, (callFunc 45 #[.int .u64 18446744073709551615, .int .u64 (a2 : Int), .int .u64 (k1 : Int)]).run Tryd.prog w = .ok (.value (.tuple #[.int .u64 (s2 : Int), .int .u64 (k2 : Int)])) w := r2
  have r3 : ∀ w, (callFunc 45 #[.int .u64 9223372036854775807, .int .u64 (a3 : Int), .int .u64 (k2 : Int)]).run Tryd.prog w = .ok (.value (.tuple #[.int .u64 (s3 : Int), .int .u64 (k3 : Int)])) w := r3
  go_enter Tryd.func35, Tryd.ntmps35
  go_upto_region 1 with fail
  have hK := ((Kp.nil w).alloc (numA n) 46).alloc (Q4 0 0 0 0) 46
  rw [World.size_alloc] at hK
  rw [Q4_zero]
  generalize (w.alloc (.cells (numA n) 46)).alloc (.cells (Q4 0 0 0 0) 46) = W at *
  obtain ⟨bX, H1⟩ : ∃ bX, Hid (w.heap.size = bX) := ⟨_, rfl⟩
  obtain ⟨bR, H3⟩ : ∃ bR, Hid (bX + 1 = bR) := ⟨_, rfl⟩
  have hleX : w.heap.size ≤ bX := Nat.le_of_eq H1.out
  have hleR : w.heap.size ≤ bR := by have := H1.out; have := H3.out; omega
  have nR : bR ≠ bX := by have := H3.out; omega
  have nG : bX ≠ 1 := by have := hT.1; omega
  rw [H1.out, H3.out] at hK ⊢
  have hK : Kp [(bX, numA n, 46), (bR, Q4 0 0 0 0, 46)] w W := hK.sub (by simp)
  go_wp2_with (refine wpList_load_own (by rfl) 46 (.tmp 1) (by rfl) bX (by rfl) (numA n) _ hK.h1 Tryd.underlying46 (by rfl) infoFN ?_)
  refine (least_any n hn W (hT.kp hK)).mono ?_
  rintro r V ⟨rfl, bw⟩
  rw [Hm.out, EX.out]
  have hK := hK.below bw
  go_upto_region 2 with (refine wpList_store_own (by rfl) 46 (.tmp 1) (.tmp 5) (by rfl) bX 0 (Q4 a0 a1 a2 a3) (by rfl) (by rfl) hK.h1 (Nat.le_refl _) (Q4_info _ _ _ _) (Q4_one _ _ _ _) (by rfl) ?_)
  have hK := Kp.set (A' := Q4 a0 a1 a2 a3) hK (by simp; omega) hleX rfl
  generalize V.setCells bX 0 (Q4 a0 a1 a2 a3).toList = V1 at *
  have cA := hK.h1.cell (Q4_0 a0 a1 a2 a3)
  have cB := (hT.kp hK).2.1
  have fA := hK.h1.frozen 0
  go_upto_region 4 with fail
  have hK := Kp.setCell (i := 0) (v := .int .u64 (s0 : Int)) hK (by simp; omega) hleX
  rw [Q4_set0] at hK
  generalize V1.setCell ⟨bX, 0, none⟩ (.int .u64 (s0 : Int)) = V10 at *
  clear cA fA cB r0
  have cA := hK.h1.cell (Q4_1 s0 a1 a2 a3)
  have cB := (hT.kp hK).2.2.1
  have fA := hK.h1.frozen 1
  go_upto_region 5 with fail
  have hK := Kp.setCell (i := 1) (v := .int .u64 (s1 : Int)) hK (by simp; omega) hleX
  rw [Q4_set1] at hK
  generalize V10.setCell ⟨bX, 1, none⟩ (.int .u64 (s1 : Int)) = V101 at *
  clear cA fA cB r1
  have cA := hK.h1.cell (Q4_2 s0 s1 a2 a3)
  have cB := (hT.kp hK).2.2.2.1
  have fA := hK.h1.frozen 2
  go_upto_region 6 with fail
  have hK := Kp.setCell (i := 2) (v := .int .u64 (s2 : Int)) hK (by simp; omega) hleX
  rw [Q4_set2] at hK
  generalize V101.setCell ⟨bX, 2, none⟩ (.int .u64 (s2 : Int)) = V1012 at *
  clear cA fA cB r2
  have cA := hK.h1.cell (Q4_3 s0 s1 s2 a3)
  have cB := (hT.kp hK).2.2.2.2
  have fA := hK.h1.frozen 3
  go_upto_region 7 with fail
  have hK := Kp.setCell (i := 3) (v := .int .u64 (s3 : Int)) hK (by simp; omega) hleX
  rw [Q4_set3] at hK
  generalize V1012.setCell ⟨bX, 3, none⟩ (.int .u64 (s3 : Int)) = V10123 at *
  clear cA fA cB r3
  go_wp2_with (first
    | refine wpList_load_own (by rfl) 46 (.tmp 1) (by rfl) bX (by rfl) (Q4 s0 s1 s2 s3) _ hK.h1 Tryd.underlying46 (by rfl) (Q4_info _ _ _ _) ?_
    | refine wpList_store_own (by rfl) 46 (.tmp 2) (.tmp 45) (by rfl) bR 0 (Q4 s0 s1 s2 s3) (by rfl) (by rfl) hK.h2 (Q4_le _ _ _ _ _ _ _ _) (Q4_info _ _ _ _) (Q4_one _ _ _ _) (by rfl) ?_)
  exact bodyPost_ret (results_own Tryd.results35 _ _ bR (Q4 s0 s1 s2 s3) _ (by rfl) (own_setCells hK.h2 (Q4_sizes _ _ _ _ _ _ _ _)) Tryd.underlying46 rfl (Q4_info _ _ _ _)) rfl ⟨by rw [Hend.out], Below.setCells _ _ _ _ hleR hK.2⟩

end Go.Proofs.YtaefjbklioljnaaDoor
