/- The product of the program's numbers. -/
import Derived.Test.YtaefjbklioljnaaDoorF3
namespace Go.Proofs.YtaefjbklioljnaaDoor
open Go.RowKit
theorem prod4 {x a b c d l0 l1 l2 l3 r0 r1 r2 r3 y R : Nat} (hR : R256 = R) (s0 : x * a + 0 = l0 + 18446744073709551616 * r0) (s1 : x * b + r0 = l1 + 18446744073709551616 * r1) (s2 : x * c + r1 = l2 + 18446744073709551616 * r2) (s3 : x * d + r2 = l3 + 18446744073709551616 * r3) (hy : v4 a b c d = y) :
    x * y = v4 l0 l1 l2 l3 + R * r3 := by
  rw [← hy, ← hR]
  unfold v4 R256
  rw [Nat.mul_add, Nat.mul_add, Nat.mul_add, Nat.mul_left_comm, Nat.mul_left_comm x, Nat.mul_left_comm x]
  generalize x * a = A at *
  generalize x * b = B at *
  generalize x * c = C at *
  generalize x * d = D at *
  omega

set_option maxRecDepth 100000 in
set_option maxHeartbeats 8000000 in
theorem ptimes_any (x y : Nat) (hx : x < R256) (hy : y < R256) (w : World) :
    Calls Tryd.prog 36 #[.agg (numA x), .agg (numA y)] w fun r w' => r = .returned (.agg (numA (tmul x y))) ∧ Below w.heap.size w w' := by
  have hz := (zero_of_info zeroFN).1
  obtain ⟨R, HR⟩ : ∃ R, Hid (R256 = R) := ⟨_, rfl⟩
  have Htm : Hid (tmul x y = fold2 (x * y % R + 38 * (x * y / R))) := by rw [← HR.out]; rfl
  obtain ⟨a, b, c, d, eX, ha, hb, hc, hd, vX⟩ := open4 hx
  obtain ⟨e, f, g, h, eY, he, hf, hg, hh, vY⟩ := open4 hy
  have VX := show Hid _ from vX
  have VY := show Hid _ from vY
  rw [eX, eY]
  clear vX vY eX eY
  go_enter Tryd.func36, Tryd.ntmps36
  go_upto_region 1 with fail
  have hK := (((Kp.nil w).alloc (Q4 a b c d) 46).alloc (Q4 e f g h) 46).alloc (Q4 0 0 0 0) 46
  rw [World.size_alloc, World.size_alloc] at hK
  rw [Q4_zero]
  generalize ((w.alloc (.cells (Q4 a b c d) 46)).alloc (.cells (Q4 e f g h) 46)).alloc (.cells (Q4 0 0 0 0) 46) = W at *
  obtain ⟨bX, H1⟩ : ∃ bX, Hid (w.heap.size = bX) := ⟨_, rfl⟩
  obtain ⟨bY, H2⟩ : ∃ bY, Hid (bX + 1 = bY) := ⟨_, rfl⟩
  obtain ⟨bR, H3⟩ : ∃ bR, Hid (bY + 1 = bR) := ⟨_, rfl⟩
  have hleR : w.heap.size ≤ bR := by have := H1.out; have := H2.out; have := H3.out; omega
  rw [H1.out, H2.out, H3.out] at hK ⊢
  have cY := hK.h2.cell (Q4_0 e f g h)
  go_wp2_with (refine wpList_load_own (by rfl) 46 (.tmp 2) (by rfl) bX (by rfl) (Q4 a b c d) _ hK.h3 Tryd.underlying46 (by rfl) (Q4_info _ _ _ _) ?_)
  rw [Q4_zero]
  refine (row_any a b c d e 0 0 0 0 ha hb hc hd he (by decide) (by decide) (by decide) (by decide) W).mono ?_
  rintro r W1 ⟨⟨l0, r0, r1, r2, r3, rfl, hl0, hr0, hr1, hr2, hr3, er⟩, bw⟩
  rw [VX.out, v4_zero] at er
  have S0 : Hid _ := er
  clear er cY
  have hK := hK.below bw
  go_upto_region 2 with (refine wpList_store_new (by rfl) 46 (.tmp 6) (.tmp 17) (by rfl) _ (Q4 r0 r1 r2 r3) (by rfl) (by rfl) (Q4_info _ _ _ _) (Q4_sizes 0 0 0 0 _ _ _ _) (Q4_one _ _ _ _) (by rfl) ?_)
  have nX := hK.h3.lt
  have nY := hK.h2.lt
  have nR := hK.h1.lt
  have hK := hK.alloc (Q4 r0 r1 r2 r3) 46
  generalize W1.alloc (.cells (Q4 r0 r1 r2 r3) 46) = W2 at *
  obtain ⟨bS, H4⟩ : ∃ bS, Hid (W1.heap.size = bS) := ⟨_, rfl⟩
  rw [H4.out] at hK nX nY nR ⊢
  have hleS : w.heap.size ≤ bS := by omega
  have nX : bX ≠ bS := by omega
  have nY : bY ≠ bS := by omega
  have nR : bR ≠ bS := by omega
  have cY := hK.h3.cell (Q4_1 e f g h)
  go_wp2_with (first
    | refine wpList_load_own (by rfl) 46 (.tmp 2) (by rfl) bX (by rfl) (Q4 a b c d) _ hK.h4 Tryd.underlying46 (by rfl) (Q4_info _ _ _ _) ?_
    | refine wpList_load_own (by rfl) 46 (.tmp 6) (by rfl) bS (by rfl) (Q4 r0 r1 r2 r3) _ hK.h1 Tryd.underlying46 (by rfl) (Q4_info _ _ _ _) ?_)
  refine (row_any a b c d f r0 r1 r2 r3 ha hb hc hd hf hr0 hr1 hr2 hr3 W2).mono ?_
  rintro r W3 ⟨⟨l1, q0, q1, q2, q3, rfl, hl1, hq0, hq1, hq2, hq3, er⟩, bw⟩
  rw [VX.out] at er
  have S1 : Hid _ := er
  clear er cY
  have hK := hK.below bw
  go_upto_region 3 with (refine wpList_store_own (by rfl) 46 (.tmp 6) (.tmp 25) (by rfl) bS 0 (Q4 q0 q1 q2 q3) (by rfl) (by rfl) hK.h1 (Q4_le _ _ _ _ _ _ _ _) (Q4_info _ _ _ _) (Q4_one _ _ _ _) (by rfl) ?_)
  have hK := Kp.set (A' := Q4 q0 q1 q2 q3) hK (by simp; omega) hleS rfl
  generalize W3.setCells bS 0 (Q4 q0 q1 q2 q3).toList = W4 at *
  have cY := hK.h3.cell (Q4_2 e f g h)
  go_wp2_with (first
    | refine wpList_load_own (by rfl) 46 (.tmp 2) (by rfl) bX (by rfl) (Q4 a b c d) _ hK.h4 Tryd.underlying46 (by rfl) (Q4_info _ _ _ _) ?_
    | refine wpList_load_own (by rfl) 46 (.tmp 6) (by rfl) bS (by rfl) (Q4 q0 q1 q2 q3) _ hK.h1 Tryd.underlying46 (by rfl) (Q4_info _ _ _ _) ?_)
  refine (row_any a b c d g q0 q1 q2 q3 ha hb hc hd hg hq0 hq1 hq2 hq3 W4).mono ?_
  rintro r W5 ⟨⟨l2, p0, p1, p2, p3, rfl, hl2, hp0, hp1, hp2, hp3, er⟩, bw⟩
  rw [VX.out] at er
  have S2 : Hid _ := er
  clear er cY
  have hK := hK.below bw
  go_upto_region 4 with (refine wpList_store_own (by rfl) 46 (.tmp 6) (.tmp 33) (by rfl) bS 0 (Q4 p0 p1 p2 p3) (by rfl) (by rfl) hK.h1 (Q4_le _ _ _ _ _ _ _ _) (Q4_info _ _ _ _) (Q4_one _ _ _ _) (by rfl) ?_)
  have hK := Kp.set (A' := Q4 p0 p1 p2 p3) hK (by simp; omega) hleS rfl
  generalize W5.setCells bS 0 (Q4 p0 p1 p2 p3).toList = W6 at *
  have cY := hK.h3.cell (Q4_3 e f g h)
  go_wp2_with (first
    | refine wpList_load_own (by rfl) 46 (.tmp 2) (by rfl) bX (by rfl) (Q4 a b c d) _ hK.h4 Tryd.underlying46 (by rfl) (Q4_info _ _ _ _) ?_
    | refine wpList_load_own (by rfl) 46 (.tmp 6) (by rfl) bS (by rfl) (Q4 p0 p1 p2 p3) _ hK.h1 Tryd.underlying46 (by rfl) (Q4_info _ _ _ _) ?_)
  refine (row_any a b c d h p0 p1 p2 p3 ha hb hc hd hh hp0 hp1 hp2 hp3 W6).mono ?_
  rintro r W7 ⟨⟨l3, o0, o1, o2, o3, rfl, hl3, ho0, ho1, ho2, ho3, er⟩, bw⟩
  rw [VX.out] at er
  have S3 : Hid _ := er
  clear er cY
  have hK := hK.below bw
  go_upto_region 5 with (refine wpList_store_own (by rfl) 46 (.tmp 6) (.tmp 41) (by rfl) bS 0 (Q4 o0 o1 o2 o3) (by rfl) (by rfl) hK.h1 (Q4_le _ _ _ _ _ _ _ _) (Q4_info _ _ _ _) (Q4_one _ _ _ _) (by rfl) ?_)
  have hK := Kp.set (A' := Q4 o0 o1 o2 o3) hK (by simp; omega) hleS rfl
  generalize W7.setCells bS 0 (Q4 o0 o1 o2 o3).toList = W8 at *
  have hK := hK.sub (l' := [(bS, Q4 o0 o1 o2 o3, 46), (bR, Q4 0 0 0 0, 46)]) (by simp)
  have Hprod : Hid _ := prod4 HR.out S0.out S1.out S2.out S3.out VY.out
  obtain ⟨lo, Hlo⟩ : ∃ lo, Hid (v4 l0 l1 l2 l3 = lo) := ⟨_, rfl⟩
  obtain ⟨hi, Hhi⟩ : ∃ hi, Hid (v4 o0 o1 o2 o3 = hi) := ⟨_, rfl⟩
  have hloR : lo < R256 := by rw [← Hlo.out]; exact v4_lt hl0 hl1 hl2 hl3
  have hhiR : hi < R256 := by rw [← Hhi.out]; exact v4_lt ho0 ho1 ho2 ho3
  have Hfin : Hid (fold2 (lo + 38 * hi) = tmul x y) := by
    have h1 := Hprod.out
    rw [Hlo.out, Hhi.out] at h1
    rw [HR.out] at hloR
    have h2 := divmod_of hloR h1
    rw [Htm.out, ← h2.1, ← h2.2]
    rfl
  have Qlo : Hid _ := Q4_num hl0 hl1 hl2 hl3 Hlo.out
  have Qhi : Hid _ := Q4_num ho0 ho1 ho2 ho3 Hhi.out
  go_wp2_with (refine wpList_load_own (by rfl) 46 (.tmp 6) (by rfl) bS (by rfl) (Q4 o0 o1 o2 o3) _ hK.h1 Tryd.underlying46 (by rfl) (Q4_info _ _ _ _) ?_)
  rw [show (#[.int .u64 (l0 : Int), .int .u64 (l1 : Int), .int .u64 (l2 : Int), .int .u64 (l3 : Int)] : Array Value) = Q4 l0 l1 l2 l3 from rfl, Qlo.out, Qhi.out]
  refine (folded_any hloR hhiR rfl W8).mono ?_
  rintro r W9 ⟨rfl, bw⟩
  rw [Hfin.out]
  have hK := hK.below bw
  go_wp2_with (refine wpList_store_own (by rfl) 46 (.tmp 4) (.tmp 48) (by rfl) bR 0 (numA (tmul x y)) (by rfl) (by rfl) hK.h2 (Nat.le_refl _) infoFN (numA_one _) (by rfl) ?_)
  exact bodyPost_ret (results_own Tryd.results36 _ _ bR (numA (tmul x y)) _ (by rfl) (own_setCells hK.h2 rfl) Tryd.underlying46 rfl infoFN) rfl ⟨rfl, Below.setCells _ _ _ _ hleR hK.2⟩
end Go.Proofs.YtaefjbklioljnaaDoor
