/- Of the texts VB, SP2: what the card of this claim reaches. -/
import Derived.Test.YtgibllaifnnfkaaGreatDoorXE35
import Derived.Test.YtgibllaifnnfkaaGreatDoorXE4
import Derived.Test.YtgibllaifnnfkaaGreatDoorXE11
import Derived.Test.YtgibllaifnnfkaaGreatDoorXE32
namespace Go.Proofs.YtgibllaifnnfkaaGreatDoor
open Go Go.RowKit
theorem plus_at {p q r : N4} (hp : p.ok) (hq : q.ok) (hr : plus4 p q = r) (w : World) :
    Calls Tryz.prog 76 #[.agg (PA p), .agg (PA q), .agg (numA dd)] w fun x w' => x = .returned (.agg (PA r)) ∧ Below w.heap.size w w' := by
  rw [← hr]; exact plus_any p q hp hq w
theorem multiple_at {n : Nat} (hn : n < R256) {p r : N4} (hp : p.ok) (hr : mul4 p 256 n = r) (w : World) : Calls Tryz.prog 75 #[.agg (numA n), .agg (PA p)] w fun x w' => x = .returned (.agg (PA r)) ∧ Below w.heap.size w w' := by
  rw [← hr]; exact multiple_any n hn p hp w
theorem encode_at {r : N4} (hr : r.ok) {c : Nat} (hc : enc4 r = c) (w : World) : Calls Tryz.prog 74 #[.agg (PA r)] w fun e w' => e = .returned (.agg (B32 (bdig c))) ∧ Below w.heap.size w w' := by
  rw [← hc]; exact encode_any r hr w
theorem mul4_ok {p : N4} : ∀ f k, (mul4 p f k).ok
  | 0, _ => zero4_ok
  | f + 1, k => by
    rw [mul4]
    split
    · exact plus4_ok _ _
    · exact plus4_ok _ _
set_option maxRecDepth 100000 in
set_option maxHeartbeats 2000000 in
theorem sum_yes {a b : Nat} {r1 r2 : N4} (hr1 : Hid r1.ok) (hr2 : Hid r2.ok) (hc_a : ∀ w : World, Calls Tryz.prog 36 #[.agg (B32 (bdig a))] w fun e w' => e = .returned (.tuple #[.agg (PA r1), .bool true]) ∧ Below w.heap.size w w') (hc_b : ∀ w : World, Calls Tryz.prog 36 #[.agg (B32 (bdig b))] w fun e w' => e = .returned (.tuple #[.agg (PA r2), .bool true]) ∧ Below w.heap.size w w') (w : World) : Calls Tryz.prog 39 #[.agg (B32 (bdig a)), .agg (B32 (bdig b))] w fun e w' => e = .returned (.tuple #[.agg (B32 (bdig (enc4 (plus4 r1 r2)))), .bool true]) ∧ Below w.heap.size w w' := by
  have hz := (zero_of_info zeroLit).1
  have hzP := (zero_of_info zeroPA).1
  have hzB := (zero_of_info zeroB32).1
  obtain ⟨r3, Hr3⟩ : ∃ r, Hid (plus4 r1 r2 = r) := ⟨_, rfl⟩
  have hr3 : Hid r3.ok := by show r3.ok; rw [← Hr3.out]; exact plus4_ok _ _
  rw [Hr3.out]
  obtain ⟨c, Hc⟩ : ∃ r, Hid (enc4 r3 = r) := ⟨_, rfl⟩
  rw [Hc.out]
  go_enter Tryz.func39, Tryz.ntmps39
  go_upto_region 1 with fail
  have hK := (((Kp.nil w).alloc (B32 (bdig a)) 22).alloc (B32 (bdig b)) 22).alloc (B32 fun _ => 0) 22
  rw [World.size_alloc, World.size_alloc] at hK
  generalize ((w.alloc (.cells (B32 (bdig a)) 22)).alloc (.cells (B32 (bdig b)) 22)).alloc (.cells (B32 fun _ => 0) 22) = W at *
  obtain ⟨bA, HbA⟩ : ∃ b, Hid (w.heap.size = b) := ⟨_, rfl⟩
  obtain ⟨bB, HbB⟩ : ∃ b, Hid (bA + 1 = b) := ⟨_, rfl⟩
  obtain ⟨bR, HbR⟩ : ∃ b, Hid (bB + 1 = b) := ⟨_, rfl⟩
  have le_bA : Hid (w.heap.size ≤ bA) := by show _ ≤ _; have := HbA.out; omega
  have le_bB : Hid (w.heap.size ≤ bB) := by show _ ≤ _; have := HbA.out; have := HbB.out; omega
  have le_bR : Hid (w.heap.size ≤ bR) := by show _ ≤ _; have := HbA.out; have := HbB.out; have := HbR.out; omega
  have ne_bA_bB : Hid (bA ≠ bB) := by show _ ≠ _; have := HbB.out; omega
  have ne_bA_bR : Hid (bA ≠ bR) := by show _ ≠ _; have := HbB.out; have := HbR.out; omega
  have ne_bB_bR : Hid (bB ≠ bR) := by show _ ≠ _; have := HbR.out; omega
  rw [HbA.out, HbB.out, HbR.out] at hK ⊢
  go_wp2_with (refine wpList_load_own (by rfl) 22 (.tmp 2) (by rfl) bA (by rfl) (B32 (bdig a)) _ (hK.at bA (B32 (bdig a)) 22 (.tail _ (.tail _ (.head _)))) Tryz.underlying22 (by rfl) (B32_info _) ?_)
  refine (hc_a _).mono ?_
  rintro e V1 ⟨rfl, bw⟩
  have hK := hK.below bw
  clear bw
  go_upto_region 2 with (refine wpList_store_new (by rfl) 56 (.tmp 6) (.tmp 13) (by rfl) _ (PA r1) (by rfl) (by rfl) (PA_info _) (PA_sizes _ _) (PA_one _) (by rfl) ?_)
  have lt_bR := (hK.at bR (B32 fun _ => 0) 22 (.head _)).lt
  have lt_bB := (hK.at bB (B32 (bdig b)) 22 (.tail _ (.head _))).lt
  have lt_bA := (hK.at bA (B32 (bdig a)) 22 (.tail _ (.tail _ (.head _)))).lt
  have le_b2 := show Hid _ from hK.2.size
  have hK := hK.alloc (PA r1) 56
  generalize V1.alloc (.cells (PA r1) 56) = V3 at *
  obtain ⟨b2, Hb2⟩ : ∃ b, Hid (V1.heap.size = b) := ⟨_, rfl⟩
  have ne_bR_b2 : Hid (bR ≠ b2) := by show _ ≠ _; rw [← Hb2.out]; exact Nat.ne_of_lt lt_bR
  have ne_bB_b2 : Hid (bB ≠ b2) := by show _ ≠ _; rw [← Hb2.out]; exact Nat.ne_of_lt lt_bB
  have ne_bA_b2 : Hid (bA ≠ b2) := by show _ ≠ _; rw [← Hb2.out]; exact Nat.ne_of_lt lt_bA
  have le_b2 : Hid (w.heap.size ≤ b2) := by show _ ≤ _; rw [← Hb2.out]; exact le_b2.out
  rw [Hb2.out] at hK ⊢
  clear lt_bR lt_bB lt_bA
  go_wp2_with (refine wpList_load_own (by rfl) 22 (.tmp 3) (by rfl) bB (by rfl) (B32 (bdig b)) _ (hK.at bB (B32 (bdig b)) 22 (.tail _ (.tail _ (.head _)))) Tryz.underlying22 (by rfl) (B32_info _) ?_)
  refine (hc_b _).mono ?_
  rintro e V4 ⟨rfl, bw⟩
  have hK := hK.below bw
  clear bw
  go_upto_region 3 with (refine wpList_store_new (by rfl) 56 (.tmp 8) (.tmp 18) (by rfl) _ (PA r2) (by rfl) (by rfl) (PA_info _) (PA_sizes _ _) (PA_one _) (by rfl) ?_)
  have lt_b2 := (hK.at b2 (PA r1) 56 (.head _)).lt
  have lt_bR := (hK.at bR (B32 fun _ => 0) 22 (.tail _ (.head _))).lt
  have lt_bB := (hK.at bB (B32 (bdig b)) 22 (.tail _ (.tail _ (.head _)))).lt
  have lt_bA := (hK.at bA (B32 (bdig a)) 22 (.tail _ (.tail _ (.tail _ (.head _))))).lt
  have le_b5 := show Hid _ from hK.2.size
  have hK := hK.alloc (PA r2) 56
  generalize V4.alloc (.cells (PA r2) 56) = V6 at *
  obtain ⟨b5, Hb5⟩ : ∃ b, Hid (V4.heap.size = b) := ⟨_, rfl⟩
  have ne_b2_b5 : Hid (b2 ≠ b5) := by show _ ≠ _; rw [← Hb5.out]; exact Nat.ne_of_lt lt_b2
  have ne_bR_b5 : Hid (bR ≠ b5) := by show _ ≠ _; rw [← Hb5.out]; exact Nat.ne_of_lt lt_bR
  have ne_bB_b5 : Hid (bB ≠ b5) := by show _ ≠ _; rw [← Hb5.out]; exact Nat.ne_of_lt lt_bB
  have ne_bA_b5 : Hid (bA ≠ b5) := by show _ ≠ _; rw [← Hb5.out]; exact Nat.ne_of_lt lt_bA
  have le_b5 : Hid (w.heap.size ≤ b5) := by show _ ≤ _; rw [← Hb5.out]; exact le_b5.out
  rw [Hb5.out] at hK ⊢
  clear lt_b2 lt_bR lt_bB lt_bA
  go_upto_region 5 with fail
  have hK : Kp [(b5, PA r2, 56), (b2, PA r1, 56), (bR, B32 fun _ => 0, 22)] w V6 := (((hK.none.cons (hK.at bR (B32 fun _ => 0) 22 (.tail _ (.tail _ (.head _))))).cons (hK.at b2 (PA r1) 56 (.tail _ (.head _)))).cons (hK.at b5 (PA r2) 56 (.head _)))
  refine wp_region_lv 32 (fun L => [(b5, PA r2, 56), (b2, PA r1, 56), (bR, if L 5 = true then B32 (bdig c) else B32 fun _ => 0, 22)]) [.v (.agg (PA r1)), .v (.agg (PA r2)), .v (.agg (numA dd)), .v (.agg (PA r3)), .v (.agg (B32 (bdig c))), .o, .v (.bool true)] hK (by kernel_rfl) (by kernel_rfl) (by kernel_rfl) (by rfl) ?_ ?_
  · exact .c (.ld b2 (fun _ => .tail _ (.head _)) Tryz.underlying56 rfl (PA_info _)) <| .c (.ld b5 (fun _ => .head _) Tryz.underlying56 rfl (PA_info _)) <| .c (.ca fun _ _ _ => d_any _) <| .c (.ca fun _ _ _ => plus_at hr1.out hr2.out Hr3.out _) <| .c (.ca fun _ _ _ => encode_at hr3.out Hc.out _) <| .c (.sk bR (.nx (fun _ => rfl) (fun _ => rfl) (fun _ => Ne.symm ne_bR_b5.out) <| .nx (fun _ => rfl) (fun _ => rfl) (fun _ => Ne.symm ne_bR_b2.out) <| .hr (fun _ => rfl) (fun _ => rfl) (fun _ => fn)) le_bR.out (B32_info _) (B32_one _)) <| .c .p0 .nil
  intro _ V7 hJ _
  have hK : Kp [(b5, PA r2, 56), (b2, PA r1, 56), (bR, B32 (bdig c), 22)] w V7 := hJ.1
  clear hJ
  simp only [putL, Lv.val, Act.put, List.setIfInBounds_toArray, List.set_cons_succ, List.set_cons_zero]
  go_wp2_with fail
  exact bodyPost_ret (results_own_tmp Tryz.results39 _ _ bR (B32 (bdig c)) _ (by rfl) (hK.at bR (B32 (bdig c)) 22 (.tail _ (.tail _ (.head _)))) Tryz.underlying22 rfl (B32_info _)) rfl ⟨rfl, hK.2⟩
set_option maxRecDepth 100000 in
set_option maxHeartbeats 2000000 in
theorem times_yes {n a : Nat} {r1 : N4} (hn : Hid (n < R256)) (hr1 : Hid r1.ok) (hc_a : ∀ w : World, Calls Tryz.prog 36 #[.agg (B32 (bdig a))] w fun e w' => e = .returned (.tuple #[.agg (PA r1), .bool true]) ∧ Below w.heap.size w w') (w : World) : Calls Tryz.prog 37 #[.agg (B32 (bdig n)), .agg (B32 (bdig a))] w fun e w' => e = .returned (.tuple #[.agg (B32 (bdig (enc4 (mul4 r1 256 n)))), .bool true]) ∧ Below w.heap.size w w' := by
  have hz := (zero_of_info zeroLit).1
  have hzP := (zero_of_info zeroPA).1
  have hzB := (zero_of_info zeroB32).1
  obtain ⟨r3, Hr3⟩ : ∃ r, Hid (mul4 r1 256 n = r) := ⟨_, rfl⟩
  have hr3 : Hid r3.ok := by show r3.ok; rw [← Hr3.out]; exact mul4_ok _ _
  rw [Hr3.out]
  obtain ⟨c, Hc⟩ : ∃ r, Hid (enc4 r3 = r) := ⟨_, rfl⟩
  rw [Hc.out]
  go_enter Tryz.func37, Tryz.ntmps37
  go_upto_region 1 with fail
  have hK := (((Kp.nil w).alloc (B32 (bdig n)) 22).alloc (B32 (bdig a)) 22).alloc (B32 fun _ => 0) 22
  rw [World.size_alloc, World.size_alloc] at hK
  generalize ((w.alloc (.cells (B32 (bdig n)) 22)).alloc (.cells (B32 (bdig a)) 22)).alloc (.cells (B32 fun _ => 0) 22) = W at *
  obtain ⟨bN, HbN⟩ : ∃ b, Hid (w.heap.size = b) := ⟨_, rfl⟩
  obtain ⟨bA, HbA⟩ : ∃ b, Hid (bN + 1 = b) := ⟨_, rfl⟩
  obtain ⟨bR, HbR⟩ : ∃ b, Hid (bA + 1 = b) := ⟨_, rfl⟩
  have le_bN : Hid (w.heap.size ≤ bN) := by show _ ≤ _; have := HbN.out; omega
  have le_bA : Hid (w.heap.size ≤ bA) := by show _ ≤ _; have := HbN.out; have := HbA.out; omega
  have le_bR : Hid (w.heap.size ≤ bR) := by show _ ≤ _; have := HbN.out; have := HbA.out; have := HbR.out; omega
  have ne_bN_bA : Hid (bN ≠ bA) := by show _ ≠ _; have := HbA.out; omega
  have ne_bN_bR : Hid (bN ≠ bR) := by show _ ≠ _; have := HbA.out; have := HbR.out; omega
  have ne_bA_bR : Hid (bA ≠ bR) := by show _ ≠ _; have := HbR.out; omega
  rw [HbN.out, HbA.out, HbR.out] at hK ⊢
  go_wp2_with (refine wpList_load_own (by rfl) 22 (.tmp 3) (by rfl) bA (by rfl) (B32 (bdig a)) _ (hK.at bA (B32 (bdig a)) 22 (.tail _ (.head _))) Tryz.underlying22 (by rfl) (B32_info _) ?_)
  refine (hc_a _).mono ?_
  rintro e V1 ⟨rfl, bw⟩
  have hK := hK.below bw
  clear bw
  go_upto_region 2 with (refine wpList_store_new (by rfl) 56 (.tmp 6) (.tmp 11) (by rfl) _ (PA r1) (by rfl) (by rfl) (PA_info _) (PA_sizes _ _) (PA_one _) (by rfl) ?_)
  have lt_bR := (hK.at bR (B32 fun _ => 0) 22 (.head _)).lt
  have lt_bA := (hK.at bA (B32 (bdig a)) 22 (.tail _ (.head _))).lt
  have lt_bN := (hK.at bN (B32 (bdig n)) 22 (.tail _ (.tail _ (.head _)))).lt
  have le_b2 := show Hid _ from hK.2.size
  have hK := hK.alloc (PA r1) 56
  generalize V1.alloc (.cells (PA r1) 56) = V3 at *
  obtain ⟨b2, Hb2⟩ : ∃ b, Hid (V1.heap.size = b) := ⟨_, rfl⟩
  have ne_bR_b2 : Hid (bR ≠ b2) := by show _ ≠ _; rw [← Hb2.out]; exact Nat.ne_of_lt lt_bR
  have ne_bA_b2 : Hid (bA ≠ b2) := by show _ ≠ _; rw [← Hb2.out]; exact Nat.ne_of_lt lt_bA
  have ne_bN_b2 : Hid (bN ≠ b2) := by show _ ≠ _; rw [← Hb2.out]; exact Nat.ne_of_lt lt_bN
  have le_b2 : Hid (w.heap.size ≤ b2) := by show _ ≤ _; rw [← Hb2.out]; exact le_b2.out
  rw [Hb2.out] at hK ⊢
  clear lt_bR lt_bA lt_bN
  go_upto_region 4 with fail
  have hK : Kp [(b2, PA r1, 56), (bR, B32 fun _ => 0, 22), (bN, B32 (bdig n), 22)] w V3 := (((hK.none.cons (hK.at bN (B32 (bdig n)) 22 (.tail _ (.tail _ (.tail _ (.head _)))))).cons (hK.at bR (B32 fun _ => 0) 22 (.tail _ (.head _)))).cons (hK.at b2 (PA r1) 56 (.head _)))
  refine wp_region_lv 21 (fun L => [(b2, PA r1, 56), (bR, if L 5 = true then B32 (bdig c) else B32 fun _ => 0, 22), (bN, B32 (bdig n), 22)]) [.v (.agg (B32 (bdig n))), .v (.agg (numA n)), .v (.agg (PA r1)), .v (.agg (PA r3)), .v (.agg (B32 (bdig c))), .o, .v (.bool true)] hK (by kernel_rfl) (by kernel_rfl) (by kernel_rfl) (by rfl) ?_ ?_
  · exact .c (.ld bN (fun _ => .tail _ (.tail _ (.head _))) Tryz.underlying22 rfl (B32_info _)) <| .c (.ca fun _ _ _ => of_any n hn.out _) <| .c (.ld b2 (fun _ => .head _) Tryz.underlying56 rfl (PA_info _)) <| .c (.ca fun _ _ _ => multiple_at hn.out hr1.out Hr3.out _) <| .c (.ca fun _ _ _ => encode_at hr3.out Hc.out _) <| .c (.sk bR (.nx (fun _ => rfl) (fun _ => rfl) (fun _ => Ne.symm ne_bR_b2.out) <| .hr (fun _ => rfl) (fun _ => rfl) (fun _ => fc ne_bN_bR <| fn)) le_bR.out (B32_info _) (B32_one _)) <| .c .p0 .nil
  intro _ V4 hJ _
  have hK : Kp [(b2, PA r1, 56), (bR, B32 (bdig c), 22), (bN, B32 (bdig n), 22)] w V4 := hJ.1
  clear hJ
  simp only [putL, Lv.val, Act.put, List.setIfInBounds_toArray, List.set_cons_succ, List.set_cons_zero]
  go_wp2_with fail
  exact bodyPost_ret (results_own_tmp Tryz.results37 _ _ bR (B32 (bdig c)) _ (by rfl) (hK.at bR (B32 (bdig c)) 22 (.tail _ (.head _))) Tryz.underlying22 rfl (B32_info _)) rfl ⟨rfl, hK.2⟩
set_option maxRecDepth 100000 in
set_option maxHeartbeats 2000000 in
theorem times_not {n a : Nat} {r1 : N4} (hc_a : ∀ w : World, Calls Tryz.prog 36 #[.agg (B32 (bdig a))] w fun e w' => e = .returned (.tuple #[.agg (PA r1), .bool false]) ∧ Below w.heap.size w w') (w : World) : Calls Tryz.prog 37 #[.agg (B32 (bdig n)), .agg (B32 (bdig a))] w fun e w' => e = .returned (.tuple #[.agg (B32 fun _ => 0), .bool false]) ∧ Below w.heap.size w w' := by
  have hz := (zero_of_info zeroLit).1
  have hzP := (zero_of_info zeroPA).1
  have hzB := (zero_of_info zeroB32).1
  go_enter Tryz.func37, Tryz.ntmps37
  go_upto_region 1 with fail
  have hK := (((Kp.nil w).alloc (B32 (bdig n)) 22).alloc (B32 (bdig a)) 22).alloc (B32 fun _ => 0) 22
  rw [World.size_alloc, World.size_alloc] at hK
  generalize ((w.alloc (.cells (B32 (bdig n)) 22)).alloc (.cells (B32 (bdig a)) 22)).alloc (.cells (B32 fun _ => 0) 22) = W at *
  obtain ⟨bN, HbN⟩ : ∃ b, Hid (w.heap.size = b) := ⟨_, rfl⟩
  obtain ⟨bA, HbA⟩ : ∃ b, Hid (bN + 1 = b) := ⟨_, rfl⟩
  obtain ⟨bR, HbR⟩ : ∃ b, Hid (bA + 1 = b) := ⟨_, rfl⟩
  have le_bN : Hid (w.heap.size ≤ bN) := by show _ ≤ _; have := HbN.out; omega
  have le_bA : Hid (w.heap.size ≤ bA) := by show _ ≤ _; have := HbN.out; have := HbA.out; omega
  have le_bR : Hid (w.heap.size ≤ bR) := by show _ ≤ _; have := HbN.out; have := HbA.out; have := HbR.out; omega
  have ne_bN_bA : Hid (bN ≠ bA) := by show _ ≠ _; have := HbA.out; omega
  have ne_bN_bR : Hid (bN ≠ bR) := by show _ ≠ _; have := HbA.out; have := HbR.out; omega
  have ne_bA_bR : Hid (bA ≠ bR) := by show _ ≠ _; have := HbR.out; omega
  rw [HbN.out, HbA.out, HbR.out] at hK ⊢
  go_wp2_with (refine wpList_load_own (by rfl) 22 (.tmp 3) (by rfl) bA (by rfl) (B32 (bdig a)) _ (hK.at bA (B32 (bdig a)) 22 (.tail _ (.head _))) Tryz.underlying22 (by rfl) (B32_info _) ?_)
  refine (hc_a _).mono ?_
  rintro e V1 ⟨rfl, bw⟩
  have hK := hK.below bw
  clear bw
  go_upto_region 2 with (refine wpList_store_new (by rfl) 56 (.tmp 6) (.tmp 11) (by rfl) _ (PA r1) (by rfl) (by rfl) (PA_info _) (PA_sizes _ _) (PA_one _) (by rfl) ?_)
  have lt_bR := (hK.at bR (B32 fun _ => 0) 22 (.head _)).lt
  have lt_bA := (hK.at bA (B32 (bdig a)) 22 (.tail _ (.head _))).lt
  have lt_bN := (hK.at bN (B32 (bdig n)) 22 (.tail _ (.tail _ (.head _)))).lt
  have le_b2 := show Hid _ from hK.2.size
  have hK := hK.alloc (PA r1) 56
  generalize V1.alloc (.cells (PA r1) 56) = V3 at *
  obtain ⟨b2, Hb2⟩ : ∃ b, Hid (V1.heap.size = b) := ⟨_, rfl⟩
  have ne_bR_b2 : Hid (bR ≠ b2) := by show _ ≠ _; rw [← Hb2.out]; exact Nat.ne_of_lt lt_bR
  have ne_bA_b2 : Hid (bA ≠ b2) := by show _ ≠ _; rw [← Hb2.out]; exact Nat.ne_of_lt lt_bA
  have ne_bN_b2 : Hid (bN ≠ b2) := by show _ ≠ _; rw [← Hb2.out]; exact Nat.ne_of_lt lt_bN
  have le_b2 : Hid (w.heap.size ≤ b2) := by show _ ≤ _; rw [← Hb2.out]; exact le_b2.out
  rw [Hb2.out] at hK ⊢
  clear lt_bR lt_bA lt_bN
  go_upto_region 3 with fail
  go_wp2_with (refine wpList_store_own (by rfl) 22 (.tmp 4) (.tmp 15) (by rfl) bR 0 (B32 fun _ => 0) (by rfl) (by rfl) (hK.at bR (B32 fun _ => 0) 22 (.tail _ (.head _))) (B32_le _ _) (B32_info _) (B32_one _) (by rfl) ?_)
  exact bodyPost_ret (results_own_tmp Tryz.results37 _ _ bR (B32 fun _ => 0) _ (by rfl) (own_setCells (hK.at bR (B32 fun _ => 0) 22 (.tail _ (.head _))) (B32_sizes _ _)) Tryz.underlying22 rfl (B32_info _)) rfl ⟨rfl, Below.setCells _ _ _ _ le_bR.out hK.2⟩
set_option maxRecDepth 100000 in
set_option maxHeartbeats 2000000 in
theorem base_yes {a i : Nat} {r1 : N4} (Hi : Hid (finv 5 = i)) (hi : Hid (i < R256)) (Ha : Hid (4 * i % pp = a)) (hc_a : ∀ w : World, Calls Tryz.prog 36 #[.agg (B32 (bdig a))] w fun e w' => e = .returned (.tuple #[.agg (PA r1), .bool true]) ∧ Below w.heap.size w w') (w : World) : Calls Tryz.prog 77 #[] w fun e w' => e = .returned (.agg (PA r1)) ∧ Below w.heap.size w w' := by
  have hz := (zero_of_info zeroLit).1
  have hzP := (zero_of_info zeroPA).1
  have hzB := (zero_of_info zeroB32).1
  go_enter Tryz.func77, Tryz.ntmps77
  go_upto_region 1 with fail
  have hK := (Kp.nil w).alloc (PA ⟨0, 0, 0, 0⟩) 56
  generalize w.alloc (.cells (PA ⟨0, 0, 0, 0⟩) 56) = W at *
  obtain ⟨bR, HbR⟩ : ∃ b, Hid (w.heap.size = b) := ⟨_, rfl⟩
  have le_bR : Hid (w.heap.size ≤ bR) := by show _ ≤ _; have := HbR.out; omega
  rw [HbR.out] at hK ⊢
  go_wp2_with fail
  rw [show (#[.int .u64 4, .int .u64 0, .int .u64 0, .int .u64 0] : Array Value) = numA 4 from (numA_word 4 (by decide)).symm]
  rw [show (#[.int .u64 5, .int .u64 0, .int .u64 0, .int .u64 0] : Array Value) = numA 5 from (numA_word 5 (by decide)).symm]
  refine (inv_at (by decide) Hi.out _).mono ?_
  rintro e V1 ⟨rfl, bw⟩
  have hK := hK.below bw
  clear bw
  go_wp2_with fail
  refine (mul_at (by decide) hi.out Ha.out _).mono ?_
  rintro e V2 ⟨rfl, bw⟩
  have hK := hK.below bw
  clear bw
  go_upto_region 2 with (refine wpList_store_new (by rfl) 54 (.tmp 1) (.tmp 7) (by rfl) _ (numA a) (by rfl) (by rfl) (numA_info _) (lit4_size _ _ _ _ _) (numA_one _) (by rfl) ?_)
  have lt_bR := (hK.at bR (PA ⟨0, 0, 0, 0⟩) 56 (.head _)).lt
  have le_b3 := show Hid _ from hK.2.size
  have hK := hK.alloc (numA a) 54
  generalize V2.alloc (.cells (numA a) 54) = V4 at *
  obtain ⟨b3, Hb3⟩ : ∃ b, Hid (V2.heap.size = b) := ⟨_, rfl⟩
  have ne_bR_b3 : Hid (bR ≠ b3) := by show _ ≠ _; rw [← Hb3.out]; exact Nat.ne_of_lt lt_bR
  have le_b3 : Hid (w.heap.size ≤ b3) := by show _ ≤ _; rw [← Hb3.out]; exact le_b3.out
  rw [Hb3.out] at hK ⊢
  clear lt_bR
  go_wp2_with (refine wpList_load_own (by rfl) 54 (.tmp 1) (by rfl) b3 (by rfl) (numA a) _ (hK.at b3 (numA a) 54 (.head _)) Tryz.underlying54 (by rfl) (numA_info _) ?_)
  refine (bytesOf_any a _).mono ?_
  rintro e V5 ⟨rfl, bw⟩
  have hK := hK.below bw
  clear bw
  go_wp2_with fail
  refine (hc_a _).mono ?_
  rintro e V6 ⟨rfl, bw⟩
  have hK := hK.below bw
  clear bw
  go_upto_region 3 with (refine wpList_store_new (by rfl) 56 (.tmp 2) (.tmp 12) (by rfl) _ (PA r1) (by rfl) (by rfl) (PA_info _) (PA_sizes _ _) (PA_one _) (by rfl) ?_)
  have lt_b3 := (hK.at b3 (numA a) 54 (.head _)).lt
  have lt_bR := (hK.at bR (PA ⟨0, 0, 0, 0⟩) 56 (.tail _ (.head _))).lt
  have le_b7 := show Hid _ from hK.2.size
  have hK := hK.alloc (PA r1) 56
  generalize V6.alloc (.cells (PA r1) 56) = V8 at *
  obtain ⟨b7, Hb7⟩ : ∃ b, Hid (V6.heap.size = b) := ⟨_, rfl⟩
  have ne_b3_b7 : Hid (b3 ≠ b7) := by show _ ≠ _; rw [← Hb7.out]; exact Nat.ne_of_lt lt_b3
  have ne_bR_b7 : Hid (bR ≠ b7) := by show _ ≠ _; rw [← Hb7.out]; exact Nat.ne_of_lt lt_bR
  have le_b7 : Hid (w.heap.size ≤ b7) := by show _ ≤ _; rw [← Hb7.out]; exact le_b7.out
  rw [Hb7.out] at hK ⊢
  clear lt_b3 lt_bR
  go_wp2_with (first
    | refine wpList_load_own (by rfl) 56 (.tmp 2) (by rfl) b7 (by rfl) (PA r1) _ (hK.at b7 (PA r1) 56 (.head _)) Tryz.underlying56 (by rfl) (PA_info _) ?_
    | refine wpList_store_own (by rfl) 56 (.tmp 0) (.tmp 14) (by rfl) bR 0 (PA r1) (by rfl) (by rfl) (hK.at bR (PA ⟨0, 0, 0, 0⟩) 56 (.tail _ (.tail _ (.head _)))) (Nat.le_refl _) (PA_info _) (PA_one _) (by rfl) ?_)
  exact bodyPost_ret (results_own Tryz.results77 _ _ bR (PA r1) _ (by rfl) (own_setCells (hK.at bR (PA ⟨0, 0, 0, 0⟩) 56 (.tail _ (.tail _ (.head _)))) (PA_sizes _ _)) Tryz.underlying56 rfl (PA_info _)) rfl ⟨rfl, Below.setCells _ _ _ _ le_bR.out hK.2⟩
set_option maxRecDepth 100000 in
set_option maxHeartbeats 2000000 in
theorem bases_yes {n : Nat} {r1 : N4} (hn : Hid (n < R256)) (hr1 : Hid r1.ok) (hb : ∀ w : World, Calls Tryz.prog 77 #[] w fun e w' => e = .returned (.agg (PA r1)) ∧ Below w.heap.size w w') (w : World) : Calls Tryz.prog 40 #[.agg (B32 (bdig n))] w fun e w' => e = .returned (.agg (B32 (bdig (enc4 (mul4 r1 256 n))))) ∧ Below w.heap.size w w' := by
  have hz := (zero_of_info zeroLit).1
  have hzP := (zero_of_info zeroPA).1
  have hzB := (zero_of_info zeroB32).1
  obtain ⟨r3, Hr3⟩ : ∃ r, Hid (mul4 r1 256 n = r) := ⟨_, rfl⟩
  have hr3 : Hid r3.ok := by show r3.ok; rw [← Hr3.out]; exact mul4_ok _ _
  rw [Hr3.out]
  obtain ⟨c, Hc⟩ : ∃ r, Hid (enc4 r3 = r) := ⟨_, rfl⟩
  rw [Hc.out]
  go_enter Tryz.func40, Tryz.ntmps40
  go_upto_region 1 with fail
  have hK := ((Kp.nil w).alloc (B32 (bdig n)) 22).alloc (B32 fun _ => 0) 22
  rw [World.size_alloc] at hK
  generalize (w.alloc (.cells (B32 (bdig n)) 22)).alloc (.cells (B32 fun _ => 0) 22) = W at *
  obtain ⟨bN, HbN⟩ : ∃ b, Hid (w.heap.size = b) := ⟨_, rfl⟩
  obtain ⟨bR, HbR⟩ : ∃ b, Hid (bN + 1 = b) := ⟨_, rfl⟩
  have le_bN : Hid (w.heap.size ≤ bN) := by show _ ≤ _; have := HbN.out; omega
  have le_bR : Hid (w.heap.size ≤ bR) := by show _ ≤ _; have := HbN.out; have := HbR.out; omega
  have ne_bN_bR : Hid (bN ≠ bR) := by show _ ≠ _; have := HbR.out; omega
  rw [HbN.out, HbR.out] at hK ⊢
  go_wp2_with (refine wpList_load_own (by rfl) 22 (.tmp 1) (by rfl) bN (by rfl) (B32 (bdig n)) _ (hK.at bN (B32 (bdig n)) 22 (.tail _ (.head _))) Tryz.underlying22 (by rfl) (B32_info _) ?_)
  refine (of_any n hn.out _).mono ?_
  rintro e V1 ⟨rfl, bw⟩
  have hK := hK.below bw
  clear bw
  go_wp2_with fail
  refine (hb _).mono ?_
  rintro e V2 ⟨rfl, bw⟩
  have hK := hK.below bw
  clear bw
  go_wp2_with fail
  refine (multiple_at hn.out hr1.out Hr3.out _).mono ?_
  rintro e V3 ⟨rfl, bw⟩
  have hK := hK.below bw
  clear bw
  go_wp2_with fail
  refine (encode_at hr3.out Hc.out _).mono ?_
  rintro e V4 ⟨rfl, bw⟩
  have hK := hK.below bw
  clear bw
  go_wp2_with (refine wpList_store_own (by rfl) 22 (.tmp 2) (.tmp 7) (by rfl) bR 0 (B32 (bdig c)) (by rfl) (by rfl) (hK.at bR (B32 fun _ => 0) 22 (.head _)) (B32_le _ _) (B32_info _) (B32_one _) (by rfl) ?_)
  exact bodyPost_ret (results_own Tryz.results40 _ _ bR (B32 (bdig c)) _ (by rfl) (own_setCells (hK.at bR (B32 fun _ => 0) 22 (.head _)) (B32_sizes _ _)) Tryz.underlying22 rfl (B32_info _)) rfl ⟨rfl, Below.setCells _ _ _ _ le_bR.out hK.2⟩
end Go.Proofs.YtgibllaifnnfkaaGreatDoor
namespace Go.Proofs.YtgibllaifnnfkaaGreatDoor
open Go Go.RowKit
theorem enc_R (P : Pt E5) : enc P < R256 := by rw [R256_HH]; exact enc_lt P
theorem rep_of {P : Pt E5} {x y : Nat} (hx : P.x = fq x) (hy : P.y = fq y) : Rep4 P ⟨x, y, 1, x * y % pp⟩ := by
  have h := Rep.ofPt P
  rw [hx, hy, ← fq_mulm] at h
  exact h
theorem half_or {a : Nat} (ha : a < R256) : a / HH = 0 ∨ a / HH = 1 := by
  have h := half_lt ha
  generalize a / HH = q at *
  omega
theorem dec_pt (P : Pt E5) : ∃ r, dec (enc P) = some r ∧ Rep4 P r ∧ r.ok := by
  have hy : enc P % HH < pp := by rw [enc_y]; exact P.y.isLt
  have hyR : enc P % HH < R256 := Nat.lt_trans hy (by decide)
  rcases hf : froot (usq (enc P % HH)) with _ | x
  · exact absurd rfl (dec_noroot hf P)
  · have hx : x < R256 := Nat.lt_trans (froot_some hf).1 (by decide)
    rcases half_or (enc_R P) with ho | ho
    · obtain ⟨Q, hQ, hqx, hqy⟩ := dec_even hy hf ho
      obtain rfl := enc_inj hQ
      exact ⟨_, dec_even' hy hf (by omega), rep_of hqx hqy, ⟨hx, hyR, show 1 < R256 by decide, lt_of_mod⟩⟩
    · by_cases hx0 : x = 0
      · exact absurd rfl (dec_noside (by rw [hf, hx0]) ho P)
      · obtain ⟨Q, hQ, hqx, hqy⟩ := dec_side hy hf ho hx0
        obtain rfl := enc_inj hQ
        exact ⟨_, dec_side' hy hf ho hx0, rep_of hqx hqy, ⟨subp_lt _ _, hyR, show 1 < R256 by decide, lt_of_mod⟩⟩
theorem dec_not {a : Nat} (ha : a < R256) (h : ∀ P : Pt E5, enc P ≠ a) : dec a = none := by
  by_cases hy : a % HH < pp
  · rcases hf : froot (usq (a % HH)) with _ | x
    · exact dec_noroot' hy hf
    · rcases half_or ha with ho | ho
      · obtain ⟨Q, hQ, -, -⟩ := dec_even hy hf ho
        exact absurd hQ (h Q)
      · by_cases hx0 : x = 0
        · exact dec_noside' hy (by rw [hf, hx0]) ho
        · obtain ⟨Q, hQ, -, -⟩ := dec_side hy hf ho hx0
          exact absurd hQ (h Q)
  · exact dec_big' hy
theorem page_dec (P : Pt E5) : ∃ r, Rep4 P r ∧ r.ok ∧ ∀ w : World, Calls Tryz.prog 36 #[.agg (B32 (bdig (enc P)))] w fun e w' => e = .returned (.tuple #[.agg (PA r), .bool true]) ∧ Below w.heap.size w w' := by
  obtain ⟨r, h1, h2, h3⟩ := dec_pt P
  refine ⟨r, h2, h3, fun w => ?_⟩
  have := decode_any (enc P) (enc_R P) w
  rw [h1] at this
  exact this
theorem page_dec_not {a : Nat} (ha : a < R256) (h : ∀ P : Pt E5, enc P ≠ a) (w : World) : Calls Tryz.prog 36 #[.agg (B32 (bdig a))] w fun e w' => e = .returned (.tuple #[.agg (PA ⟨0, 0, 0, 0⟩), .bool false]) ∧ Below w.heap.size w w' := by
  have := decode_any a ha w
  rw [dec_not ha h] at this
  exact this
theorem enc4_rep {P : Pt E5} {r : N4} (h : Rep4 P r) : enc4 r = enc P := enc_rep h
theorem psum (P Q : Pt E5) (w : World) : Calls Tryz.prog 39 #[.agg (B32 (bdig (enc P))), .agg (B32 (bdig (enc Q)))] w fun e w' => e = .returned (.tuple #[.agg (B32 (bdig (enc (P.add Q)))), .bool true]) ∧ Below w.heap.size w w' := by
  obtain ⟨r1, h1, o1, c1⟩ := page_dec P
  obtain ⟨r2, h2, o2, c2⟩ := page_dec Q
  rw [← enc4_rep (h1.plus h2)]
  exact sum_yes o1 o2 c1 c2 w
theorem pow256 : 2 ^ 256 = R256 := by decide
theorem ptimes (n : Nat) (hn : n < R256) (P : Pt E5) (w : World) : Calls Tryz.prog 37 #[.agg (B32 (bdig n)), .agg (B32 (bdig (enc P)))] w fun e w' => e = .returned (.tuple #[.agg (B32 (bdig (enc (Pt.times n P)))), .bool true]) ∧ Below w.heap.size w w' := by
  obtain ⟨r1, h1, o1, c1⟩ := page_dec P
  rw [← enc4_rep (h1.mul 256 n (by rw [pow256]; exact hn))]
  exact times_yes hn o1 c1 w
theorem ptimes_not (n : Nat) {a : Nat} (ha : a < R256) (h : ∀ P : Pt E5, enc P ≠ a) (w : World) : Calls Tryz.prog 37 #[.agg (B32 (bdig n)), .agg (B32 (bdig a))] w fun e w' => e = .returned (.tuple #[.agg (B32 fun _ => 0), .bool false]) ∧ Below w.heap.size w w' :=
  times_not (page_dec_not ha h) w
theorem enc_base : enc BP = byN := by decide +kernel
theorem base_y : 4 * finv 5 % pp = byN := by
  have h1 : 4 = byN * 5 % pp := by decide +kernel
  have h2 := finv_mul (a := 5) (by decide)
  generalize finv 5 = x at *
  rw [h1, Nat.mod_mul_mod, Nat.mul_assoc, Nat.mul_mod, h2, Nat.mul_one, Nat.mod_mod, Nat.mod_eq_of_lt (by decide)]
theorem pbase (n : Nat) (hn : n < R256) (w : World) : Calls Tryz.prog 40 #[.agg (B32 (bdig n))] w fun e w' => e = .returned (.agg (B32 (bdig (enc (Pt.times n BP))))) ∧ Below w.heap.size w w' := by
  obtain ⟨r1, h1, o1, c1⟩ := page_dec BP
  rw [enc_base] at c1
  rw [← enc4_rep (h1.mul 256 n (by rw [pow256]; exact hn))]
  exact bases_yes hn o1 (fun w => base_yes (i := finv 5) rfl (finv_R 5) base_y c1 w) w
end Go.Proofs.YtgibllaifnnfkaaGreatDoor
namespace Go.Proofs.YtgibllaifnnfkaaGreatDoor
open Go Go.RowKit
set_option maxRecDepth 100000 in
set_option maxHeartbeats 1000000 in
theorem ppublic_at {n lo hi c y : Nat} (Hd : Hid (dn (by32 n) = two lo hi)) (llo : Hid (lo < R256)) (Hc : Hid (clamp lo = c)) (Hy : Hid (enc (Pt.times c BP) = y)) (w : World) : Calls Tryz.prog 21 #[.agg (B32 (bdig n))] w fun x w' => x = .returned (.agg (B32 (bdig y))) ∧ Below w.heap.size w w' := by
  have hz := (zero_of_info zeroB32).1
  have lc : Hid (c < R256) := by show _ < _; rw [← Hc.out]; exact clamp_lt _
  have hbs : Hid (∀ w, Calls Tryz.prog 40 #[.agg (B32 (bdig c))] w fun x w' => x = .returned (.agg (B32 (bdig y))) ∧ Below w.heap.size w w') := fun w => by rw [← Hy.out]; exact pbase c lc.out w
  go_enter Tryz.func21, Tryz.ntmps21
  go_upto_region 1 with fail
  have hK := ((Kp.nil w).alloc (B32 (bdig n)) 22).alloc (B32 fun _ => 0) 22
  rw [World.size_alloc] at hK
  generalize (w.alloc (.cells (B32 (bdig n)) 22)).alloc (.cells (B32 fun _ => 0) 22) = W at *
  obtain ⟨bA, HbA⟩ : ∃ b, Hid (w.heap.size = b) := ⟨_, rfl⟩
  obtain ⟨bR, HbR⟩ : ∃ b, Hid (bA + 1 = b) := ⟨_, rfl⟩
  have le_bA : Hid (w.heap.size ≤ bA) := by show _ ≤ _; have := HbA.out; omega
  have le_bR : Hid (w.heap.size ≤ bR) := by show _ ≤ _; have := HbA.out; have := HbR.out; omega
  have ne_bA_bR : Hid (bA ≠ bR) := by show _ ≠ _; have := HbR.out; omega
  rw [HbA.out, HbR.out] at hK ⊢
  go_wp2_with (refine wpList_load_own (by rfl) 22 (.tmp 1) (by rfl) bA (by rfl) (B32 (bdig n)) _ (hK.at bA (B32 (bdig n)) 22 (.tail _ (.head _))) Tryz.underlying22 (by rfl) (B32_info _) ?_)
  have lt_bR := (hK.at bR (B32 fun _ => 0) 22 (.head _)).lt
  have lt_bA := (hK.at bA (B32 (bdig n)) 22 (.tail _ (.head _))).lt
  refine (seeded_at Hd llo Hc _).mono ?_
  rintro e V1 ⟨ja, jc, bX, X, rfl, hTx, oX, leX, bw⟩
  have ne_bR_bX : Hid (bR ≠ bX) := Nat.ne_of_lt (Nat.lt_of_lt_of_le lt_bR leX)
  have ne_bA_bX : Hid (bA ≠ bX) := Nat.ne_of_lt (Nat.lt_of_lt_of_le lt_bA leX)
  have hK := (hK.below bw).cons oX
  replace hTx := show Hid _ from hTx
  clear bw oX leX lt_bR lt_bA
  go_upto_region 2 with (refine wpList_store_new (by rfl) 22 (.tmp 3) (.tmp 8) (by rfl) _ (B32 (bdig c)) (by rfl) (by rfl) (B32_info _) (B32_sizes _ _) (B32_one _) (by rfl) ?_)
  have lt_bX := (hK.at bX (X) 5 (.head _)).lt
  have lt_bR := (hK.at bR (B32 fun _ => 0) 22 (.tail _ (.head _))).lt
  have lt_bA := (hK.at bA (B32 (bdig n)) 22 (.tail _ (.tail _ (.head _)))).lt
  have le_b2 := show Hid _ from hK.2.size
  have hK := hK.alloc (B32 (bdig c)) 22
  generalize V1.alloc (.cells (B32 (bdig c)) 22) = V3 at *
  obtain ⟨b2, Hb2⟩ : ∃ b, Hid (V1.heap.size = b) := ⟨_, rfl⟩
  have ne_bX_b2 : Hid (bX ≠ b2) := by show _ ≠ _; rw [← Hb2.out]; exact Nat.ne_of_lt lt_bX
  have ne_bR_b2 : Hid (bR ≠ b2) := by show _ ≠ _; rw [← Hb2.out]; exact Nat.ne_of_lt lt_bR
  have ne_bA_b2 : Hid (bA ≠ b2) := by show _ ≠ _; rw [← Hb2.out]; exact Nat.ne_of_lt lt_bA
  have le_b2 : Hid (w.heap.size ≤ b2) := by show _ ≤ _; rw [← Hb2.out]; exact le_b2.out
  rw [Hb2.out] at hK ⊢
  clear lt_bX lt_bR lt_bA
  go_wp2_with (refine wpList_load_own (by rfl) 22 (.tmp 3) (by rfl) b2 (by rfl) (B32 (bdig c)) _ (hK.at b2 (B32 (bdig c)) 22 (.head _)) Tryz.underlying22 (by rfl) (B32_info _) ?_)
  refine (hbs.out _).mono ?_
  rintro e V4 ⟨rfl, bw⟩
  have hK := hK.below bw
  clear bw
  go_wp2_with (refine wpList_store_own (op := { dst := none, op := _, type := _, pos := _, after := _, guard := _ }) rfl 22 (.tmp 2) (.tmp 11) rfl bR 0 (B32 (bdig y)) (by rfl) (by rfl) (hK.at bR (B32 fun _ => 0) 22 (.tail _ (.tail _ (.head _)))) (B32_le _ _) (B32_info _) (B32_one _) (by rfl) ?_)
  exact bodyPost_ret (results_own Tryz.results21 _ _ bR (B32 (bdig y)) _ (by rfl) (own_setCells (hK.at bR (B32 fun _ => 0) 22 (.tail _ (.tail _ (.head _)))) (B32_sizes _ _)) Tryz.underlying22 rfl (B32_info _)) rfl ⟨rfl, Below.setCells _ _ _ _ le_bR.out hK.2⟩
end Go.Proofs.YtgibllaifnnfkaaGreatDoor
