/- Of the texts G9, W0, GC: what the card of this claim reaches. -/
import Derived.Test.YtgibllaifnnfkaaGreatDoorXE13
import Derived.Test.YtgibllaifnnfkaaGreatDoorXE15
import Derived.Test.YtgibllaifnnfkaaGreatDoorXE16
import Derived.Test.YtgibllaifnnfkaaGreatDoorXE11
import Derived.Test.YtgibllaifnnfkaaGreatDoorXE3
namespace Go.Proofs.YtgibllaifnnfkaaGreatDoor
open Go Go.RowKit
theorem read_ok {P : Pt E5} {r : N3} {a : Nat} (ha : enc P = a) (hr : rdp (enc P) = some r) (w : World) (hT : TC w) : Calls Tryz.prog 62 #[.agg (B32 (bdig a))] w fun e w' => e = .returned (.tuple #[.agg (QA r), .bool true]) ∧ Below w.heap.size w w' := by
  subst ha; exact read_pt hr w hT
set_option maxRecDepth 100000 in
set_option maxHeartbeats 2000000 in
theorem add_ok {P Q : Pt E5} {r s : N3} {a b c : Nat} (Ha : Hid (enc P = a)) (Hb : Hid (enc Q = b)) (Hc : Hid (enc (P.add Q) = c)) (hr : rdp (enc P) = some r) (hro : Ok3 P r) (hs : rdp (enc Q) = some s) (hso : Ok3 Q s) (w : World) (hT : TC w) : Calls Tryz.prog 34 #[.agg (B32 (bdig a)), .agg (B32 (bdig b))] w fun x w' => x = .returned (.tuple #[.agg (B32 (bdig c)), .int .i64 0]) ∧ Below w.heap.size w w' := by
  have hz := (zero_of_info zeroB32).1
  have hzP := (zero_of_info zeroQA).1
  obtain ⟨u, Hu⟩ : ∃ u, Hid (sum3 r s = u) := ⟨_, rfl⟩
  have huo : Ok3 (P.add Q) u := by rw [← Hu.out]; exact hro.sum hso
  go_enter Tryz.func34, Tryz.ntmps34
  go_upto_region 1 with fail
  have hK := (((Kp.nil w).alloc (B32 (bdig a)) 22).alloc (B32 (bdig b)) 22).alloc (B32 fun _ => 0) 22
  rw [World.size_alloc, World.size_alloc] at hK
  generalize ((w.alloc (.cells (B32 (bdig a)) 22)).alloc (.cells (B32 (bdig b)) 22)).alloc (.cells (B32 fun _ => 0) 22) = W at *
  obtain ⟨bA, HbA⟩ : ∃ b, Hid (w.heap.size = b) := ⟨_, rfl⟩
  obtain ⟨bB, HbB⟩ : ∃ b, Hid (bA + 1 = b) := ⟨_, rfl⟩
  obtain ⟨bR, HbR⟩ : ∃ b, Hid (bB + 1 = b) := ⟨_, rfl⟩
  have le_bA : Hid (w.heap.size ≤ bA) := by show _ ≤ _; have := HbA.out; omega
  have le_bB : Hid (w.heap.size ≤ bB) := by show _ ≤ _; have := HbA.out; have := HbB.out; omega
  have le_bR : Hid (w.heap.size ≤ bR) := by show _ ≤ _; have := HbA.out; have := HbB.out; have := HbR.out; omega
  have ne_bA_bB : Hid (bA ≠ bB) := by show _ ≠ _; have := HbB.out; omega
  have ne_bA_bR : Hid (bA ≠ bR) := by show _ ≠ _; have := HbB.out; have := HbR.out; omega
  have ne_bB_bR : Hid (bB ≠ bR) := by show _ ≠ _; have := HbR.out; omega
  rw [HbA.out, HbB.out, HbR.out] at hK ⊢
  go_wp2_with (refine wpList_load_own (by rfl) 22 (.tmp 2) (by rfl) bA (by rfl) (B32 (bdig a)) _ (hK.at bA (B32 (bdig a)) 22 (.tail _ (.tail _ (.head _)))) Tryz.underlying22 (by rfl) (B32_info _) ?_)
  refine (read_ok Ha.out hr _ (TC.keep hT hK.2)).mono ?_
  rintro e V1 ⟨rfl, bw⟩
  have hK := hK.below bw
  clear bw
  go_upto_region 2 with (refine wpList_store_new (by rfl) 74 (.tmp 6) (.tmp 12) (by rfl) _ (QA r) (by rfl) (by rfl) (QA_info _) (QA_sizes _ _) (QA_one _) (by rfl) ?_)
  have lt_bR := (hK.at bR (B32 fun _ => 0) 22 (.head _)).lt
  have lt_bB := (hK.at bB (B32 (bdig b)) 22 (.tail _ (.head _))).lt
  have lt_bA := (hK.at bA (B32 (bdig a)) 22 (.tail _ (.tail _ (.head _)))).lt
  have le_b2 := show Hid _ from hK.2.size
  have hK := hK.alloc (QA r) 74
  generalize V1.alloc (.cells (QA r) 74) = V3 at *
  obtain ⟨b2, Hb2⟩ : ∃ b, Hid (V1.heap.size = b) := ⟨_, rfl⟩
  have ne_bR_b2 : Hid (bR ≠ b2) := by show _ ≠ _; rw [← Hb2.out]; exact Nat.ne_of_lt lt_bR
  have ne_bB_b2 : Hid (bB ≠ b2) := by show _ ≠ _; rw [← Hb2.out]; exact Nat.ne_of_lt lt_bB
  have ne_bA_b2 : Hid (bA ≠ b2) := by show _ ≠ _; rw [← Hb2.out]; exact Nat.ne_of_lt lt_bA
  have le_b2 : Hid (w.heap.size ≤ b2) := by show _ ≤ _; rw [← Hb2.out]; exact le_b2.out
  rw [Hb2.out] at hK ⊢
  clear lt_bR lt_bB lt_bA
  go_upto_region 4 with fail
  go_wp2_with (refine wpList_load_own (by rfl) 22 (.tmp 3) (by rfl) bB (by rfl) (B32 (bdig b)) _ (hK.at bB (B32 (bdig b)) 22 (.tail _ (.tail _ (.head _)))) Tryz.underlying22 (by rfl) (B32_info _) ?_)
  refine (read_ok Hb.out hs _ (TC.keep hT hK.2)).mono ?_
  rintro e V4 ⟨rfl, bw⟩
  have hK := hK.below bw
  clear bw
  go_upto_region 5 with (refine wpList_store_new (by rfl) 74 (.tmp 8) (.tmp 20) (by rfl) _ (QA s) (by rfl) (by rfl) (QA_info _) (QA_sizes _ _) (QA_one _) (by rfl) ?_)
  have lt_b2 := (hK.at b2 (QA r) 74 (.head _)).lt
  have lt_bR := (hK.at bR (B32 fun _ => 0) 22 (.tail _ (.head _))).lt
  have lt_bB := (hK.at bB (B32 (bdig b)) 22 (.tail _ (.tail _ (.head _)))).lt
  have lt_bA := (hK.at bA (B32 (bdig a)) 22 (.tail _ (.tail _ (.tail _ (.head _))))).lt
  have le_b5 := show Hid _ from hK.2.size
  have hK := hK.alloc (QA s) 74
  generalize V4.alloc (.cells (QA s) 74) = V6 at *
  obtain ⟨b5, Hb5⟩ : ∃ b, Hid (V4.heap.size = b) := ⟨_, rfl⟩
  have ne_b2_b5 : Hid (b2 ≠ b5) := by show _ ≠ _; rw [← Hb5.out]; exact Nat.ne_of_lt lt_b2
  have ne_bR_b5 : Hid (bR ≠ b5) := by show _ ≠ _; rw [← Hb5.out]; exact Nat.ne_of_lt lt_bR
  have ne_bB_b5 : Hid (bB ≠ b5) := by show _ ≠ _; rw [← Hb5.out]; exact Nat.ne_of_lt lt_bB
  have ne_bA_b5 : Hid (bA ≠ b5) := by show _ ≠ _; rw [← Hb5.out]; exact Nat.ne_of_lt lt_bA
  have le_b5 : Hid (w.heap.size ≤ b5) := by show _ ≤ _; rw [← Hb5.out]; exact le_b5.out
  rw [Hb5.out] at hK ⊢
  clear lt_b2 lt_bR lt_bB lt_bA
  go_upto_region 7 with fail
  go_wp2_with (first
    | refine wpList_load_own (by rfl) 74 (.tmp 6) (by rfl) b2 (by rfl) (QA r) _ (hK.at b2 (QA r) 74 (.tail _ (.head _))) Tryz.underlying74 (by rfl) (QA_info _) ?_
    | refine wpList_load_own (by rfl) 74 (.tmp 8) (by rfl) b5 (by rfl) (QA s) _ (hK.at b5 (QA s) 74 (.head _)) Tryz.underlying74 (by rfl) (QA_info _) ?_)
  refine (sum_at hro hso Hu.out _ (TC.keep hT hK.2)).mono ?_
  rintro e V7 ⟨rfl, bw⟩
  have hK := hK.below bw
  clear bw
  go_wp2_with fail
  refine (write_at huo Hc.out _ (TC.keep hT hK.2)).mono ?_
  rintro e V8 ⟨rfl, bw⟩
  have hK := hK.below bw
  clear bw
  go_wp2_with (refine wpList_store_own (op := { dst := none, op := _, type := _, pos := _, after := _, guard := _ }) rfl 22 (.tmp 4) (.tmp 28) rfl bR 0 (B32 (bdig c)) (by rfl) (by rfl) (hK.at bR (B32 fun _ => 0) 22 (.tail _ (.tail _ (.head _)))) (B32_le _ _) (B32_info _) (B32_one _) (by rfl) ?_)
  exact bodyPost_ret (results_own_tmp Tryz.results34 _ _ bR (B32 (bdig c)) _ (by rfl) (own_setCells (hK.at bR (B32 fun _ => 0) 22 (.tail _ (.tail _ (.head _)))) (B32_sizes _ _)) Tryz.underlying22 rfl (B32_info _)) rfl ⟨rfl, Below.setCells _ _ _ _ le_bR.out hK.2⟩
set_option maxRecDepth 100000 in
set_option maxHeartbeats 2000000 in
theorem add_no1 {a b : Nat} (ha : a < R256) (h : ∀ P : Pt E5, enc P ≠ a) (w : World) (hT : TC w) : Calls Tryz.prog 34 #[.agg (B32 (bdig a)), .agg (B32 (bdig b))] w fun x w' => x = .returned (.tuple #[.agg (B32 fun _ => 0), .int .i64 1]) ∧ Below w.heap.size w w' := by
  have hz := (zero_of_info zeroB32).1
  have hzP := (zero_of_info zeroQA).1
  go_enter Tryz.func34, Tryz.ntmps34
  go_upto_region 1 with fail
  have hK := (((Kp.nil w).alloc (B32 (bdig a)) 22).alloc (B32 (bdig b)) 22).alloc (B32 fun _ => 0) 22
  rw [World.size_alloc, World.size_alloc] at hK
  generalize ((w.alloc (.cells (B32 (bdig a)) 22)).alloc (.cells (B32 (bdig b)) 22)).alloc (.cells (B32 fun _ => 0) 22) = W at *
  obtain ⟨bA, HbA⟩ : ∃ b, Hid (w.heap.size = b) := ⟨_, rfl⟩
  obtain ⟨bB, HbB⟩ : ∃ b, Hid (bA + 1 = b) := ⟨_, rfl⟩
  obtain ⟨bR, HbR⟩ : ∃ b, Hid (bB + 1 = b) := ⟨_, rfl⟩
  have le_bA : Hid (w.heap.size ≤ bA) := by show _ ≤ _; have := HbA.out; omega
  have le_bB : Hid (w.heap.size ≤ bB) := by show _ ≤ _; have := HbA.out; have := HbB.out; omega
  have le_bR : Hid (w.heap.size ≤ bR) := by show _ ≤ _; have := HbA.out; have := HbB.out; have := HbR.out; omega
  have ne_bA_bB : Hid (bA ≠ bB) := by show _ ≠ _; have := HbB.out; omega
  have ne_bA_bR : Hid (bA ≠ bR) := by show _ ≠ _; have := HbB.out; have := HbR.out; omega
  have ne_bB_bR : Hid (bB ≠ bR) := by show _ ≠ _; have := HbR.out; omega
  rw [HbA.out, HbB.out, HbR.out] at hK ⊢
  go_wp2_with (refine wpList_load_own (by rfl) 22 (.tmp 2) (by rfl) bA (by rfl) (B32 (bdig a)) _ (hK.at bA (B32 (bdig a)) 22 (.tail _ (.tail _ (.head _)))) Tryz.underlying22 (by rfl) (B32_info _) ?_)
  refine (read_not ha h _ (TC.keep hT hK.2)).mono ?_
  rintro e V1 ⟨rfl, bw⟩
  have hK := hK.below bw
  clear bw
  go_upto_region 2 with (refine wpList_store_new (by rfl) 74 (.tmp 6) (.tmp 12) (by rfl) _ (QA ⟨0, 0, 0⟩) (by rfl) (by rfl) (QA_info _) (QA_sizes _ _) (QA_one _) (by rfl) ?_)
  have lt_bR := (hK.at bR (B32 fun _ => 0) 22 (.head _)).lt
  have lt_bB := (hK.at bB (B32 (bdig b)) 22 (.tail _ (.head _))).lt
  have lt_bA := (hK.at bA (B32 (bdig a)) 22 (.tail _ (.tail _ (.head _)))).lt
  have le_b2 := show Hid _ from hK.2.size
  have hK := hK.alloc (QA ⟨0, 0, 0⟩) 74
  generalize V1.alloc (.cells (QA ⟨0, 0, 0⟩) 74) = V3 at *
  obtain ⟨b2, Hb2⟩ : ∃ b, Hid (V1.heap.size = b) := ⟨_, rfl⟩
  have ne_bR_b2 : Hid (bR ≠ b2) := by show _ ≠ _; rw [← Hb2.out]; exact Nat.ne_of_lt lt_bR
  have ne_bB_b2 : Hid (bB ≠ b2) := by show _ ≠ _; rw [← Hb2.out]; exact Nat.ne_of_lt lt_bB
  have ne_bA_b2 : Hid (bA ≠ b2) := by show _ ≠ _; rw [← Hb2.out]; exact Nat.ne_of_lt lt_bA
  have le_b2 : Hid (w.heap.size ≤ b2) := by show _ ≤ _; rw [← Hb2.out]; exact le_b2.out
  rw [Hb2.out] at hK ⊢
  clear lt_bR lt_bB lt_bA
  go_upto_region 3 with fail
  go_wp2_with (refine wpList_store_own (op := { dst := none, op := _, type := _, pos := _, after := _, guard := _ }) rfl 22 (.tmp 4) (.tmp 16) rfl bR 0 (B32 fun _ => 0) (by rfl) (by rfl) (hK.at bR (B32 fun _ => 0) 22 (.tail _ (.head _))) (B32_le _ _) (B32_info _) (B32_one _) (by rfl) ?_)
  exact bodyPost_ret (results_own_tmp Tryz.results34 _ _ bR (B32 fun _ => 0) _ (by rfl) (own_setCells (hK.at bR (B32 fun _ => 0) 22 (.tail _ (.head _))) (B32_sizes _ _)) Tryz.underlying22 rfl (B32_info _)) rfl ⟨rfl, Below.setCells _ _ _ _ le_bR.out hK.2⟩
set_option maxRecDepth 100000 in
set_option maxHeartbeats 2000000 in
theorem add_no2 {P : Pt E5} {r : N3} {a b : Nat} (Ha : Hid (enc P = a)) (hr : rdp (enc P) = some r) (hb : b < R256) (h : ∀ P : Pt E5, enc P ≠ b) (w : World) (hT : TC w) : Calls Tryz.prog 34 #[.agg (B32 (bdig a)), .agg (B32 (bdig b))] w fun x w' => x = .returned (.tuple #[.agg (B32 fun _ => 0), .int .i64 1]) ∧ Below w.heap.size w w' := by
  have hz := (zero_of_info zeroB32).1
  have hzP := (zero_of_info zeroQA).1
  go_enter Tryz.func34, Tryz.ntmps34
  go_upto_region 1 with fail
  have hK := (((Kp.nil w).alloc (B32 (bdig a)) 22).alloc (B32 (bdig b)) 22).alloc (B32 fun _ => 0) 22
  rw [World.size_alloc, World.size_alloc] at hK
  generalize ((w.alloc (.cells (B32 (bdig a)) 22)).alloc (.cells (B32 (bdig b)) 22)).alloc (.cells (B32 fun _ => 0) 22) = W at *
  obtain ⟨bA, HbA⟩ : ∃ b, Hid (w.heap.size = b) := ⟨_, rfl⟩
  obtain ⟨bB, HbB⟩ : ∃ b, Hid (bA + 1 = b) := ⟨_, rfl⟩
  obtain ⟨bR, HbR⟩ : ∃ b, Hid (bB + 1 = b) := ⟨_, rfl⟩
  have le_bA : Hid (w.heap.size ≤ bA) := by show _ ≤ _; have := HbA.out; omega
  have le_bB : Hid (w.heap.size ≤ bB) := by show _ ≤ _; have := HbA.out; have := HbB.out; omega
  have le_bR : Hid (w.heap.size ≤ bR) := by show _ ≤ _; have := HbA.out; have := HbB.out; have := HbR.out; omega
  have ne_bA_bB : Hid (bA ≠ bB) := by show _ ≠ _; have := HbB.out; omega
  have ne_bA_bR : Hid (bA ≠ bR) := by show _ ≠ _; have := HbB.out; have := HbR.out; omega
  have ne_bB_bR : Hid (bB ≠ bR) := by show _ ≠ _; have := HbR.out; omega
  rw [HbA.out, HbB.out, HbR.out] at hK ⊢
  go_wp2_with (refine wpList_load_own (by rfl) 22 (.tmp 2) (by rfl) bA (by rfl) (B32 (bdig a)) _ (hK.at bA (B32 (bdig a)) 22 (.tail _ (.tail _ (.head _)))) Tryz.underlying22 (by rfl) (B32_info _) ?_)
  refine (read_ok Ha.out hr _ (TC.keep hT hK.2)).mono ?_
  rintro e V1 ⟨rfl, bw⟩
  have hK := hK.below bw
  clear bw
  go_upto_region 2 with (refine wpList_store_new (by rfl) 74 (.tmp 6) (.tmp 12) (by rfl) _ (QA r) (by rfl) (by rfl) (QA_info _) (QA_sizes _ _) (QA_one _) (by rfl) ?_)
  have lt_bR := (hK.at bR (B32 fun _ => 0) 22 (.head _)).lt
  have lt_bB := (hK.at bB (B32 (bdig b)) 22 (.tail _ (.head _))).lt
  have lt_bA := (hK.at bA (B32 (bdig a)) 22 (.tail _ (.tail _ (.head _)))).lt
  have le_b2 := show Hid _ from hK.2.size
  have hK := hK.alloc (QA r) 74
  generalize V1.alloc (.cells (QA r) 74) = V3 at *
  obtain ⟨b2, Hb2⟩ : ∃ b, Hid (V1.heap.size = b) := ⟨_, rfl⟩
  have ne_bR_b2 : Hid (bR ≠ b2) := by show _ ≠ _; rw [← Hb2.out]; exact Nat.ne_of_lt lt_bR
  have ne_bB_b2 : Hid (bB ≠ b2) := by show _ ≠ _; rw [← Hb2.out]; exact Nat.ne_of_lt lt_bB
  have ne_bA_b2 : Hid (bA ≠ b2) := by show _ ≠ _; rw [← Hb2.out]; exact Nat.ne_of_lt lt_bA
  have le_b2 : Hid (w.heap.size ≤ b2) := by show _ ≤ _; rw [← Hb2.out]; exact le_b2.out
  rw [Hb2.out] at hK ⊢
  clear lt_bR lt_bB lt_bA
  go_upto_region 4 with fail
  go_wp2_with (refine wpList_load_own (by rfl) 22 (.tmp 3) (by rfl) bB (by rfl) (B32 (bdig b)) _ (hK.at bB (B32 (bdig b)) 22 (.tail _ (.tail _ (.head _)))) Tryz.underlying22 (by rfl) (B32_info _) ?_)
  refine (read_not hb h _ (TC.keep hT hK.2)).mono ?_
  rintro e V4 ⟨rfl, bw⟩
  have hK := hK.below bw
  clear bw
  go_upto_region 5 with (refine wpList_store_new (by rfl) 74 (.tmp 8) (.tmp 20) (by rfl) _ (QA ⟨0, 0, 0⟩) (by rfl) (by rfl) (QA_info _) (QA_sizes _ _) (QA_one _) (by rfl) ?_)
  have lt_b2 := (hK.at b2 (QA r) 74 (.head _)).lt
  have lt_bR := (hK.at bR (B32 fun _ => 0) 22 (.tail _ (.head _))).lt
  have lt_bB := (hK.at bB (B32 (bdig b)) 22 (.tail _ (.tail _ (.head _)))).lt
  have lt_bA := (hK.at bA (B32 (bdig a)) 22 (.tail _ (.tail _ (.tail _ (.head _))))).lt
  have le_b5 := show Hid _ from hK.2.size
  have hK := hK.alloc (QA ⟨0, 0, 0⟩) 74
  generalize V4.alloc (.cells (QA ⟨0, 0, 0⟩) 74) = V6 at *
  obtain ⟨b5, Hb5⟩ : ∃ b, Hid (V4.heap.size = b) := ⟨_, rfl⟩
  have ne_b2_b5 : Hid (b2 ≠ b5) := by show _ ≠ _; rw [← Hb5.out]; exact Nat.ne_of_lt lt_b2
  have ne_bR_b5 : Hid (bR ≠ b5) := by show _ ≠ _; rw [← Hb5.out]; exact Nat.ne_of_lt lt_bR
  have ne_bB_b5 : Hid (bB ≠ b5) := by show _ ≠ _; rw [← Hb5.out]; exact Nat.ne_of_lt lt_bB
  have ne_bA_b5 : Hid (bA ≠ b5) := by show _ ≠ _; rw [← Hb5.out]; exact Nat.ne_of_lt lt_bA
  have le_b5 : Hid (w.heap.size ≤ b5) := by show _ ≤ _; rw [← Hb5.out]; exact le_b5.out
  rw [Hb5.out] at hK ⊢
  clear lt_b2 lt_bR lt_bB lt_bA
  go_upto_region 6 with fail
  go_wp2_with (refine wpList_store_own (op := { dst := none, op := _, type := _, pos := _, after := _, guard := _ }) rfl 22 (.tmp 4) (.tmp 24) rfl bR 0 (B32 fun _ => 0) (by rfl) (by rfl) (hK.at bR (B32 fun _ => 0) 22 (.tail _ (.tail _ (.head _)))) (B32_le _ _) (B32_info _) (B32_one _) (by rfl) ?_)
  exact bodyPost_ret (results_own_tmp Tryz.results34 _ _ bR (B32 fun _ => 0) _ (by rfl) (own_setCells (hK.at bR (B32 fun _ => 0) 22 (.tail _ (.tail _ (.head _)))) (B32_sizes _ _)) Tryz.underlying22 rfl (B32_info _)) rfl ⟨rfl, Below.setCells _ _ _ _ le_bR.out hK.2⟩
set_option maxRecDepth 100000 in
set_option maxHeartbeats 2000000 in
theorem mul_ok {P : Pt E5} {r : N3} {n a c : Nat} (hn : Hid (n < R256)) (Ha : Hid (enc P = a)) (Hc : Hid (enc (Pt.times n P) = c)) (hr : rdp (enc P) = some r) (hro : Ok3 P r) (w : World) (hT : TC w) : Calls Tryz.prog 33 #[.agg (B32 (bdig n)), .agg (B32 (bdig a))] w fun x w' => x = .returned (.tuple #[.agg (B32 (bdig c)), .int .i64 0]) ∧ Below w.heap.size w w' := by
  have hz := (zero_of_info zeroB32).1
  have hzP := (zero_of_info zeroQA).1
  go_enter Tryz.func33, Tryz.ntmps33
  go_upto_region 1 with fail
  have hK := (((Kp.nil w).alloc (B32 (bdig n)) 22).alloc (B32 (bdig a)) 22).alloc (B32 fun _ => 0) 22
  rw [World.size_alloc, World.size_alloc] at hK
  generalize ((w.alloc (.cells (B32 (bdig n)) 22)).alloc (.cells (B32 (bdig a)) 22)).alloc (.cells (B32 fun _ => 0) 22) = W at *
  obtain ⟨bN, HbN⟩ : ∃ b, Hid (w.heap.size = b) := ⟨_, rfl⟩
  obtain ⟨bA, HbA⟩ : ∃ b, Hid (bN + 1 = b) := ⟨_, rfl⟩
  obtain ⟨bR, HbR⟩ : ∃ b, Hid (bA + 1 = b) := ⟨_, rfl⟩
  have le_bN : Hid (w.heap.size ≤ bN) := by show _ ≤ _; have := HbN.out; omega
  have le_bA : Hid (w.heap.size ≤ bA) := by show _ ≤ _; have := HbN.out; have := HbA.out; omega
  have le_bR : Hid (w.heap.size ≤ bR) := by show _ ≤ _; have := HbN.out; have := HbA.out; have := HbR.out; omega
  have ne_bN_bA : Hid (bN ≠ bA) := by show _ ≠ _; have := HbA.out; omega
  have ne_bN_bR : Hid (bN ≠ bR) := by show _ ≠ _; have := HbA.out; have := HbR.out; omega
  have ne_bA_bR : Hid (bA ≠ bR) := by show _ ≠ _; have := HbR.out; omega
  rw [HbN.out, HbA.out, HbR.out] at hK ⊢
  go_wp2_with (refine wpList_load_own (by rfl) 22 (.tmp 3) (by rfl) bA (by rfl) (B32 (bdig a)) _ (hK.at bA (B32 (bdig a)) 22 (.tail _ (.head _))) Tryz.underlying22 (by rfl) (B32_info _) ?_)
  refine (read_ok Ha.out hr _ (TC.keep hT hK.2)).mono ?_
  rintro e V1 ⟨rfl, bw⟩
  have hK := hK.below bw
  clear bw
  go_upto_region 2 with (refine wpList_store_new (by rfl) 74 (.tmp 6) (.tmp 11) (by rfl) _ (QA r) (by rfl) (by rfl) (QA_info _) (QA_sizes _ _) (QA_one _) (by rfl) ?_)
  have lt_bR := (hK.at bR (B32 fun _ => 0) 22 (.head _)).lt
  have lt_bA := (hK.at bA (B32 (bdig a)) 22 (.tail _ (.head _))).lt
  have lt_bN := (hK.at bN (B32 (bdig n)) 22 (.tail _ (.tail _ (.head _)))).lt
  have le_b2 := show Hid _ from hK.2.size
  have hK := hK.alloc (QA r) 74
  generalize V1.alloc (.cells (QA r) 74) = V3 at *
  obtain ⟨b2, Hb2⟩ : ∃ b, Hid (V1.heap.size = b) := ⟨_, rfl⟩
  have ne_bR_b2 : Hid (bR ≠ b2) := by show _ ≠ _; rw [← Hb2.out]; exact Nat.ne_of_lt lt_bR
  have ne_bA_b2 : Hid (bA ≠ b2) := by show _ ≠ _; rw [← Hb2.out]; exact Nat.ne_of_lt lt_bA
  have ne_bN_b2 : Hid (bN ≠ b2) := by show _ ≠ _; rw [← Hb2.out]; exact Nat.ne_of_lt lt_bN
  have le_b2 : Hid (w.heap.size ≤ b2) := by show _ ≤ _; rw [← Hb2.out]; exact le_b2.out
  rw [Hb2.out] at hK ⊢
  clear lt_bR lt_bA lt_bN
  go_upto_region 4 with fail
  go_wp2_with (first
    | refine wpList_load_own (by rfl) 22 (.tmp 2) (by rfl) bN (by rfl) (B32 (bdig n)) _ (hK.at bN (B32 (bdig n)) 22 (.tail _ (.tail _ (.tail _ (.head _))))) Tryz.underlying22 (by rfl) (B32_info _) ?_
    | refine wpList_load_own (by rfl) 74 (.tmp 6) (by rfl) b2 (by rfl) (QA r) _ (hK.at b2 (QA r) 74 (.head _)) Tryz.underlying74 (by rfl) (QA_info _) ?_)
  refine (mtimes_at hn hro _ (TC.keep hT hK.2)).mono ?_
  rintro e V4 ⟨tc, rfl, htc, bw⟩
  have hK := hK.below bw
  clear bw
  go_wp2_with fail
  refine (write_at htc Hc.out _ (TC.keep hT hK.2)).mono ?_
  rintro e V5 ⟨rfl, bw⟩
  have hK := hK.below bw
  clear bw
  go_wp2_with (refine wpList_store_own (op := { dst := none, op := _, type := _, pos := _, after := _, guard := _ }) rfl 22 (.tmp 4) (.tmp 19) rfl bR 0 (B32 (bdig c)) (by rfl) (by rfl) (hK.at bR (B32 fun _ => 0) 22 (.tail _ (.head _))) (B32_le _ _) (B32_info _) (B32_one _) (by rfl) ?_)
  exact bodyPost_ret (results_own_tmp Tryz.results33 _ _ bR (B32 (bdig c)) _ (by rfl) (own_setCells (hK.at bR (B32 fun _ => 0) 22 (.tail _ (.head _))) (B32_sizes _ _)) Tryz.underlying22 rfl (B32_info _)) rfl ⟨rfl, Below.setCells _ _ _ _ le_bR.out hK.2⟩
set_option maxRecDepth 100000 in
set_option maxHeartbeats 2000000 in
theorem mul_no {n a : Nat} (ha : a < R256) (h : ∀ P : Pt E5, enc P ≠ a) (w : World) (hT : TC w) : Calls Tryz.prog 33 #[.agg (B32 (bdig n)), .agg (B32 (bdig a))] w fun x w' => x = .returned (.tuple #[.agg (B32 fun _ => 0), .int .i64 1]) ∧ Below w.heap.size w w' := by
  have hz := (zero_of_info zeroB32).1
  have hzP := (zero_of_info zeroQA).1
  go_enter Tryz.func33, Tryz.ntmps33
  go_upto_region 1 with fail
  have hK := (((Kp.nil w).alloc (B32 (bdig n)) 22).alloc (B32 (bdig a)) 22).alloc (B32 fun _ => 0) 22
  rw [World.size_alloc, World.size_alloc] at hK
  generalize ((w.alloc (.cells (B32 (bdig n)) 22)).alloc (.cells (B32 (bdig a)) 22)).alloc (.cells (B32 fun _ => 0) 22) = W at *
  obtain ⟨bN, HbN⟩ : ∃ b, Hid (w.heap.size = b) := ⟨_, rfl⟩
  obtain ⟨bA, HbA⟩ : ∃ b, Hid (bN + 1 = b) := ⟨_, rfl⟩
  obtain ⟨bR, HbR⟩ : ∃ b, Hid (bA + 1 = b) := ⟨_, rfl⟩
  have le_bN : Hid (w.heap.size ≤ bN) := by show _ ≤ _; have := HbN.out; omega
  have le_bA : Hid (w.heap.size ≤ bA) := by show _ ≤ _; have := HbN.out; have := HbA.out; omega
  have le_bR : Hid (w.heap.size ≤ bR) := by show _ ≤ _; have := HbN.out; have := HbA.out; have := HbR.out; omega
  have ne_bN_bA : Hid (bN ≠ bA) := by show _ ≠ _; have := HbA.out; omega
  have ne_bN_bR : Hid (bN ≠ bR) := by show _ ≠ _; have := HbA.out; have := HbR.out; omega
  have ne_bA_bR : Hid (bA ≠ bR) := by show _ ≠ _; have := HbR.out; omega
  rw [HbN.out, HbA.out, HbR.out] at hK ⊢
  go_wp2_with (refine wpList_load_own (by rfl) 22 (.tmp 3) (by rfl) bA (by rfl) (B32 (bdig a)) _ (hK.at bA (B32 (bdig a)) 22 (.tail _ (.head _))) Tryz.underlying22 (by rfl) (B32_info _) ?_)
  refine (read_not ha h _ (TC.keep hT hK.2)).mono ?_
  rintro e V1 ⟨rfl, bw⟩
  have hK := hK.below bw
  clear bw
  go_upto_region 2 with (refine wpList_store_new (by rfl) 74 (.tmp 6) (.tmp 11) (by rfl) _ (QA ⟨0, 0, 0⟩) (by rfl) (by rfl) (QA_info _) (QA_sizes _ _) (QA_one _) (by rfl) ?_)
  have lt_bR := (hK.at bR (B32 fun _ => 0) 22 (.head _)).lt
  have lt_bA := (hK.at bA (B32 (bdig a)) 22 (.tail _ (.head _))).lt
  have lt_bN := (hK.at bN (B32 (bdig n)) 22 (.tail _ (.tail _ (.head _)))).lt
  have le_b2 := show Hid _ from hK.2.size
  have hK := hK.alloc (QA ⟨0, 0, 0⟩) 74
  generalize V1.alloc (.cells (QA ⟨0, 0, 0⟩) 74) = V3 at *
  obtain ⟨b2, Hb2⟩ : ∃ b, Hid (V1.heap.size = b) := ⟨_, rfl⟩
  have ne_bR_b2 : Hid (bR ≠ b2) := by show _ ≠ _; rw [← Hb2.out]; exact Nat.ne_of_lt lt_bR
  have ne_bA_b2 : Hid (bA ≠ b2) := by show _ ≠ _; rw [← Hb2.out]; exact Nat.ne_of_lt lt_bA
  have ne_bN_b2 : Hid (bN ≠ b2) := by show _ ≠ _; rw [← Hb2.out]; exact Nat.ne_of_lt lt_bN
  have le_b2 : Hid (w.heap.size ≤ b2) := by show _ ≤ _; rw [← Hb2.out]; exact le_b2.out
  rw [Hb2.out] at hK ⊢
  clear lt_bR lt_bA lt_bN
  go_upto_region 3 with fail
  go_wp2_with (refine wpList_store_own (op := { dst := none, op := _, type := _, pos := _, after := _, guard := _ }) rfl 22 (.tmp 4) (.tmp 15) rfl bR 0 (B32 fun _ => 0) (by rfl) (by rfl) (hK.at bR (B32 fun _ => 0) 22 (.tail _ (.head _))) (B32_le _ _) (B32_info _) (B32_one _) (by rfl) ?_)
  exact bodyPost_ret (results_own_tmp Tryz.results33 _ _ bR (B32 fun _ => 0) _ (by rfl) (own_setCells (hK.at bR (B32 fun _ => 0) 22 (.tail _ (.head _))) (B32_sizes _ _)) Tryz.underlying22 rfl (B32_info _)) rfl ⟨rfl, Below.setCells _ _ _ _ le_bR.out hK.2⟩
set_option maxRecDepth 100000 in
set_option maxHeartbeats 2000000 in
theorem base_ok {n c : Nat} (hn : Hid (n < R256)) (Hc : Hid (enc (Pt.times n BP) = c)) (w : World) (hT : TC w) : Calls Tryz.prog 26 #[.agg (B32 (bdig n))] w fun x w' => x = .returned (.agg (B32 (bdig c))) ∧ Below w.heap.size w w' := by
  have hz := (zero_of_info zeroB32).1
  have hzP := (zero_of_info zeroQA).1
  go_enter Tryz.func26, Tryz.ntmps26
  go_upto_region 1 with fail
  have hK := ((Kp.nil w).alloc (B32 (bdig n)) 22).alloc (B32 fun _ => 0) 22
  rw [World.size_alloc] at hK
  generalize (w.alloc (.cells (B32 (bdig n)) 22)).alloc (.cells (B32 fun _ => 0) 22) = W at *
  obtain ⟨bN, HbN⟩ : ∃ b, Hid (w.heap.size = b) := ⟨_, rfl⟩
  obtain ⟨bR, HbR⟩ : ∃ b, Hid (bN + 1 = b) := ⟨_, rfl⟩
  have le_bN : Hid (w.heap.size ≤ bN) := by show _ ≤ _; have := HbN.out; omega
  have le_bR : Hid (w.heap.size ≤ bR) := by show _ ≤ _; have := HbN.out; have := HbR.out; omega
  have ne_bN_bR : Hid (bN ≠ bR) := by show _ ≠ _; have := HbR.out; omega
  rw [HbN.out, HbR.out] at hK ⊢
  go_wp2_with (first
    | refine wpList_load_own (by rfl) 22 (.tmp 1) (by rfl) bN (by rfl) (B32 (bdig n)) _ (hK.at bN (B32 (bdig n)) 22 (.tail _ (.head _))) Tryz.underlying22 (by rfl) (B32_info _) ?_
    | refine wpList_load_b (by rfl) (by rfl) (TC.keep hT hK.2) ?_)
  refine (mtimes_at hn Ok3.base _ (TC.keep hT hK.2)).mono ?_
  rintro e V1 ⟨tc, rfl, htc, bw⟩
  have hK := hK.below bw
  clear bw
  go_wp2_with fail
  refine (write_at htc Hc.out _ (TC.keep hT hK.2)).mono ?_
  rintro e V2 ⟨rfl, bw⟩
  have hK := hK.below bw
  clear bw
  go_wp2_with (refine wpList_store_own (op := { dst := none, op := _, type := _, pos := _, after := _, guard := _ }) rfl 22 (.tmp 2) (.tmp 6) rfl bR 0 (B32 (bdig c)) (by rfl) (by rfl) (hK.at bR (B32 fun _ => 0) 22 (.head _)) (B32_le _ _) (B32_info _) (B32_one _) (by rfl) ?_)
  exact bodyPost_ret (results_own Tryz.results26 _ _ bR (B32 (bdig c)) _ (by rfl) (own_setCells (hK.at bR (B32 fun _ => 0) 22 (.head _)) (B32_sizes _ _)) Tryz.underlying22 rfl (B32_info _)) rfl ⟨rfl, Below.setCells _ _ _ _ le_bR.out hK.2⟩
end Go.Proofs.YtgibllaifnnfkaaGreatDoor
namespace Go.Proofs.YtgibllaifnnfkaaGreatDoor
open Go Go.RowKit
structure Crv (T : World → Prop) : Prop where
  keep : ∀ w w', T w → Below w.heap.size w w' → T w'
  add : ∀ (P Q : Pt E5) w, T w → Calls Tryz.prog 34 #[.agg (B32 (bdig (enc P))), .agg (B32 (bdig (enc Q)))] w fun x w' => x = .returned (.tuple #[.agg (B32 (bdig (enc (P.add Q)))), .int .i64 0]) ∧ Below w.heap.size w w'
  add_not : ∀ a b, a < R256 → b < R256 → ((∀ P : Pt E5, enc P ≠ a) ∨ ∀ P : Pt E5, enc P ≠ b) → ∀ w, T w → Calls Tryz.prog 34 #[.agg (B32 (bdig a)), .agg (B32 (bdig b))] w fun x w' => x = .returned (.tuple #[.agg (B32 fun _ => 0), .int .i64 1]) ∧ Below w.heap.size w w'
  mul : ∀ n, n < R256 → ∀ (P : Pt E5) w, T w → Calls Tryz.prog 33 #[.agg (B32 (bdig n)), .agg (B32 (bdig (enc P)))] w fun x w' => x = .returned (.tuple #[.agg (B32 (bdig (enc (Pt.times n P)))), .int .i64 0]) ∧ Below w.heap.size w w'
  mul_not : ∀ n a, n < R256 → a < R256 → (∀ P : Pt E5, enc P ≠ a) → ∀ w, T w → Calls Tryz.prog 33 #[.agg (B32 (bdig n)), .agg (B32 (bdig a))] w fun x w' => x = .returned (.tuple #[.agg (B32 fun _ => 0), .int .i64 1]) ∧ Below w.heap.size w w'
  base : ∀ n, n < R256 → ∀ w, T w → Calls Tryz.prog 26 #[.agg (B32 (bdig n))] w fun x w' => x = .returned (.agg (B32 (bdig (enc (Pt.times n BP))))) ∧ Below w.heap.size w w'
end Go.Proofs.YtgibllaifnnfkaaGreatDoor
namespace Go.Proofs.YtgibllaifnnfkaaGreatDoor
open Go Go.RowKit
theorem crv : Crv TC where
  keep := fun _ _ h hB => h.keep hB
  add := fun P Q w hT => by
    obtain ⟨r, hr, hro⟩ := rd_pt P
    obtain ⟨s, hs, hso⟩ := rd_pt Q
    exact add_ok rfl rfl rfl hr hro hs hso w hT
  add_not := fun a b ha hb h w hT => by
    by_cases hP : ∃ P : Pt E5, enc P = a
    · obtain ⟨P, rfl⟩ := hP
      obtain ⟨r, hr, -⟩ := rd_pt P
      exact add_no2 rfl hr hb (h.resolve_left fun k => k P rfl) w hT
    · exact add_no1 ha (fun P e => hP ⟨P, e⟩) w hT
  mul := fun _ hn P w hT => by
    obtain ⟨r, hr, hro⟩ := rd_pt P
    exact mul_ok hn rfl rfl hr hro w hT
  mul_not := fun _ _ _ ha h w hT => mul_no ha h w hT
  base := fun _ hn w hT => base_ok hn rfl w hT
end Go.Proofs.YtgibllaifnnfkaaGreatDoor
