/- The walk of the law CurveExact, over the program's functions by their contracts. -/
import Derived.Test.YtaekpoiaigklgaaDoorY2
namespace Go.Proofs.YtaekpoiaigklgaaDoor
open Go Go.RowKit
theorem B32_same_nought (w : World) : (Op.equalIn 10000 22 (.agg (B32 fun _ => 0)) (.agg (B32 fun _ => 0))).run Tryd.prog w = .ok true w := by
  rw [B32_nought]; exact B32_same 0 (by decide) w
theorem psum_at {P Q : Pt E5} {a b c : Nat} (ha : enc P = a) (hb : enc Q = b) (hc : enc (P.add Q) = c) (w : World) : Calls Tryd.prog 12 #[.agg (B32 (bdig a)), .agg (B32 (bdig b))] w fun e w' => e = .returned (.tuple #[.agg (B32 (bdig c)), .bool true]) ∧ Below w.heap.size w w' := by
  subst ha; subst hb; subst hc; exact psum P Q w
theorem pneg_at {P : Pt E5} {a c : Nat} (ha : enc P = a) (hc : enc P.neg = c) (w : World) : Calls Tryd.prog 14 #[.agg (B32 (bdig a))] w fun e w' => e = .returned (.tuple #[.agg (B32 (bdig c)), .bool true]) ∧ Below w.heap.size w w' := by
  subst ha; subst hc; exact pneg P w
theorem ptimes_at {n : Nat} {P : Pt E5} {a c : Nat} (hn : n < R256) (ha : enc P = a) (hc : enc (Pt.times n P) = c) (w : World) : Calls Tryd.prog 16 #[.agg (B32 (bdig n)), .agg (B32 (bdig a))] w fun e w' => e = .returned (.tuple #[.agg (B32 (bdig c)), .bool true]) ∧ Below w.heap.size w w' := by
  subst ha; subst hc; exact ptimes n hn P w
set_option maxRecDepth 100000 in
set_option maxHeartbeats 2500000 in
theorem cexact_pp {T : World → Prop} (F : Crv T) (a b n : Nat) (_ha : Hid (a < R256)) (_hb : Hid (b < R256)) (hn : Hid (n < R256)) (PP QQ : Pt E5) (Ha : Hid (enc PP = a)) (Hb : Hid (enc QQ = b)) (w : World) (hT : T w) : Calls Tryd.prog 3 #[.agg (B32 (bdig a)), .agg (B32 (bdig b)), .agg (B32 (bdig n))] w fun x w' => x = .returned (.bool true) ∧ Below w.heap.size w w' := by
  have hz := (zero_of_info zeroB32).1
  have hzP := (zero_of_info zeroPA).1
  have same_0 := B32_same_nought
  obtain ⟨r, Hd⟩ : ∃ r, Hid (∀ w : World, Calls Tryd.prog 9 #[.agg (B32 (bdig a))] w fun e w' => e = .returned (.tuple #[.agg (PA r), .bool true]) ∧ Below w.heap.size w w') := by
    obtain ⟨r, -, -, h⟩ := page_dec PP
    exact ⟨r, by rw [← Ha.out]; exact h⟩
  obtain ⟨o, Ho⟩ : ∃ x, Hid (enc PP.neg = x) := ⟨_, rfl⟩
  obtain ⟨y, Hy⟩ : ∃ x, Hid (enc (Pt.times n PP) = x) := ⟨_, rfl⟩
  have same_o := B32_same o (by rw [← Ho.out]; exact enc_R _)
  have same_y := B32_same y (by rw [← Hy.out]; exact enc_R _)
  obtain ⟨x, Hx⟩ : ∃ x, Hid (enc (PP.add QQ) = x) := ⟨_, rfl⟩
  have same_x := B32_same x (by rw [← Hx.out]; exact enc_R _)
  go_enter Tryd.func3, Tryd.ntmps3
  go_upto_region 1 with fail
  have hK := (((Kp.nil w).alloc (B32 (bdig a)) 22).alloc (B32 (bdig b)) 22).alloc (B32 (bdig n)) 22
  rw [World.size_alloc, World.size_alloc] at hK
  generalize ((w.alloc (.cells (B32 (bdig a)) 22)).alloc (.cells (B32 (bdig b)) 22)).alloc (.cells (B32 (bdig n)) 22) = W at *
  obtain ⟨bA, HbA⟩ : ∃ b, Hid (w.heap.size = b) := ⟨_, rfl⟩
  obtain ⟨bB, HbB⟩ : ∃ b, Hid (bA + 1 = b) := ⟨_, rfl⟩
  obtain ⟨bN, HbN⟩ : ∃ b, Hid (bB + 1 = b) := ⟨_, rfl⟩
  have le_bA : Hid (w.heap.size ≤ bA) := by show _ ≤ _; have := HbA.out; omega
  have le_bB : Hid (w.heap.size ≤ bB) := by show _ ≤ _; have := HbA.out; have := HbB.out; omega
  have le_bN : Hid (w.heap.size ≤ bN) := by show _ ≤ _; have := HbA.out; have := HbB.out; have := HbN.out; omega
  have ne_bA_bB : Hid (bA ≠ bB) := by show _ ≠ _; have := HbB.out; omega
  have ne_bA_bN : Hid (bA ≠ bN) := by show _ ≠ _; have := HbB.out; have := HbN.out; omega
  have ne_bB_bN : Hid (bB ≠ bN) := by show _ ≠ _; have := HbN.out; omega
  rw [HbA.out, HbB.out, HbN.out] at hK ⊢
  go_wp2_with (refine wpList_load_own (by rfl) 22 (.tmp 3) (by rfl) bA (by rfl) (B32 (bdig a)) _ (hK.at bA (B32 (bdig a)) 22 (.tail _ (.tail _ (.head _)))) Tryd.underlying22 (by rfl) (B32_info _) ?_)
  refine (Hd.out _).mono ?_
  rintro e V1 ⟨rfl, bw⟩
  have hK := hK.below bw
  clear bw
  go_upto_region 2 with (refine wpList_store_new (by rfl) 27 (.tmp 7) (.tmp 16) (by rfl) _ (PA r) (by rfl) (by rfl) (PA_info _) (PA_sizes _ _) (PA_one _) (by rfl) ?_)
  have lt_bN := (hK.at bN (B32 (bdig n)) 22 (.head _)).lt
  have lt_bB := (hK.at bB (B32 (bdig b)) 22 (.tail _ (.head _))).lt
  have lt_bA := (hK.at bA (B32 (bdig a)) 22 (.tail _ (.tail _ (.head _)))).lt
  have le_b2 := show Hid _ from hK.2.size
  have hK := hK.alloc (PA r) 27
  generalize V1.alloc (.cells (PA r) 27) = V3 at *
  obtain ⟨b2, Hb2⟩ : ∃ b, Hid (V1.heap.size = b) := ⟨_, rfl⟩
  have ne_bN_b2 : Hid (bN ≠ b2) := by show _ ≠ _; rw [← Hb2.out]; exact Nat.ne_of_lt lt_bN
  have ne_bB_b2 : Hid (bB ≠ b2) := by show _ ≠ _; rw [← Hb2.out]; exact Nat.ne_of_lt lt_bB
  have ne_bA_b2 : Hid (bA ≠ b2) := by show _ ≠ _; rw [← Hb2.out]; exact Nat.ne_of_lt lt_bA
  have le_b2 : Hid (w.heap.size ≤ b2) := by show _ ≤ _; rw [← Hb2.out]; exact le_b2.out
  rw [Hb2.out] at hK ⊢
  clear lt_bN lt_bB lt_bA
  go_wp2_with (refine wpList_load_own (by rfl) 22 (.tmp 3) (by rfl) bA (by rfl) (B32 (bdig a)) _ (hK.at bA (B32 (bdig a)) 22 (.tail _ (.tail _ (.tail _ (.head _))))) Tryd.underlying22 (by rfl) (B32_info _) ?_)
  refine (F.checkA Ha.out _ (F.keep _ _ hT hK.2)).mono ?_
  rintro e V4 ⟨rfl, bw⟩
  have hK := hK.below bw
  clear bw
  go_upto_region 4 with fail
  go_wp2_with (first
    | refine wpList_load_own (by rfl) 22 (.tmp 3) (by rfl) bA (by rfl) (B32 (bdig a)) _ (hK.at bA (B32 (bdig a)) 22 (.tail _ (.tail _ (.tail _ (.head _))))) Tryd.underlying22 (by rfl) (B32_info _) ?_
    | refine wpList_load_own (by rfl) 22 (.tmp 4) (by rfl) bB (by rfl) (B32 (bdig b)) _ (hK.at bB (B32 (bdig b)) 22 (.tail _ (.tail _ (.head _)))) Tryd.underlying22 (by rfl) (B32_info _) ?_)
  refine (F.addA Ha.out Hb.out rfl Hx.out _ (F.keep _ _ hT hK.2)).mono ?_
  rintro e V5 ⟨rfl, bw⟩
  have hK := hK.below bw
  clear bw
  go_upto_region 5 with (refine wpList_store_new (by rfl) 22 (.tmp 9) (.tmp 26) (by rfl) _ (B32 (bdig x)) (by rfl) (by rfl) (B32_info _) (B32_sizes _ _) (B32_one _) (by rfl) ?_)
  have lt_b2 := (hK.at b2 (PA r) 27 (.head _)).lt
  have lt_bN := (hK.at bN (B32 (bdig n)) 22 (.tail _ (.head _))).lt
  have lt_bB := (hK.at bB (B32 (bdig b)) 22 (.tail _ (.tail _ (.head _)))).lt
  have lt_bA := (hK.at bA (B32 (bdig a)) 22 (.tail _ (.tail _ (.tail _ (.head _))))).lt
  have le_b6 := show Hid _ from hK.2.size
  have hK := hK.alloc (B32 (bdig x)) 22
  generalize V5.alloc (.cells (B32 (bdig x)) 22) = V7 at *
  obtain ⟨b6, Hb6⟩ : ∃ b, Hid (V5.heap.size = b) := ⟨_, rfl⟩
  have ne_b2_b6 : Hid (b2 ≠ b6) := by show _ ≠ _; rw [← Hb6.out]; exact Nat.ne_of_lt lt_b2
  have ne_bN_b6 : Hid (bN ≠ b6) := by show _ ≠ _; rw [← Hb6.out]; exact Nat.ne_of_lt lt_bN
  have ne_bB_b6 : Hid (bB ≠ b6) := by show _ ≠ _; rw [← Hb6.out]; exact Nat.ne_of_lt lt_bB
  have ne_bA_b6 : Hid (bA ≠ b6) := by show _ ≠ _; rw [← Hb6.out]; exact Nat.ne_of_lt lt_bA
  have le_b6 : Hid (w.heap.size ≤ b6) := by show _ ≤ _; rw [← Hb6.out]; exact le_b6.out
  rw [Hb6.out] at hK ⊢
  clear lt_b2 lt_bN lt_bB lt_bA
  go_wp2_with (first
    | refine wpList_load_own (by rfl) 22 (.tmp 3) (by rfl) bA (by rfl) (B32 (bdig a)) _ (hK.at bA (B32 (bdig a)) 22 (.tail _ (.tail _ (.tail _ (.tail _ (.head _)))))) Tryd.underlying22 (by rfl) (B32_info _) ?_
    | refine wpList_load_own (by rfl) 22 (.tmp 4) (by rfl) bB (by rfl) (B32 (bdig b)) _ (hK.at bB (B32 (bdig b)) 22 (.tail _ (.tail _ (.tail _ (.head _))))) Tryd.underlying22 (by rfl) (B32_info _) ?_)
  refine (psum_at Ha.out Hb.out Hx.out _).mono ?_
  rintro e V8 ⟨rfl, bw⟩
  have hK := hK.below bw
  clear bw
  go_upto_region 6 with (refine wpList_store_new (by rfl) 22 (.tmp 11) (.tmp 32) (by rfl) _ (B32 (bdig x)) (by rfl) (by rfl) (B32_info _) (B32_sizes _ _) (B32_one _) (by rfl) ?_)
  have lt_b6 := (hK.at b6 (B32 (bdig x)) 22 (.head _)).lt
  have lt_b2 := (hK.at b2 (PA r) 27 (.tail _ (.head _))).lt
  have lt_bN := (hK.at bN (B32 (bdig n)) 22 (.tail _ (.tail _ (.head _)))).lt
  have lt_bB := (hK.at bB (B32 (bdig b)) 22 (.tail _ (.tail _ (.tail _ (.head _))))).lt
  have lt_bA := (hK.at bA (B32 (bdig a)) 22 (.tail _ (.tail _ (.tail _ (.tail _ (.head _)))))).lt
  have le_b9 := show Hid _ from hK.2.size
  have hK := hK.alloc (B32 (bdig x)) 22
  generalize V8.alloc (.cells (B32 (bdig x)) 22) = V10 at *
  obtain ⟨b9, Hb9⟩ : ∃ b, Hid (V8.heap.size = b) := ⟨_, rfl⟩
  have ne_b6_b9 : Hid (b6 ≠ b9) := by show _ ≠ _; rw [← Hb9.out]; exact Nat.ne_of_lt lt_b6
  have ne_b2_b9 : Hid (b2 ≠ b9) := by show _ ≠ _; rw [← Hb9.out]; exact Nat.ne_of_lt lt_b2
  have ne_bN_b9 : Hid (bN ≠ b9) := by show _ ≠ _; rw [← Hb9.out]; exact Nat.ne_of_lt lt_bN
  have ne_bB_b9 : Hid (bB ≠ b9) := by show _ ≠ _; rw [← Hb9.out]; exact Nat.ne_of_lt lt_bB
  have ne_bA_b9 : Hid (bA ≠ b9) := by show _ ≠ _; rw [← Hb9.out]; exact Nat.ne_of_lt lt_bA
  have le_b9 : Hid (w.heap.size ≤ b9) := by show _ ≤ _; rw [← Hb9.out]; exact le_b9.out
  rw [Hb9.out] at hK ⊢
  clear lt_b6 lt_b2 lt_bN lt_bB lt_bA
  go_upto_region 8 with (first
    | refine wpList_load_gd (by rfl) 22 (.tmp 9) (by rfl) b6 (by rfl) (B32 (bdig x)) _ (hK.at b6 (B32 (bdig x)) 22 (.tail _ (.head _))) Tryd.underlying22 (by rfl) (B32_info _) ?_
    | refine wpList_load_gd (by rfl) 22 (.tmp 11) (by rfl) b9 (by rfl) (B32 (bdig x)) _ (hK.at b9 (B32 (bdig x)) 22 (.head _)) Tryd.underlying22 (by rfl) (B32_info _) ?_)
  go_wp2_with (refine wpList_load_own (by rfl) 22 (.tmp 3) (by rfl) bA (by rfl) (B32 (bdig a)) _ (hK.at bA (B32 (bdig a)) 22 (.tail _ (.tail _ (.tail _ (.tail _ (.tail _ (.head _))))))) Tryd.underlying22 (by rfl) (B32_info _) ?_)
  refine (F.negA Ha.out rfl Ho.out _ (F.keep _ _ hT hK.2)).mono ?_
  rintro e V11 ⟨rfl, bw⟩
  have hK := hK.below bw
  clear bw
  go_upto_region 9 with (refine wpList_store_own (op := { dst := none, op := _, type := _, pos := _, after := _, guard := _ }) rfl 22 (.tmp 9) (.tmp 54) rfl b6 0 (B32 (bdig o)) (by rfl) (by rfl) (hK.at b6 (B32 (bdig x)) 22 (.tail _ (.head _))) (B32_le _ _) (B32_info _) (B32_one _) (by rfl) ?_)
  have hK : Kp [(b6, B32 (bdig x), 22), (b9, B32 (bdig x), 22), (b2, PA r, 27), (bN, B32 (bdig n), 22), (bB, B32 (bdig b), 22), (bA, B32 (bdig a), 22)] w V11 := ((((((hK.none.cons (hK.at bA (B32 (bdig a)) 22 (.tail _ (.tail _ (.tail _ (.tail _ (.tail _ (.head _)))))))).cons (hK.at bB (B32 (bdig b)) 22 (.tail _ (.tail _ (.tail _ (.tail _ (.head _))))))).cons (hK.at bN (B32 (bdig n)) 22 (.tail _ (.tail _ (.tail _ (.head _)))))).cons (hK.at b2 (PA r) 27 (.tail _ (.tail _ (.head _))))).cons (hK.at b9 (B32 (bdig x)) 22 (.head _))).cons (hK.at b6 (B32 (bdig x)) 22 (.tail _ (.head _))))
  have hK := Kp.set (A' := B32 (bdig o)) hK (by simp only [List.forall_mem_cons, List.not_mem_nil, false_implies, implies_true, and_true]; exact ⟨(Ne.symm ne_b6_b9.out), ne_b2_b6.out, ne_bN_b6.out, ne_bB_b6.out, ne_bA_b6.out⟩) le_b6.out (B32_sizes _ _)
  generalize V11.setCells b6 0 (B32 (bdig o)).toList = V12 at *
  go_wp2_with (refine wpList_load_own (by rfl) 22 (.tmp 3) (by rfl) bA (by rfl) (B32 (bdig a)) _ (hK.at bA (B32 (bdig a)) 22 (.tail _ (.tail _ (.tail _ (.tail _ (.tail _ (.head _))))))) Tryd.underlying22 (by rfl) (B32_info _) ?_)
  refine (pneg_at Ha.out Ho.out _).mono ?_
  rintro e V13 ⟨rfl, bw⟩
  have hK := hK.below bw
  clear bw
  go_upto_region 10 with (refine wpList_store_own (op := { dst := none, op := _, type := _, pos := _, after := _, guard := _ }) rfl 22 (.tmp 11) (.tmp 59) rfl b9 0 (B32 (bdig o)) (by rfl) (by rfl) (hK.at b9 (B32 (bdig x)) 22 (.tail _ (.head _))) (B32_le _ _) (B32_info _) (B32_one _) (by rfl) ?_)
  have hK : Kp [(b9, B32 (bdig x), 22), (b6, B32 (bdig o), 22), (b2, PA r, 27), (bN, B32 (bdig n), 22), (bB, B32 (bdig b), 22), (bA, B32 (bdig a), 22)] w V13 := ((((((hK.none.cons (hK.at bA (B32 (bdig a)) 22 (.tail _ (.tail _ (.tail _ (.tail _ (.tail _ (.head _)))))))).cons (hK.at bB (B32 (bdig b)) 22 (.tail _ (.tail _ (.tail _ (.tail _ (.head _))))))).cons (hK.at bN (B32 (bdig n)) 22 (.tail _ (.tail _ (.tail _ (.head _)))))).cons (hK.at b2 (PA r) 27 (.tail _ (.tail _ (.head _))))).cons (hK.at b6 (B32 (bdig o)) 22 (.head _))).cons (hK.at b9 (B32 (bdig x)) 22 (.tail _ (.head _))))
  have hK := Kp.set (A' := B32 (bdig o)) hK (by simp only [List.forall_mem_cons, List.not_mem_nil, false_implies, implies_true, and_true]; exact ⟨ne_b6_b9.out, ne_b2_b9.out, ne_bN_b9.out, ne_bB_b9.out, ne_bA_b9.out⟩) le_b9.out (B32_sizes _ _)
  generalize V13.setCells b9 0 (B32 (bdig o)).toList = V14 at *
  go_upto_region 12 with (first
    | refine wpList_load_gd (by rfl) 22 (.tmp 9) (by rfl) b6 (by rfl) (B32 (bdig o)) _ (hK.at b6 (B32 (bdig o)) 22 (.tail _ (.head _))) Tryd.underlying22 (by rfl) (B32_info _) ?_
    | refine wpList_load_gd (by rfl) 22 (.tmp 11) (by rfl) b9 (by rfl) (B32 (bdig o)) _ (hK.at b9 (B32 (bdig o)) 22 (.head _)) Tryd.underlying22 (by rfl) (B32_info _) ?_)
  go_wp2_with (first
    | refine wpList_load_own (by rfl) 22 (.tmp 5) (by rfl) bN (by rfl) (B32 (bdig n)) _ (hK.at bN (B32 (bdig n)) 22 (.tail _ (.tail _ (.tail _ (.head _))))) Tryd.underlying22 (by rfl) (B32_info _) ?_
    | refine wpList_load_own (by rfl) 22 (.tmp 3) (by rfl) bA (by rfl) (B32 (bdig a)) _ (hK.at bA (B32 (bdig a)) 22 (.tail _ (.tail _ (.tail _ (.tail _ (.tail _ (.head _))))))) Tryd.underlying22 (by rfl) (B32_info _) ?_)
  refine (F.mulA hn.out Ha.out rfl Hy.out _ (F.keep _ _ hT hK.2)).mono ?_
  rintro e V15 ⟨rfl, bw⟩
  have hK := hK.below bw
  clear bw
  go_upto_region 13 with (refine wpList_store_own (op := { dst := none, op := _, type := _, pos := _, after := _, guard := _ }) rfl 22 (.tmp 9) (.tmp 82) rfl b6 0 (B32 (bdig y)) (by rfl) (by rfl) (hK.at b6 (B32 (bdig o)) 22 (.tail _ (.head _))) (B32_le _ _) (B32_info _) (B32_one _) (by rfl) ?_)
  have hK : Kp [(b6, B32 (bdig o), 22), (b9, B32 (bdig o), 22), (b2, PA r, 27), (bN, B32 (bdig n), 22), (bB, B32 (bdig b), 22), (bA, B32 (bdig a), 22)] w V15 := ((((((hK.none.cons (hK.at bA (B32 (bdig a)) 22 (.tail _ (.tail _ (.tail _ (.tail _ (.tail _ (.head _)))))))).cons (hK.at bB (B32 (bdig b)) 22 (.tail _ (.tail _ (.tail _ (.tail _ (.head _))))))).cons (hK.at bN (B32 (bdig n)) 22 (.tail _ (.tail _ (.tail _ (.head _)))))).cons (hK.at b2 (PA r) 27 (.tail _ (.tail _ (.head _))))).cons (hK.at b9 (B32 (bdig o)) 22 (.head _))).cons (hK.at b6 (B32 (bdig o)) 22 (.tail _ (.head _))))
  have hK := Kp.set (A' := B32 (bdig y)) hK (by simp only [List.forall_mem_cons, List.not_mem_nil, false_implies, implies_true, and_true]; exact ⟨(Ne.symm ne_b6_b9.out), ne_b2_b6.out, ne_bN_b6.out, ne_bB_b6.out, ne_bA_b6.out⟩) le_b6.out (B32_sizes _ _)
  generalize V15.setCells b6 0 (B32 (bdig y)).toList = V16 at *
  go_wp2_with (first
    | refine wpList_load_own (by rfl) 22 (.tmp 5) (by rfl) bN (by rfl) (B32 (bdig n)) _ (hK.at bN (B32 (bdig n)) 22 (.tail _ (.tail _ (.tail _ (.head _))))) Tryd.underlying22 (by rfl) (B32_info _) ?_
    | refine wpList_load_own (by rfl) 22 (.tmp 3) (by rfl) bA (by rfl) (B32 (bdig a)) _ (hK.at bA (B32 (bdig a)) 22 (.tail _ (.tail _ (.tail _ (.tail _ (.tail _ (.head _))))))) Tryd.underlying22 (by rfl) (B32_info _) ?_)
  refine (ptimes_at hn.out Ha.out Hy.out _).mono ?_
  rintro e V17 ⟨rfl, bw⟩
  have hK := hK.below bw
  clear bw
  go_upto_region 14 with (refine wpList_store_own (op := { dst := none, op := _, type := _, pos := _, after := _, guard := _ }) rfl 22 (.tmp 11) (.tmp 88) rfl b9 0 (B32 (bdig y)) (by rfl) (by rfl) (hK.at b9 (B32 (bdig o)) 22 (.tail _ (.head _))) (B32_le _ _) (B32_info _) (B32_one _) (by rfl) ?_)
  have hK : Kp [(b9, B32 (bdig o), 22), (b6, B32 (bdig y), 22), (b2, PA r, 27), (bN, B32 (bdig n), 22), (bB, B32 (bdig b), 22), (bA, B32 (bdig a), 22)] w V17 := ((((((hK.none.cons (hK.at bA (B32 (bdig a)) 22 (.tail _ (.tail _ (.tail _ (.tail _ (.tail _ (.head _)))))))).cons (hK.at bB (B32 (bdig b)) 22 (.tail _ (.tail _ (.tail _ (.tail _ (.head _))))))).cons (hK.at bN (B32 (bdig n)) 22 (.tail _ (.tail _ (.tail _ (.head _)))))).cons (hK.at b2 (PA r) 27 (.tail _ (.tail _ (.head _))))).cons (hK.at b6 (B32 (bdig y)) 22 (.head _))).cons (hK.at b9 (B32 (bdig o)) 22 (.tail _ (.head _))))
  have hK := Kp.set (A' := B32 (bdig y)) hK (by simp only [List.forall_mem_cons, List.not_mem_nil, false_implies, implies_true, and_true]; exact ⟨ne_b6_b9.out, ne_b2_b9.out, ne_bN_b9.out, ne_bB_b9.out, ne_bA_b9.out⟩) le_b9.out (B32_sizes _ _)
  generalize V17.setCells b9 0 (B32 (bdig y)).toList = V18 at *
  go_wp2_with (first
    | refine wpList_load_gd (by rfl) 22 (.tmp 9) (by rfl) b6 (by rfl) (B32 (bdig y)) _ (hK.at b6 (B32 (bdig y)) 22 (.tail _ (.head _))) Tryd.underlying22 (by rfl) (B32_info _) ?_
    | refine wpList_load_gd (by rfl) 22 (.tmp 11) (by rfl) b9 (by rfl) (B32 (bdig y)) _ (hK.at b9 (B32 (bdig y)) 22 (.head _)) Tryd.underlying22 (by rfl) (B32_info _) ?_)
  refine (cwakes_any F _ (F.keep _ _ hT hK.2)).mono ?_
  rintro e wz ⟨rfl, bz⟩
  have hK := hK.below bz
  go_wp2
  go_ret
  exact ⟨rfl, hK.2⟩
set_option maxRecDepth 100000 in
set_option maxHeartbeats 2500000 in
theorem cexact_pn {T : World → Prop} (F : Crv T) (a b n : Nat) (ha : Hid (a < R256)) (hb : Hid (b < R256)) (hn : Hid (n < R256)) (PP : Pt E5) (Ha : Hid (enc PP = a)) (Nab : Hid ((∀ P : Pt E5, enc P ≠ a) ∨ ∀ P : Pt E5, enc P ≠ b)) (w : World) (hT : T w) : Calls Tryd.prog 3 #[.agg (B32 (bdig a)), .agg (B32 (bdig b)), .agg (B32 (bdig n))] w fun x w' => x = .returned (.bool true) ∧ Below w.heap.size w w' := by
  have hz := (zero_of_info zeroB32).1
  have hzP := (zero_of_info zeroPA).1
  have same_0 := B32_same_nought
  obtain ⟨r, Hd⟩ : ∃ r, Hid (∀ w : World, Calls Tryd.prog 9 #[.agg (B32 (bdig a))] w fun e w' => e = .returned (.tuple #[.agg (PA r), .bool true]) ∧ Below w.heap.size w w') := by
    obtain ⟨r, -, -, h⟩ := page_dec PP
    exact ⟨r, by rw [← Ha.out]; exact h⟩
  obtain ⟨o, Ho⟩ : ∃ x, Hid (enc PP.neg = x) := ⟨_, rfl⟩
  obtain ⟨y, Hy⟩ : ∃ x, Hid (enc (Pt.times n PP) = x) := ⟨_, rfl⟩
  have same_o := B32_same o (by rw [← Ho.out]; exact enc_R _)
  have same_y := B32_same y (by rw [← Hy.out]; exact enc_R _)
  go_enter Tryd.func3, Tryd.ntmps3
  go_upto_region 1 with fail
  have hK := (((Kp.nil w).alloc (B32 (bdig a)) 22).alloc (B32 (bdig b)) 22).alloc (B32 (bdig n)) 22
  rw [World.size_alloc, World.size_alloc] at hK
  generalize ((w.alloc (.cells (B32 (bdig a)) 22)).alloc (.cells (B32 (bdig b)) 22)).alloc (.cells (B32 (bdig n)) 22) = W at *
  obtain ⟨bA, HbA⟩ : ∃ b, Hid (w.heap.size = b) := ⟨_, rfl⟩
  obtain ⟨bB, HbB⟩ : ∃ b, Hid (bA + 1 = b) := ⟨_, rfl⟩
  obtain ⟨bN, HbN⟩ : ∃ b, Hid (bB + 1 = b) := ⟨_, rfl⟩
  have le_bA : Hid (w.heap.size ≤ bA) := by show _ ≤ _; have := HbA.out; omega
  have le_bB : Hid (w.heap.size ≤ bB) := by show _ ≤ _; have := HbA.out; have := HbB.out; omega
  have le_bN : Hid (w.heap.size ≤ bN) := by show _ ≤ _; have := HbA.out; have := HbB.out; have := HbN.out; omega
  have ne_bA_bB : Hid (bA ≠ bB) := by show _ ≠ _; have := HbB.out; omega
  have ne_bA_bN : Hid (bA ≠ bN) := by show _ ≠ _; have := HbB.out; have := HbN.out; omega
  have ne_bB_bN : Hid (bB ≠ bN) := by show _ ≠ _; have := HbN.out; omega
  rw [HbA.out, HbB.out, HbN.out] at hK ⊢
  go_wp2_with (refine wpList_load_own (by rfl) 22 (.tmp 3) (by rfl) bA (by rfl) (B32 (bdig a)) _ (hK.at bA (B32 (bdig a)) 22 (.tail _ (.tail _ (.head _)))) Tryd.underlying22 (by rfl) (B32_info _) ?_)
  refine (Hd.out _).mono ?_
  rintro e V1 ⟨rfl, bw⟩
  have hK := hK.below bw
  clear bw
  go_upto_region 2 with (refine wpList_store_new (by rfl) 27 (.tmp 7) (.tmp 16) (by rfl) _ (PA r) (by rfl) (by rfl) (PA_info _) (PA_sizes _ _) (PA_one _) (by rfl) ?_)
  have lt_bN := (hK.at bN (B32 (bdig n)) 22 (.head _)).lt
  have lt_bB := (hK.at bB (B32 (bdig b)) 22 (.tail _ (.head _))).lt
  have lt_bA := (hK.at bA (B32 (bdig a)) 22 (.tail _ (.tail _ (.head _)))).lt
  have le_b2 := show Hid _ from hK.2.size
  have hK := hK.alloc (PA r) 27
  generalize V1.alloc (.cells (PA r) 27) = V3 at *
  obtain ⟨b2, Hb2⟩ : ∃ b, Hid (V1.heap.size = b) := ⟨_, rfl⟩
  have ne_bN_b2 : Hid (bN ≠ b2) := by show _ ≠ _; rw [← Hb2.out]; exact Nat.ne_of_lt lt_bN
  have ne_bB_b2 : Hid (bB ≠ b2) := by show _ ≠ _; rw [← Hb2.out]; exact Nat.ne_of_lt lt_bB
  have ne_bA_b2 : Hid (bA ≠ b2) := by show _ ≠ _; rw [← Hb2.out]; exact Nat.ne_of_lt lt_bA
  have le_b2 : Hid (w.heap.size ≤ b2) := by show _ ≤ _; rw [← Hb2.out]; exact le_b2.out
  rw [Hb2.out] at hK ⊢
  clear lt_bN lt_bB lt_bA
  go_wp2_with (refine wpList_load_own (by rfl) 22 (.tmp 3) (by rfl) bA (by rfl) (B32 (bdig a)) _ (hK.at bA (B32 (bdig a)) 22 (.tail _ (.tail _ (.tail _ (.head _))))) Tryd.underlying22 (by rfl) (B32_info _) ?_)
  refine (F.checkA Ha.out _ (F.keep _ _ hT hK.2)).mono ?_
  rintro e V4 ⟨rfl, bw⟩
  have hK := hK.below bw
  clear bw
  go_upto_region 4 with fail
  go_wp2_with (first
    | refine wpList_load_own (by rfl) 22 (.tmp 3) (by rfl) bA (by rfl) (B32 (bdig a)) _ (hK.at bA (B32 (bdig a)) 22 (.tail _ (.tail _ (.tail _ (.head _))))) Tryd.underlying22 (by rfl) (B32_info _) ?_
    | refine wpList_load_own (by rfl) 22 (.tmp 4) (by rfl) bB (by rfl) (B32 (bdig b)) _ (hK.at bB (B32 (bdig b)) 22 (.tail _ (.tail _ (.head _)))) Tryd.underlying22 (by rfl) (B32_info _) ?_)
  refine (F.add_not a b ha.out hb.out Nab.out _ (F.keep _ _ hT hK.2)).mono ?_
  rintro e V5 ⟨rfl, bw⟩
  have hK := hK.below bw
  clear bw
  go_upto_region 5 with (refine wpList_store_new (by rfl) 22 (.tmp 9) (.tmp 26) (by rfl) _ (B32 fun _ => 0) (by rfl) (by rfl) (B32_info _) (B32_sizes _ _) (B32_one _) (by rfl) ?_)
  have lt_b2 := (hK.at b2 (PA r) 27 (.head _)).lt
  have lt_bN := (hK.at bN (B32 (bdig n)) 22 (.tail _ (.head _))).lt
  have lt_bB := (hK.at bB (B32 (bdig b)) 22 (.tail _ (.tail _ (.head _)))).lt
  have lt_bA := (hK.at bA (B32 (bdig a)) 22 (.tail _ (.tail _ (.tail _ (.head _))))).lt
  have le_b6 := show Hid _ from hK.2.size
  have hK := hK.alloc (B32 fun _ => 0) 22
  generalize V5.alloc (.cells (B32 fun _ => 0) 22) = V7 at *
  obtain ⟨b6, Hb6⟩ : ∃ b, Hid (V5.heap.size = b) := ⟨_, rfl⟩
  have ne_b2_b6 : Hid (b2 ≠ b6) := by show _ ≠ _; rw [← Hb6.out]; exact Nat.ne_of_lt lt_b2
  have ne_bN_b6 : Hid (bN ≠ b6) := by show _ ≠ _; rw [← Hb6.out]; exact Nat.ne_of_lt lt_bN
  have ne_bB_b6 : Hid (bB ≠ b6) := by show _ ≠ _; rw [← Hb6.out]; exact Nat.ne_of_lt lt_bB
  have ne_bA_b6 : Hid (bA ≠ b6) := by show _ ≠ _; rw [← Hb6.out]; exact Nat.ne_of_lt lt_bA
  have le_b6 : Hid (w.heap.size ≤ b6) := by show _ ≤ _; rw [← Hb6.out]; exact le_b6.out
  rw [Hb6.out] at hK ⊢
  clear lt_b2 lt_bN lt_bB lt_bA
  go_wp2_with (first
    | refine wpList_load_own (by rfl) 22 (.tmp 3) (by rfl) bA (by rfl) (B32 (bdig a)) _ (hK.at bA (B32 (bdig a)) 22 (.tail _ (.tail _ (.tail _ (.tail _ (.head _)))))) Tryd.underlying22 (by rfl) (B32_info _) ?_
    | refine wpList_load_own (by rfl) 22 (.tmp 4) (by rfl) bB (by rfl) (B32 (bdig b)) _ (hK.at bB (B32 (bdig b)) 22 (.tail _ (.tail _ (.tail _ (.head _))))) Tryd.underlying22 (by rfl) (B32_info _) ?_)
  refine (psum_not ha.out hb.out Nab.out _).mono ?_
  rintro e V8 ⟨rfl, bw⟩
  have hK := hK.below bw
  clear bw
  go_upto_region 6 with (refine wpList_store_new (by rfl) 22 (.tmp 11) (.tmp 32) (by rfl) _ (B32 fun _ => 0) (by rfl) (by rfl) (B32_info _) (B32_sizes _ _) (B32_one _) (by rfl) ?_)
  have lt_b6 := (hK.at b6 (B32 fun _ => 0) 22 (.head _)).lt
  have lt_b2 := (hK.at b2 (PA r) 27 (.tail _ (.head _))).lt
  have lt_bN := (hK.at bN (B32 (bdig n)) 22 (.tail _ (.tail _ (.head _)))).lt
  have lt_bB := (hK.at bB (B32 (bdig b)) 22 (.tail _ (.tail _ (.tail _ (.head _))))).lt
  have lt_bA := (hK.at bA (B32 (bdig a)) 22 (.tail _ (.tail _ (.tail _ (.tail _ (.head _)))))).lt
  have le_b9 := show Hid _ from hK.2.size
  have hK := hK.alloc (B32 fun _ => 0) 22
  generalize V8.alloc (.cells (B32 fun _ => 0) 22) = V10 at *
  obtain ⟨b9, Hb9⟩ : ∃ b, Hid (V8.heap.size = b) := ⟨_, rfl⟩
  have ne_b6_b9 : Hid (b6 ≠ b9) := by show _ ≠ _; rw [← Hb9.out]; exact Nat.ne_of_lt lt_b6
  have ne_b2_b9 : Hid (b2 ≠ b9) := by show _ ≠ _; rw [← Hb9.out]; exact Nat.ne_of_lt lt_b2
  have ne_bN_b9 : Hid (bN ≠ b9) := by show _ ≠ _; rw [← Hb9.out]; exact Nat.ne_of_lt lt_bN
  have ne_bB_b9 : Hid (bB ≠ b9) := by show _ ≠ _; rw [← Hb9.out]; exact Nat.ne_of_lt lt_bB
  have ne_bA_b9 : Hid (bA ≠ b9) := by show _ ≠ _; rw [← Hb9.out]; exact Nat.ne_of_lt lt_bA
  have le_b9 : Hid (w.heap.size ≤ b9) := by show _ ≤ _; rw [← Hb9.out]; exact le_b9.out
  rw [Hb9.out] at hK ⊢
  clear lt_b6 lt_b2 lt_bN lt_bB lt_bA
  go_upto_region 8 with (first
    | refine wpList_load_gd (by rfl) 22 (.tmp 9) (by rfl) b6 (by rfl) (B32 fun _ => 0) _ (hK.at b6 (B32 fun _ => 0) 22 (.tail _ (.head _))) Tryd.underlying22 (by rfl) (B32_info _) ?_
    | refine wpList_load_gd (by rfl) 22 (.tmp 11) (by rfl) b9 (by rfl) (B32 fun _ => 0) _ (hK.at b9 (B32 fun _ => 0) 22 (.head _)) Tryd.underlying22 (by rfl) (B32_info _) ?_)
  go_wp2_with (refine wpList_load_own (by rfl) 22 (.tmp 3) (by rfl) bA (by rfl) (B32 (bdig a)) _ (hK.at bA (B32 (bdig a)) 22 (.tail _ (.tail _ (.tail _ (.tail _ (.tail _ (.head _))))))) Tryd.underlying22 (by rfl) (B32_info _) ?_)
  refine (F.negA Ha.out rfl Ho.out _ (F.keep _ _ hT hK.2)).mono ?_
  rintro e V11 ⟨rfl, bw⟩
  have hK := hK.below bw
  clear bw
  go_upto_region 9 with (refine wpList_store_own (op := { dst := none, op := _, type := _, pos := _, after := _, guard := _ }) rfl 22 (.tmp 9) (.tmp 54) rfl b6 0 (B32 (bdig o)) (by rfl) (by rfl) (hK.at b6 (B32 fun _ => 0) 22 (.tail _ (.head _))) (B32_le _ _) (B32_info _) (B32_one _) (by rfl) ?_)
  have hK : Kp [(b6, B32 fun _ => 0, 22), (b9, B32 fun _ => 0, 22), (b2, PA r, 27), (bN, B32 (bdig n), 22), (bB, B32 (bdig b), 22), (bA, B32 (bdig a), 22)] w V11 := ((((((hK.none.cons (hK.at bA (B32 (bdig a)) 22 (.tail _ (.tail _ (.tail _ (.tail _ (.tail _ (.head _)))))))).cons (hK.at bB (B32 (bdig b)) 22 (.tail _ (.tail _ (.tail _ (.tail _ (.head _))))))).cons (hK.at bN (B32 (bdig n)) 22 (.tail _ (.tail _ (.tail _ (.head _)))))).cons (hK.at b2 (PA r) 27 (.tail _ (.tail _ (.head _))))).cons (hK.at b9 (B32 fun _ => 0) 22 (.head _))).cons (hK.at b6 (B32 fun _ => 0) 22 (.tail _ (.head _))))
  have hK := Kp.set (A' := B32 (bdig o)) hK (by simp only [List.forall_mem_cons, List.not_mem_nil, false_implies, implies_true, and_true]; exact ⟨(Ne.symm ne_b6_b9.out), ne_b2_b6.out, ne_bN_b6.out, ne_bB_b6.out, ne_bA_b6.out⟩) le_b6.out (B32_sizes _ _)
  generalize V11.setCells b6 0 (B32 (bdig o)).toList = V12 at *
  go_wp2_with (refine wpList_load_own (by rfl) 22 (.tmp 3) (by rfl) bA (by rfl) (B32 (bdig a)) _ (hK.at bA (B32 (bdig a)) 22 (.tail _ (.tail _ (.tail _ (.tail _ (.tail _ (.head _))))))) Tryd.underlying22 (by rfl) (B32_info _) ?_)
  refine (pneg_at Ha.out Ho.out _).mono ?_
  rintro e V13 ⟨rfl, bw⟩
  have hK := hK.below bw
  clear bw
  go_upto_region 10 with (refine wpList_store_own (op := { dst := none, op := _, type := _, pos := _, after := _, guard := _ }) rfl 22 (.tmp 11) (.tmp 59) rfl b9 0 (B32 (bdig o)) (by rfl) (by rfl) (hK.at b9 (B32 fun _ => 0) 22 (.tail _ (.head _))) (B32_le _ _) (B32_info _) (B32_one _) (by rfl) ?_)
  have hK : Kp [(b9, B32 fun _ => 0, 22), (b6, B32 (bdig o), 22), (b2, PA r, 27), (bN, B32 (bdig n), 22), (bB, B32 (bdig b), 22), (bA, B32 (bdig a), 22)] w V13 := ((((((hK.none.cons (hK.at bA (B32 (bdig a)) 22 (.tail _ (.tail _ (.tail _ (.tail _ (.tail _ (.head _)))))))).cons (hK.at bB (B32 (bdig b)) 22 (.tail _ (.tail _ (.tail _ (.tail _ (.head _))))))).cons (hK.at bN (B32 (bdig n)) 22 (.tail _ (.tail _ (.tail _ (.head _)))))).cons (hK.at b2 (PA r) 27 (.tail _ (.tail _ (.head _))))).cons (hK.at b6 (B32 (bdig o)) 22 (.head _))).cons (hK.at b9 (B32 fun _ => 0) 22 (.tail _ (.head _))))
  have hK := Kp.set (A' := B32 (bdig o)) hK (by simp only [List.forall_mem_cons, List.not_mem_nil, false_implies, implies_true, and_true]; exact ⟨ne_b6_b9.out, ne_b2_b9.out, ne_bN_b9.out, ne_bB_b9.out, ne_bA_b9.out⟩) le_b9.out (B32_sizes _ _)
  generalize V13.setCells b9 0 (B32 (bdig o)).toList = V14 at *
  go_upto_region 12 with (first
    | refine wpList_load_gd (by rfl) 22 (.tmp 9) (by rfl) b6 (by rfl) (B32 (bdig o)) _ (hK.at b6 (B32 (bdig o)) 22 (.tail _ (.head _))) Tryd.underlying22 (by rfl) (B32_info _) ?_
    | refine wpList_load_gd (by rfl) 22 (.tmp 11) (by rfl) b9 (by rfl) (B32 (bdig o)) _ (hK.at b9 (B32 (bdig o)) 22 (.head _)) Tryd.underlying22 (by rfl) (B32_info _) ?_)
  go_wp2_with (first
    | refine wpList_load_own (by rfl) 22 (.tmp 5) (by rfl) bN (by rfl) (B32 (bdig n)) _ (hK.at bN (B32 (bdig n)) 22 (.tail _ (.tail _ (.tail _ (.head _))))) Tryd.underlying22 (by rfl) (B32_info _) ?_
    | refine wpList_load_own (by rfl) 22 (.tmp 3) (by rfl) bA (by rfl) (B32 (bdig a)) _ (hK.at bA (B32 (bdig a)) 22 (.tail _ (.tail _ (.tail _ (.tail _ (.tail _ (.head _))))))) Tryd.underlying22 (by rfl) (B32_info _) ?_)
  refine (F.mulA hn.out Ha.out rfl Hy.out _ (F.keep _ _ hT hK.2)).mono ?_
  rintro e V15 ⟨rfl, bw⟩
  have hK := hK.below bw
  clear bw
  go_upto_region 13 with (refine wpList_store_own (op := { dst := none, op := _, type := _, pos := _, after := _, guard := _ }) rfl 22 (.tmp 9) (.tmp 82) rfl b6 0 (B32 (bdig y)) (by rfl) (by rfl) (hK.at b6 (B32 (bdig o)) 22 (.tail _ (.head _))) (B32_le _ _) (B32_info _) (B32_one _) (by rfl) ?_)
  have hK : Kp [(b6, B32 (bdig o), 22), (b9, B32 (bdig o), 22), (b2, PA r, 27), (bN, B32 (bdig n), 22), (bB, B32 (bdig b), 22), (bA, B32 (bdig a), 22)] w V15 := ((((((hK.none.cons (hK.at bA (B32 (bdig a)) 22 (.tail _ (.tail _ (.tail _ (.tail _ (.tail _ (.head _)))))))).cons (hK.at bB (B32 (bdig b)) 22 (.tail _ (.tail _ (.tail _ (.tail _ (.head _))))))).cons (hK.at bN (B32 (bdig n)) 22 (.tail _ (.tail _ (.tail _ (.head _)))))).cons (hK.at b2 (PA r) 27 (.tail _ (.tail _ (.head _))))).cons (hK.at b9 (B32 (bdig o)) 22 (.head _))).cons (hK.at b6 (B32 (bdig o)) 22 (.tail _ (.head _))))
  have hK := Kp.set (A' := B32 (bdig y)) hK (by simp only [List.forall_mem_cons, List.not_mem_nil, false_implies, implies_true, and_true]; exact ⟨(Ne.symm ne_b6_b9.out), ne_b2_b6.out, ne_bN_b6.out, ne_bB_b6.out, ne_bA_b6.out⟩) le_b6.out (B32_sizes _ _)
  generalize V15.setCells b6 0 (B32 (bdig y)).toList = V16 at *
  go_wp2_with (first
    | refine wpList_load_own (by rfl) 22 (.tmp 5) (by rfl) bN (by rfl) (B32 (bdig n)) _ (hK.at bN (B32 (bdig n)) 22 (.tail _ (.tail _ (.tail _ (.head _))))) Tryd.underlying22 (by rfl) (B32_info _) ?_
    | refine wpList_load_own (by rfl) 22 (.tmp 3) (by rfl) bA (by rfl) (B32 (bdig a)) _ (hK.at bA (B32 (bdig a)) 22 (.tail _ (.tail _ (.tail _ (.tail _ (.tail _ (.head _))))))) Tryd.underlying22 (by rfl) (B32_info _) ?_)
  refine (ptimes_at hn.out Ha.out Hy.out _).mono ?_
  rintro e V17 ⟨rfl, bw⟩
  have hK := hK.below bw
  clear bw
  go_upto_region 14 with (refine wpList_store_own (op := { dst := none, op := _, type := _, pos := _, after := _, guard := _ }) rfl 22 (.tmp 11) (.tmp 88) rfl b9 0 (B32 (bdig y)) (by rfl) (by rfl) (hK.at b9 (B32 (bdig o)) 22 (.tail _ (.head _))) (B32_le _ _) (B32_info _) (B32_one _) (by rfl) ?_)
  have hK : Kp [(b9, B32 (bdig o), 22), (b6, B32 (bdig y), 22), (b2, PA r, 27), (bN, B32 (bdig n), 22), (bB, B32 (bdig b), 22), (bA, B32 (bdig a), 22)] w V17 := ((((((hK.none.cons (hK.at bA (B32 (bdig a)) 22 (.tail _ (.tail _ (.tail _ (.tail _ (.tail _ (.head _)))))))).cons (hK.at bB (B32 (bdig b)) 22 (.tail _ (.tail _ (.tail _ (.tail _ (.head _))))))).cons (hK.at bN (B32 (bdig n)) 22 (.tail _ (.tail _ (.tail _ (.head _)))))).cons (hK.at b2 (PA r) 27 (.tail _ (.tail _ (.head _))))).cons (hK.at b6 (B32 (bdig y)) 22 (.head _))).cons (hK.at b9 (B32 (bdig o)) 22 (.tail _ (.head _))))
  have hK := Kp.set (A' := B32 (bdig y)) hK (by simp only [List.forall_mem_cons, List.not_mem_nil, false_implies, implies_true, and_true]; exact ⟨ne_b6_b9.out, ne_b2_b9.out, ne_bN_b9.out, ne_bB_b9.out, ne_bA_b9.out⟩) le_b9.out (B32_sizes _ _)
  generalize V17.setCells b9 0 (B32 (bdig y)).toList = V18 at *
  go_wp2_with (first
    | refine wpList_load_gd (by rfl) 22 (.tmp 9) (by rfl) b6 (by rfl) (B32 (bdig y)) _ (hK.at b6 (B32 (bdig y)) 22 (.tail _ (.head _))) Tryd.underlying22 (by rfl) (B32_info _) ?_
    | refine wpList_load_gd (by rfl) 22 (.tmp 11) (by rfl) b9 (by rfl) (B32 (bdig y)) _ (hK.at b9 (B32 (bdig y)) 22 (.head _)) Tryd.underlying22 (by rfl) (B32_info _) ?_)
  refine (cwakes_any F _ (F.keep _ _ hT hK.2)).mono ?_
  rintro e wz ⟨rfl, bz⟩
  have hK := hK.below bz
  go_wp2
  go_ret
  exact ⟨rfl, hK.2⟩
set_option maxRecDepth 100000 in
set_option maxHeartbeats 2500000 in
theorem cexact_nn {T : World → Prop} (F : Crv T) (a b n : Nat) (ha : Hid (a < R256)) (hb : Hid (b < R256)) (hn : Hid (n < R256)) (Na : Hid (∀ P : Pt E5, enc P ≠ a)) (Nab : Hid ((∀ P : Pt E5, enc P ≠ a) ∨ ∀ P : Pt E5, enc P ≠ b)) (w : World) (hT : T w) : Calls Tryd.prog 3 #[.agg (B32 (bdig a)), .agg (B32 (bdig b)), .agg (B32 (bdig n))] w fun x w' => x = .returned (.bool true) ∧ Below w.heap.size w w' := by
  have hz := (zero_of_info zeroB32).1
  have hzP := (zero_of_info zeroPA).1
  have same_0 := B32_same_nought
  go_enter Tryd.func3, Tryd.ntmps3
  go_upto_region 1 with fail
  have hK := (((Kp.nil w).alloc (B32 (bdig a)) 22).alloc (B32 (bdig b)) 22).alloc (B32 (bdig n)) 22
  rw [World.size_alloc, World.size_alloc] at hK
  generalize ((w.alloc (.cells (B32 (bdig a)) 22)).alloc (.cells (B32 (bdig b)) 22)).alloc (.cells (B32 (bdig n)) 22) = W at *
  obtain ⟨bA, HbA⟩ : ∃ b, Hid (w.heap.size = b) := ⟨_, rfl⟩
  obtain ⟨bB, HbB⟩ : ∃ b, Hid (bA + 1 = b) := ⟨_, rfl⟩
  obtain ⟨bN, HbN⟩ : ∃ b, Hid (bB + 1 = b) := ⟨_, rfl⟩
  have le_bA : Hid (w.heap.size ≤ bA) := by show _ ≤ _; have := HbA.out; omega
  have le_bB : Hid (w.heap.size ≤ bB) := by show _ ≤ _; have := HbA.out; have := HbB.out; omega
  have le_bN : Hid (w.heap.size ≤ bN) := by show _ ≤ _; have := HbA.out; have := HbB.out; have := HbN.out; omega
  have ne_bA_bB : Hid (bA ≠ bB) := by show _ ≠ _; have := HbB.out; omega
  have ne_bA_bN : Hid (bA ≠ bN) := by show _ ≠ _; have := HbB.out; have := HbN.out; omega
  have ne_bB_bN : Hid (bB ≠ bN) := by show _ ≠ _; have := HbN.out; omega
  rw [HbA.out, HbB.out, HbN.out] at hK ⊢
  go_wp2_with (refine wpList_load_own (by rfl) 22 (.tmp 3) (by rfl) bA (by rfl) (B32 (bdig a)) _ (hK.at bA (B32 (bdig a)) 22 (.tail _ (.tail _ (.head _)))) Tryd.underlying22 (by rfl) (B32_info _) ?_)
  refine (page_dec_not ha.out Na.out _).mono ?_
  rintro e V1 ⟨rfl, bw⟩
  have hK := hK.below bw
  clear bw
  go_upto_region 2 with (refine wpList_store_new (by rfl) 27 (.tmp 7) (.tmp 16) (by rfl) _ (PA ⟨0, 0, 0, 0⟩) (by rfl) (by rfl) (PA_info _) (PA_sizes _ _) (PA_one _) (by rfl) ?_)
  have lt_bN := (hK.at bN (B32 (bdig n)) 22 (.head _)).lt
  have lt_bB := (hK.at bB (B32 (bdig b)) 22 (.tail _ (.head _))).lt
  have lt_bA := (hK.at bA (B32 (bdig a)) 22 (.tail _ (.tail _ (.head _)))).lt
  have le_b2 := show Hid _ from hK.2.size
  have hK := hK.alloc (PA ⟨0, 0, 0, 0⟩) 27
  generalize V1.alloc (.cells (PA ⟨0, 0, 0, 0⟩) 27) = V3 at *
  obtain ⟨b2, Hb2⟩ : ∃ b, Hid (V1.heap.size = b) := ⟨_, rfl⟩
  have ne_bN_b2 : Hid (bN ≠ b2) := by show _ ≠ _; rw [← Hb2.out]; exact Nat.ne_of_lt lt_bN
  have ne_bB_b2 : Hid (bB ≠ b2) := by show _ ≠ _; rw [← Hb2.out]; exact Nat.ne_of_lt lt_bB
  have ne_bA_b2 : Hid (bA ≠ b2) := by show _ ≠ _; rw [← Hb2.out]; exact Nat.ne_of_lt lt_bA
  have le_b2 : Hid (w.heap.size ≤ b2) := by show _ ≤ _; rw [← Hb2.out]; exact le_b2.out
  rw [Hb2.out] at hK ⊢
  clear lt_bN lt_bB lt_bA
  go_wp2_with (refine wpList_load_own (by rfl) 22 (.tmp 3) (by rfl) bA (by rfl) (B32 (bdig a)) _ (hK.at bA (B32 (bdig a)) 22 (.tail _ (.tail _ (.tail _ (.head _))))) Tryd.underlying22 (by rfl) (B32_info _) ?_)
  refine (F.check_not a ha.out Na.out _ (F.keep _ _ hT hK.2)).mono ?_
  rintro e V4 ⟨rfl, bw⟩
  have hK := hK.below bw
  clear bw
  go_upto_region 4 with fail
  go_wp2_with (first
    | refine wpList_load_own (by rfl) 22 (.tmp 3) (by rfl) bA (by rfl) (B32 (bdig a)) _ (hK.at bA (B32 (bdig a)) 22 (.tail _ (.tail _ (.tail _ (.head _))))) Tryd.underlying22 (by rfl) (B32_info _) ?_
    | refine wpList_load_own (by rfl) 22 (.tmp 4) (by rfl) bB (by rfl) (B32 (bdig b)) _ (hK.at bB (B32 (bdig b)) 22 (.tail _ (.tail _ (.head _)))) Tryd.underlying22 (by rfl) (B32_info _) ?_)
  refine (F.add_not a b ha.out hb.out Nab.out _ (F.keep _ _ hT hK.2)).mono ?_
  rintro e V5 ⟨rfl, bw⟩
  have hK := hK.below bw
  clear bw
  go_upto_region 5 with (refine wpList_store_new (by rfl) 22 (.tmp 9) (.tmp 26) (by rfl) _ (B32 fun _ => 0) (by rfl) (by rfl) (B32_info _) (B32_sizes _ _) (B32_one _) (by rfl) ?_)
  have lt_b2 := (hK.at b2 (PA ⟨0, 0, 0, 0⟩) 27 (.head _)).lt
  have lt_bN := (hK.at bN (B32 (bdig n)) 22 (.tail _ (.head _))).lt
  have lt_bB := (hK.at bB (B32 (bdig b)) 22 (.tail _ (.tail _ (.head _)))).lt
  have lt_bA := (hK.at bA (B32 (bdig a)) 22 (.tail _ (.tail _ (.tail _ (.head _))))).lt
  have le_b6 := show Hid _ from hK.2.size
  have hK := hK.alloc (B32 fun _ => 0) 22
  generalize V5.alloc (.cells (B32 fun _ => 0) 22) = V7 at *
  obtain ⟨b6, Hb6⟩ : ∃ b, Hid (V5.heap.size = b) := ⟨_, rfl⟩
  have ne_b2_b6 : Hid (b2 ≠ b6) := by show _ ≠ _; rw [← Hb6.out]; exact Nat.ne_of_lt lt_b2
  have ne_bN_b6 : Hid (bN ≠ b6) := by show _ ≠ _; rw [← Hb6.out]; exact Nat.ne_of_lt lt_bN
  have ne_bB_b6 : Hid (bB ≠ b6) := by show _ ≠ _; rw [← Hb6.out]; exact Nat.ne_of_lt lt_bB
  have ne_bA_b6 : Hid (bA ≠ b6) := by show _ ≠ _; rw [← Hb6.out]; exact Nat.ne_of_lt lt_bA
  have le_b6 : Hid (w.heap.size ≤ b6) := by show _ ≤ _; rw [← Hb6.out]; exact le_b6.out
  rw [Hb6.out] at hK ⊢
  clear lt_b2 lt_bN lt_bB lt_bA
  go_wp2_with (first
    | refine wpList_load_own (by rfl) 22 (.tmp 3) (by rfl) bA (by rfl) (B32 (bdig a)) _ (hK.at bA (B32 (bdig a)) 22 (.tail _ (.tail _ (.tail _ (.tail _ (.head _)))))) Tryd.underlying22 (by rfl) (B32_info _) ?_
    | refine wpList_load_own (by rfl) 22 (.tmp 4) (by rfl) bB (by rfl) (B32 (bdig b)) _ (hK.at bB (B32 (bdig b)) 22 (.tail _ (.tail _ (.tail _ (.head _))))) Tryd.underlying22 (by rfl) (B32_info _) ?_)
  refine (psum_not ha.out hb.out Nab.out _).mono ?_
  rintro e V8 ⟨rfl, bw⟩
  have hK := hK.below bw
  clear bw
  go_upto_region 6 with (refine wpList_store_new (by rfl) 22 (.tmp 11) (.tmp 32) (by rfl) _ (B32 fun _ => 0) (by rfl) (by rfl) (B32_info _) (B32_sizes _ _) (B32_one _) (by rfl) ?_)
  have lt_b6 := (hK.at b6 (B32 fun _ => 0) 22 (.head _)).lt
  have lt_b2 := (hK.at b2 (PA ⟨0, 0, 0, 0⟩) 27 (.tail _ (.head _))).lt
  have lt_bN := (hK.at bN (B32 (bdig n)) 22 (.tail _ (.tail _ (.head _)))).lt
  have lt_bB := (hK.at bB (B32 (bdig b)) 22 (.tail _ (.tail _ (.tail _ (.head _))))).lt
  have lt_bA := (hK.at bA (B32 (bdig a)) 22 (.tail _ (.tail _ (.tail _ (.tail _ (.head _)))))).lt
  have le_b9 := show Hid _ from hK.2.size
  have hK := hK.alloc (B32 fun _ => 0) 22
  generalize V8.alloc (.cells (B32 fun _ => 0) 22) = V10 at *
  obtain ⟨b9, Hb9⟩ : ∃ b, Hid (V8.heap.size = b) := ⟨_, rfl⟩
  have ne_b6_b9 : Hid (b6 ≠ b9) := by show _ ≠ _; rw [← Hb9.out]; exact Nat.ne_of_lt lt_b6
  have ne_b2_b9 : Hid (b2 ≠ b9) := by show _ ≠ _; rw [← Hb9.out]; exact Nat.ne_of_lt lt_b2
  have ne_bN_b9 : Hid (bN ≠ b9) := by show _ ≠ _; rw [← Hb9.out]; exact Nat.ne_of_lt lt_bN
  have ne_bB_b9 : Hid (bB ≠ b9) := by show _ ≠ _; rw [← Hb9.out]; exact Nat.ne_of_lt lt_bB
  have ne_bA_b9 : Hid (bA ≠ b9) := by show _ ≠ _; rw [← Hb9.out]; exact Nat.ne_of_lt lt_bA
  have le_b9 : Hid (w.heap.size ≤ b9) := by show _ ≤ _; rw [← Hb9.out]; exact le_b9.out
  rw [Hb9.out] at hK ⊢
  clear lt_b6 lt_b2 lt_bN lt_bB lt_bA
  go_upto_region 8 with (first
    | refine wpList_load_gd (by rfl) 22 (.tmp 9) (by rfl) b6 (by rfl) (B32 fun _ => 0) _ (hK.at b6 (B32 fun _ => 0) 22 (.tail _ (.head _))) Tryd.underlying22 (by rfl) (B32_info _) ?_
    | refine wpList_load_gd (by rfl) 22 (.tmp 11) (by rfl) b9 (by rfl) (B32 fun _ => 0) _ (hK.at b9 (B32 fun _ => 0) 22 (.head _)) Tryd.underlying22 (by rfl) (B32_info _) ?_)
  go_wp2_with (refine wpList_load_own (by rfl) 22 (.tmp 3) (by rfl) bA (by rfl) (B32 (bdig a)) _ (hK.at bA (B32 (bdig a)) 22 (.tail _ (.tail _ (.tail _ (.tail _ (.tail _ (.head _))))))) Tryd.underlying22 (by rfl) (B32_info _) ?_)
  refine (F.neg_not a ha.out Na.out _ (F.keep _ _ hT hK.2)).mono ?_
  rintro e V11 ⟨rfl, bw⟩
  have hK := hK.below bw
  clear bw
  go_upto_region 9 with (refine wpList_store_own (op := { dst := none, op := _, type := _, pos := _, after := _, guard := _ }) rfl 22 (.tmp 9) (.tmp 54) rfl b6 0 (B32 fun _ => 0) (by rfl) (by rfl) (hK.at b6 (B32 fun _ => 0) 22 (.tail _ (.head _))) (B32_le _ _) (B32_info _) (B32_one _) (by rfl) ?_)
  have hK : Kp [(b6, B32 fun _ => 0, 22), (b9, B32 fun _ => 0, 22), (b2, PA ⟨0, 0, 0, 0⟩, 27), (bN, B32 (bdig n), 22), (bB, B32 (bdig b), 22), (bA, B32 (bdig a), 22)] w V11 := ((((((hK.none.cons (hK.at bA (B32 (bdig a)) 22 (.tail _ (.tail _ (.tail _ (.tail _ (.tail _ (.head _)))))))).cons (hK.at bB (B32 (bdig b)) 22 (.tail _ (.tail _ (.tail _ (.tail _ (.head _))))))).cons (hK.at bN (B32 (bdig n)) 22 (.tail _ (.tail _ (.tail _ (.head _)))))).cons (hK.at b2 (PA ⟨0, 0, 0, 0⟩) 27 (.tail _ (.tail _ (.head _))))).cons (hK.at b9 (B32 fun _ => 0) 22 (.head _))).cons (hK.at b6 (B32 fun _ => 0) 22 (.tail _ (.head _))))
  have hK := Kp.set (A' := B32 fun _ => 0) hK (by simp only [List.forall_mem_cons, List.not_mem_nil, false_implies, implies_true, and_true]; exact ⟨(Ne.symm ne_b6_b9.out), ne_b2_b6.out, ne_bN_b6.out, ne_bB_b6.out, ne_bA_b6.out⟩) le_b6.out (B32_sizes _ _)
  generalize V11.setCells b6 0 (B32 fun _ => 0).toList = V12 at *
  go_wp2_with (refine wpList_load_own (by rfl) 22 (.tmp 3) (by rfl) bA (by rfl) (B32 (bdig a)) _ (hK.at bA (B32 (bdig a)) 22 (.tail _ (.tail _ (.tail _ (.tail _ (.tail _ (.head _))))))) Tryd.underlying22 (by rfl) (B32_info _) ?_)
  refine (pneg_not ha.out Na.out _).mono ?_
  rintro e V13 ⟨rfl, bw⟩
  have hK := hK.below bw
  clear bw
  go_upto_region 10 with (refine wpList_store_own (op := { dst := none, op := _, type := _, pos := _, after := _, guard := _ }) rfl 22 (.tmp 11) (.tmp 59) rfl b9 0 (B32 fun _ => 0) (by rfl) (by rfl) (hK.at b9 (B32 fun _ => 0) 22 (.tail _ (.head _))) (B32_le _ _) (B32_info _) (B32_one _) (by rfl) ?_)
  have hK : Kp [(b9, B32 fun _ => 0, 22), (b6, B32 fun _ => 0, 22), (b2, PA ⟨0, 0, 0, 0⟩, 27), (bN, B32 (bdig n), 22), (bB, B32 (bdig b), 22), (bA, B32 (bdig a), 22)] w V13 := ((((((hK.none.cons (hK.at bA (B32 (bdig a)) 22 (.tail _ (.tail _ (.tail _ (.tail _ (.tail _ (.head _)))))))).cons (hK.at bB (B32 (bdig b)) 22 (.tail _ (.tail _ (.tail _ (.tail _ (.head _))))))).cons (hK.at bN (B32 (bdig n)) 22 (.tail _ (.tail _ (.tail _ (.head _)))))).cons (hK.at b2 (PA ⟨0, 0, 0, 0⟩) 27 (.tail _ (.tail _ (.head _))))).cons (hK.at b6 (B32 fun _ => 0) 22 (.head _))).cons (hK.at b9 (B32 fun _ => 0) 22 (.tail _ (.head _))))
  have hK := Kp.set (A' := B32 fun _ => 0) hK (by simp only [List.forall_mem_cons, List.not_mem_nil, false_implies, implies_true, and_true]; exact ⟨ne_b6_b9.out, ne_b2_b9.out, ne_bN_b9.out, ne_bB_b9.out, ne_bA_b9.out⟩) le_b9.out (B32_sizes _ _)
  generalize V13.setCells b9 0 (B32 fun _ => 0).toList = V14 at *
  go_upto_region 12 with (first
    | refine wpList_load_gd (by rfl) 22 (.tmp 9) (by rfl) b6 (by rfl) (B32 fun _ => 0) _ (hK.at b6 (B32 fun _ => 0) 22 (.tail _ (.head _))) Tryd.underlying22 (by rfl) (B32_info _) ?_
    | refine wpList_load_gd (by rfl) 22 (.tmp 11) (by rfl) b9 (by rfl) (B32 fun _ => 0) _ (hK.at b9 (B32 fun _ => 0) 22 (.head _)) Tryd.underlying22 (by rfl) (B32_info _) ?_)
  go_wp2_with (first
    | refine wpList_load_own (by rfl) 22 (.tmp 5) (by rfl) bN (by rfl) (B32 (bdig n)) _ (hK.at bN (B32 (bdig n)) 22 (.tail _ (.tail _ (.tail _ (.head _))))) Tryd.underlying22 (by rfl) (B32_info _) ?_
    | refine wpList_load_own (by rfl) 22 (.tmp 3) (by rfl) bA (by rfl) (B32 (bdig a)) _ (hK.at bA (B32 (bdig a)) 22 (.tail _ (.tail _ (.tail _ (.tail _ (.tail _ (.head _))))))) Tryd.underlying22 (by rfl) (B32_info _) ?_)
  refine (F.mul_not n a hn.out ha.out Na.out _ (F.keep _ _ hT hK.2)).mono ?_
  rintro e V15 ⟨rfl, bw⟩
  have hK := hK.below bw
  clear bw
  go_upto_region 13 with (refine wpList_store_own (op := { dst := none, op := _, type := _, pos := _, after := _, guard := _ }) rfl 22 (.tmp 9) (.tmp 82) rfl b6 0 (B32 fun _ => 0) (by rfl) (by rfl) (hK.at b6 (B32 fun _ => 0) 22 (.tail _ (.head _))) (B32_le _ _) (B32_info _) (B32_one _) (by rfl) ?_)
  have hK : Kp [(b6, B32 fun _ => 0, 22), (b9, B32 fun _ => 0, 22), (b2, PA ⟨0, 0, 0, 0⟩, 27), (bN, B32 (bdig n), 22), (bB, B32 (bdig b), 22), (bA, B32 (bdig a), 22)] w V15 := ((((((hK.none.cons (hK.at bA (B32 (bdig a)) 22 (.tail _ (.tail _ (.tail _ (.tail _ (.tail _ (.head _)))))))).cons (hK.at bB (B32 (bdig b)) 22 (.tail _ (.tail _ (.tail _ (.tail _ (.head _))))))).cons (hK.at bN (B32 (bdig n)) 22 (.tail _ (.tail _ (.tail _ (.head _)))))).cons (hK.at b2 (PA ⟨0, 0, 0, 0⟩) 27 (.tail _ (.tail _ (.head _))))).cons (hK.at b9 (B32 fun _ => 0) 22 (.head _))).cons (hK.at b6 (B32 fun _ => 0) 22 (.tail _ (.head _))))
  have hK := Kp.set (A' := B32 fun _ => 0) hK (by simp only [List.forall_mem_cons, List.not_mem_nil, false_implies, implies_true, and_true]; exact ⟨(Ne.symm ne_b6_b9.out), ne_b2_b6.out, ne_bN_b6.out, ne_bB_b6.out, ne_bA_b6.out⟩) le_b6.out (B32_sizes _ _)
  generalize V15.setCells b6 0 (B32 fun _ => 0).toList = V16 at *
  go_wp2_with (first
    | refine wpList_load_own (by rfl) 22 (.tmp 5) (by rfl) bN (by rfl) (B32 (bdig n)) _ (hK.at bN (B32 (bdig n)) 22 (.tail _ (.tail _ (.tail _ (.head _))))) Tryd.underlying22 (by rfl) (B32_info _) ?_
    | refine wpList_load_own (by rfl) 22 (.tmp 3) (by rfl) bA (by rfl) (B32 (bdig a)) _ (hK.at bA (B32 (bdig a)) 22 (.tail _ (.tail _ (.tail _ (.tail _ (.tail _ (.head _))))))) Tryd.underlying22 (by rfl) (B32_info _) ?_)
  refine (ptimes_not n ha.out Na.out _).mono ?_
  rintro e V17 ⟨rfl, bw⟩
  have hK := hK.below bw
  clear bw
  go_upto_region 14 with (refine wpList_store_own (op := { dst := none, op := _, type := _, pos := _, after := _, guard := _ }) rfl 22 (.tmp 11) (.tmp 88) rfl b9 0 (B32 fun _ => 0) (by rfl) (by rfl) (hK.at b9 (B32 fun _ => 0) 22 (.tail _ (.head _))) (B32_le _ _) (B32_info _) (B32_one _) (by rfl) ?_)
  have hK : Kp [(b9, B32 fun _ => 0, 22), (b6, B32 fun _ => 0, 22), (b2, PA ⟨0, 0, 0, 0⟩, 27), (bN, B32 (bdig n), 22), (bB, B32 (bdig b), 22), (bA, B32 (bdig a), 22)] w V17 := ((((((hK.none.cons (hK.at bA (B32 (bdig a)) 22 (.tail _ (.tail _ (.tail _ (.tail _ (.tail _ (.head _)))))))).cons (hK.at bB (B32 (bdig b)) 22 (.tail _ (.tail _ (.tail _ (.tail _ (.head _))))))).cons (hK.at bN (B32 (bdig n)) 22 (.tail _ (.tail _ (.tail _ (.head _)))))).cons (hK.at b2 (PA ⟨0, 0, 0, 0⟩) 27 (.tail _ (.tail _ (.head _))))).cons (hK.at b6 (B32 fun _ => 0) 22 (.head _))).cons (hK.at b9 (B32 fun _ => 0) 22 (.tail _ (.head _))))
  have hK := Kp.set (A' := B32 fun _ => 0) hK (by simp only [List.forall_mem_cons, List.not_mem_nil, false_implies, implies_true, and_true]; exact ⟨ne_b6_b9.out, ne_b2_b9.out, ne_bN_b9.out, ne_bB_b9.out, ne_bA_b9.out⟩) le_b9.out (B32_sizes _ _)
  generalize V17.setCells b9 0 (B32 fun _ => 0).toList = V18 at *
  go_wp2_with (first
    | refine wpList_load_gd (by rfl) 22 (.tmp 9) (by rfl) b6 (by rfl) (B32 fun _ => 0) _ (hK.at b6 (B32 fun _ => 0) 22 (.tail _ (.head _))) Tryd.underlying22 (by rfl) (B32_info _) ?_
    | refine wpList_load_gd (by rfl) 22 (.tmp 11) (by rfl) b9 (by rfl) (B32 fun _ => 0) _ (hK.at b9 (B32 fun _ => 0) 22 (.head _)) Tryd.underlying22 (by rfl) (B32_info _) ?_)
  refine (cwakes_any F _ (F.keep _ _ hT hK.2)).mono ?_
  rintro e wz ⟨rfl, bz⟩
  have hK := hK.below bz
  go_wp2
  go_ret
  exact ⟨rfl, hK.2⟩
theorem cexact_any {T : World → Prop} (F : Crv T) (a b n : Nat) (ha : a < R256) (hb : b < R256) (hn : n < R256) (w : World) (hT : T w) : Calls Tryd.prog 3 #[.agg (B32 (bdig a)), .agg (B32 (bdig b)), .agg (B32 (bdig n))] w fun x w' => x = .returned (.bool true) ∧ Below w.heap.size w w' := by
  rcases pt_or a with ⟨P, hP⟩ | na
  · rcases pt_or b with ⟨Q, hQ⟩ | nb
    · exact cexact_pp F a b n ha hb hn P Q hP hQ w hT
    · exact cexact_pn F a b n ha hb hn P hP (.inr nb) w hT
  · exact cexact_nn F a b n ha hb hn na (.inl na) w hT
end Go.Proofs.YtaekpoiaigklgaaDoor
