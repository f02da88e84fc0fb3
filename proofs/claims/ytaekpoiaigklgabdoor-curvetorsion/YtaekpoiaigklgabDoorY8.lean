/- The walk of the law CurveTorsion, over the program's functions by their contracts. -/
import Derived.Test.YtaekpoiaigklgabDoorW0
import Derived.Test.YtaekpoiaigklgabDoorEA
namespace Go.Proofs.YtaekpoiaigklgabDoor
open Go Go.RowKit
theorem P_at {p : Nat} (h : pp = p) (w : World) : Calls Tryd.prog 14 #[] w fun e w' => e = .returned (.agg (numA p)) ∧ Below w.heap.size w w' := by
  rw [← h]; exact P_any w
theorem L_at {l : Nat} (h : LL = l) (w : World) : Calls Tryd.prog 20 #[] w fun e w' => e = .returned (.agg (numA l)) ∧ Below w.heap.size w w' := by
  rw [← h]; exact L_any w
theorem p_dig {p : Nat} (h : pp = p) : (dig p 0 : Int) = 18446744073709551597 ∧ (dig p 1 : Int) = 18446744073709551615 ∧ (dig p 2 : Int) = 18446744073709551615 ∧ (dig p 3 : Int) = 9223372036854775807 := by
  subst h; decide +kernel
theorem q_cells : numA (pp - 1) = #[.int .u64 18446744073709551596, .int .u64 18446744073709551615, .int .u64 18446744073709551615, .int .u64 9223372036854775807] := by rfl
theorem LL_R : LL < R256 := by decide
def factTo6 (s y : Nat) : Nat → Value → Prop
  | 0, vq => vq = .agg (B32 (bdig 8))
  | 1, vq => vq = .agg (B32 (bdig s))
  | 2, vq => vq = .tuple #[.agg (B32 (bdig y)), .int .i64 (0)]
  | 3, vq => vq = .tuple #[.agg (B32 (bdig y)), .int .i64 (0)]
  | 4, vq => vq = .agg (B32 (bdig y))
  | 5, vq => vq = .int .i64 (0)
  | 8, vq => vq = .int .i64 (0)
  | 6, vq => ∃ g, vq = .pointer (some ⟨g, 0, none⟩)
  | _, _ => True
def factTo7 (a y : Nat) : Nat → Value → Prop
  | 0, vq => vq = .agg (B32 (bdig 8))
  | 1, vq => vq = .agg (B32 (bdig a))
  | 2, vq => vq = .tuple #[.agg (B32 (bdig y)), .int .i64 (0)]
  | 3, vq => vq = .tuple #[.agg (B32 (bdig y)), .int .i64 (0)]
  | 4, vq => vq = .agg (B32 (bdig y))
  | 5, vq => vq = .int .i64 (0)
  | 8, vq => vq = .int .i64 (0)
  | 6, vq => ∃ g, vq = .pointer (some ⟨g, 0, none⟩)
  | _, _ => True
def factTo8 (t l : Nat) : Nat → Value → Prop
  | 0, vq => vq = .agg (numA l)
  | 1, vq => vq = .agg (B32 (bdig l))
  | 2, vq => vq = .agg (B32 (bdig t))
  | 3, vq => vq = .tuple #[.agg (B32 (bdig t)), .int .i64 (0)]
  | 4, vq => vq = .tuple #[.agg (B32 (bdig t)), .int .i64 (0)]
  | 5, vq => vq = .agg (B32 (bdig t))
  | 6, vq => vq = .int .i64 (0)
  | 9, vq => vq = .int .i64 (0)
  | 7, vq => ∃ g, vq = .pointer (some ⟨g, 0, none⟩)
  | _, _ => True
def valTo (a s t y : Nat) : Nat → Value
  | 0 => .agg (B32 (bdig t))
  | 3 => .int .i64 (0)
  | 7 => .int .i64 (0)
  | 11 => .int .i64 (0)
  | 15 => .int .i64 (0)
  | 19 => .int .i64 (0)
  | 23 => .agg (B32 (bdig 1))
  | 24 => .agg (B32 (bdig 1))
  | 28 => .agg (B32 (bdig y))
  | 29 => .agg (B32 (bdig y))
  | 33 => .agg (B32 (bdig s))
  | 34 => .agg (B32 (bdig a))
  | 38 => .agg (B32 (bdig t))
  | 39 => .agg (B32 (bdig t))
  | _ => .bool true

set_option maxRecDepth 100000 in
set_option maxHeartbeats 4000000 in
theorem ctorsion_any {T : World → Prop} (F : Crv T) (n : Nat) (hn : Hid (n < R256)) (w : World) (hT : T w) : Calls Tryd.prog 4 #[.agg (B32 (bdig n))] w fun x w' => x = .returned (.bool true) ∧ Below w.heap.size w w' := by
  have hz := (zero_of_info zeroB32).1
  have hzN := (zero_of_info zeroLit).1
  obtain ⟨p, Hp⟩ : ∃ a, Hid (pp = a) := ⟨_, rfl⟩
  obtain ⟨t, Ht⟩ : ∃ a, Hid (pp - 1 = a) := ⟨_, rfl⟩
  have Hte : Hid (enc T2 = t) := by show _ = _; rw [← Ht.out]; exact enc_T2
  obtain ⟨l, Hl⟩ : ∃ a, Hid (LL = a) := ⟨_, rfl⟩
  have hl : Hid (l < R256) := by show _ < _; rw [← Hl.out]; exact LL_R
  have HlT : Hid (Pt.times l T2 = T2) := by show _ = _; rw [← Hl.out]; exact T2_L
  obtain ⟨a, Ha⟩ : ∃ a, Hid (enc (Pt.times n BP) = a) := ⟨_, rfl⟩
  obtain ⟨s, Hs⟩ : ∃ a, Hid (enc ((Pt.times n BP).add T2) = a) := ⟨_, rfl⟩
  obtain ⟨y, Hy⟩ : ∃ a, Hid (enc (Pt.times 8 (Pt.times n BP)) = a) := ⟨_, rfl⟩
  have same_y := B32_same y (by rw [← Hy.out]; exact enc_R _)
  have same_t := B32_same t (by rw [← Hte.out]; exact enc_R _)
  have same_1 := B32_same 1 (by decide)
  have ne_sa : ∀ w, (Op.equalIn 10000 22 (.agg (B32 (bdig s))) (.agg (B32 (bdig a)))).run Tryd.prog w = .ok false w := fun w =>
    (B32_eq s a (by rw [← Hs.out]; exact enc_R _) (by rw [← Ha.out]; exact enc_R _) w).trans (by rw [decide_eq_false (by rw [← Hs.out, ← Ha.out]; exact enc_add_T2 _)])
  go_enter Tryd.func4, Tryd.ntmps4
  go_upto_region 1 with fail
  have hK := (Kp.nil w).alloc (B32 (bdig n)) 22
  generalize w.alloc (.cells (B32 (bdig n)) 22) = W at *
  obtain ⟨bN, HbN⟩ : ∃ b, Hid (w.heap.size = b) := ⟨_, rfl⟩
  have le_bN : Hid (w.heap.size ≤ bN) := by show _ ≤ _; have := HbN.out; omega
  rw [HbN.out] at hK ⊢
  go_wp2_with fail
  refine (P_at Hp.out _).mono ?_
  rintro e V1 ⟨rfl, bw⟩
  have hK := hK.below bw
  clear bw
  go_upto_region 2 with (refine wpList_store_new (by rfl) 32 (.tmp 3) (.tmp 16) (by rfl) _ (numA p) (by rfl) (by rfl) (numA_info _) (lit4_size _ _ _ _ _) (numA_one _) (by rfl) ?_)
  have lt_bN := (hK.at bN (B32 (bdig n)) 22 (.head _)).lt
  have le_b2 := show Hid _ from hK.2.size
  have hK := hK.alloc (numA p) 32
  generalize V1.alloc (.cells (numA p) 32) = V3 at *
  obtain ⟨b2, Hb2⟩ : ∃ b, Hid (V1.heap.size = b) := ⟨_, rfl⟩
  have ne_bN_b2 : Hid (bN ≠ b2) := by show _ ≠ _; rw [← Hb2.out]; exact Nat.ne_of_lt lt_bN
  have le_b2 : Hid (w.heap.size ≤ b2) := by show _ ≤ _; rw [← Hb2.out]; exact le_b2.out
  rw [Hb2.out] at hK ⊢
  clear lt_bN
  have c0 : V3.cell? ⟨b2, 0, none⟩ = some (.int .u64 18446744073709551597) := by have := (hK.at b2 (numA p) 32 (.head _)).cell (numA_at p 0 (by decide)); rw [(p_dig Hp.out).1] at this; exact this
  have c1 : V3.cell? ⟨b2, 1, none⟩ = some (.int .u64 18446744073709551615) := by have := (hK.at b2 (numA p) 32 (.head _)).cell (numA_at p 1 (by decide)); rw [(p_dig Hp.out).2.1] at this; exact this
  have c2 : V3.cell? ⟨b2, 2, none⟩ = some (.int .u64 18446744073709551615) := by have := (hK.at b2 (numA p) 32 (.head _)).cell (numA_at p 2 (by decide)); rw [(p_dig Hp.out).2.2.1] at this; exact this
  have c3 : V3.cell? ⟨b2, 3, none⟩ = some (.int .u64 9223372036854775807) := by have := (hK.at b2 (numA p) 32 (.head _)).cell (numA_at p 3 (by decide)); rw [(p_dig Hp.out).2.2.2] at this; exact this
  go_wp2_with fail
  rw [show (#[.int .u64 18446744073709551596, .int .u64 18446744073709551615, .int .u64 18446744073709551615, .int .u64 9223372036854775807] : Array Value) = numA t from by rw [← Ht.out]; exact q_cells.symm]
  clear c0 c1 c2 c3
  refine (bytesOf_any t _).mono ?_
  rintro e VB ⟨rfl, bw⟩
  have hK := hK.below bw
  clear bw
  go_upto_region 3 with (refine wpList_store_new (by rfl) 22 (.tmp 4) (.tmp 27) (by rfl) _ (B32 (bdig t)) (by rfl) (by rfl) (B32_info _) (B32_sizes _ _) (B32_one _) (by rfl) ?_)
  have hK : Kp [(bN, B32 (bdig n), 22)] w VB := hK.sub (by simp)
  have lt_bN := (hK.at bN (B32 (bdig n)) 22 (.head _)).lt
  have le_b4 := show Hid _ from hK.2.size
  have hK := hK.alloc (B32 (bdig t)) 22
  generalize VB.alloc (.cells (B32 (bdig t)) 22) = V5 at *
  obtain ⟨b4, Hb4⟩ : ∃ b, Hid (VB.heap.size = b) := ⟨_, rfl⟩
  have ne_bN_b4 : Hid (bN ≠ b4) := by show _ ≠ _; rw [← Hb4.out]; exact Nat.ne_of_lt lt_bN
  have le_b4 : Hid (w.heap.size ≤ b4) := by show _ ≤ _; rw [← Hb4.out]; exact le_b4.out
  rw [Hb4.out] at hK ⊢
  clear lt_bN
  go_wp2_with (refine wpList_load_own (by rfl) 22 (.tmp 1) (by rfl) bN (by rfl) (B32 (bdig n)) _ (hK.at bN (B32 (bdig n)) 22 (.tail _ (.head _))) Tryd.underlying22 (by rfl) (B32_info _) ?_)
  refine (F.baseA hn.out Ha.out _ (F.keep _ _ hT hK.2)).mono ?_
  rintro e V6 ⟨rfl, bw⟩
  have hK := hK.below bw
  clear bw
  go_upto_region 4 with (refine wpList_store_new (by rfl) 22 (.tmp 5) (.tmp 29) (by rfl) _ (B32 (bdig a)) (by rfl) (by rfl) (B32_info _) (B32_sizes _ _) (B32_one _) (by rfl) ?_)
  have lt_b4 := (hK.at b4 (B32 (bdig t)) 22 (.head _)).lt
  have lt_bN := (hK.at bN (B32 (bdig n)) 22 (.tail _ (.head _))).lt
  have le_b7 := show Hid _ from hK.2.size
  have hK := hK.alloc (B32 (bdig a)) 22
  generalize V6.alloc (.cells (B32 (bdig a)) 22) = V8 at *
  obtain ⟨b7, Hb7⟩ : ∃ b, Hid (V6.heap.size = b) := ⟨_, rfl⟩
  have ne_b4_b7 : Hid (b4 ≠ b7) := by show _ ≠ _; rw [← Hb7.out]; exact Nat.ne_of_lt lt_b4
  have ne_bN_b7 : Hid (bN ≠ b7) := by show _ ≠ _; rw [← Hb7.out]; exact Nat.ne_of_lt lt_bN
  have le_b7 : Hid (w.heap.size ≤ b7) := by show _ ≤ _; rw [← Hb7.out]; exact le_b7.out
  rw [Hb7.out] at hK ⊢
  clear lt_b4 lt_bN
  go_wp2_with (first
    | refine wpList_load_own (by rfl) 22 (.tmp 5) (by rfl) b7 (by rfl) (B32 (bdig a)) _ (hK.at b7 (B32 (bdig a)) 22 (.head _)) Tryd.underlying22 (by rfl) (B32_info _) ?_
    | refine wpList_load_own (by rfl) 22 (.tmp 4) (by rfl) b4 (by rfl) (B32 (bdig t)) _ (hK.at b4 (B32 (bdig t)) 22 (.tail _ (.head _))) Tryd.underlying22 (by rfl) (B32_info _) ?_)
  refine (F.addA Ha.out Hte.out rfl Hs.out _ (F.keep _ _ hT hK.2)).mono ?_
  rintro e V9 ⟨rfl, bw⟩
  have hK := hK.below bw
  clear bw
  go_upto_region 5 with (refine wpList_store_new (by rfl) 22 (.tmp 6) (.tmp 34) (by rfl) _ (B32 (bdig s)) (by rfl) (by rfl) (B32_info _) (B32_sizes _ _) (B32_one _) (by rfl) ?_)
  have lt_b7 := (hK.at b7 (B32 (bdig a)) 22 (.head _)).lt
  have lt_b4 := (hK.at b4 (B32 (bdig t)) 22 (.tail _ (.head _))).lt
  have lt_bN := (hK.at bN (B32 (bdig n)) 22 (.tail _ (.tail _ (.head _)))).lt
  have le_b10 := show Hid _ from hK.2.size
  have hK := hK.alloc (B32 (bdig s)) 22
  generalize V9.alloc (.cells (B32 (bdig s)) 22) = V11 at *
  obtain ⟨b10, Hb10⟩ : ∃ b, Hid (V9.heap.size = b) := ⟨_, rfl⟩
  have ne_b7_b10 : Hid (b7 ≠ b10) := by show _ ≠ _; rw [← Hb10.out]; exact Nat.ne_of_lt lt_b7
  have ne_b4_b10 : Hid (b4 ≠ b10) := by show _ ≠ _; rw [← Hb10.out]; exact Nat.ne_of_lt lt_b4
  have ne_bN_b10 : Hid (bN ≠ b10) := by show _ ≠ _; rw [← Hb10.out]; exact Nat.ne_of_lt lt_bN
  have le_b10 : Hid (w.heap.size ≤ b10) := by show _ ≤ _; rw [← Hb10.out]; exact le_b10.out
  rw [Hb10.out] at hK ⊢
  clear lt_b7 lt_b4 lt_bN
  go_wp2_with (first
    | refine wpList_load_own (by rfl) 22 (.tmp 4) (by rfl) b4 (by rfl) (B32 (bdig t)) _ (hK.at b4 (B32 (bdig t)) 22 (.tail _ (.tail _ (.head _)))) Tryd.underlying22 (by rfl) (B32_info _) ?_
    | refine wpList_load_own (by rfl) 22 (.tmp 4) (by rfl) b4 (by rfl) (B32 (bdig t)) _ (hK.at b4 (B32 (bdig t)) 22 (.tail _ (.tail _ (.head _)))) Tryd.underlying22 (by rfl) (B32_info _) ?_)
  refine (F.addA Hte.out Hte.out T2_two enc_nought _ (F.keep _ _ hT hK.2)).mono ?_
  rintro e V12 ⟨rfl, bw⟩
  have hK := hK.below bw
  clear bw
  go_upto_region 6 with (refine wpList_store_new (by rfl) 22 (.tmp 8) (.tmp 40) (by rfl) _ (B32 (bdig 1)) (by rfl) (by rfl) (B32_info _) (B32_sizes _ _) (B32_one _) (by rfl) ?_)
  have lt_b10 := (hK.at b10 (B32 (bdig s)) 22 (.head _)).lt
  have lt_b7 := (hK.at b7 (B32 (bdig a)) 22 (.tail _ (.head _))).lt
  have lt_b4 := (hK.at b4 (B32 (bdig t)) 22 (.tail _ (.tail _ (.head _)))).lt
  have lt_bN := (hK.at bN (B32 (bdig n)) 22 (.tail _ (.tail _ (.tail _ (.head _))))).lt
  have le_b13 := show Hid _ from hK.2.size
  have hK := hK.alloc (B32 (bdig 1)) 22
  generalize V12.alloc (.cells (B32 (bdig 1)) 22) = V14 at *
  obtain ⟨b13, Hb13⟩ : ∃ b, Hid (V12.heap.size = b) := ⟨_, rfl⟩
  have ne_b10_b13 : Hid (b10 ≠ b13) := by show _ ≠ _; rw [← Hb13.out]; exact Nat.ne_of_lt lt_b10
  have ne_b7_b13 : Hid (b7 ≠ b13) := by show _ ≠ _; rw [← Hb13.out]; exact Nat.ne_of_lt lt_b7
  have ne_b4_b13 : Hid (b4 ≠ b13) := by show _ ≠ _; rw [← Hb13.out]; exact Nat.ne_of_lt lt_b4
  have ne_bN_b13 : Hid (bN ≠ b13) := by show _ ≠ _; rw [← Hb13.out]; exact Nat.ne_of_lt lt_bN
  have le_b13 : Hid (w.heap.size ≤ b13) := by show _ ≤ _; rw [← Hb13.out]; exact le_b13.out
  rw [Hb13.out] at hK ⊢
  clear lt_b10 lt_b7 lt_b4 lt_bN
  refine wp_region_told 106 (by kernel_rfl) (by kernel_rfl) (by rfl) (factTo6 s y) (fun L vs => MkN 1 [(b13, B32 (bdig 1), 22), (b10, B32 (bdig s), 22), (b7, B32 (bdig a), 22), (b4, B32 (bdig t), 22), (bN, B32 (bdig n), 22)] w (fun _ => B32 fun _ => 0) (fun _ => B32 (bdig y)) (fun _ => 22) (fun i => L (6 + i)) (fun i => L (7 + i)) (fun i => vs (6 + i))) (fun _ => MkN.drew hK (fun _ _ => rfl)) ?_ ?_
  · intro L vs ac wc i o hF hLi ho hd K hK
    rcases i with _ | _ | _ | _ | _ | _ | _ | _ | _ | i
    · have ho' := ho
      obtain rfl := Option.some.inj ho
      refine step_do ho' (wanted_free rfl) ?_
      unfold Oper.wp
      go_simp
      refine (numc_any 8 (by decide) _).mono ?_
      rintro e w' ⟨rfl, hB⟩
      exact hK _ _ (.inr rfl) ((hF.j.congr (fun i hi => if_off (by decide) hi) (fun i hi => if_off (by decide) hi) (fun i hi => if_off (by decide) hi)).below hB)
    · have ho' := ho
      obtain rfl := Option.some.inj ho
      have f6 : ac.tmps.getD 6 undef = .pointer (some ⟨b10, 0, none⟩) := slott hF 1 hLi 6 (by kernel_rfl)
      refine step_do ho' (wanted_free rfl) ?_
      exact wp_load_own 22 (.tmp 6) rfl b10 f6 (B32 (bdig s)) _ 22 (hF.j.1.at b10 (B32 (bdig s)) 22 (.tail _ (.head _))) Tryd.underlying22 rfl (B32_info _) (hK _ _ (.inr rfl) (hF.j.congr (fun i hi => if_off (by decide) hi) (fun i hi => if_off (by decide) hi) (fun i hi => if_off (by decide) hi)))
    · have ho' := ho
      obtain rfl := Option.some.inj ho
      have f43 : ac.tmps.getD 43 undef = .agg (B32 (bdig 8)) := (factt hF hd 0 rfl rfl (by kernel_rfl)).1.trans (factt hF hd 0 rfl rfl (by kernel_rfl)).2
      have f44 : ac.tmps.getD 44 undef = .agg (B32 (bdig s)) := (factt hF hd 1 rfl rfl (by kernel_rfl)).1.trans (factt hF hd 1 rfl rfl (by kernel_rfl)).2
      refine step_do ho' (wanted_free rfl) ?_
      unfold Oper.wp
      go_simp
      refine (F.mulA (by decide) Hs.out (eight_T2 _) Hy.out _ (F.keep _ _ hT hF.j.1.2)).mono ?_
      rintro e w' ⟨rfl, hB⟩
      exact hK _ _ (.inr rfl) ((hF.j.congr (fun i hi => if_off (by decide) hi) (fun i hi => if_off (by decide) hi) (fun i hi => if_off (by decide) hi)).below hB)
    · have ho' := ho
      obtain rfl := Option.some.inj ho
      have f45 : ac.tmps.getD 45 undef = .tuple #[.agg (B32 (bdig y)), .int .i64 (0)] := (factt hF hd 2 rfl rfl (by kernel_rfl)).1.trans (factt hF hd 2 rfl rfl (by kernel_rfl)).2
      refine step_do ho' (wanted_free rfl) ?_
      unfold Oper.wp
      go_simp
      exact hK _ _ (.inr rfl) (hF.j.congr (fun i hi => if_off (by decide) hi) (fun i hi => if_off (by decide) hi) (fun i hi => if_off (by decide) hi))
    · have ho' := ho
      obtain rfl := Option.some.inj ho
      have f42 : ac.tmps.getD 42 undef = .tuple #[.agg (B32 (bdig y)), .int .i64 (0)] := (factt hF hd 3 rfl rfl (by kernel_rfl)).1.trans (factt hF hd 3 rfl rfl (by kernel_rfl)).2
      refine step_do ho' (wanted_free rfl) ?_
      unfold Oper.wp
      go_simp
      exact hK _ _ (.inr rfl) (hF.j.congr (fun i hi => if_off (by decide) hi) (fun i hi => if_off (by decide) hi) (fun i hi => if_off (by decide) hi))
    · have ho' := ho
      obtain rfl := Option.some.inj ho
      have f42 : ac.tmps.getD 42 undef = .tuple #[.agg (B32 (bdig y)), .int .i64 (0)] := (factt hF hd 3 rfl rfl (by kernel_rfl)).1.trans (factt hF hd 3 rfl rfl (by kernel_rfl)).2
      refine step_do ho' (wanted_free rfl) ?_
      unfold Oper.wp
      go_simp
      exact hK _ _ (.inr rfl) (hF.j.congr (fun i hi => if_off (by decide) hi) (fun i hi => if_off (by decide) hi) (fun i hi => if_off (by decide) hi))
    · have ho' := ho
      obtain rfl := Option.some.inj ho
      refine step_do ho' (wanted_free rfl) ?_
      have hs := notyett hF 6 hLi 7 rfl (by kernel_rfl)
      unfold Oper.wp
      go_simp
      exact hK _ _ (.inr ⟨_, rfl⟩) (hF.j.alloc 0 (fun i _ hne => if_oth (k := 0) rfl hne) (fun i hi => if_off (by decide) hi) (fun i _ hne => if_oth (k := 0) rfl hne) rfl hs)
    · have ho' := ho
      obtain rfl := Option.some.inj ho
      have f46 : ac.tmps.getD 46 undef = .agg (B32 (bdig y)) := (factt hF hd 4 rfl rfl (by kernel_rfl)).1.trans (factt hF hd 4 rfl rfl (by kernel_rfl)).2
      refine step_do ho' (wanted_free rfl) ?_
      obtain ⟨fg, gq, hg⟩ := factt hF hd 6 rfl rfl (by kernel_rfl)
      have hm := dep hd 6 (by kernel_rfl)
      have hj := hF.j
      rw [hg] at fg
      have hj2 := hj.at (k := 0) (by decide) hm hg hLi
      refine wp_store_own 22 (.tmp 10) (.tmp 46) rfl gq (B32 (bdig y)) fg f46 hj2.2.2 (B32_sizes _ _) (B32_info _) (B32_one _) rfl ?_
      exact hK undef _ (.inl rfl) (hj.store (k := 0) (by decide) hm hg hLi (B32_sizes _ _) (fun i hi => if_off (by decide) hi) (fun i _ hne => if_oth (k := 0) rfl hne) (fun i hi => if_off (by decide) hi) rfl)
    · have ho' := ho
      obtain rfl := Option.some.inj ho
      have f47 : ac.tmps.getD 47 undef = .int .i64 (0) := (factt hF hd 5 rfl rfl (by kernel_rfl)).1.trans (factt hF hd 5 rfl rfl (by kernel_rfl)).2
      refine step_do ho' (wanted_free rfl) ?_
      unfold Oper.wp
      go_simp
      exact hK _ _ (.inr rfl) (hF.j.congr (fun i hi => if_off (by decide) hi) (fun i hi => if_off (by decide) hi) (fun i hi => if_off (by decide) hi))
    · cases ho
  intro L vs V15 hL hJ hf
  obtain ⟨g16, hgg16⟩ := hf 6 _ _ rfl rfl
  obtain ⟨le0, apg16, owng16⟩ := hJ.got (k := 0) (by decide) (hL 6 (by decide)) hgg16 (hL 7 (by decide))
  have le_g16 := show Hid _ from le0
  clear le0
  have hK : Kp [(g16, B32 (bdig y), 22), (b13, B32 (bdig 1), 22), (b10, B32 (bdig s), 22), (b7, B32 (bdig a), 22), (b4, B32 (bdig t), 22), (bN, B32 (bdig n), 22)] w V15 := (hJ.1.cons owng16)
  have e0 : vs 0 = _ := hf 0 _ _ rfl rfl
  have e1 : vs 1 = _ := hf 1 _ _ rfl rfl
  have e2 : vs 2 = _ := hf 2 _ _ rfl rfl
  have e3 : vs 3 = _ := hf 3 _ _ rfl rfl
  have e4 : vs 4 = _ := hf 4 _ _ rfl rfl
  have e5 : vs 5 = _ := hf 5 _ _ rfl rfl
  have e8 : vs 8 = _ := hf 8 _ _ rfl rfl
  simp only [putAll, Nat.zero_add, Nat.reduceAdd, e0, e1, e2, e3, e4, e5, e8, hgg16, Act.put, List.setIfInBounds_toArray, List.set_cons_succ, List.set_cons_zero]
  clear hJ hf hL e0 e1 e2 e3 e4 e5 e8 hgg16 apg16 owng16
  go_upto_region 7 with fail
  refine wp_region_told 106 (by kernel_rfl) (by kernel_rfl) (by rfl) (factTo7 a y) (fun L vs => MkN 1 [(g16, B32 (bdig y), 22), (b13, B32 (bdig 1), 22), (b10, B32 (bdig s), 22), (b7, B32 (bdig a), 22), (b4, B32 (bdig t), 22), (bN, B32 (bdig n), 22)] w (fun _ => B32 fun _ => 0) (fun _ => B32 (bdig y)) (fun _ => 22) (fun i => L (6 + i)) (fun i => L (7 + i)) (fun i => vs (6 + i))) (fun _ => MkN.drew hK (fun _ _ => rfl)) ?_ ?_
  · intro L vs ac wc i o hF hLi ho hd K hK
    rcases i with _ | _ | _ | _ | _ | _ | _ | _ | _ | i
    · have ho' := ho
      obtain rfl := Option.some.inj ho
      refine step_do ho' (wanted_free rfl) ?_
      unfold Oper.wp
      go_simp
      refine (numc_any 8 (by decide) _).mono ?_
      rintro e w' ⟨rfl, hB⟩
      exact hK _ _ (.inr rfl) ((hF.j.congr (fun i hi => if_off (by decide) hi) (fun i hi => if_off (by decide) hi) (fun i hi => if_off (by decide) hi)).below hB)
    · have ho' := ho
      obtain rfl := Option.some.inj ho
      have f5 : ac.tmps.getD 5 undef = .pointer (some ⟨b7, 0, none⟩) := slott hF 1 hLi 5 (by kernel_rfl)
      refine step_do ho' (wanted_free rfl) ?_
      exact wp_load_own 22 (.tmp 5) rfl b7 f5 (B32 (bdig a)) _ 22 (hF.j.1.at b7 (B32 (bdig a)) 22 (.tail _ (.tail _ (.tail _ (.head _))))) Tryd.underlying22 rfl (B32_info _) (hK _ _ (.inr rfl) (hF.j.congr (fun i hi => if_off (by decide) hi) (fun i hi => if_off (by decide) hi) (fun i hi => if_off (by decide) hi)))
    · have ho' := ho
      obtain rfl := Option.some.inj ho
      have f49 : ac.tmps.getD 49 undef = .agg (B32 (bdig 8)) := (factt hF hd 0 rfl rfl (by kernel_rfl)).1.trans (factt hF hd 0 rfl rfl (by kernel_rfl)).2
      have f50 : ac.tmps.getD 50 undef = .agg (B32 (bdig a)) := (factt hF hd 1 rfl rfl (by kernel_rfl)).1.trans (factt hF hd 1 rfl rfl (by kernel_rfl)).2
      refine step_do ho' (wanted_free rfl) ?_
      unfold Oper.wp
      go_simp
      refine (F.mulA (by decide) Ha.out rfl Hy.out _ (F.keep _ _ hT hF.j.1.2)).mono ?_
      rintro e w' ⟨rfl, hB⟩
      exact hK _ _ (.inr rfl) ((hF.j.congr (fun i hi => if_off (by decide) hi) (fun i hi => if_off (by decide) hi) (fun i hi => if_off (by decide) hi)).below hB)
    · have ho' := ho
      obtain rfl := Option.some.inj ho
      have f51 : ac.tmps.getD 51 undef = .tuple #[.agg (B32 (bdig y)), .int .i64 (0)] := (factt hF hd 2 rfl rfl (by kernel_rfl)).1.trans (factt hF hd 2 rfl rfl (by kernel_rfl)).2
      refine step_do ho' (wanted_free rfl) ?_
      unfold Oper.wp
      go_simp
      exact hK _ _ (.inr rfl) (hF.j.congr (fun i hi => if_off (by decide) hi) (fun i hi => if_off (by decide) hi) (fun i hi => if_off (by decide) hi))
    · have ho' := ho
      obtain rfl := Option.some.inj ho
      have f48 : ac.tmps.getD 48 undef = .tuple #[.agg (B32 (bdig y)), .int .i64 (0)] := (factt hF hd 3 rfl rfl (by kernel_rfl)).1.trans (factt hF hd 3 rfl rfl (by kernel_rfl)).2
      refine step_do ho' (wanted_free rfl) ?_
      unfold Oper.wp
      go_simp
      exact hK _ _ (.inr rfl) (hF.j.congr (fun i hi => if_off (by decide) hi) (fun i hi => if_off (by decide) hi) (fun i hi => if_off (by decide) hi))
    · have ho' := ho
      obtain rfl := Option.some.inj ho
      have f48 : ac.tmps.getD 48 undef = .tuple #[.agg (B32 (bdig y)), .int .i64 (0)] := (factt hF hd 3 rfl rfl (by kernel_rfl)).1.trans (factt hF hd 3 rfl rfl (by kernel_rfl)).2
      refine step_do ho' (wanted_free rfl) ?_
      unfold Oper.wp
      go_simp
      exact hK _ _ (.inr rfl) (hF.j.congr (fun i hi => if_off (by decide) hi) (fun i hi => if_off (by decide) hi) (fun i hi => if_off (by decide) hi))
    · have ho' := ho
      obtain rfl := Option.some.inj ho
      refine step_do ho' (wanted_free rfl) ?_
      have hs := notyett hF 6 hLi 7 rfl (by kernel_rfl)
      unfold Oper.wp
      go_simp
      exact hK _ _ (.inr ⟨_, rfl⟩) (hF.j.alloc 0 (fun i _ hne => if_oth (k := 0) rfl hne) (fun i hi => if_off (by decide) hi) (fun i _ hne => if_oth (k := 0) rfl hne) rfl hs)
    · have ho' := ho
      obtain rfl := Option.some.inj ho
      have f52 : ac.tmps.getD 52 undef = .agg (B32 (bdig y)) := (factt hF hd 4 rfl rfl (by kernel_rfl)).1.trans (factt hF hd 4 rfl rfl (by kernel_rfl)).2
      refine step_do ho' (wanted_free rfl) ?_
      obtain ⟨fg, gq, hg⟩ := factt hF hd 6 rfl rfl (by kernel_rfl)
      have hm := dep hd 6 (by kernel_rfl)
      have hj := hF.j
      rw [hg] at fg
      have hj2 := hj.at (k := 0) (by decide) hm hg hLi
      refine wp_store_own 22 (.tmp 12) (.tmp 52) rfl gq (B32 (bdig y)) fg f52 hj2.2.2 (B32_sizes _ _) (B32_info _) (B32_one _) rfl ?_
      exact hK undef _ (.inl rfl) (hj.store (k := 0) (by decide) hm hg hLi (B32_sizes _ _) (fun i hi => if_off (by decide) hi) (fun i _ hne => if_oth (k := 0) rfl hne) (fun i hi => if_off (by decide) hi) rfl)
    · have ho' := ho
      obtain rfl := Option.some.inj ho
      have f53 : ac.tmps.getD 53 undef = .int .i64 (0) := (factt hF hd 5 rfl rfl (by kernel_rfl)).1.trans (factt hF hd 5 rfl rfl (by kernel_rfl)).2
      refine step_do ho' (wanted_free rfl) ?_
      unfold Oper.wp
      go_simp
      exact hK _ _ (.inr rfl) (hF.j.congr (fun i hi => if_off (by decide) hi) (fun i hi => if_off (by decide) hi) (fun i hi => if_off (by decide) hi))
    · cases ho
  intro L vs V17 hL hJ hf
  obtain ⟨g18, hgg18⟩ := hf 6 _ _ rfl rfl
  obtain ⟨le0, apg18, owng18⟩ := hJ.got (k := 0) (by decide) (hL 6 (by decide)) hgg18 (hL 7 (by decide))
  have le_g18 := show Hid _ from le0
  clear le0
  have hK : Kp [(g18, B32 (bdig y), 22), (g16, B32 (bdig y), 22), (b13, B32 (bdig 1), 22), (b10, B32 (bdig s), 22), (b7, B32 (bdig a), 22), (b4, B32 (bdig t), 22), (bN, B32 (bdig n), 22)] w V17 := (hJ.1.cons owng18)
  have e0 : vs 0 = _ := hf 0 _ _ rfl rfl
  have e1 : vs 1 = _ := hf 1 _ _ rfl rfl
  have e2 : vs 2 = _ := hf 2 _ _ rfl rfl
  have e3 : vs 3 = _ := hf 3 _ _ rfl rfl
  have e4 : vs 4 = _ := hf 4 _ _ rfl rfl
  have e5 : vs 5 = _ := hf 5 _ _ rfl rfl
  have e8 : vs 8 = _ := hf 8 _ _ rfl rfl
  simp only [putAll, Nat.zero_add, Nat.reduceAdd, e0, e1, e2, e3, e4, e5, e8, hgg18, Act.put, List.setIfInBounds_toArray, List.set_cons_succ, List.set_cons_zero]
  clear hJ hf hL e0 e1 e2 e3 e4 e5 e8 hgg18 apg18 owng18
  go_upto_region 8 with fail
  refine wp_region_told 106 (by kernel_rfl) (by kernel_rfl) (by rfl) (factTo8 t l) (fun L vs => MkN 1 [(g18, B32 (bdig y), 22), (g16, B32 (bdig y), 22), (b13, B32 (bdig 1), 22), (b10, B32 (bdig s), 22), (b7, B32 (bdig a), 22), (b4, B32 (bdig t), 22), (bN, B32 (bdig n), 22)] w (fun _ => B32 fun _ => 0) (fun _ => B32 (bdig t)) (fun _ => 22) (fun i => L (7 + i)) (fun i => L (8 + i)) (fun i => vs (7 + i))) (fun _ => MkN.drew hK (fun _ _ => rfl)) ?_ ?_
  · intro L vs ac wc i o hF hLi ho hd K hK
    rcases i with _ | _ | _ | _ | _ | _ | _ | _ | _ | _ | i
    · have ho' := ho
      obtain rfl := Option.some.inj ho
      refine step_do ho' (wanted_free rfl) ?_
      unfold Oper.wp
      go_simp
      refine (L_at Hl.out _).mono ?_
      rintro e w' ⟨rfl, hB⟩
      exact hK _ _ (.inr rfl) ((hF.j.congr (fun i hi => if_off (by decide) hi) (fun i hi => if_off (by decide) hi) (fun i hi => if_off (by decide) hi)).below hB)
    · have ho' := ho
      obtain rfl := Option.some.inj ho
      have f55 : ac.tmps.getD 55 undef = .agg (numA l) := (factt hF hd 0 rfl rfl (by kernel_rfl)).1.trans (factt hF hd 0 rfl rfl (by kernel_rfl)).2
      refine step_do ho' (wanted_free rfl) ?_
      unfold Oper.wp
      go_simp
      refine (bytesOf_any l _).mono ?_
      rintro e w' ⟨rfl, hB⟩
      exact hK _ _ (.inr rfl) ((hF.j.congr (fun i hi => if_off (by decide) hi) (fun i hi => if_off (by decide) hi) (fun i hi => if_off (by decide) hi)).below hB)
    · have ho' := ho
      obtain rfl := Option.some.inj ho
      have f4 : ac.tmps.getD 4 undef = .pointer (some ⟨b4, 0, none⟩) := slott hF 2 hLi 4 (by kernel_rfl)
      refine step_do ho' (wanted_free rfl) ?_
      exact wp_load_own 22 (.tmp 4) rfl b4 f4 (B32 (bdig t)) _ 22 (hF.j.1.at b4 (B32 (bdig t)) 22 (.tail _ (.tail _ (.tail _ (.tail _ (.tail _ (.head _))))))) Tryd.underlying22 rfl (B32_info _) (hK _ _ (.inr rfl) (hF.j.congr (fun i hi => if_off (by decide) hi) (fun i hi => if_off (by decide) hi) (fun i hi => if_off (by decide) hi)))
    · have ho' := ho
      obtain rfl := Option.some.inj ho
      have f56 : ac.tmps.getD 56 undef = .agg (B32 (bdig l)) := (factt hF hd 1 rfl rfl (by kernel_rfl)).1.trans (factt hF hd 1 rfl rfl (by kernel_rfl)).2
      have f57 : ac.tmps.getD 57 undef = .agg (B32 (bdig t)) := (factt hF hd 2 rfl rfl (by kernel_rfl)).1.trans (factt hF hd 2 rfl rfl (by kernel_rfl)).2
      refine step_do ho' (wanted_free rfl) ?_
      unfold Oper.wp
      go_simp
      refine (F.mulA hl.out Hte.out HlT.out Hte.out _ (F.keep _ _ hT hF.j.1.2)).mono ?_
      rintro e w' ⟨rfl, hB⟩
      exact hK _ _ (.inr rfl) ((hF.j.congr (fun i hi => if_off (by decide) hi) (fun i hi => if_off (by decide) hi) (fun i hi => if_off (by decide) hi)).below hB)
    · have ho' := ho
      obtain rfl := Option.some.inj ho
      have f58 : ac.tmps.getD 58 undef = .tuple #[.agg (B32 (bdig t)), .int .i64 (0)] := (factt hF hd 3 rfl rfl (by kernel_rfl)).1.trans (factt hF hd 3 rfl rfl (by kernel_rfl)).2
      refine step_do ho' (wanted_free rfl) ?_
      unfold Oper.wp
      go_simp
      exact hK _ _ (.inr rfl) (hF.j.congr (fun i hi => if_off (by decide) hi) (fun i hi => if_off (by decide) hi) (fun i hi => if_off (by decide) hi))
    · have ho' := ho
      obtain rfl := Option.some.inj ho
      have f54 : ac.tmps.getD 54 undef = .tuple #[.agg (B32 (bdig t)), .int .i64 (0)] := (factt hF hd 4 rfl rfl (by kernel_rfl)).1.trans (factt hF hd 4 rfl rfl (by kernel_rfl)).2
      refine step_do ho' (wanted_free rfl) ?_
      unfold Oper.wp
      go_simp
      exact hK _ _ (.inr rfl) (hF.j.congr (fun i hi => if_off (by decide) hi) (fun i hi => if_off (by decide) hi) (fun i hi => if_off (by decide) hi))
    · have ho' := ho
      obtain rfl := Option.some.inj ho
      have f54 : ac.tmps.getD 54 undef = .tuple #[.agg (B32 (bdig t)), .int .i64 (0)] := (factt hF hd 4 rfl rfl (by kernel_rfl)).1.trans (factt hF hd 4 rfl rfl (by kernel_rfl)).2
      refine step_do ho' (wanted_free rfl) ?_
      unfold Oper.wp
      go_simp
      exact hK _ _ (.inr rfl) (hF.j.congr (fun i hi => if_off (by decide) hi) (fun i hi => if_off (by decide) hi) (fun i hi => if_off (by decide) hi))
    · have ho' := ho
      obtain rfl := Option.some.inj ho
      refine step_do ho' (wanted_free rfl) ?_
      have hs := notyett hF 7 hLi 8 rfl (by kernel_rfl)
      unfold Oper.wp
      go_simp
      exact hK _ _ (.inr ⟨_, rfl⟩) (hF.j.alloc 0 (fun i _ hne => if_oth (k := 0) rfl hne) (fun i hi => if_off (by decide) hi) (fun i _ hne => if_oth (k := 0) rfl hne) rfl hs)
    · have ho' := ho
      obtain rfl := Option.some.inj ho
      have f59 : ac.tmps.getD 59 undef = .agg (B32 (bdig t)) := (factt hF hd 5 rfl rfl (by kernel_rfl)).1.trans (factt hF hd 5 rfl rfl (by kernel_rfl)).2
      refine step_do ho' (wanted_free rfl) ?_
      obtain ⟨fg, gq, hg⟩ := factt hF hd 7 rfl rfl (by kernel_rfl)
      have hm := dep hd 7 (by kernel_rfl)
      have hj := hF.j
      rw [hg] at fg
      have hj2 := hj.at (k := 0) (by decide) hm hg hLi
      refine wp_store_own 22 (.tmp 14) (.tmp 59) rfl gq (B32 (bdig t)) fg f59 hj2.2.2 (B32_sizes _ _) (B32_info _) (B32_one _) rfl ?_
      exact hK undef _ (.inl rfl) (hj.store (k := 0) (by decide) hm hg hLi (B32_sizes _ _) (fun i hi => if_off (by decide) hi) (fun i _ hne => if_oth (k := 0) rfl hne) (fun i hi => if_off (by decide) hi) rfl)
    · have ho' := ho
      obtain rfl := Option.some.inj ho
      have f60 : ac.tmps.getD 60 undef = .int .i64 (0) := (factt hF hd 6 rfl rfl (by kernel_rfl)).1.trans (factt hF hd 6 rfl rfl (by kernel_rfl)).2
      refine step_do ho' (wanted_free rfl) ?_
      unfold Oper.wp
      go_simp
      exact hK _ _ (.inr rfl) (hF.j.congr (fun i hi => if_off (by decide) hi) (fun i hi => if_off (by decide) hi) (fun i hi => if_off (by decide) hi))
    · cases ho
  intro L vs V19 hL hJ hf
  obtain ⟨g20, hgg20⟩ := hf 7 _ _ rfl rfl
  obtain ⟨le0, apg20, owng20⟩ := hJ.got (k := 0) (by decide) (hL 7 (by decide)) hgg20 (hL 8 (by decide))
  have le_g20 := show Hid _ from le0
  clear le0
  have hK : Kp [(g20, B32 (bdig t), 22), (g18, B32 (bdig y), 22), (g16, B32 (bdig y), 22), (b13, B32 (bdig 1), 22), (b10, B32 (bdig s), 22), (b7, B32 (bdig a), 22), (b4, B32 (bdig t), 22), (bN, B32 (bdig n), 22)] w V19 := (hJ.1.cons owng20)
  have e0 : vs 0 = _ := hf 0 _ _ rfl rfl
  have e1 : vs 1 = _ := hf 1 _ _ rfl rfl
  have e2 : vs 2 = _ := hf 2 _ _ rfl rfl
  have e3 : vs 3 = _ := hf 3 _ _ rfl rfl
  have e4 : vs 4 = _ := hf 4 _ _ rfl rfl
  have e5 : vs 5 = _ := hf 5 _ _ rfl rfl
  have e6 : vs 6 = _ := hf 6 _ _ rfl rfl
  have e9 : vs 9 = _ := hf 9 _ _ rfl rfl
  simp only [putAll, Nat.zero_add, Nat.reduceAdd, e0, e1, e2, e3, e4, e5, e6, e9, hgg20, Act.put, List.setIfInBounds_toArray, List.set_cons_succ, List.set_cons_zero]
  clear hJ hf hL e0 e1 e2 e3 e4 e5 e6 e9 hgg20 apg20 owng20
  go_upto_region 9 with fail
  have hTq := F.keep _ _ hT hK.2
  have hKq := hK
  clear hK
  refine wp_region_stable 106 (by kernel_rfl) (by kernel_rfl) (by rfl) (fun i vv _ => vv = valTo a s t y i) (fun _ _ _ _ _ h => h) ?_ ?_
  · intro L ac wc i o hF ho hd
    rcases i with _ | _ | _ | _ | _ | _ | _ | _ | _ | _ | _ | _ | _ | _ | _ | _ | _ | _ | _ | _ | _ | _ | _ | _ | _ | _ | _ | _ | _ | _ | _ | _ | _ | _ | _ | _ | _ | _ | _ | _ | _ | _ | _ | _ | _ | _ | i
    · obtain rfl := Option.some.inj ho
      have f4 : ac.tmps.getD 4 undef = .pointer (some ⟨b4, 0, none⟩) := slot hF 4 (by kernel_rfl)
      refine ⟨wanted_free rfl, fun K hK => ?_⟩
      exact wp_load_own 22 (.tmp 4) rfl b4 f4 (B32 (bdig t)) _ 22 ((hKq.below hF.cls).at b4 (B32 (bdig t)) 22 (by simp)) Tryd.underlying22 rfl (B32_info _) (hK _ _ (Below.refl _ _) rfl)
    · obtain rfl := Option.some.inj ho
      have f61 : ac.tmps.getD 61 undef = .agg (B32 (bdig t)) := hF.fact 0 _ _ rfl rfl (dep hd 0 (by kernel_rfl))
      refine ⟨wanted_free rfl, fun K hK => ?_⟩
      unfold Oper.wp
      go_simp
      refine (F.checkA Hte.out _ (F.keep _ _ hTq hF.cls)).mono ?_
      rintro e w' ⟨rfl, hB⟩
      exact hK _ _ hB rfl
    · obtain rfl := Option.some.inj ho
      have f62 : ac.tmps.getD 62 undef = .bool true := hF.fact 1 _ _ rfl rfl (dep hd 1 (by kernel_rfl))
      refine ⟨wanted_free rfl, fun K hK => ?_⟩
      unfold Oper.wp
      go_simp
      exact hK _ _ (Below.refl _ _) rfl
    · obtain rfl := Option.some.inj ho
      have f7 : ac.tmps.getD 7 undef = .int .i64 (0) := slot hF 7 (by kernel_rfl)
      have fg : ac.tmps.getD 63 undef = .bool true := hF.fact 2 _ _ rfl rfl (dep hd 2 (by kernel_rfl))
      refine ⟨wanted_true (g := 2) rfl rfl rfl fg, fun K hK => ?_⟩
      unfold Oper.wp
      go_simp
      exact hK _ _ (Below.refl _ _) rfl
    · obtain rfl := Option.some.inj ho
      have f64 : ac.tmps.getD 64 undef = .int .i64 (0) := hF.fact 3 _ _ rfl rfl (dep hd 3 (by kernel_rfl))
      have fg : ac.tmps.getD 63 undef = .bool true := hF.fact 2 _ _ rfl rfl (dep hd 2 (by kernel_rfl))
      refine ⟨wanted_true (g := 2) rfl rfl rfl fg, fun K hK => ?_⟩
      unfold Oper.wp
      go_simp
      exact hK _ _ (Below.refl _ _) rfl
    · obtain rfl := Option.some.inj ho
      have f63 : ac.tmps.getD 63 undef = .bool true := hF.fact 2 _ _ rfl rfl (dep hd 2 (by kernel_rfl))
      have f65 : ac.tmps.getD 65 undef = .bool true := hF.fact 4 _ _ rfl rfl (dep hd 4 (by kernel_rfl))
      refine ⟨wanted_free rfl, fun K hK => ?_⟩
      unfold Oper.wp
      go_simp
      exact hK _ _ (Below.refl _ _) rfl
    · obtain rfl := Option.some.inj ho
      have f66 : ac.tmps.getD 66 undef = .bool true := hF.fact 5 _ _ rfl rfl (dep hd 5 (by kernel_rfl))
      refine ⟨wanted_free rfl, fun K hK => ?_⟩
      unfold Oper.wp
      go_simp
      exact hK _ _ (Below.refl _ _) rfl
    · obtain rfl := Option.some.inj ho
      have f9 : ac.tmps.getD 9 undef = .int .i64 (0) := slot hF 9 (by kernel_rfl)
      have fg : ac.tmps.getD 67 undef = .bool true := hF.fact 6 _ _ rfl rfl (dep hd 6 (by kernel_rfl))
      refine ⟨wanted_true (g := 6) rfl rfl rfl fg, fun K hK => ?_⟩
      unfold Oper.wp
      go_simp
      exact hK _ _ (Below.refl _ _) rfl
    · obtain rfl := Option.some.inj ho
      have f68 : ac.tmps.getD 68 undef = .int .i64 (0) := hF.fact 7 _ _ rfl rfl (dep hd 7 (by kernel_rfl))
      have fg : ac.tmps.getD 67 undef = .bool true := hF.fact 6 _ _ rfl rfl (dep hd 6 (by kernel_rfl))
      refine ⟨wanted_true (g := 6) rfl rfl rfl fg, fun K hK => ?_⟩
      unfold Oper.wp
      go_simp
      exact hK _ _ (Below.refl _ _) rfl
    · obtain rfl := Option.some.inj ho
      have f67 : ac.tmps.getD 67 undef = .bool true := hF.fact 6 _ _ rfl rfl (dep hd 6 (by kernel_rfl))
      have f69 : ac.tmps.getD 69 undef = .bool true := hF.fact 8 _ _ rfl rfl (dep hd 8 (by kernel_rfl))
      refine ⟨wanted_free rfl, fun K hK => ?_⟩
      unfold Oper.wp
      go_simp
      exact hK _ _ (Below.refl _ _) rfl
    · obtain rfl := Option.some.inj ho
      have f70 : ac.tmps.getD 70 undef = .bool true := hF.fact 9 _ _ rfl rfl (dep hd 9 (by kernel_rfl))
      refine ⟨wanted_free rfl, fun K hK => ?_⟩
      unfold Oper.wp
      go_simp
      exact hK _ _ (Below.refl _ _) rfl
    · obtain rfl := Option.some.inj ho
      have f11 : ac.tmps.getD 11 undef = .int .i64 (0) := slot hF 11 (by kernel_rfl)
      have fg : ac.tmps.getD 71 undef = .bool true := hF.fact 10 _ _ rfl rfl (dep hd 10 (by kernel_rfl))
      refine ⟨wanted_true (g := 10) rfl rfl rfl fg, fun K hK => ?_⟩
      unfold Oper.wp
      go_simp
      exact hK _ _ (Below.refl _ _) rfl
    · obtain rfl := Option.some.inj ho
      have f72 : ac.tmps.getD 72 undef = .int .i64 (0) := hF.fact 11 _ _ rfl rfl (dep hd 11 (by kernel_rfl))
      have fg : ac.tmps.getD 71 undef = .bool true := hF.fact 10 _ _ rfl rfl (dep hd 10 (by kernel_rfl))
      refine ⟨wanted_true (g := 10) rfl rfl rfl fg, fun K hK => ?_⟩
      unfold Oper.wp
      go_simp
      exact hK _ _ (Below.refl _ _) rfl
    · obtain rfl := Option.some.inj ho
      have f71 : ac.tmps.getD 71 undef = .bool true := hF.fact 10 _ _ rfl rfl (dep hd 10 (by kernel_rfl))
      have f73 : ac.tmps.getD 73 undef = .bool true := hF.fact 12 _ _ rfl rfl (dep hd 12 (by kernel_rfl))
      refine ⟨wanted_free rfl, fun K hK => ?_⟩
      unfold Oper.wp
      go_simp
      exact hK _ _ (Below.refl _ _) rfl
    · obtain rfl := Option.some.inj ho
      have f74 : ac.tmps.getD 74 undef = .bool true := hF.fact 13 _ _ rfl rfl (dep hd 13 (by kernel_rfl))
      refine ⟨wanted_free rfl, fun K hK => ?_⟩
      unfold Oper.wp
      go_simp
      exact hK _ _ (Below.refl _ _) rfl
    · obtain rfl := Option.some.inj ho
      have f13 : ac.tmps.getD 13 undef = .int .i64 (0) := slot hF 13 (by kernel_rfl)
      have fg : ac.tmps.getD 75 undef = .bool true := hF.fact 14 _ _ rfl rfl (dep hd 14 (by kernel_rfl))
      refine ⟨wanted_true (g := 14) rfl rfl rfl fg, fun K hK => ?_⟩
      unfold Oper.wp
      go_simp
      exact hK _ _ (Below.refl _ _) rfl
    · obtain rfl := Option.some.inj ho
      have f76 : ac.tmps.getD 76 undef = .int .i64 (0) := hF.fact 15 _ _ rfl rfl (dep hd 15 (by kernel_rfl))
      have fg : ac.tmps.getD 75 undef = .bool true := hF.fact 14 _ _ rfl rfl (dep hd 14 (by kernel_rfl))
      refine ⟨wanted_true (g := 14) rfl rfl rfl fg, fun K hK => ?_⟩
      unfold Oper.wp
      go_simp
      exact hK _ _ (Below.refl _ _) rfl
    · obtain rfl := Option.some.inj ho
      have f75 : ac.tmps.getD 75 undef = .bool true := hF.fact 14 _ _ rfl rfl (dep hd 14 (by kernel_rfl))
      have f77 : ac.tmps.getD 77 undef = .bool true := hF.fact 16 _ _ rfl rfl (dep hd 16 (by kernel_rfl))
      refine ⟨wanted_free rfl, fun K hK => ?_⟩
      unfold Oper.wp
      go_simp
      exact hK _ _ (Below.refl _ _) rfl
    · obtain rfl := Option.some.inj ho
      have f78 : ac.tmps.getD 78 undef = .bool true := hF.fact 17 _ _ rfl rfl (dep hd 17 (by kernel_rfl))
      refine ⟨wanted_free rfl, fun K hK => ?_⟩
      unfold Oper.wp
      go_simp
      exact hK _ _ (Below.refl _ _) rfl
    · obtain rfl := Option.some.inj ho
      have f15 : ac.tmps.getD 15 undef = .int .i64 (0) := slot hF 15 (by kernel_rfl)
      have fg : ac.tmps.getD 79 undef = .bool true := hF.fact 18 _ _ rfl rfl (dep hd 18 (by kernel_rfl))
      refine ⟨wanted_true (g := 18) rfl rfl rfl fg, fun K hK => ?_⟩
      unfold Oper.wp
      go_simp
      exact hK _ _ (Below.refl _ _) rfl
    · obtain rfl := Option.some.inj ho
      have f80 : ac.tmps.getD 80 undef = .int .i64 (0) := hF.fact 19 _ _ rfl rfl (dep hd 19 (by kernel_rfl))
      have fg : ac.tmps.getD 79 undef = .bool true := hF.fact 18 _ _ rfl rfl (dep hd 18 (by kernel_rfl))
      refine ⟨wanted_true (g := 18) rfl rfl rfl fg, fun K hK => ?_⟩
      unfold Oper.wp
      go_simp
      exact hK _ _ (Below.refl _ _) rfl
    · obtain rfl := Option.some.inj ho
      have f79 : ac.tmps.getD 79 undef = .bool true := hF.fact 18 _ _ rfl rfl (dep hd 18 (by kernel_rfl))
      have f81 : ac.tmps.getD 81 undef = .bool true := hF.fact 20 _ _ rfl rfl (dep hd 20 (by kernel_rfl))
      refine ⟨wanted_free rfl, fun K hK => ?_⟩
      unfold Oper.wp
      go_simp
      exact hK _ _ (Below.refl _ _) rfl
    · obtain rfl := Option.some.inj ho
      have f82 : ac.tmps.getD 82 undef = .bool true := hF.fact 21 _ _ rfl rfl (dep hd 21 (by kernel_rfl))
      refine ⟨wanted_free rfl, fun K hK => ?_⟩
      unfold Oper.wp
      go_simp
      exact hK _ _ (Below.refl _ _) rfl
    · obtain rfl := Option.some.inj ho
      have f8 : ac.tmps.getD 8 undef = .pointer (some ⟨b13, 0, none⟩) := slot hF 8 (by kernel_rfl)
      have fg : ac.tmps.getD 83 undef = .bool true := hF.fact 22 _ _ rfl rfl (dep hd 22 (by kernel_rfl))
      refine ⟨wanted_true (g := 22) rfl rfl rfl fg, fun K hK => ?_⟩
      exact wp_load_own 22 (.tmp 8) rfl b13 f8 (B32 (bdig 1)) _ 22 ((hKq.below hF.cls).at b13 (B32 (bdig 1)) 22 (by simp)) Tryd.underlying22 rfl (B32_info _) (hK _ _ (Below.refl _ _) rfl)
    · obtain rfl := Option.some.inj ho
      have fg : ac.tmps.getD 83 undef = .bool true := hF.fact 22 _ _ rfl rfl (dep hd 22 (by kernel_rfl))
      refine ⟨wanted_true (g := 22) rfl rfl rfl fg, fun K hK => ?_⟩
      unfold Oper.wp
      go_simp
      refine (numc_any 1 (by decide) _).mono ?_
      rintro e w' ⟨rfl, hB⟩
      exact hK _ _ hB rfl
    · obtain rfl := Option.some.inj ho
      have f84 : ac.tmps.getD 84 undef = .agg (B32 (bdig 1)) := hF.fact 23 _ _ rfl rfl (dep hd 23 (by kernel_rfl))
      have f85 : ac.tmps.getD 85 undef = .agg (B32 (bdig 1)) := hF.fact 24 _ _ rfl rfl (dep hd 24 (by kernel_rfl))
      have fg : ac.tmps.getD 83 undef = .bool true := hF.fact 22 _ _ rfl rfl (dep hd 22 (by kernel_rfl))
      refine ⟨wanted_true (g := 22) rfl rfl rfl fg, fun K hK => ?_⟩
      unfold Oper.wp
      go_simp
      exact hK _ _ (Below.refl _ _) rfl
    · obtain rfl := Option.some.inj ho
      have f83 : ac.tmps.getD 83 undef = .bool true := hF.fact 22 _ _ rfl rfl (dep hd 22 (by kernel_rfl))
      have f86 : ac.tmps.getD 86 undef = .bool true := hF.fact 25 _ _ rfl rfl (dep hd 25 (by kernel_rfl))
      refine ⟨wanted_free rfl, fun K hK => ?_⟩
      unfold Oper.wp
      go_simp
      exact hK _ _ (Below.refl _ _) rfl
    · obtain rfl := Option.some.inj ho
      have f87 : ac.tmps.getD 87 undef = .bool true := hF.fact 26 _ _ rfl rfl (dep hd 26 (by kernel_rfl))
      refine ⟨wanted_free rfl, fun K hK => ?_⟩
      unfold Oper.wp
      go_simp
      exact hK _ _ (Below.refl _ _) rfl
    · obtain rfl := Option.some.inj ho
      have f10 : ac.tmps.getD 10 undef = .pointer (some ⟨g16, 0, none⟩) := slot hF 10 (by kernel_rfl)
      have fg : ac.tmps.getD 88 undef = .bool true := hF.fact 27 _ _ rfl rfl (dep hd 27 (by kernel_rfl))
      refine ⟨wanted_true (g := 27) rfl rfl rfl fg, fun K hK => ?_⟩
      exact wp_load_own 22 (.tmp 10) rfl g16 f10 (B32 (bdig y)) _ 22 ((hKq.below hF.cls).at g16 (B32 (bdig y)) 22 (by simp)) Tryd.underlying22 rfl (B32_info _) (hK _ _ (Below.refl _ _) rfl)
    · obtain rfl := Option.some.inj ho
      have f12 : ac.tmps.getD 12 undef = .pointer (some ⟨g18, 0, none⟩) := slot hF 12 (by kernel_rfl)
      have fg : ac.tmps.getD 88 undef = .bool true := hF.fact 27 _ _ rfl rfl (dep hd 27 (by kernel_rfl))
      refine ⟨wanted_true (g := 27) rfl rfl rfl fg, fun K hK => ?_⟩
      exact wp_load_own 22 (.tmp 12) rfl g18 f12 (B32 (bdig y)) _ 22 ((hKq.below hF.cls).at g18 (B32 (bdig y)) 22 (by simp)) Tryd.underlying22 rfl (B32_info _) (hK _ _ (Below.refl _ _) rfl)
    · obtain rfl := Option.some.inj ho
      have f89 : ac.tmps.getD 89 undef = .agg (B32 (bdig y)) := hF.fact 28 _ _ rfl rfl (dep hd 28 (by kernel_rfl))
      have f90 : ac.tmps.getD 90 undef = .agg (B32 (bdig y)) := hF.fact 29 _ _ rfl rfl (dep hd 29 (by kernel_rfl))
      have fg : ac.tmps.getD 88 undef = .bool true := hF.fact 27 _ _ rfl rfl (dep hd 27 (by kernel_rfl))
      refine ⟨wanted_true (g := 27) rfl rfl rfl fg, fun K hK => ?_⟩
      unfold Oper.wp
      go_simp
      exact hK _ _ (Below.refl _ _) rfl
    · obtain rfl := Option.some.inj ho
      have f88 : ac.tmps.getD 88 undef = .bool true := hF.fact 27 _ _ rfl rfl (dep hd 27 (by kernel_rfl))
      have f91 : ac.tmps.getD 91 undef = .bool true := hF.fact 30 _ _ rfl rfl (dep hd 30 (by kernel_rfl))
      refine ⟨wanted_free rfl, fun K hK => ?_⟩
      unfold Oper.wp
      go_simp
      exact hK _ _ (Below.refl _ _) rfl
    · obtain rfl := Option.some.inj ho
      have f92 : ac.tmps.getD 92 undef = .bool true := hF.fact 31 _ _ rfl rfl (dep hd 31 (by kernel_rfl))
      refine ⟨wanted_free rfl, fun K hK => ?_⟩
      unfold Oper.wp
      go_simp
      exact hK _ _ (Below.refl _ _) rfl
    · obtain rfl := Option.some.inj ho
      have f6 : ac.tmps.getD 6 undef = .pointer (some ⟨b10, 0, none⟩) := slot hF 6 (by kernel_rfl)
      have fg : ac.tmps.getD 93 undef = .bool true := hF.fact 32 _ _ rfl rfl (dep hd 32 (by kernel_rfl))
      refine ⟨wanted_true (g := 32) rfl rfl rfl fg, fun K hK => ?_⟩
      exact wp_load_own 22 (.tmp 6) rfl b10 f6 (B32 (bdig s)) _ 22 ((hKq.below hF.cls).at b10 (B32 (bdig s)) 22 (by simp)) Tryd.underlying22 rfl (B32_info _) (hK _ _ (Below.refl _ _) rfl)
    · obtain rfl := Option.some.inj ho
      have f5 : ac.tmps.getD 5 undef = .pointer (some ⟨b7, 0, none⟩) := slot hF 5 (by kernel_rfl)
      have fg : ac.tmps.getD 93 undef = .bool true := hF.fact 32 _ _ rfl rfl (dep hd 32 (by kernel_rfl))
      refine ⟨wanted_true (g := 32) rfl rfl rfl fg, fun K hK => ?_⟩
      exact wp_load_own 22 (.tmp 5) rfl b7 f5 (B32 (bdig a)) _ 22 ((hKq.below hF.cls).at b7 (B32 (bdig a)) 22 (by simp)) Tryd.underlying22 rfl (B32_info _) (hK _ _ (Below.refl _ _) rfl)
    · obtain rfl := Option.some.inj ho
      have f94 : ac.tmps.getD 94 undef = .agg (B32 (bdig s)) := hF.fact 33 _ _ rfl rfl (dep hd 33 (by kernel_rfl))
      have f95 : ac.tmps.getD 95 undef = .agg (B32 (bdig a)) := hF.fact 34 _ _ rfl rfl (dep hd 34 (by kernel_rfl))
      have fg : ac.tmps.getD 93 undef = .bool true := hF.fact 32 _ _ rfl rfl (dep hd 32 (by kernel_rfl))
      refine ⟨wanted_true (g := 32) rfl rfl rfl fg, fun K hK => ?_⟩
      unfold Oper.wp
      go_simp
      exact hK _ _ (Below.refl _ _) rfl
    · obtain rfl := Option.some.inj ho
      have f93 : ac.tmps.getD 93 undef = .bool true := hF.fact 32 _ _ rfl rfl (dep hd 32 (by kernel_rfl))
      have f96 : ac.tmps.getD 96 undef = .bool true := hF.fact 35 _ _ rfl rfl (dep hd 35 (by kernel_rfl))
      refine ⟨wanted_free rfl, fun K hK => ?_⟩
      unfold Oper.wp
      go_simp
      exact hK _ _ (Below.refl _ _) rfl
    · obtain rfl := Option.some.inj ho
      have f97 : ac.tmps.getD 97 undef = .bool true := hF.fact 36 _ _ rfl rfl (dep hd 36 (by kernel_rfl))
      refine ⟨wanted_free rfl, fun K hK => ?_⟩
      unfold Oper.wp
      go_simp
      exact hK _ _ (Below.refl _ _) rfl
    · obtain rfl := Option.some.inj ho
      have f14 : ac.tmps.getD 14 undef = .pointer (some ⟨g20, 0, none⟩) := slot hF 14 (by kernel_rfl)
      have fg : ac.tmps.getD 98 undef = .bool true := hF.fact 37 _ _ rfl rfl (dep hd 37 (by kernel_rfl))
      refine ⟨wanted_true (g := 37) rfl rfl rfl fg, fun K hK => ?_⟩
      exact wp_load_own 22 (.tmp 14) rfl g20 f14 (B32 (bdig t)) _ 22 ((hKq.below hF.cls).at g20 (B32 (bdig t)) 22 (by simp)) Tryd.underlying22 rfl (B32_info _) (hK _ _ (Below.refl _ _) rfl)
    · obtain rfl := Option.some.inj ho
      have f4 : ac.tmps.getD 4 undef = .pointer (some ⟨b4, 0, none⟩) := slot hF 4 (by kernel_rfl)
      have fg : ac.tmps.getD 98 undef = .bool true := hF.fact 37 _ _ rfl rfl (dep hd 37 (by kernel_rfl))
      refine ⟨wanted_true (g := 37) rfl rfl rfl fg, fun K hK => ?_⟩
      exact wp_load_own 22 (.tmp 4) rfl b4 f4 (B32 (bdig t)) _ 22 ((hKq.below hF.cls).at b4 (B32 (bdig t)) 22 (by simp)) Tryd.underlying22 rfl (B32_info _) (hK _ _ (Below.refl _ _) rfl)
    · obtain rfl := Option.some.inj ho
      have f99 : ac.tmps.getD 99 undef = .agg (B32 (bdig t)) := hF.fact 38 _ _ rfl rfl (dep hd 38 (by kernel_rfl))
      have f100 : ac.tmps.getD 100 undef = .agg (B32 (bdig t)) := hF.fact 39 _ _ rfl rfl (dep hd 39 (by kernel_rfl))
      have fg : ac.tmps.getD 98 undef = .bool true := hF.fact 37 _ _ rfl rfl (dep hd 37 (by kernel_rfl))
      refine ⟨wanted_true (g := 37) rfl rfl rfl fg, fun K hK => ?_⟩
      unfold Oper.wp
      go_simp
      exact hK _ _ (Below.refl _ _) rfl
    · obtain rfl := Option.some.inj ho
      have f98 : ac.tmps.getD 98 undef = .bool true := hF.fact 37 _ _ rfl rfl (dep hd 37 (by kernel_rfl))
      have f101 : ac.tmps.getD 101 undef = .bool true := hF.fact 40 _ _ rfl rfl (dep hd 40 (by kernel_rfl))
      refine ⟨wanted_free rfl, fun K hK => ?_⟩
      unfold Oper.wp
      go_simp
      exact hK _ _ (Below.refl _ _) rfl
    · obtain rfl := Option.some.inj ho
      have f102 : ac.tmps.getD 102 undef = .bool true := hF.fact 41 _ _ rfl rfl (dep hd 41 (by kernel_rfl))
      refine ⟨wanted_free rfl, fun K hK => ?_⟩
      unfold Oper.wp
      go_simp
      exact hK _ _ (Below.refl _ _) rfl
    · obtain rfl := Option.some.inj ho
      have fg : ac.tmps.getD 103 undef = .bool true := hF.fact 42 _ _ rfl rfl (dep hd 42 (by kernel_rfl))
      refine ⟨wanted_true (g := 42) rfl rfl rfl fg, fun K hK => ?_⟩
      unfold Oper.wp
      go_simp
      refine (cwakes_any F _ (F.keep _ _ hTq hF.cls)).mono ?_
      rintro e w' ⟨rfl, hB⟩
      exact hK _ _ hB rfl
    · obtain rfl := Option.some.inj ho
      have f103 : ac.tmps.getD 103 undef = .bool true := hF.fact 42 _ _ rfl rfl (dep hd 42 (by kernel_rfl))
      have f104 : ac.tmps.getD 104 undef = .bool true := hF.fact 43 _ _ rfl rfl (dep hd 43 (by kernel_rfl))
      refine ⟨wanted_free rfl, fun K hK => ?_⟩
      unfold Oper.wp
      go_simp
      exact hK _ _ (Below.refl _ _) rfl
    · obtain rfl := Option.some.inj ho
      have f105 : ac.tmps.getD 105 undef = .bool true := hF.fact 44 _ _ rfl rfl (dep hd 44 (by kernel_rfl))
      refine ⟨wanted_free rfl, fun K hK => ?_⟩
      unfold Oper.wp
      go_simp
      exact hK _ _ (Below.refl _ _) rfl
    · cases ho
  · intro L ac wc hL hF
    have fe : ac.tmps.getD 2 undef = .bool true := hF.fact 45 _ 2 rfl rfl (hL 45 (by decide))
    have hb' := (hKq.below hF.cls).2
    go_wp2
    exact bodyPost_ret (results_tmp rfl _ _ _) hF.defers ⟨by rw [fe], hb'⟩
end Go.Proofs.YtaekpoiaigklgabDoor
