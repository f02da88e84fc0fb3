/- The walk of the law CurveTimes, over the program's functions by their contracts. -/
import Derived.Test.YtaekpoiaigklgaaDoorY1
namespace Go.Proofs.YtaekpoiaigklgaaDoor
open Go Go.RowKit
theorem B32_nought : (B32 fun _ => 0) = B32 (bdig 0) := B32_ext fun i _ => by unfold bdig; rw [Nat.zero_div, Nat.zero_mod]
theorem muladd_nought {a b d : Nat} (ha : a < R256) (hb : b < R256) (hd : a * b % LL = d) (w : World) : Calls Tryd.prog 24 #[.agg (B32 (bdig a)), .agg (B32 (bdig b)), .agg (B32 fun _ => 0)] w fun x w' => x = .returned (.agg (B32 (bdig d))) ∧ Below w.heap.size w w' := by
  rw [B32_nought]
  exact muladd_at ha hb (by decide) (by rw [Nat.add_zero]; exact hd) w
theorem times_L (n : Nat) : Pt.times LL (Pt.times n BP) = Pt.zero := by rw [← Pt.times_mul, Nat.mul_comm, Pt.times_mul, base_L, Pt.times_nought]
def factTi4 (m k p s y : Nat) : Nat → Value → Prop
  | 0, vq => vq = .agg (B32 (bdig m))
  | 1, vq => vq = .agg (B32 (bdig k))
  | 2, vq => vq = .agg (B32 fun _ => 0)
  | 3, vq => vq = .agg (B32 (bdig s))
  | 4, vq => vq = .agg (B32 (bdig p))
  | 5, vq => vq = .tuple #[.agg (B32 (bdig y)), .int .i64 (0)]
  | 6, vq => vq = .tuple #[.agg (B32 (bdig y)), .int .i64 (0)]
  | 7, vq => vq = .agg (B32 (bdig y))
  | 8, vq => vq = .int .i64 (0)
  | 11, vq => vq = .int .i64 (0)
  | 9, vq => ∃ g, vq = .pointer (some ⟨g, 0, none⟩)
  | _, _ => True
def factTi6 (p d : Nat) : Nat → Value → Prop
  | 0, vq => vq = .agg (B32 (bdig 2))
  | 1, vq => vq = .agg (B32 (bdig p))
  | 2, vq => vq = .tuple #[.agg (B32 (bdig d)), .int .i64 (0)]
  | 3, vq => vq = .tuple #[.agg (B32 (bdig d)), .int .i64 (0)]
  | 4, vq => vq = .agg (B32 (bdig d))
  | 5, vq => vq = .int .i64 (0)
  | 8, vq => vq = .int .i64 (0)
  | 6, vq => ∃ g, vq = .pointer (some ⟨g, 0, none⟩)
  | _, _ => True
def factTi7 (k : Nat) : Nat → Value → Prop
  | 0, vq => vq = .agg (B32 (bdig k))
  | 1, vq => vq = .agg (B32 (bdig 1))
  | 2, vq => vq = .tuple #[.agg (B32 (bdig 1)), .int .i64 (0)]
  | 3, vq => vq = .tuple #[.agg (B32 (bdig 1)), .int .i64 (0)]
  | 4, vq => vq = .agg (B32 (bdig 1))
  | 5, vq => vq = .int .i64 (0)
  | 8, vq => vq = .int .i64 (0)
  | 6, vq => ∃ g, vq = .pointer (some ⟨g, 0, none⟩)
  | _, _ => True
def valTi (y d : Nat) : Nat → Value
  | 0 => .int .i64 (0)
  | 3 => .int .i64 (0)
  | 7 => .int .i64 (0)
  | 11 => .int .i64 (0)
  | 15 => .int .i64 (0)
  | 19 => .int .i64 (0)
  | 23 => .agg (B32 (bdig y))
  | 24 => .agg (B32 (bdig y))
  | 28 => .agg (B32 (bdig d))
  | 29 => .agg (B32 (bdig d))
  | 33 => .agg (B32 (bdig 1))
  | 34 => .agg (B32 (bdig 1))
  | _ => .bool true

set_option maxRecDepth 100000 in
set_option maxHeartbeats 4000000 in
theorem ctimes_any {T : World → Prop} (F : Crv T) (n m k : Nat) (hn : Hid (n < R256)) (hm : Hid (m < R256)) (hk : Hid (k < R256)) (w : World) (hT : T w) : Calls Tryd.prog 8 #[.agg (B32 (bdig n)), .agg (B32 (bdig m)), .agg (B32 (bdig k))] w fun x w' => x = .returned (.bool true) ∧ Below w.heap.size w w' := by
  have hz := (zero_of_info zeroB32).1
  obtain ⟨p, Hp⟩ : ∃ a, Hid (enc (Pt.times n BP) = a) := ⟨_, rfl⟩
  obtain ⟨x, Hx⟩ : ∃ a, Hid (enc (Pt.times m (Pt.times n BP)) = a) := ⟨_, rfl⟩
  obtain ⟨y, Hy⟩ : ∃ a, Hid (enc (Pt.times k (Pt.times m (Pt.times n BP))) = a) := ⟨_, rfl⟩
  obtain ⟨d, Hd⟩ : ∃ a, Hid (enc ((Pt.times n BP).add (Pt.times n BP)) = a) := ⟨_, rfl⟩
  obtain ⟨s, Hs⟩ : ∃ a, Hid (m * k % LL = a) := ⟨_, rfl⟩
  have hs : Hid (s < R256) := by show _ < _; rw [← Hs.out]; exact lt_of_modL
  have Hsy : Hid (Pt.times s (Pt.times n BP) = Pt.times k (Pt.times m (Pt.times n BP))) := by show _ = _; rw [← Hs.out, Pt.times_mod (times_L n), Pt.times_mul]
  have same_y := B32_same y (by rw [← Hy.out]; exact enc_R _)
  have same_d := B32_same d (by rw [← Hd.out]; exact enc_R _)
  have same_1 := B32_same 1 (by decide)
  go_enter Tryd.func8, Tryd.ntmps8
  go_upto_region 1 with fail
  have hK := (((Kp.nil w).alloc (B32 (bdig n)) 22).alloc (B32 (bdig m)) 22).alloc (B32 (bdig k)) 22
  rw [World.size_alloc, World.size_alloc] at hK
  generalize ((w.alloc (.cells (B32 (bdig n)) 22)).alloc (.cells (B32 (bdig m)) 22)).alloc (.cells (B32 (bdig k)) 22) = W at *
  obtain ⟨bN, HbN⟩ : ∃ b, Hid (w.heap.size = b) := ⟨_, rfl⟩
  obtain ⟨bM, HbM⟩ : ∃ b, Hid (bN + 1 = b) := ⟨_, rfl⟩
  obtain ⟨bK, HbK⟩ : ∃ b, Hid (bM + 1 = b) := ⟨_, rfl⟩
  have le_bN : Hid (w.heap.size ≤ bN) := by show _ ≤ _; have := HbN.out; omega
  have le_bM : Hid (w.heap.size ≤ bM) := by show _ ≤ _; have := HbN.out; have := HbM.out; omega
  have le_bK : Hid (w.heap.size ≤ bK) := by show _ ≤ _; have := HbN.out; have := HbM.out; have := HbK.out; omega
  have ne_bN_bM : Hid (bN ≠ bM) := by show _ ≠ _; have := HbM.out; omega
  have ne_bN_bK : Hid (bN ≠ bK) := by show _ ≠ _; have := HbM.out; have := HbK.out; omega
  have ne_bM_bK : Hid (bM ≠ bK) := by show _ ≠ _; have := HbK.out; omega
  rw [HbN.out, HbM.out, HbK.out] at hK ⊢
  go_wp2_with (refine wpList_load_own (by rfl) 22 (.tmp 3) (by rfl) bN (by rfl) (B32 (bdig n)) _ (hK.at bN (B32 (bdig n)) 22 (.tail _ (.tail _ (.head _)))) Tryd.underlying22 (by rfl) (B32_info _) ?_)
  refine (F.baseA hn.out Hp.out _ (F.keep _ _ hT hK.2)).mono ?_
  rintro e V1 ⟨rfl, bw⟩
  have hK := hK.below bw
  clear bw
  go_upto_region 2 with (refine wpList_store_new (by rfl) 22 (.tmp 7) (.tmp 21) (by rfl) _ (B32 (bdig p)) (by rfl) (by rfl) (B32_info _) (B32_sizes _ _) (B32_one _) (by rfl) ?_)
  have lt_bK := (hK.at bK (B32 (bdig k)) 22 (.head _)).lt
  have lt_bM := (hK.at bM (B32 (bdig m)) 22 (.tail _ (.head _))).lt
  have lt_bN := (hK.at bN (B32 (bdig n)) 22 (.tail _ (.tail _ (.head _)))).lt
  have le_b2 := show Hid _ from hK.2.size
  have hK := hK.alloc (B32 (bdig p)) 22
  generalize V1.alloc (.cells (B32 (bdig p)) 22) = V3 at *
  obtain ⟨b2, Hb2⟩ : ∃ b, Hid (V1.heap.size = b) := ⟨_, rfl⟩
  have ne_bK_b2 : Hid (bK ≠ b2) := by show _ ≠ _; rw [← Hb2.out]; exact Nat.ne_of_lt lt_bK
  have ne_bM_b2 : Hid (bM ≠ b2) := by show _ ≠ _; rw [← Hb2.out]; exact Nat.ne_of_lt lt_bM
  have ne_bN_b2 : Hid (bN ≠ b2) := by show _ ≠ _; rw [← Hb2.out]; exact Nat.ne_of_lt lt_bN
  have le_b2 : Hid (w.heap.size ≤ b2) := by show _ ≤ _; rw [← Hb2.out]; exact le_b2.out
  rw [Hb2.out] at hK ⊢
  clear lt_bK lt_bM lt_bN
  go_wp2_with (first
    | refine wpList_load_own (by rfl) 22 (.tmp 4) (by rfl) bM (by rfl) (B32 (bdig m)) _ (hK.at bM (B32 (bdig m)) 22 (.tail _ (.tail _ (.head _)))) Tryd.underlying22 (by rfl) (B32_info _) ?_
    | refine wpList_load_own (by rfl) 22 (.tmp 7) (by rfl) b2 (by rfl) (B32 (bdig p)) _ (hK.at b2 (B32 (bdig p)) 22 (.head _)) Tryd.underlying22 (by rfl) (B32_info _) ?_)
  refine (F.mulA hm.out Hp.out rfl Hx.out _ (F.keep _ _ hT hK.2)).mono ?_
  rintro e V4 ⟨rfl, bw⟩
  have hK := hK.below bw
  clear bw
  go_upto_region 3 with (refine wpList_store_new (by rfl) 22 (.tmp 8) (.tmp 26) (by rfl) _ (B32 (bdig x)) (by rfl) (by rfl) (B32_info _) (B32_sizes _ _) (B32_one _) (by rfl) ?_)
  have lt_b2 := (hK.at b2 (B32 (bdig p)) 22 (.head _)).lt
  have lt_bK := (hK.at bK (B32 (bdig k)) 22 (.tail _ (.head _))).lt
  have lt_bM := (hK.at bM (B32 (bdig m)) 22 (.tail _ (.tail _ (.head _)))).lt
  have lt_bN := (hK.at bN (B32 (bdig n)) 22 (.tail _ (.tail _ (.tail _ (.head _))))).lt
  have le_b5 := show Hid _ from hK.2.size
  have hK := hK.alloc (B32 (bdig x)) 22
  generalize V4.alloc (.cells (B32 (bdig x)) 22) = V6 at *
  obtain ⟨b5, Hb5⟩ : ∃ b, Hid (V4.heap.size = b) := ⟨_, rfl⟩
  have ne_b2_b5 : Hid (b2 ≠ b5) := by show _ ≠ _; rw [← Hb5.out]; exact Nat.ne_of_lt lt_b2
  have ne_bK_b5 : Hid (bK ≠ b5) := by show _ ≠ _; rw [← Hb5.out]; exact Nat.ne_of_lt lt_bK
  have ne_bM_b5 : Hid (bM ≠ b5) := by show _ ≠ _; rw [← Hb5.out]; exact Nat.ne_of_lt lt_bM
  have ne_bN_b5 : Hid (bN ≠ b5) := by show _ ≠ _; rw [← Hb5.out]; exact Nat.ne_of_lt lt_bN
  have le_b5 : Hid (w.heap.size ≤ b5) := by show _ ≤ _; rw [← Hb5.out]; exact le_b5.out
  rw [Hb5.out] at hK ⊢
  clear lt_b2 lt_bK lt_bM lt_bN
  go_wp2_with (first
    | refine wpList_load_own (by rfl) 22 (.tmp 5) (by rfl) bK (by rfl) (B32 (bdig k)) _ (hK.at bK (B32 (bdig k)) 22 (.tail _ (.tail _ (.head _)))) Tryd.underlying22 (by rfl) (B32_info _) ?_
    | refine wpList_load_own (by rfl) 22 (.tmp 8) (by rfl) b5 (by rfl) (B32 (bdig x)) _ (hK.at b5 (B32 (bdig x)) 22 (.head _)) Tryd.underlying22 (by rfl) (B32_info _) ?_)
  refine (F.mulA hk.out Hx.out rfl Hy.out _ (F.keep _ _ hT hK.2)).mono ?_
  rintro e V7 ⟨rfl, bw⟩
  have hK := hK.below bw
  clear bw
  go_upto_region 4 with (refine wpList_store_new (by rfl) 22 (.tmp 10) (.tmp 32) (by rfl) _ (B32 (bdig y)) (by rfl) (by rfl) (B32_info _) (B32_sizes _ _) (B32_one _) (by rfl) ?_)
  have lt_b5 := (hK.at b5 (B32 (bdig x)) 22 (.head _)).lt
  have lt_b2 := (hK.at b2 (B32 (bdig p)) 22 (.tail _ (.head _))).lt
  have lt_bK := (hK.at bK (B32 (bdig k)) 22 (.tail _ (.tail _ (.head _)))).lt
  have lt_bM := (hK.at bM (B32 (bdig m)) 22 (.tail _ (.tail _ (.tail _ (.head _))))).lt
  have lt_bN := (hK.at bN (B32 (bdig n)) 22 (.tail _ (.tail _ (.tail _ (.tail _ (.head _)))))).lt
  have le_b8 := show Hid _ from hK.2.size
  have hK := hK.alloc (B32 (bdig y)) 22
  generalize V7.alloc (.cells (B32 (bdig y)) 22) = V9 at *
  obtain ⟨b8, Hb8⟩ : ∃ b, Hid (V7.heap.size = b) := ⟨_, rfl⟩
  have ne_b5_b8 : Hid (b5 ≠ b8) := by show _ ≠ _; rw [← Hb8.out]; exact Nat.ne_of_lt lt_b5
  have ne_b2_b8 : Hid (b2 ≠ b8) := by show _ ≠ _; rw [← Hb8.out]; exact Nat.ne_of_lt lt_b2
  have ne_bK_b8 : Hid (bK ≠ b8) := by show _ ≠ _; rw [← Hb8.out]; exact Nat.ne_of_lt lt_bK
  have ne_bM_b8 : Hid (bM ≠ b8) := by show _ ≠ _; rw [← Hb8.out]; exact Nat.ne_of_lt lt_bM
  have ne_bN_b8 : Hid (bN ≠ b8) := by show _ ≠ _; rw [← Hb8.out]; exact Nat.ne_of_lt lt_bN
  have le_b8 : Hid (w.heap.size ≤ b8) := by show _ ≤ _; rw [← Hb8.out]; exact le_b8.out
  rw [Hb8.out] at hK ⊢
  clear lt_b5 lt_b2 lt_bK lt_bM lt_bN
  refine wp_region_told 101 (by kernel_rfl) (by kernel_rfl) (by rfl) (factTi4 m k p s y) (fun L vs => MkN 1 [(b8, B32 (bdig y), 22), (b5, B32 (bdig x), 22), (b2, B32 (bdig p), 22), (bK, B32 (bdig k), 22), (bM, B32 (bdig m), 22), (bN, B32 (bdig n), 22)] w (fun _ => B32 fun _ => 0) (fun _ => B32 (bdig y)) (fun _ => 22) (fun i => L (9 + i)) (fun i => L (10 + i)) (fun i => vs (9 + i))) (fun _ => MkN.drew hK (fun _ _ => rfl)) ?_ ?_
  · intro L vs ac wc i o hF hLi ho hd K hK
    rcases i with _ | _ | _ | _ | _ | _ | _ | _ | _ | _ | _ | _ | i
    · have ho' := ho
      obtain rfl := Option.some.inj ho
      have f4 : ac.tmps.getD 4 undef = .pointer (some ⟨bM, 0, none⟩) := slott hF 0 hLi 4 (by kernel_rfl)
      refine step_do ho' (wanted_free rfl) ?_
      exact wp_load_own 22 (.tmp 4) rfl bM f4 (B32 (bdig m)) _ 22 (hF.j.1.at bM (B32 (bdig m)) 22 (.tail _ (.tail _ (.tail _ (.tail _ (.head _)))))) Tryd.underlying22 rfl (B32_info _) (hK _ _ (.inr rfl) (hF.j.congr (fun i hi => if_off (by decide) hi) (fun i hi => if_off (by decide) hi) (fun i hi => if_off (by decide) hi)))
    · have ho' := ho
      obtain rfl := Option.some.inj ho
      have f5 : ac.tmps.getD 5 undef = .pointer (some ⟨bK, 0, none⟩) := slott hF 1 hLi 5 (by kernel_rfl)
      refine step_do ho' (wanted_free rfl) ?_
      exact wp_load_own 22 (.tmp 5) rfl bK f5 (B32 (bdig k)) _ 22 (hF.j.1.at bK (B32 (bdig k)) 22 (.tail _ (.tail _ (.tail _ (.head _))))) Tryd.underlying22 rfl (B32_info _) (hK _ _ (.inr rfl) (hF.j.congr (fun i hi => if_off (by decide) hi) (fun i hi => if_off (by decide) hi) (fun i hi => if_off (by decide) hi)))
    · have ho' := ho
      obtain rfl := Option.some.inj ho
      refine step_do ho' (wanted_free rfl) ?_
      unfold Oper.wp
      go_simp
      exact hK _ _ (.inr rfl) (hF.j.congr (fun i hi => if_off (by decide) hi) (fun i hi => if_off (by decide) hi) (fun i hi => if_off (by decide) hi))
    · have ho' := ho
      obtain rfl := Option.some.inj ho
      have f35 : ac.tmps.getD 35 undef = .agg (B32 (bdig m)) := (factt hF hd 0 rfl rfl (by kernel_rfl)).1.trans (factt hF hd 0 rfl rfl (by kernel_rfl)).2
      have f36 : ac.tmps.getD 36 undef = .agg (B32 (bdig k)) := (factt hF hd 1 rfl rfl (by kernel_rfl)).1.trans (factt hF hd 1 rfl rfl (by kernel_rfl)).2
      have f37 : ac.tmps.getD 37 undef = .agg (B32 fun _ => 0) := (factt hF hd 2 rfl rfl (by kernel_rfl)).1.trans (factt hF hd 2 rfl rfl (by kernel_rfl)).2
      refine step_do ho' (wanted_free rfl) ?_
      unfold Oper.wp
      go_simp
      refine (muladd_nought hm.out hk.out Hs.out _).mono ?_
      rintro e w' ⟨rfl, hB⟩
      exact hK _ _ (.inr rfl) ((hF.j.congr (fun i hi => if_off (by decide) hi) (fun i hi => if_off (by decide) hi) (fun i hi => if_off (by decide) hi)).below hB)
    · have ho' := ho
      obtain rfl := Option.some.inj ho
      have f7 : ac.tmps.getD 7 undef = .pointer (some ⟨b2, 0, none⟩) := slott hF 4 hLi 7 (by kernel_rfl)
      refine step_do ho' (wanted_free rfl) ?_
      exact wp_load_own 22 (.tmp 7) rfl b2 f7 (B32 (bdig p)) _ 22 (hF.j.1.at b2 (B32 (bdig p)) 22 (.tail _ (.tail _ (.head _)))) Tryd.underlying22 rfl (B32_info _) (hK _ _ (.inr rfl) (hF.j.congr (fun i hi => if_off (by decide) hi) (fun i hi => if_off (by decide) hi) (fun i hi => if_off (by decide) hi)))
    · have ho' := ho
      obtain rfl := Option.some.inj ho
      have f38 : ac.tmps.getD 38 undef = .agg (B32 (bdig s)) := (factt hF hd 3 rfl rfl (by kernel_rfl)).1.trans (factt hF hd 3 rfl rfl (by kernel_rfl)).2
      have f39 : ac.tmps.getD 39 undef = .agg (B32 (bdig p)) := (factt hF hd 4 rfl rfl (by kernel_rfl)).1.trans (factt hF hd 4 rfl rfl (by kernel_rfl)).2
      refine step_do ho' (wanted_free rfl) ?_
      unfold Oper.wp
      go_simp
      refine (F.mulA hs.out Hp.out Hsy.out Hy.out _ (F.keep _ _ hT hF.j.1.2)).mono ?_
      rintro e w' ⟨rfl, hB⟩
      exact hK _ _ (.inr rfl) ((hF.j.congr (fun i hi => if_off (by decide) hi) (fun i hi => if_off (by decide) hi) (fun i hi => if_off (by decide) hi)).below hB)
    · have ho' := ho
      obtain rfl := Option.some.inj ho
      have f40 : ac.tmps.getD 40 undef = .tuple #[.agg (B32 (bdig y)), .int .i64 (0)] := (factt hF hd 5 rfl rfl (by kernel_rfl)).1.trans (factt hF hd 5 rfl rfl (by kernel_rfl)).2
      refine step_do ho' (wanted_free rfl) ?_
      unfold Oper.wp
      go_simp
      exact hK _ _ (.inr rfl) (hF.j.congr (fun i hi => if_off (by decide) hi) (fun i hi => if_off (by decide) hi) (fun i hi => if_off (by decide) hi))
    · have ho' := ho
      obtain rfl := Option.some.inj ho
      have f34 : ac.tmps.getD 34 undef = .tuple #[.agg (B32 (bdig y)), .int .i64 (0)] := (factt hF hd 6 rfl rfl (by kernel_rfl)).1.trans (factt hF hd 6 rfl rfl (by kernel_rfl)).2
      refine step_do ho' (wanted_free rfl) ?_
      unfold Oper.wp
      go_simp
      exact hK _ _ (.inr rfl) (hF.j.congr (fun i hi => if_off (by decide) hi) (fun i hi => if_off (by decide) hi) (fun i hi => if_off (by decide) hi))
    · have ho' := ho
      obtain rfl := Option.some.inj ho
      have f34 : ac.tmps.getD 34 undef = .tuple #[.agg (B32 (bdig y)), .int .i64 (0)] := (factt hF hd 6 rfl rfl (by kernel_rfl)).1.trans (factt hF hd 6 rfl rfl (by kernel_rfl)).2
      refine step_do ho' (wanted_free rfl) ?_
      unfold Oper.wp
      go_simp
      exact hK _ _ (.inr rfl) (hF.j.congr (fun i hi => if_off (by decide) hi) (fun i hi => if_off (by decide) hi) (fun i hi => if_off (by decide) hi))
    · have ho' := ho
      obtain rfl := Option.some.inj ho
      refine step_do ho' (wanted_free rfl) ?_
      have hs := notyett hF 9 hLi 10 rfl (by kernel_rfl)
      unfold Oper.wp
      go_simp
      exact hK _ _ (.inr ⟨_, rfl⟩) (hF.j.alloc 0 (fun i _ hne => if_oth (k := 0) rfl hne) (fun i hi => if_off (by decide) hi) (fun i _ hne => if_oth (k := 0) rfl hne) rfl hs)
    · have ho' := ho
      obtain rfl := Option.some.inj ho
      have f41 : ac.tmps.getD 41 undef = .agg (B32 (bdig y)) := (factt hF hd 7 rfl rfl (by kernel_rfl)).1.trans (factt hF hd 7 rfl rfl (by kernel_rfl)).2
      refine step_do ho' (wanted_free rfl) ?_
      obtain ⟨fg, gq, hg⟩ := factt hF hd 9 rfl rfl (by kernel_rfl)
      have hm := dep hd 9 (by kernel_rfl)
      have hj := hF.j
      rw [hg] at fg
      have hj2 := hj.at (k := 0) (by decide) hm hg hLi
      refine wp_store_own 22 (.tmp 12) (.tmp 41) rfl gq (B32 (bdig y)) fg f41 hj2.2.2 (B32_sizes _ _) (B32_info _) (B32_one _) rfl ?_
      exact hK undef _ (.inl rfl) (hj.store (k := 0) (by decide) hm hg hLi (B32_sizes _ _) (fun i hi => if_off (by decide) hi) (fun i _ hne => if_oth (k := 0) rfl hne) (fun i hi => if_off (by decide) hi) rfl)
    · have ho' := ho
      obtain rfl := Option.some.inj ho
      have f42 : ac.tmps.getD 42 undef = .int .i64 (0) := (factt hF hd 8 rfl rfl (by kernel_rfl)).1.trans (factt hF hd 8 rfl rfl (by kernel_rfl)).2
      refine step_do ho' (wanted_free rfl) ?_
      unfold Oper.wp
      go_simp
      exact hK _ _ (.inr rfl) (hF.j.congr (fun i hi => if_off (by decide) hi) (fun i hi => if_off (by decide) hi) (fun i hi => if_off (by decide) hi))
    · cases ho
  intro L vs V10 hL hJ hf
  obtain ⟨g11, hgg11⟩ := hf 9 _ _ rfl rfl
  obtain ⟨le0, apg11, owng11⟩ := hJ.got (k := 0) (by decide) (hL 9 (by decide)) hgg11 (hL 10 (by decide))
  have le_g11 := show Hid _ from le0
  clear le0
  have hK : Kp [(g11, B32 (bdig y), 22), (b8, B32 (bdig y), 22), (b5, B32 (bdig x), 22), (b2, B32 (bdig p), 22), (bK, B32 (bdig k), 22), (bM, B32 (bdig m), 22), (bN, B32 (bdig n), 22)] w V10 := (hJ.1.cons owng11)
  have e0 : vs 0 = _ := hf 0 _ _ rfl rfl
  have e1 : vs 1 = _ := hf 1 _ _ rfl rfl
  have e2 : vs 2 = _ := hf 2 _ _ rfl rfl
  have e3 : vs 3 = _ := hf 3 _ _ rfl rfl
  have e4 : vs 4 = _ := hf 4 _ _ rfl rfl
  have e5 : vs 5 = _ := hf 5 _ _ rfl rfl
  have e6 : vs 6 = _ := hf 6 _ _ rfl rfl
  have e7 : vs 7 = _ := hf 7 _ _ rfl rfl
  have e8 : vs 8 = _ := hf 8 _ _ rfl rfl
  have e11 : vs 11 = _ := hf 11 _ _ rfl rfl
  simp only [putAll, Nat.zero_add, Nat.reduceAdd, e0, e1, e2, e3, e4, e5, e6, e7, e8, e11, hgg11, Act.put, List.setIfInBounds_toArray, List.set_cons_succ, List.set_cons_zero]
  clear hJ hf hL e0 e1 e2 e3 e4 e5 e6 e7 e8 e11 hgg11 apg11 owng11
  go_upto_region 5 with fail
  go_wp2_with (first
    | refine wpList_load_own (by rfl) 22 (.tmp 7) (by rfl) b2 (by rfl) (B32 (bdig p)) _ (hK.at b2 (B32 (bdig p)) 22 (.tail _ (.tail _ (.tail _ (.head _))))) Tryd.underlying22 (by rfl) (B32_info _) ?_
    | refine wpList_load_own (by rfl) 22 (.tmp 7) (by rfl) b2 (by rfl) (B32 (bdig p)) _ (hK.at b2 (B32 (bdig p)) 22 (.tail _ (.tail _ (.tail _ (.head _))))) Tryd.underlying22 (by rfl) (B32_info _) ?_)
  refine (F.addA Hp.out Hp.out rfl Hd.out _ (F.keep _ _ hT hK.2)).mono ?_
  rintro e V12 ⟨rfl, bw⟩
  have hK := hK.below bw
  clear bw
  go_upto_region 6 with (refine wpList_store_new (by rfl) 22 (.tmp 14) (.tmp 47) (by rfl) _ (B32 (bdig d)) (by rfl) (by rfl) (B32_info _) (B32_sizes _ _) (B32_one _) (by rfl) ?_)
  have lt_g11 := (hK.at g11 (B32 (bdig y)) 22 (.head _)).lt
  have lt_b8 := (hK.at b8 (B32 (bdig y)) 22 (.tail _ (.head _))).lt
  have lt_b5 := (hK.at b5 (B32 (bdig x)) 22 (.tail _ (.tail _ (.head _)))).lt
  have lt_b2 := (hK.at b2 (B32 (bdig p)) 22 (.tail _ (.tail _ (.tail _ (.head _))))).lt
  have lt_bK := (hK.at bK (B32 (bdig k)) 22 (.tail _ (.tail _ (.tail _ (.tail _ (.head _)))))).lt
  have lt_bM := (hK.at bM (B32 (bdig m)) 22 (.tail _ (.tail _ (.tail _ (.tail _ (.tail _ (.head _))))))).lt
  have lt_bN := (hK.at bN (B32 (bdig n)) 22 (.tail _ (.tail _ (.tail _ (.tail _ (.tail _ (.tail _ (.head _)))))))).lt
  have le_b13 := show Hid _ from hK.2.size
  have hK := hK.alloc (B32 (bdig d)) 22
  generalize V12.alloc (.cells (B32 (bdig d)) 22) = V14 at *
  obtain ⟨b13, Hb13⟩ : ∃ b, Hid (V12.heap.size = b) := ⟨_, rfl⟩
  have ne_g11_b13 : Hid (g11 ≠ b13) := by show _ ≠ _; rw [← Hb13.out]; exact Nat.ne_of_lt lt_g11
  have ne_b8_b13 : Hid (b8 ≠ b13) := by show _ ≠ _; rw [← Hb13.out]; exact Nat.ne_of_lt lt_b8
  have ne_b5_b13 : Hid (b5 ≠ b13) := by show _ ≠ _; rw [← Hb13.out]; exact Nat.ne_of_lt lt_b5
  have ne_b2_b13 : Hid (b2 ≠ b13) := by show _ ≠ _; rw [← Hb13.out]; exact Nat.ne_of_lt lt_b2
  have ne_bK_b13 : Hid (bK ≠ b13) := by show _ ≠ _; rw [← Hb13.out]; exact Nat.ne_of_lt lt_bK
  have ne_bM_b13 : Hid (bM ≠ b13) := by show _ ≠ _; rw [← Hb13.out]; exact Nat.ne_of_lt lt_bM
  have ne_bN_b13 : Hid (bN ≠ b13) := by show _ ≠ _; rw [← Hb13.out]; exact Nat.ne_of_lt lt_bN
  have le_b13 : Hid (w.heap.size ≤ b13) := by show _ ≤ _; rw [← Hb13.out]; exact le_b13.out
  rw [Hb13.out] at hK ⊢
  clear lt_g11 lt_b8 lt_b5 lt_b2 lt_bK lt_bM lt_bN
  refine wp_region_told 101 (by kernel_rfl) (by kernel_rfl) (by rfl) (factTi6 p d) (fun L vs => MkN 1 [(b13, B32 (bdig d), 22), (g11, B32 (bdig y), 22), (b8, B32 (bdig y), 22), (b5, B32 (bdig x), 22), (b2, B32 (bdig p), 22), (bK, B32 (bdig k), 22), (bM, B32 (bdig m), 22), (bN, B32 (bdig n), 22)] w (fun _ => B32 fun _ => 0) (fun _ => B32 (bdig d)) (fun _ => 22) (fun i => L (6 + i)) (fun i => L (7 + i)) (fun i => vs (6 + i))) (fun _ => MkN.drew hK (fun _ _ => rfl)) ?_ ?_
  · intro L vs ac wc i o hF hLi ho hd K hK
    rcases i with _ | _ | _ | _ | _ | _ | _ | _ | _ | i
    · have ho' := ho
      obtain rfl := Option.some.inj ho
      refine step_do ho' (wanted_free rfl) ?_
      unfold Oper.wp
      go_simp
      refine (numc_any 2 (by decide) _).mono ?_
      rintro e w' ⟨rfl, hB⟩
      exact hK _ _ (.inr rfl) ((hF.j.congr (fun i hi => if_off (by decide) hi) (fun i hi => if_off (by decide) hi) (fun i hi => if_off (by decide) hi)).below hB)
    · have ho' := ho
      obtain rfl := Option.some.inj ho
      have f7 : ac.tmps.getD 7 undef = .pointer (some ⟨b2, 0, none⟩) := slott hF 1 hLi 7 (by kernel_rfl)
      refine step_do ho' (wanted_free rfl) ?_
      exact wp_load_own 22 (.tmp 7) rfl b2 f7 (B32 (bdig p)) _ 22 (hF.j.1.at b2 (B32 (bdig p)) 22 (.tail _ (.tail _ (.tail _ (.tail _ (.head _)))))) Tryd.underlying22 rfl (B32_info _) (hK _ _ (.inr rfl) (hF.j.congr (fun i hi => if_off (by decide) hi) (fun i hi => if_off (by decide) hi) (fun i hi => if_off (by decide) hi)))
    · have ho' := ho
      obtain rfl := Option.some.inj ho
      have f50 : ac.tmps.getD 50 undef = .agg (B32 (bdig 2)) := (factt hF hd 0 rfl rfl (by kernel_rfl)).1.trans (factt hF hd 0 rfl rfl (by kernel_rfl)).2
      have f51 : ac.tmps.getD 51 undef = .agg (B32 (bdig p)) := (factt hF hd 1 rfl rfl (by kernel_rfl)).1.trans (factt hF hd 1 rfl rfl (by kernel_rfl)).2
      refine step_do ho' (wanted_free rfl) ?_
      unfold Oper.wp
      go_simp
      refine (F.mulA (by decide) Hp.out (Pt.times_two _) Hd.out _ (F.keep _ _ hT hF.j.1.2)).mono ?_
      rintro e w' ⟨rfl, hB⟩
      exact hK _ _ (.inr rfl) ((hF.j.congr (fun i hi => if_off (by decide) hi) (fun i hi => if_off (by decide) hi) (fun i hi => if_off (by decide) hi)).below hB)
    · have ho' := ho
      obtain rfl := Option.some.inj ho
      have f52 : ac.tmps.getD 52 undef = .tuple #[.agg (B32 (bdig d)), .int .i64 (0)] := (factt hF hd 2 rfl rfl (by kernel_rfl)).1.trans (factt hF hd 2 rfl rfl (by kernel_rfl)).2
      refine step_do ho' (wanted_free rfl) ?_
      unfold Oper.wp
      go_simp
      exact hK _ _ (.inr rfl) (hF.j.congr (fun i hi => if_off (by decide) hi) (fun i hi => if_off (by decide) hi) (fun i hi => if_off (by decide) hi))
    · have ho' := ho
      obtain rfl := Option.some.inj ho
      have f49 : ac.tmps.getD 49 undef = .tuple #[.agg (B32 (bdig d)), .int .i64 (0)] := (factt hF hd 3 rfl rfl (by kernel_rfl)).1.trans (factt hF hd 3 rfl rfl (by kernel_rfl)).2
      refine step_do ho' (wanted_free rfl) ?_
      unfold Oper.wp
      go_simp
      exact hK _ _ (.inr rfl) (hF.j.congr (fun i hi => if_off (by decide) hi) (fun i hi => if_off (by decide) hi) (fun i hi => if_off (by decide) hi))
    · have ho' := ho
      obtain rfl := Option.some.inj ho
      have f49 : ac.tmps.getD 49 undef = .tuple #[.agg (B32 (bdig d)), .int .i64 (0)] := (factt hF hd 3 rfl rfl (by kernel_rfl)).1.trans (factt hF hd 3 rfl rfl (by kernel_rfl)).2
      refine step_do ho' (wanted_free rfl) ?_
      unfold Oper.wp
      go_simp
      exact hK _ _ (.inr rfl) (hF.j.congr (fun i hi => if_off (by decide) hi) (fun i hi => if_off (by decide) hi) (fun i hi => if_off (by decide) hi))
    · have ho' := ho
      obtain rfl := Option.some.inj ho
      refine step_do ho' (wanted_free rfl) ?_
      have hs := notyett hF 6 hLi 7 rfl (by kernel_rfl)
      unfold Oper.wp
      go_simp
      exact hK _ _ (.inr ⟨_, rfl⟩) (hF.j.alloc 0 (fun i _ hne => if_oth (k := 0) rfl hne) (fun i hi => if_off (by decide) hi) (fun i _ hne => if_oth (k := 0) rfl hne) rfl hs)
    · have ho' := ho
      obtain rfl := Option.some.inj ho
      have f53 : ac.tmps.getD 53 undef = .agg (B32 (bdig d)) := (factt hF hd 4 rfl rfl (by kernel_rfl)).1.trans (factt hF hd 4 rfl rfl (by kernel_rfl)).2
      refine step_do ho' (wanted_free rfl) ?_
      obtain ⟨fg, gq, hg⟩ := factt hF hd 6 rfl rfl (by kernel_rfl)
      have hm := dep hd 6 (by kernel_rfl)
      have hj := hF.j
      rw [hg] at fg
      have hj2 := hj.at (k := 0) (by decide) hm hg hLi
      refine wp_store_own 22 (.tmp 16) (.tmp 53) rfl gq (B32 (bdig d)) fg f53 hj2.2.2 (B32_sizes _ _) (B32_info _) (B32_one _) rfl ?_
      exact hK undef _ (.inl rfl) (hj.store (k := 0) (by decide) hm hg hLi (B32_sizes _ _) (fun i hi => if_off (by decide) hi) (fun i _ hne => if_oth (k := 0) rfl hne) (fun i hi => if_off (by decide) hi) rfl)
    · have ho' := ho
      obtain rfl := Option.some.inj ho
      have f54 : ac.tmps.getD 54 undef = .int .i64 (0) := (factt hF hd 5 rfl rfl (by kernel_rfl)).1.trans (factt hF hd 5 rfl rfl (by kernel_rfl)).2
      refine step_do ho' (wanted_free rfl) ?_
      unfold Oper.wp
      go_simp
      exact hK _ _ (.inr rfl) (hF.j.congr (fun i hi => if_off (by decide) hi) (fun i hi => if_off (by decide) hi) (fun i hi => if_off (by decide) hi))
    · cases ho
  intro L vs V15 hL hJ hf
  obtain ⟨g16, hgg16⟩ := hf 6 _ _ rfl rfl
  obtain ⟨le0, apg16, owng16⟩ := hJ.got (k := 0) (by decide) (hL 6 (by decide)) hgg16 (hL 7 (by decide))
  have le_g16 := show Hid _ from le0
  clear le0
  have hK : Kp [(g16, B32 (bdig d), 22), (b13, B32 (bdig d), 22), (g11, B32 (bdig y), 22), (b8, B32 (bdig y), 22), (b5, B32 (bdig x), 22), (b2, B32 (bdig p), 22), (bK, B32 (bdig k), 22), (bM, B32 (bdig m), 22), (bN, B32 (bdig n), 22)] w V15 := (hJ.1.cons owng16)
  have e0 : vs 0 = _ := hf 0 _ _ rfl rfl
  have e1 : vs 1 = _ := hf 1 _ _ rfl rfl
  have e2 : vs 2 = _ := hf 2 _ _ rfl rfl
  have e3 : vs 3 = _ := hf 3 _ _ rfl rfl
  have e4 : vs 4 = _ := hf 4 _ _ rfl rfl
  have e5 : vs 5 = _ := hf 5 _ _ rfl rfl
  have e8 : vs 8 = _ := hf 8 _ _ rfl rfl
  simp only [putAll, Nat.zero_add, Nat.reduceAdd, e0, e1, e2, e3, e4, e5, e8, hgg16, Act.put, List.setIfInBounds_toArray, List.set_cons_succ, List.set_cons_zero]
  clear hJ hf hL e0 e1 e2 e3 e4 e5 e8 hgg16 apg16 owng16
  go_upto_region 7 with fail
  refine wp_region_told 101 (by kernel_rfl) (by kernel_rfl) (by rfl) (factTi7 k) (fun L vs => MkN 1 [(g16, B32 (bdig d), 22), (b13, B32 (bdig d), 22), (g11, B32 (bdig y), 22), (b8, B32 (bdig y), 22), (b5, B32 (bdig x), 22), (b2, B32 (bdig p), 22), (bK, B32 (bdig k), 22), (bM, B32 (bdig m), 22), (bN, B32 (bdig n), 22)] w (fun _ => B32 fun _ => 0) (fun _ => B32 (bdig 1)) (fun _ => 22) (fun i => L (6 + i)) (fun i => L (7 + i)) (fun i => vs (6 + i))) (fun _ => MkN.drew hK (fun _ _ => rfl)) ?_ ?_
  · intro L vs ac wc i o hF hLi ho hd K hK
    rcases i with _ | _ | _ | _ | _ | _ | _ | _ | _ | i
    · have ho' := ho
      obtain rfl := Option.some.inj ho
      have f5 : ac.tmps.getD 5 undef = .pointer (some ⟨bK, 0, none⟩) := slott hF 0 hLi 5 (by kernel_rfl)
      refine step_do ho' (wanted_free rfl) ?_
      exact wp_load_own 22 (.tmp 5) rfl bK f5 (B32 (bdig k)) _ 22 (hF.j.1.at bK (B32 (bdig k)) 22 (.tail _ (.tail _ (.tail _ (.tail _ (.tail _ (.tail _ (.head _)))))))) Tryd.underlying22 rfl (B32_info _) (hK _ _ (.inr rfl) (hF.j.congr (fun i hi => if_off (by decide) hi) (fun i hi => if_off (by decide) hi) (fun i hi => if_off (by decide) hi)))
    · have ho' := ho
      obtain rfl := Option.some.inj ho
      refine step_do ho' (wanted_free rfl) ?_
      unfold Oper.wp
      go_simp
      refine (numc_any 1 (by decide) _).mono ?_
      rintro e w' ⟨rfl, hB⟩
      exact hK _ _ (.inr rfl) ((hF.j.congr (fun i hi => if_off (by decide) hi) (fun i hi => if_off (by decide) hi) (fun i hi => if_off (by decide) hi)).below hB)
    · have ho' := ho
      obtain rfl := Option.some.inj ho
      have f56 : ac.tmps.getD 56 undef = .agg (B32 (bdig k)) := (factt hF hd 0 rfl rfl (by kernel_rfl)).1.trans (factt hF hd 0 rfl rfl (by kernel_rfl)).2
      have f57 : ac.tmps.getD 57 undef = .agg (B32 (bdig 1)) := (factt hF hd 1 rfl rfl (by kernel_rfl)).1.trans (factt hF hd 1 rfl rfl (by kernel_rfl)).2
      refine step_do ho' (wanted_free rfl) ?_
      unfold Oper.wp
      go_simp
      refine (F.mulA hk.out enc_nought (Pt.times_nought k) enc_nought _ (F.keep _ _ hT hF.j.1.2)).mono ?_
      rintro e w' ⟨rfl, hB⟩
      exact hK _ _ (.inr rfl) ((hF.j.congr (fun i hi => if_off (by decide) hi) (fun i hi => if_off (by decide) hi) (fun i hi => if_off (by decide) hi)).below hB)
    · have ho' := ho
      obtain rfl := Option.some.inj ho
      have f58 : ac.tmps.getD 58 undef = .tuple #[.agg (B32 (bdig 1)), .int .i64 (0)] := (factt hF hd 2 rfl rfl (by kernel_rfl)).1.trans (factt hF hd 2 rfl rfl (by kernel_rfl)).2
      refine step_do ho' (wanted_free rfl) ?_
      unfold Oper.wp
      go_simp
      exact hK _ _ (.inr rfl) (hF.j.congr (fun i hi => if_off (by decide) hi) (fun i hi => if_off (by decide) hi) (fun i hi => if_off (by decide) hi))
    · have ho' := ho
      obtain rfl := Option.some.inj ho
      have f55 : ac.tmps.getD 55 undef = .tuple #[.agg (B32 (bdig 1)), .int .i64 (0)] := (factt hF hd 3 rfl rfl (by kernel_rfl)).1.trans (factt hF hd 3 rfl rfl (by kernel_rfl)).2
      refine step_do ho' (wanted_free rfl) ?_
      unfold Oper.wp
      go_simp
      exact hK _ _ (.inr rfl) (hF.j.congr (fun i hi => if_off (by decide) hi) (fun i hi => if_off (by decide) hi) (fun i hi => if_off (by decide) hi))
    · have ho' := ho
      obtain rfl := Option.some.inj ho
      have f55 : ac.tmps.getD 55 undef = .tuple #[.agg (B32 (bdig 1)), .int .i64 (0)] := (factt hF hd 3 rfl rfl (by kernel_rfl)).1.trans (factt hF hd 3 rfl rfl (by kernel_rfl)).2
      refine step_do ho' (wanted_free rfl) ?_
      unfold Oper.wp
      go_simp
      exact hK _ _ (.inr rfl) (hF.j.congr (fun i hi => if_off (by decide) hi) (fun i hi => if_off (by decide) hi) (fun i hi => if_off (by decide) hi))
    · have ho' := ho
      obtain rfl := Option.some.inj ho
      refine step_do ho' (wanted_free rfl) ?_
      have hs := notyett hF 6 hLi 7 rfl (by kernel_rfl)
      unfold Oper.wp
      go_simp
      exact hK _ _ (.inr ⟨_, rfl⟩) (hF.j.alloc 0 (fun i _ hne => if_oth (k := 0) rfl hne) (fun i hi => if_off (by decide) hi) (fun i _ hne => if_oth (k := 0) rfl hne) rfl hs)
    · have ho' := ho
      obtain rfl := Option.some.inj ho
      have f59 : ac.tmps.getD 59 undef = .agg (B32 (bdig 1)) := (factt hF hd 4 rfl rfl (by kernel_rfl)).1.trans (factt hF hd 4 rfl rfl (by kernel_rfl)).2
      refine step_do ho' (wanted_free rfl) ?_
      obtain ⟨fg, gq, hg⟩ := factt hF hd 6 rfl rfl (by kernel_rfl)
      have hm := dep hd 6 (by kernel_rfl)
      have hj := hF.j
      rw [hg] at fg
      have hj2 := hj.at (k := 0) (by decide) hm hg hLi
      refine wp_store_own 22 (.tmp 18) (.tmp 59) rfl gq (B32 (bdig 1)) fg f59 hj2.2.2 (B32_sizes _ _) (B32_info _) (B32_one _) rfl ?_
      exact hK undef _ (.inl rfl) (hj.store (k := 0) (by decide) hm hg hLi (B32_sizes _ _) (fun i hi => if_off (by decide) hi) (fun i _ hne => if_oth (k := 0) rfl hne) (fun i hi => if_off (by decide) hi) rfl)
    · have ho' := ho
      obtain rfl := Option.some.inj ho
      have f60 : ac.tmps.getD 60 undef = .int .i64 (0) := (factt hF hd 5 rfl rfl (by kernel_rfl)).1.trans (factt hF hd 5 rfl rfl (by kernel_rfl)).2
      refine step_do ho' (wanted_free rfl) ?_
      unfold Oper.wp
      go_simp
      exact hK _ _ (.inr rfl) (hF.j.congr (fun i hi => if_off (by decide) hi) (fun i hi => if_off (by decide) hi) (fun i hi => if_off (by decide) hi))
    · cases ho
  intro L vs V17 hL hJ hf
  obtain ⟨g18, hgg18⟩ := hf 6 _ _ rfl rfl
  obtain ⟨le0, apg18, owng18⟩ := hJ.got (k := 0) (by decide) (hL 6 (by decide)) hgg18 (hL 7 (by decide))
  have le_g18 := show Hid _ from le0
  clear le0
  have hK : Kp [(g18, B32 (bdig 1), 22), (g16, B32 (bdig d), 22), (b13, B32 (bdig d), 22), (g11, B32 (bdig y), 22), (b8, B32 (bdig y), 22), (b5, B32 (bdig x), 22), (b2, B32 (bdig p), 22), (bK, B32 (bdig k), 22), (bM, B32 (bdig m), 22), (bN, B32 (bdig n), 22)] w V17 := (hJ.1.cons owng18)
  have e0 : vs 0 = _ := hf 0 _ _ rfl rfl
  have e1 : vs 1 = _ := hf 1 _ _ rfl rfl
  have e2 : vs 2 = _ := hf 2 _ _ rfl rfl
  have e3 : vs 3 = _ := hf 3 _ _ rfl rfl
  have e4 : vs 4 = _ := hf 4 _ _ rfl rfl
  have e5 : vs 5 = _ := hf 5 _ _ rfl rfl
  have e8 : vs 8 = _ := hf 8 _ _ rfl rfl
  simp only [putAll, Nat.zero_add, Nat.reduceAdd, e0, e1, e2, e3, e4, e5, e8, hgg18, Act.put, List.setIfInBounds_toArray, List.set_cons_succ, List.set_cons_zero]
  clear hJ hf hL e0 e1 e2 e3 e4 e5 e8 hgg18 apg18 owng18
  go_upto_region 8 with fail
  have hTq := F.keep _ _ hT hK.2
  have hKq := hK
  clear hK
  refine wp_region_stable 101 (by kernel_rfl) (by kernel_rfl) (by rfl) (fun i vv _ => vv = valTi y d i) (fun _ _ _ _ _ h => h) ?_ ?_
  · intro L ac wc i o hF ho hd
    rcases i with _ | _ | _ | _ | _ | _ | _ | _ | _ | _ | _ | _ | _ | _ | _ | _ | _ | _ | _ | _ | _ | _ | _ | _ | _ | _ | _ | _ | _ | _ | _ | _ | _ | _ | _ | _ | _ | _ | _ | _ | _ | i
    · obtain rfl := Option.some.inj ho
      have f9 : ac.tmps.getD 9 undef = .int .i64 (0) := slot hF 9 (by kernel_rfl)
      refine ⟨wanted_free rfl, fun K hK => ?_⟩
      unfold Oper.wp
      go_simp
      exact hK _ _ (Below.refl _ _) rfl
    · obtain rfl := Option.some.inj ho
      have f61 : ac.tmps.getD 61 undef = .int .i64 (0) := hF.fact 0 _ _ rfl rfl (dep hd 0 (by kernel_rfl))
      refine ⟨wanted_free rfl, fun K hK => ?_⟩
      unfold Oper.wp
      go_simp
      exact hK _ _ (Below.refl _ _) rfl
    · obtain rfl := Option.some.inj ho
      have f62 : ac.tmps.getD 62 undef = .bool true := hF.fact 1 _ _ rfl rfl (dep hd 1 (by kernel_rfl))
      refine ⟨wanted_free rfl, fun K hK => ?_⟩
      unfold Oper.wp
      go_simp
      exact hK _ _ (Below.refl _ _) rfl
    · obtain rfl := Option.some.inj ho
      have f11 : ac.tmps.getD 11 undef = .int .i64 (0) := slot hF 11 (by kernel_rfl)
      have fg : ac.tmps.getD 63 undef = .bool true := hF.fact 2 _ _ rfl rfl (dep hd 2 (by kernel_rfl))
      refine ⟨wanted_true (g := 2) rfl rfl rfl fg, fun K hK => ?_⟩
      unfold Oper.wp
      go_simp
      exact hK _ _ (Below.refl _ _) rfl
    · obtain rfl := Option.some.inj ho
      have f64 : ac.tmps.getD 64 undef = .int .i64 (0) := hF.fact 3 _ _ rfl rfl (dep hd 3 (by kernel_rfl))
      have fg : ac.tmps.getD 63 undef = .bool true := hF.fact 2 _ _ rfl rfl (dep hd 2 (by kernel_rfl))
      refine ⟨wanted_true (g := 2) rfl rfl rfl fg, fun K hK => ?_⟩
      unfold Oper.wp
      go_simp
      exact hK _ _ (Below.refl _ _) rfl
    · obtain rfl := Option.some.inj ho
      have f63 : ac.tmps.getD 63 undef = .bool true := hF.fact 2 _ _ rfl rfl (dep hd 2 (by kernel_rfl))
      have f65 : ac.tmps.getD 65 undef = .bool true := hF.fact 4 _ _ rfl rfl (dep hd 4 (by kernel_rfl))
      refine ⟨wanted_free rfl, fun K hK => ?_⟩
      unfold Oper.wp
      go_simp
      exact hK _ _ (Below.refl _ _) rfl
    · obtain rfl := Option.some.inj ho
      have f66 : ac.tmps.getD 66 undef = .bool true := hF.fact 5 _ _ rfl rfl (dep hd 5 (by kernel_rfl))
      refine ⟨wanted_free rfl, fun K hK => ?_⟩
      unfold Oper.wp
      go_simp
      exact hK _ _ (Below.refl _ _) rfl
    · obtain rfl := Option.some.inj ho
      have f13 : ac.tmps.getD 13 undef = .int .i64 (0) := slot hF 13 (by kernel_rfl)
      have fg : ac.tmps.getD 67 undef = .bool true := hF.fact 6 _ _ rfl rfl (dep hd 6 (by kernel_rfl))
      refine ⟨wanted_true (g := 6) rfl rfl rfl fg, fun K hK => ?_⟩
      unfold Oper.wp
      go_simp
      exact hK _ _ (Below.refl _ _) rfl
    · obtain rfl := Option.some.inj ho
      have f68 : ac.tmps.getD 68 undef = .int .i64 (0) := hF.fact 7 _ _ rfl rfl (dep hd 7 (by kernel_rfl))
      have fg : ac.tmps.getD 67 undef = .bool true := hF.fact 6 _ _ rfl rfl (dep hd 6 (by kernel_rfl))
      refine ⟨wanted_true (g := 6) rfl rfl rfl fg, fun K hK => ?_⟩
      unfold Oper.wp
      go_simp
      exact hK _ _ (Below.refl _ _) rfl
    · obtain rfl := Option.some.inj ho
      have f67 : ac.tmps.getD 67 undef = .bool true := hF.fact 6 _ _ rfl rfl (dep hd 6 (by kernel_rfl))
      have f69 : ac.tmps.getD 69 undef = .bool true := hF.fact 8 _ _ rfl rfl (dep hd 8 (by kernel_rfl))
      refine ⟨wanted_free rfl, fun K hK => ?_⟩
      unfold Oper.wp
      go_simp
      exact hK _ _ (Below.refl _ _) rfl
    · obtain rfl := Option.some.inj ho
      have f70 : ac.tmps.getD 70 undef = .bool true := hF.fact 9 _ _ rfl rfl (dep hd 9 (by kernel_rfl))
      refine ⟨wanted_free rfl, fun K hK => ?_⟩
      unfold Oper.wp
      go_simp
      exact hK _ _ (Below.refl _ _) rfl
    · obtain rfl := Option.some.inj ho
      have f15 : ac.tmps.getD 15 undef = .int .i64 (0) := slot hF 15 (by kernel_rfl)
      have fg : ac.tmps.getD 71 undef = .bool true := hF.fact 10 _ _ rfl rfl (dep hd 10 (by kernel_rfl))
      refine ⟨wanted_true (g := 10) rfl rfl rfl fg, fun K hK => ?_⟩
      unfold Oper.wp
      go_simp
      exact hK _ _ (Below.refl _ _) rfl
    · obtain rfl := Option.some.inj ho
      have f72 : ac.tmps.getD 72 undef = .int .i64 (0) := hF.fact 11 _ _ rfl rfl (dep hd 11 (by kernel_rfl))
      have fg : ac.tmps.getD 71 undef = .bool true := hF.fact 10 _ _ rfl rfl (dep hd 10 (by kernel_rfl))
      refine ⟨wanted_true (g := 10) rfl rfl rfl fg, fun K hK => ?_⟩
      unfold Oper.wp
      go_simp
      exact hK _ _ (Below.refl _ _) rfl
    · obtain rfl := Option.some.inj ho
      have f71 : ac.tmps.getD 71 undef = .bool true := hF.fact 10 _ _ rfl rfl (dep hd 10 (by kernel_rfl))
      have f73 : ac.tmps.getD 73 undef = .bool true := hF.fact 12 _ _ rfl rfl (dep hd 12 (by kernel_rfl))
      refine ⟨wanted_free rfl, fun K hK => ?_⟩
      unfold Oper.wp
      go_simp
      exact hK _ _ (Below.refl _ _) rfl
    · obtain rfl := Option.some.inj ho
      have f74 : ac.tmps.getD 74 undef = .bool true := hF.fact 13 _ _ rfl rfl (dep hd 13 (by kernel_rfl))
      refine ⟨wanted_free rfl, fun K hK => ?_⟩
      unfold Oper.wp
      go_simp
      exact hK _ _ (Below.refl _ _) rfl
    · obtain rfl := Option.some.inj ho
      have f17 : ac.tmps.getD 17 undef = .int .i64 (0) := slot hF 17 (by kernel_rfl)
      have fg : ac.tmps.getD 75 undef = .bool true := hF.fact 14 _ _ rfl rfl (dep hd 14 (by kernel_rfl))
      refine ⟨wanted_true (g := 14) rfl rfl rfl fg, fun K hK => ?_⟩
      unfold Oper.wp
      go_simp
      exact hK _ _ (Below.refl _ _) rfl
    · obtain rfl := Option.some.inj ho
      have f76 : ac.tmps.getD 76 undef = .int .i64 (0) := hF.fact 15 _ _ rfl rfl (dep hd 15 (by kernel_rfl))
      have fg : ac.tmps.getD 75 undef = .bool true := hF.fact 14 _ _ rfl rfl (dep hd 14 (by kernel_rfl))
      refine ⟨wanted_true (g := 14) rfl rfl rfl fg, fun K hK => ?_⟩
      unfold Oper.wp
      go_simp
      exact hK _ _ (Below.refl _ _) rfl
    · obtain rfl := Option.some.inj ho
      have f75 : ac.tmps.getD 75 undef = .bool true := hF.fact 14 _ _ rfl rfl (dep hd 14 (by kernel_rfl))
      have f77 : ac.tmps.getD 77 undef = .bool true := hF.fact 16 _ _ rfl rfl (dep hd 16 (by kernel_rfl))
      refine ⟨wanted_free rfl, fun K hK => ?_⟩
      unfold Oper.wp
      go_simp
      exact hK _ _ (Below.refl _ _) rfl
    · obtain rfl := Option.some.inj ho
      have f78 : ac.tmps.getD 78 undef = .bool true := hF.fact 17 _ _ rfl rfl (dep hd 17 (by kernel_rfl))
      refine ⟨wanted_free rfl, fun K hK => ?_⟩
      unfold Oper.wp
      go_simp
      exact hK _ _ (Below.refl _ _) rfl
    · obtain rfl := Option.some.inj ho
      have f19 : ac.tmps.getD 19 undef = .int .i64 (0) := slot hF 19 (by kernel_rfl)
      have fg : ac.tmps.getD 79 undef = .bool true := hF.fact 18 _ _ rfl rfl (dep hd 18 (by kernel_rfl))
      refine ⟨wanted_true (g := 18) rfl rfl rfl fg, fun K hK => ?_⟩
      unfold Oper.wp
      go_simp
      exact hK _ _ (Below.refl _ _) rfl
    · obtain rfl := Option.some.inj ho
      have f80 : ac.tmps.getD 80 undef = .int .i64 (0) := hF.fact 19 _ _ rfl rfl (dep hd 19 (by kernel_rfl))
      have fg : ac.tmps.getD 79 undef = .bool true := hF.fact 18 _ _ rfl rfl (dep hd 18 (by kernel_rfl))
      refine ⟨wanted_true (g := 18) rfl rfl rfl fg, fun K hK => ?_⟩
      unfold Oper.wp
      go_simp
      exact hK _ _ (Below.refl _ _) rfl
    · obtain rfl := Option.some.inj ho
      have f79 : ac.tmps.getD 79 undef = .bool true := hF.fact 18 _ _ rfl rfl (dep hd 18 (by kernel_rfl))
      have f81 : ac.tmps.getD 81 undef = .bool true := hF.fact 20 _ _ rfl rfl (dep hd 20 (by kernel_rfl))
      refine ⟨wanted_free rfl, fun K hK => ?_⟩
      unfold Oper.wp
      go_simp
      exact hK _ _ (Below.refl _ _) rfl
    · obtain rfl := Option.some.inj ho
      have f82 : ac.tmps.getD 82 undef = .bool true := hF.fact 21 _ _ rfl rfl (dep hd 21 (by kernel_rfl))
      refine ⟨wanted_free rfl, fun K hK => ?_⟩
      unfold Oper.wp
      go_simp
      exact hK _ _ (Below.refl _ _) rfl
    · obtain rfl := Option.some.inj ho
      have f10 : ac.tmps.getD 10 undef = .pointer (some ⟨b8, 0, none⟩) := slot hF 10 (by kernel_rfl)
      have fg : ac.tmps.getD 83 undef = .bool true := hF.fact 22 _ _ rfl rfl (dep hd 22 (by kernel_rfl))
      refine ⟨wanted_true (g := 22) rfl rfl rfl fg, fun K hK => ?_⟩
      exact wp_load_own 22 (.tmp 10) rfl b8 f10 (B32 (bdig y)) _ 22 ((hKq.below hF.cls).at b8 (B32 (bdig y)) 22 (by simp)) Tryd.underlying22 rfl (B32_info _) (hK _ _ (Below.refl _ _) rfl)
    · obtain rfl := Option.some.inj ho
      have f12 : ac.tmps.getD 12 undef = .pointer (some ⟨g11, 0, none⟩) := slot hF 12 (by kernel_rfl)
      have fg : ac.tmps.getD 83 undef = .bool true := hF.fact 22 _ _ rfl rfl (dep hd 22 (by kernel_rfl))
      refine ⟨wanted_true (g := 22) rfl rfl rfl fg, fun K hK => ?_⟩
      exact wp_load_own 22 (.tmp 12) rfl g11 f12 (B32 (bdig y)) _ 22 ((hKq.below hF.cls).at g11 (B32 (bdig y)) 22 (by simp)) Tryd.underlying22 rfl (B32_info _) (hK _ _ (Below.refl _ _) rfl)
    · obtain rfl := Option.some.inj ho
      have f84 : ac.tmps.getD 84 undef = .agg (B32 (bdig y)) := hF.fact 23 _ _ rfl rfl (dep hd 23 (by kernel_rfl))
      have f85 : ac.tmps.getD 85 undef = .agg (B32 (bdig y)) := hF.fact 24 _ _ rfl rfl (dep hd 24 (by kernel_rfl))
      have fg : ac.tmps.getD 83 undef = .bool true := hF.fact 22 _ _ rfl rfl (dep hd 22 (by kernel_rfl))
      refine ⟨wanted_true (g := 22) rfl rfl rfl fg, fun K hK => ?_⟩
      unfold Oper.wp
      go_simp
      exact hK _ _ (Below.refl _ _) rfl
    · obtain rfl := Option.some.inj ho
      have f83 : ac.tmps.getD 83 undef = .bool true := hF.fact 22 _ _ rfl rfl (dep hd 22 (by kernel_rfl))
      have f86 : ac.tmps.getD 86 undef = .bool true := hF.fact 25 _ _ rfl rfl (dep hd 25 (by kernel_rfl))
      refine ⟨wanted_free rfl, fun K hK => ?_⟩
      unfold Oper.wp
      go_simp
      exact hK _ _ (Below.refl _ _) rfl
    · obtain rfl := Option.some.inj ho
      have f87 : ac.tmps.getD 87 undef = .bool true := hF.fact 26 _ _ rfl rfl (dep hd 26 (by kernel_rfl))
      refine ⟨wanted_free rfl, fun K hK => ?_⟩
      unfold Oper.wp
      go_simp
      exact hK _ _ (Below.refl _ _) rfl
    · obtain rfl := Option.some.inj ho
      have f14 : ac.tmps.getD 14 undef = .pointer (some ⟨b13, 0, none⟩) := slot hF 14 (by kernel_rfl)
      have fg : ac.tmps.getD 88 undef = .bool true := hF.fact 27 _ _ rfl rfl (dep hd 27 (by kernel_rfl))
      refine ⟨wanted_true (g := 27) rfl rfl rfl fg, fun K hK => ?_⟩
      exact wp_load_own 22 (.tmp 14) rfl b13 f14 (B32 (bdig d)) _ 22 ((hKq.below hF.cls).at b13 (B32 (bdig d)) 22 (by simp)) Tryd.underlying22 rfl (B32_info _) (hK _ _ (Below.refl _ _) rfl)
    · obtain rfl := Option.some.inj ho
      have f16 : ac.tmps.getD 16 undef = .pointer (some ⟨g16, 0, none⟩) := slot hF 16 (by kernel_rfl)
      have fg : ac.tmps.getD 88 undef = .bool true := hF.fact 27 _ _ rfl rfl (dep hd 27 (by kernel_rfl))
      refine ⟨wanted_true (g := 27) rfl rfl rfl fg, fun K hK => ?_⟩
      exact wp_load_own 22 (.tmp 16) rfl g16 f16 (B32 (bdig d)) _ 22 ((hKq.below hF.cls).at g16 (B32 (bdig d)) 22 (by simp)) Tryd.underlying22 rfl (B32_info _) (hK _ _ (Below.refl _ _) rfl)
    · obtain rfl := Option.some.inj ho
      have f89 : ac.tmps.getD 89 undef = .agg (B32 (bdig d)) := hF.fact 28 _ _ rfl rfl (dep hd 28 (by kernel_rfl))
      have f90 : ac.tmps.getD 90 undef = .agg (B32 (bdig d)) := hF.fact 29 _ _ rfl rfl (dep hd 29 (by kernel_rfl))
      have fg : ac.tmps.getD 88 undef = .bool true := hF.fact 27 _ _ rfl rfl (dep hd 27 (by kernel_rfl))
      refine ⟨wanted_true (g := 27) rfl rfl rfl fg, fun K hK => ?_⟩
      unfold Oper.wp
      go_simp
      exact hK _ _ (Below.refl _ _) rfl
    · obtain rfl := Option.some.inj ho
      have f88 : ac.tmps.getD 88 undef = .bool true := hF.fact 27 _ _ rfl rfl (dep hd 27 (by kernel_rfl))
      have f91 : ac.tmps.getD 91 undef = .bool true := hF.fact 30 _ _ rfl rfl (dep hd 30 (by kernel_rfl))
      refine ⟨wanted_free rfl, fun K hK => ?_⟩
      unfold Oper.wp
      go_simp
      exact hK _ _ (Below.refl _ _) rfl
    · obtain rfl := Option.some.inj ho
      have f92 : ac.tmps.getD 92 undef = .bool true := hF.fact 31 _ _ rfl rfl (dep hd 31 (by kernel_rfl))
      refine ⟨wanted_free rfl, fun K hK => ?_⟩
      unfold Oper.wp
      go_simp
      exact hK _ _ (Below.refl _ _) rfl
    · obtain rfl := Option.some.inj ho
      have f18 : ac.tmps.getD 18 undef = .pointer (some ⟨g18, 0, none⟩) := slot hF 18 (by kernel_rfl)
      have fg : ac.tmps.getD 93 undef = .bool true := hF.fact 32 _ _ rfl rfl (dep hd 32 (by kernel_rfl))
      refine ⟨wanted_true (g := 32) rfl rfl rfl fg, fun K hK => ?_⟩
      exact wp_load_own 22 (.tmp 18) rfl g18 f18 (B32 (bdig 1)) _ 22 ((hKq.below hF.cls).at g18 (B32 (bdig 1)) 22 (by simp)) Tryd.underlying22 rfl (B32_info _) (hK _ _ (Below.refl _ _) rfl)
    · obtain rfl := Option.some.inj ho
      have fg : ac.tmps.getD 93 undef = .bool true := hF.fact 32 _ _ rfl rfl (dep hd 32 (by kernel_rfl))
      refine ⟨wanted_true (g := 32) rfl rfl rfl fg, fun K hK => ?_⟩
      unfold Oper.wp
      go_simp
      refine (numc_any 1 (by decide) _).mono ?_
      rintro e w' ⟨rfl, hB⟩
      exact hK _ _ hB rfl
    · obtain rfl := Option.some.inj ho
      have f94 : ac.tmps.getD 94 undef = .agg (B32 (bdig 1)) := hF.fact 33 _ _ rfl rfl (dep hd 33 (by kernel_rfl))
      have f95 : ac.tmps.getD 95 undef = .agg (B32 (bdig 1)) := hF.fact 34 _ _ rfl rfl (dep hd 34 (by kernel_rfl))
      have fg : ac.tmps.getD 93 undef = .bool true := hF.fact 32 _ _ rfl rfl (dep hd 32 (by kernel_rfl))
      refine ⟨wanted_true (g := 32) rfl rfl rfl fg, fun K hK => ?_⟩
      unfold Oper.wp
      go_simp
      exact hK _ _ (Below.refl _ _) rfl
    · obtain rfl := Option.some.inj ho
      have f93 : ac.tmps.getD 93 undef = .bool true := hF.fact 32 _ _ rfl rfl (dep hd 32 (by kernel_rfl))
      have f96 : ac.tmps.getD 96 undef = .bool true := hF.fact 35 _ _ rfl rfl (dep hd 35 (by kernel_rfl))
      refine ⟨wanted_free rfl, fun K hK => ?_⟩
      unfold Oper.wp
      go_simp
      exact hK _ _ (Below.refl _ _) rfl
    · obtain rfl := Option.some.inj ho
      have f97 : ac.tmps.getD 97 undef = .bool true := hF.fact 36 _ _ rfl rfl (dep hd 36 (by kernel_rfl))
      refine ⟨wanted_free rfl, fun K hK => ?_⟩
      unfold Oper.wp
      go_simp
      exact hK _ _ (Below.refl _ _) rfl
    · obtain rfl := Option.some.inj ho
      have fg : ac.tmps.getD 98 undef = .bool true := hF.fact 37 _ _ rfl rfl (dep hd 37 (by kernel_rfl))
      refine ⟨wanted_true (g := 37) rfl rfl rfl fg, fun K hK => ?_⟩
      unfold Oper.wp
      go_simp
      refine (cwakes_any F _ (F.keep _ _ hTq hF.cls)).mono ?_
      rintro e w' ⟨rfl, hB⟩
      exact hK _ _ hB rfl
    · obtain rfl := Option.some.inj ho
      have f98 : ac.tmps.getD 98 undef = .bool true := hF.fact 37 _ _ rfl rfl (dep hd 37 (by kernel_rfl))
      have f99 : ac.tmps.getD 99 undef = .bool true := hF.fact 38 _ _ rfl rfl (dep hd 38 (by kernel_rfl))
      refine ⟨wanted_free rfl, fun K hK => ?_⟩
      unfold Oper.wp
      go_simp
      exact hK _ _ (Below.refl _ _) rfl
    · obtain rfl := Option.some.inj ho
      have f100 : ac.tmps.getD 100 undef = .bool true := hF.fact 39 _ _ rfl rfl (dep hd 39 (by kernel_rfl))
      refine ⟨wanted_free rfl, fun K hK => ?_⟩
      unfold Oper.wp
      go_simp
      exact hK _ _ (Below.refl _ _) rfl
    · cases ho
  · intro L ac wc hL hF
    have fe : ac.tmps.getD 6 undef = .bool true := hF.fact 40 _ 6 rfl rfl (hL 40 (by decide))
    have hb' := (hKq.below hF.cls).2
    go_wp2
    exact bodyPost_ret (results_tmp rfl _ _ _) hF.defers ⟨by rw [fe], hb'⟩
end Go.Proofs.YtaekpoiaigklgaaDoor
